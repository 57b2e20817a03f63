/- Plain functions of package tree: sixteen entries, a distance and the node ahead of it. No program is named here. Plain functions of package tree: a tree as a text. No program is named here. -/
import Derived.Test.YtjpbglbbeepmnaaNodesF
import Derived.Test.YtjpbglbbeepmnaaNodesG
import Derived.Test.YtjpbglbbeepmnaaStr
import Derived.Lib.ItoaLen
namespace Go.Proofs.Ytjpbglbbeepmnaa
section
namespace TreF
open NodesF

/-- A distance, and the node ahead. -/
abbrev Ent := Nat × Int
abbrev Tr := List Ent
def Ok (e : Ent) : Prop := e.1 < 4294967296 ∧ -9223372036854775808 ≤ e.2 ∧ e.2 < 9223372036854775808
def Tre (t : Tr) : Prop := t.length = 16 ∧ ∀ e ∈ t, Ok e
/-- The distance of what can't be reached. -/
def farN : Nat := 4294967295
theorem far_int : (farN : Int) = 4294967295 := by simp [farN]
def farE : Ent := (farN, -1)
def far16 : Tr := List.replicate 16 farE
def zero16 : Tr := List.replicate 16 (0, 0)
def nodeB (n : Int) : Bool := decide (0 ≤ n) && decide (n < 16)
def getT (t : Tr) (j : Int) : Ent := if nodeB j then t.getD j.toNat farE else farE
def putT (t : Tr) (j : Int) (e : Ent) : Tr := if nodeB j then t.set j.toNat e else t
def newT (r : Int) : Tr := putT far16 r (0, -1)
def distN (t : Tr) (j : Nat) : Nat := (t.getD j farE).1
/-- The node j is reached. -/
def isR (t : Tr) (j : Nat) : Bool := decide (distN t j ≠ farN)

theorem node_in {n : Int} (h : nodeB n = true) : ∃ k : Nat, n = (k : Int) ∧ k < 16 := by
  simp only [nodeB, Bool.and_eq_true, decide_eq_true_eq] at h
  exact ⟨n.toNat, by omega, by omega⟩
theorem node_nat {n : Nat} (h : n < 16) : nodeB (n : Int) = true := by simp [nodeB]; omega
theorem node_out {n : Int} (h : nodeB n = false) : n < 0 ∨ 16 ≤ n := by
  simp only [nodeB, Bool.and_eq_false_iff, decide_eq_false_iff_not] at h
  omega
theorem get_ok {t : Tr} {j : Nat} {e : Ent} (hj : j < 16) (h : t[j]? = some e) : getT t (j : Int) = e := by
  simp [getT, node_nat hj, List.getD_eq_getElem?_getD, h]
theorem get_no (t : Tr) {n : Int} (h : nodeB n = false) : getT t n = farE := by simp [getT, h]
theorem put_ok (t : Tr) {j : Nat} (e : Ent) (hj : j < 16) : putT t (j : Int) e = t.set j e := by simp [putT, node_nat hj]
theorem put_no (t : Tr) {n : Int} (e : Ent) (h : nodeB n = false) : putT t n e = t := by simp [putT, h]
theorem Tre.at {t : Tr} (h : Tre t) {j : Nat} (hj : j < 16) : ∃ e, t[j]? = some e ∧ Ok e := by
  refine ⟨t[j]'(by have := h.1; omega), by simp, h.2 _ (List.getElem_mem _)⟩
theorem Tre.set {t : Tr} (h : Tre t) (j : Nat) {e : Ent} (he : Ok e) : Tre (t.set j e) := by
  refine ⟨by simp [h.1], fun x hx => ?_⟩
  rcases List.mem_or_eq_of_mem_set hx with hx | rfl
  · exact h.2 x hx
  · exact he
theorem Tre.put {t : Tr} (h : Tre t) (j : Int) {e : Ent} (he : Ok e) : Tre (putT t j e) := by
  unfold putT
  split
  · exact h.set _ he
  · exact h
theorem ok_far : Ok farE := by refine ⟨?_, ?_, ?_⟩ <;> decide
theorem ok_root : Ok (0, -1) := by refine ⟨?_, ?_, ?_⟩ <;> decide
theorem Tre.far : Tre far16 := ⟨rfl, fun e he => by rw [List.eq_of_mem_replicate he]; exact ok_far⟩
theorem Tre.zero : Tre zero16 := ⟨rfl, fun e he => by rw [List.eq_of_mem_replicate he]; refine ⟨?_, ?_, ?_⟩ <;> decide⟩
theorem Tre.new (r : Int) : Tre (newT r) := Tre.far.put r ok_root
theorem Tre.get {t : Tr} (h : Tre t) (j : Int) : Ok (getT t j) := by
  cases hn : nodeB j with
  | false => rw [get_no t hn]; exact ok_far
  | true =>
    obtain ⟨k, rfl, hk⟩ := node_in hn
    obtain ⟨e, he, ho⟩ := h.at hk
    rw [get_ok hk he]
    exact ho
theorem dist_at {t : Tr} {j : Nat} {e : Ent} (h : t[j]? = some e) : distN t j = e.1 := by simp [distN, List.getD_eq_getElem?_getD, h]
theorem getD_at {t : Tr} {j : Nat} {e : Ent} (h : t[j]? = some e) : t.getD j farE = e := by simp [List.getD_eq_getElem?_getD, h]
theorem getD_set (t : Tr) (n j : Nat) (e : Ent) (hl : t.length = 16) (hn : n < 16) : (t.set n e).getD j farE = if j = n then e else t.getD j farE := by
  simp only [List.getD_eq_getElem?_getD, List.getElem?_set]
  by_cases h : n = j
  · subst h; simp [hl, hn]
  · rw [if_neg h, if_neg (Ne.symm h)]

/-! Sets of nodes that a property picks. -/
theorem has_bit (s : Int) (j : Nat) (hj : j < 16) : hasN s j = (lowN s).testBit j := by
  rw [has_low s j hj, Nat.testBit_eq_decide_div_mod_eq]
theorem low_room (m n : Nat) (hm : m < 65536) (hn : n < 16) (h : m / 2 ^ n % 2 = 0) : m + 2 ^ n < 65536 := by
  rcases n16 n hn with h1 | h1 | h1 | h1 | h1 | h1 | h1 | h1 | h1 | h1 | h1 | h1 | h1 | h1 | h1 | h1 <;> subst h1 <;> simp at * <;> omega
theorem low_with (s : Int) (n : Nat) (hn : n < 16) : lowN (withN s n) = lowN s ||| 2 ^ n := by
  have hl := has_low s n hn
  have hlt := lowN_lt s
  have hint := lowN_int s
  have hpow : ((2 ^ n : Nat) : Int) = (2 : Int) ^ n := by simp
  unfold withN
  by_cases hb : s / 2 ^ n % 2 = 1
  · rw [if_pos hb]
    have h1 : lowN s / 2 ^ n % 2 = 1 := by
      unfold hasN at hl
      rw [decide_eq_true hb] at hl
      exact of_decide_eq_true hl.symm
    apply Nat.eq_of_testBit_eq
    intro i
    rw [Nat.testBit_or, Nat.testBit_two_pow]
    by_cases hi : n = i
    · subst hi
      rw [Nat.testBit_eq_decide_div_mod_eq, decide_eq_true h1]; simp
    · simp [hi]
  · rw [if_neg hb]
    have h0 : lowN s / 2 ^ n % 2 = 0 := by
      unfold hasN at hl
      rw [decide_eq_false hb] at hl
      have := of_decide_eq_false hl.symm
      omega
    have hr := low_room _ n hlt hn h0
    rw [or_pow _ n h0]
    show ((s + 2 ^ n) % 65536).toNat = _
    rw [← hpow]
    have h65 : 2 ^ n ≤ 65536 := by omega
    have e : lowN s = (s % 65536).toNat := rfl
    generalize 2 ^ n = p at *
    omega
theorem has_with_other (s : Int) (n j : Nat) (hn : n < 16) (hj : j < 16) (h : j ≠ n) : hasN (withN s n) j = hasN s j := by
  rw [has_bit _ j hj, has_bit s j hj, low_with s n hn, Nat.testBit_or, Nat.testBit_two_pow]
  simp [Ne.symm h]
/-- The nodes below k that p holds of, as a set. -/
def setF (p : Nat → Bool) : Nat → Int
  | 0 => 0
  | k + 1 => if p k then withN (setF p k) k else setF p k
theorem set_step (p : Nat → Bool) (k : Nat) : setF p (k + 1) = if p k then withN (setF p k) k else setF p k := rfl
theorem set_low (p : Nat → Bool) : ∀ k, k ≤ 16 → 0 ≤ setF p k ∧ setF p k < 2 ^ k
  | 0, _ => ⟨Int.le_refl _, by show (0 : Int) < 2 ^ 0; decide⟩
  | k + 1, hk => by
    obtain ⟨h0, h1⟩ := set_low p k (by omega)
    rw [set_step]
    split
    · unfold withN
      rcases n16 k (by omega) with h | h | h | h | h | h | h | h | h | h | h | h | h | h | h | h <;> subst h <;> simp at * <;> split <;> omega
    · rcases n16 k (by omega) with h | h | h | h | h | h | h | h | h | h | h | h | h | h | h | h <;> subst h <;> simp at * <;> omega
theorem set_i64 (p : Nat → Bool) (k : Nat) (hk : k ≤ 16) : -9223372036854775808 ≤ setF p k ∧ setF p k < 9223372036854775808 := by
  obtain ⟨h0, h1⟩ := set_low p k hk
  have h2 : (2 : Int) ^ k ≤ 65536 := by
    rcases (show k = 16 ∨ k < 16 by omega) with rfl | h
    · decide
    · rcases n16 k h with h | h | h | h | h | h | h | h | h | h | h | h | h | h | h | h <;> subst h <;> decide
  omega
theorem set_has (p : Nat → Bool) (j : Nat) (hj : j < 16) : ∀ k, k ≤ 16 → hasN (setF p k) j = (decide (j < k) && p j)
  | 0, _ => by simp [setF, hasN]
  | k + 1, hk => by
    have ih := set_has p j hj k (by omega)
    rw [set_step]
    by_cases he : j = k
    · subst he
      cases hp : p j with
      | true => rw [if_pos rfl, has_with _ _ hj]; simp
      | false => rw [if_neg (by decide), ih]; simp [hp]
    · have hd : decide (j < k + 1) = decide (j < k) := decide_eq_decide.2 (by omega)
      rw [hd]
      cases hp : p k with
      | true => rw [if_pos rfl, has_with_other _ _ _ (by omega) hj he, ih]
      | false => rw [if_neg (by decide), ih]
theorem nodes_filter (m : Nat) : ∀ k, k ≤ 16 → nodesN m k = (List.range' (16 - k) k).filter (fun j => decide (m / 2 ^ j % 2 = 1))
  | 0, _ => rfl
  | k + 1, hk => by
    have ih := nodes_filter m k (by omega)
    have e : 16 - (k + 1) = 15 - k := by omega
    have e2 : 15 - k + 1 = 16 - k := by omega
    rw [e, List.range'_succ, e2, List.filter_cons, ← ih, nodesN]
    by_cases hb : m / 2 ^ (15 - k) % 2 = 1
    · rw [if_pos hb, if_pos (decide_eq_true hb)]
    · rw [if_neg hb, if_neg (by rw [decide_eq_false hb]; decide)]
theorem nodes_set (p : Nat → Bool) : nodesN (lowN (setF p 16)) 16 = (List.range 16).filter p := by
  rw [nodes_filter _ 16 (Nat.le_refl _), Nat.sub_self, List.range_eq_range']
  apply List.filter_congr
  intro j hj
  have hj' : j < 16 := by have := (List.mem_range'_1.1 hj).2; omega
  rw [← has_low _ j hj', set_has p j hj' 16 (Nat.le_refl _), decide_eq_true hj', Bool.true_and]
theorem set_count (p : Nat → Bool) : countN (setF p 16) = ((List.range 16).filter p).length := by
  unfold countN
  rw [← nodes_pop, nodes_set]
theorem set_least (p : Nat → Bool) : ((List.range 16).filter p = [] ∧ nextG (lowN (setF p 16)) 15 16 = -1) ∨ (∃ a l, (List.range 16).filter p = a :: l ∧ nextG (lowN (setF p 16)) 15 16 = (a : Int)) := by
  have h := next_low (lowN (setF p 16)) 16 (Nat.le_refl _)
  rw [nodes_set] at h
  exact h
theorem set_most (p : Nat → Bool) : ((List.range 16).filter p = [] ∧ highG (lowN (setF p 16)) 16 = -1) ∨ (∃ (a : Nat) (l : List Nat), (List.range 16).filter p = l ++ [a] ∧ highG (lowN (setF p 16)) 16 = (a : Int)) := by
  have h := high_pre (lowN (setF p 16)) 16
  rw [pre_all, nodes_set] at h
  exact h

/-! What is reached, and the root. -/
def setR (t : Tr) : Int := setF (isR t) 16
/-- The nodes that are reached, rising. -/
def lisR (t : Tr) : List Nat := (List.range 16).filter (isR t)
def isZ (t : Tr) (j : Nat) : Bool := decide (distN t j = 0)
def zerosT (t : Tr) (k : Nat) : List Nat := (List.range k).filter (isZ t)
def atF : List Nat → Int
  | [] => -1
  | a :: _ => (a : Int)
def rootT (t : Tr) : Int := if (zerosT t 16).length = 1 then atF (zerosT t 16) else -1
theorem lis_nodes (t : Tr) : nodesN (lowN (setR t)) 16 = lisR t := nodes_set _
theorem lis_small (t : Tr) : ∀ x ∈ lisR t, x < 16 := fun x hx => by
  have := (List.mem_filter.1 hx).1
  simpa using this
theorem lis_length (t : Tr) : (lisR t).length ≤ 16 := by
  have := List.length_filter_le (isR t) (List.range 16)
  simpa [lisR] using this
theorem zeros_step (t : Tr) (k : Nat) : zerosT t (k + 1) = if isZ t k then zerosT t k ++ [k] else zerosT t k := by
  unfold zerosT
  rw [List.range_succ, List.filter_append, List.filter_cons, List.filter_nil]
  split
  · rfl
  · simp
theorem zeros_mono (t : Tr) {k : Nat} (hk : k ≤ 16) : (zerosT t k).length ≤ (zerosT t 16).length :=
  (List.Sublist.filter _ (List.range_sublist.2 hk)).length_le
/-- The second node of the distance 0: there is no root. -/
theorem root_two (t : Tr) {k : Nat} (hk : k < 16) (hz : isZ t k = true) (h : 1 ≤ (zerosT t k).length) : rootT t = -1 := by
  have h1 := zeros_mono t (k := k + 1) (by omega)
  rw [zeros_step, if_pos hz, List.length_append, List.length_cons, List.length_nil] at h1
  unfold rootT
  rw [if_neg (by omega)]
theorem root_end (t : Tr) (h : (zerosT t 16).length ≤ 1) : rootT t = atF (zerosT t 16) := by
  unfold rootT
  split
  · rfl
  · rename_i h1
    rw [List.length_eq_zero_iff.1 (show (zerosT t 16).length = 0 by omega)]
    rfl
theorem at_nat {l : List Nat} : (0 ≤ atF l) ↔ 1 ≤ l.length := by
  cases l with
  | nil => simp [atF]
  | cons a l => simp [atF]
/-- The root as the program finds it. -/
theorem root_many (t : Tr) (h : countN (setF (isZ t) 16) ≠ 1) : rootT t = -1 := by
  rw [set_count] at h
  unfold rootT zerosT
  rw [if_neg h]
theorem root_one (t : Tr) (h : countN (setF (isZ t) 16) = 1) : rootT t = nextG (lowN (setF (isZ t) 16)) 15 16 := by
  rw [set_count] at h
  unfold rootT zerosT
  rw [if_pos h]
  rcases set_least (isZ t) with ⟨h1, h2⟩ | ⟨a, l, h1, h2⟩
  · rw [h1, h2]; rfl
  · rw [h1, h2]; rfl
end TreF
end
section
namespace TreF
open NodesF

/-- A node's letter, or a full stop. -/
def letP (p : Int) : UInt8 := if nodeB p then letF p.toNat else 46
/-- An entry's text. -/
def pieceE (e : Ent) (j : Nat) : List UInt8 := letF j :: (Lib.decDigits e.1 ++ [letP e.2, 32])
def textF (t : Tr) : List Nat → List UInt8
  | [] => []
  | j :: l => pieceE (t.getD j farE) j ++ textF t l
def textT (t : Tr) : List UInt8 := textF t (lisR t)
theorem textF_append (t : Tr) : ∀ l m, textF t (l ++ m) = textF t l ++ textF t m
  | [], _ => rfl
  | n :: l, m => by rw [List.cons_append, textF, textF, textF_append t l m, List.append_assoc]
theorem textF_take (t : Tr) {l : List Nat} {k x : Nat} (h : l[k]? = some x) : textF t (l.take (k + 1)) = textF t (l.take k) ++ pieceE (t.getD x farE) x := by
  rw [List.take_add_one, h, textF_append]
  simp [textF]
theorem digits10 (n : Nat) (h : n < 4294967296) : (Lib.decDigits n).length ≤ 10 := by
  rw [Lib.decDigits_length]
  have h1 : ∀ k m : Nat, m < 10 ^ (k + 1) → Lib.nDigits m ≤ k + 1 := by
    intro k
    induction k with
    | zero => intro m hm; rw [Lib.nDigits_small (by simpa using hm)]; exact Nat.le_refl _
    | succ k ih =>
      intro m hm
      by_cases hs : m < 10
      · rw [Lib.nDigits_small hs]; omega
      · rw [Lib.nDigits_big hs]
        have := ih (m / 10) (by rw [Nat.pow_succ] at hm; omega)
        omega
  exact h1 9 n (by omega)
theorem piece_length {t : Tr} (ht : Tre t) (j : Nat) (hj : j < 16) : (pieceE (t.getD j farE) j).length ≤ 13 := by
  obtain ⟨e, he, ho⟩ := ht.at hj
  rw [getD_at he]
  have h1 := digits10 e.1 ho.1
  simp only [pieceE, List.length_cons, List.length_append, List.length_nil]
  omega
theorem textF_length {t : Tr} (ht : Tre t) : ∀ l : List Nat, (∀ x ∈ l, x < 16) → (textF t l).length ≤ 13 * l.length
  | [], _ => by simp [textF]
  | n :: l, h => by
    have h1 := piece_length ht n (h n (by simp))
    have h2 := textF_length ht l (fun x hx => h x (by simp [hx]))
    simp only [textF, List.length_append, List.length_cons]
    omega
theorem text_length {t : Tr} (ht : Tre t) : (textT t).length ≤ 208 := by
  have h1 := textF_length ht (lisR t) (lis_small t)
  have h2 := lis_length t
  unfold textT
  omega
/-- The text of the set of one node. -/
theorem one_text (n : Nat) (h : n < 16) : textL (lowN (withN 0 n)) = [letF n] := by
  rcases n16 n h with h | h | h | h | h | h | h | h | h | h | h | h | h | h | h | h <;> subst h <;> decide +kernel
theorem no_text : textL (lowN 0) = [46] := by decide +kernel
end TreF
end
end Go.Proofs.Ytjpbglbbeepmnaa
