/- Plain functions of package tree: a text read, word by word and byte by byte. No program is named here. Plain functions of package tree: both ways of reading a text agree. No program is named here. -/
import Derived.Test.YtelfbkfmngjheaaDoorTreF
import Derived.Test.YtelfbkfmngjheaaDoorNumF
namespace Go.Proofs.YtelfbkfmngjheaaDoor
section
namespace TreF
open NodesF NumF

/-! What is reached behind a new entry. -/
theorem lis_sorted (t : Tr) : (lisR t).Pairwise (· < ·) := List.Pairwise.filter _ List.pairwise_lt_range
theorem lis_high (t : Tr) : ∀ x ∈ lisR t, (x : Int) ≤ highG (lowN (setR t)) 16 := by
  intro x hx
  rcases set_most (isR t) with ⟨h1, _⟩ | ⟨a, l, h1, h2⟩
  · rw [show lisR t = [] from h1] at hx; simp at hx
  · have hs := lis_sorted t
    rw [show lisR t = l ++ [a] from h1] at hx hs
    rw [show highG (lowN (setR t)) 16 = (a : Int) from h2]
    rcases List.mem_append.1 hx with hx | hx
    · have := (List.pairwise_append.1 hs).2.2 x hx a (by simp)
      omega
    · obtain rfl : x = a := by simpa using hx
      exact Int.le_refl _
theorem high_below (t : Tr) (k : Nat) (h : ∀ x ∈ lisR t, x < k) : highG (lowN (setR t)) 16 < (k : Int) := by
  rcases set_most (isR t) with ⟨_, h2⟩ | ⟨a, l, h1, h2⟩
  · rw [show highG (lowN (setR t)) 16 = -1 from h2]; omega
  · rw [show highG (lowN (setR t)) 16 = (a : Int) from h2]
    have := h a (by rw [show lisR t = l ++ [a] from h1]; simp)
    omega
theorem high_ge (t : Tr) : -1 ≤ highG (lowN (setR t)) 16 := by
  rcases set_most (isR t) with ⟨_, h2⟩ | ⟨a, l, h1, h2⟩
  · rw [show highG (lowN (setR t)) 16 = -1 from h2]; omega
  · rw [show highG (lowN (setR t)) 16 = (a : Int) from h2]; omega
theorem range_split (a : Nat) (ha : a < 16) : List.range 16 = List.range a ++ a :: List.range' (a + 1) (15 - a) := by
  rw [List.range_eq_range', List.range_eq_range', show (16 : Nat) = a + (16 - a) by omega, ← List.range'_append_1, Nat.zero_add, show 16 - a = (15 - a) + 1 by omega, List.range'_succ]
theorem isR_set (t : Tr) (hl : t.length = 16) (a : Nat) (ha : a < 16) (e : Ent) (j : Nat) : isR (t.set a e) j = if j = a then decide (e.1 ≠ farN) else isR t j := by
  unfold isR distN
  rw [getD_set t a j e hl ha]
  split <;> rfl
theorem lis_set (t : Tr) (hl : t.length = 16) (a : Nat) (ha : a < 16) (e : Ent) (he : e.1 ≠ farN) (hi : ∀ x ∈ lisR t, x < a) : lisR (t.set a e) = lisR t ++ [a] := by
  have hno : ∀ j, j < 16 → a ≤ j → isR t j = false := fun j hj haj => by
    cases hb : isR t j with
    | false => rfl
    | true =>
      have := hi j (List.mem_filter.2 ⟨List.mem_range.2 hj, hb⟩)
      omega
  have hr : ∀ p : Nat → Bool, (∀ j, a < j → j < 16 → p j = false) → (List.range' (a + 1) (15 - a)).filter p = [] := fun p hp => by
    rw [List.filter_eq_nil_iff]
    intro j hj
    have := List.mem_range'_1.1 hj
    rw [hp j (by omega) (by omega)]
    decide
  unfold lisR
  rw [range_split a ha, List.filter_append, List.filter_cons, List.filter_append, List.filter_cons]
  rw [hr _ (fun j h1 h2 => by rw [isR_set t hl a ha e j, if_neg (by omega), hno j h2 (by omega)]), hr _ (fun j h1 h2 => hno j h2 (by omega))]
  rw [isR_set t hl a ha e a, if_pos rfl, decide_eq_true he, if_pos rfl, hno a ha (Nat.le_refl _), if_neg (by decide), List.append_nil]
  congr 1
  apply List.filter_congr
  intro j hj
  have := List.mem_range.1 hj
  rw [isR_set t hl a ha e j, if_neg (by omega)]
theorem textF_set (t : Tr) (hl : t.length = 16) (a : Nat) (ha : a < 16) (e : Ent) : ∀ l : List Nat, (∀ x ∈ l, x < a) → textF (t.set a e) l = textF t l
  | [], _ => rfl
  | x :: l, h => by
    rw [textF, textF, textF_set t hl a ha e l (fun y hy => h y (by simp [hy])), getD_set t a x e hl ha, if_neg (by have := h x (by simp); omega)]
theorem text_set (t : Tr) (hl : t.length = 16) (a : Nat) (ha : a < 16) (e : Ent) (he : e.1 ≠ farN) (hi : ∀ x ∈ lisR t, x < a) : textT (t.set a e) = textT t ++ pieceE e a := by
  unfold textT
  rw [lis_set t hl a ha e he hi, textF_append, textF_set t hl a ha e _ hi]
  rw [textF, textF, getD_set t a a e hl ha, if_pos rfl, List.append_nil]
theorem lis_far : lisR far16 = [] := by decide +kernel
theorem text_far : textT far16 = [] := by rw [textT, lis_far]; rfl
theorem text_one (a : Nat) (ha : a < 16) (e : Ent) (he : e.1 ≠ farN) : textT (far16.set a e) = pieceE e a := by
  rw [text_set far16 Tre.far.1 a ha e he (by rw [lis_far]; simp), text_far, List.nil_append]
theorem text_none (a : Nat) (ha : a < 16) (e : Ent) (he : e.1 = farN) : textT (far16.set a e) = [] := by
  have h : lisR (far16.set a e) = [] := by
    unfold lisR
    rw [List.filter_eq_nil_iff]
    intro j hj
    have hj := List.mem_range.1 hj
    rw [isR_set far16 Tre.far.1 a ha e j]
    split
    · simp [he]
    · have : isR far16 j = false := by
        cases hb : isR far16 j with
        | false => rfl
        | true =>
          have h := List.mem_filter.2 ⟨List.mem_range.2 hj, hb⟩
          rw [show List.filter (isR far16) (List.range 16) = [] from lis_far] at h
          simp at h
      rw [this]
      decide
  rw [textT, h]
  rfl

/-! What can be told. -/
/-- What is far has no node ahead; a node ahead is a node, or -1. -/
def goodE (e : Ent) : Prop := (e.1 = farN → e.2 = -1) ∧ (e.2 = -1 ∨ nodeB e.2 = true)
def Norm (t : Tr) : Prop := Tre t ∧ ∀ e ∈ t, goodE e
theorem good_far : goodE farE := ⟨fun _ => rfl, .inl rfl⟩
theorem Norm.far : Norm far16 := ⟨Tre.far, fun e he => by rw [List.eq_of_mem_replicate he]; exact good_far⟩
theorem Norm.set {t : Tr} (h : Norm t) (a : Nat) {e : Ent} (he : Ok e) (hg : goodE e) : Norm (t.set a e) := by
  refine ⟨h.1.set a he, fun x hx => ?_⟩
  rcases List.mem_or_eq_of_mem_set hx with hx | rfl
  · exact h.2 x hx
  · exact hg
theorem ok_node {n : Nat} {q : Int} (hn : n < 4294967296) (hq : q = -1 ∨ nodeB q = true) : Ok (n, q) := by
  rcases hq with rfl | hq
  · exact ⟨hn, show (-9223372036854775808 : Int) ≤ -1 by decide, show (-1 : Int) < 9223372036854775808 by decide⟩
  · obtain ⟨k, rfl, hk⟩ := node_in hq
    refine ⟨hn, ?_, ?_⟩
    · show (-9223372036854775808 : Int) ≤ (k : Int); omega
    · show (k : Int) < 9223372036854775808; omega

/-! Word by word. -/
/-- The text up to the first blank, and behind it. -/
def cutW : List UInt8 → Option (List UInt8 × List UInt8)
  | [] => none
  | x :: l => if x = 32 then some ([], l) else match cutW l with
    | none => none
    | some (w, r) => some (x :: w, r)
theorem cut_eq : ∀ (l : List UInt8) (w r : List UInt8), cutW l = some (w, r) → l = w ++ 32 :: r
  | [], w, r, h => by cases h
  | x :: l, w, r, h => by
    rw [cutW] at h
    by_cases hx : x = 32
    · rw [if_pos hx] at h
      cases h
      rw [hx]; rfl
    · rw [if_neg hx] at h
      cases hc : cutW l with
      | none => rw [hc] at h; cases h
      | some q =>
        obtain ⟨w', r'⟩ := q
        rw [hc] at h
        cases h
        rw [cut_eq l w' r hc]
        rfl
theorem cut_word : ∀ (w r : List UInt8), (∀ b ∈ w, b ≠ 32) → cutW (w ++ 32 :: r) = some (w, r)
  | [], r, _ => by simp [cutW]
  | x :: w, r, h => by
    rw [List.cons_append, cutW, if_neg (h x (by simp)), cut_word w r (fun b hb => h b (by simp [hb]))]
/-- The node of a letter, or -1. -/
def nodeL (w : List UInt8) : Int := nextG (lowN (parseF w).1) 15 16
def midL (w : List UInt8) : List UInt8 := (w.drop 1).take (w.length - 2)
def readN (t : Tr) (w : List UInt8) (u : Nat) : Tr :=
  if nodeL (w.take 1) ≤ highG (lowN (setR t)) 16 then t
  else if textT (putT far16 (nodeL (w.take 1)) (u, nodeL (w.drop (w.length - 1)))) = w ++ [32] then putT t (nodeL (w.take 1)) (u, nodeL (w.drop (w.length - 1)))
  else t
/-- A word read. -/
def readT (t : Tr) (w : List UInt8) : Tr := if w.length < 3 then t else match numO (midL w) with
  | none => t
  | some u => readN t w u
def runP : Nat → List UInt8 → Tr → Option Tr
  | _, [], t => some t
  | 0, _ :: _, _ => none
  | f + 1, x :: s, t => match cutW (x :: s) with
    | none => none
    | some (w, r) => if readT t w = t then none else runP f r (readT t w)
def doneP : Option Tr → Tr × Int
  | none => (zero16, 3)
  | some t => (t, 0)
/-- What Parse answers. -/
def parseP (s : List UInt8) : Tr × Int := if 300 < s.length then (zero16, 4) else doneP (runP s.length s far16)
theorem node_is (w : List UInt8) : nodeL w = -1 ∨ ∃ a : Nat, nodeL w = (a : Int) ∧ a < 16 := by
  rcases next_spec (lowN (parseF w).1) 15 16 with ⟨h, _⟩ | ⟨a, h1, h2, _⟩
  · exact .inl h
  · exact .inr ⟨a, h1, h2⟩
theorem node_ok (w : List UInt8) : nodeL w = -1 ∨ nodeB (nodeL w) = true := by
  rcases node_is w with h | ⟨a, h1, h2⟩
  · exact .inl h
  · rw [h1]; exact .inr (node_nat h2)
theorem readN_step (t : Tr) (w : List UInt8) (u : Nat) (hu : u < 4294967296) (hN : Norm t) (h : readN t w u ≠ t) : Norm (readN t w u) ∧ textT (readN t w u) = textT t ++ (w ++ [32]) := by
  unfold readN at h ⊢
  split at h
  · exact absurd rfl h
  · rename_i h1
    split at h
    · rename_i h2
      rw [if_neg h1, if_pos h2]
      have hq := node_ok (w.drop (w.length - 1))
      obtain ⟨q, hqe⟩ : ∃ q, nodeL (w.drop (w.length - 1)) = q := ⟨_, rfl⟩
      rw [hqe] at h2 hq ⊢
      rcases node_is (w.take 1) with hj | ⟨a, hj, ha⟩
      · rw [hj] at h1
        exact absurd (high_ge t) h1
      · rw [hj] at h1 h2 ⊢
        rw [put_ok _ _ ha] at h2 ⊢
        have hne : u ≠ farN := fun e => by
          rw [text_none a ha (u, q) e] at h2
          exact absurd h2.symm (by simp)
        rw [text_one a ha (u, q) hne] at h2
        have hi : ∀ x ∈ lisR t, x < a := fun x hx => by have := lis_high t x hx; omega
        refine ⟨hN.set a (ok_node hu hq) ⟨fun e => absurd e hne, hq⟩, ?_⟩
        rw [text_set t hN.1.1 a ha (u, q) hne hi, h2]
    · exact absurd rfl h
theorem read_step (t : Tr) (w : List UInt8) (hN : Norm t) (h : readT t w ≠ t) : Norm (readT t w) ∧ textT (readT t w) = textT t ++ (w ++ [32]) := by
  unfold readT at h ⊢
  split at h
  · exact absurd rfl h
  · rename_i h1
    rw [if_neg h1]
    cases hn : numO (midL w) with
    | none => rw [hn] at h; exact absurd rfl h
    | some u =>
      rw [hn] at h
      exact readN_step t w u (num_lt hn) hN h
theorem read_tre {t : Tr} (h : Tre t) (w : List UInt8) : Tre (readT t w) := by
  unfold readT
  split
  · exact h
  · cases hn : numO (midL w) with
    | none => exact h
    | some u =>
      show Tre (readN t w u)
      unfold readN
      split
      · exact h
      · split
        · exact h.put _ (ok_node (num_lt hn) (node_ok _))
        · exact h
theorem run_keeps : ∀ (f : Nat) (s : List UInt8) (t u : Tr), Norm t → runP f s t = some u → Norm u ∧ textT u = textT t ++ s
  | _, [], t, u, hN, h => by
    have e : t = u := by cases ‹Nat› <;> exact Option.some.inj h
    subst e
    exact ⟨hN, by simp⟩
  | 0, _ :: _, t, u, _, h => by cases h
  | f + 1, x :: s, t, u, hN, h => by
    rw [runP] at h
    cases hc : cutW (x :: s) with
    | none => rw [hc] at h; cases h
    | some q =>
      obtain ⟨w, r⟩ := q
      rw [hc] at h
      have h' : (if readT t w = t then none else runP f r (readT t w)) = some u := h
      by_cases hr : readT t w = t
      · rw [if_pos hr] at h'; cases h'
      · rw [if_neg hr] at h'
        obtain ⟨h1, h2⟩ := read_step t w hN hr
        obtain ⟨h3, h4⟩ := run_keeps f r _ u h1 h'
        refine ⟨h3, ?_⟩
        rw [h4, h2, cut_eq _ w r hc]
        simp
end TreF
end
section
namespace TreF
open NodesF NumF

/-- The first k entries; the others far. -/
def firstK (t : Tr) (k : Nat) : Tr := t.take k ++ List.replicate (16 - k) farE
theorem first_zero (t : Tr) : firstK t 0 = far16 := rfl
theorem first_all {t : Tr} (h : t.length = 16) : firstK t 16 = t := by
  unfold firstK
  rw [List.take_of_length_le (by omega)]
  simp
theorem first_length {t : Tr} (h : t.length = 16) {k : Nat} (hk : k ≤ 16) : (firstK t k).length = 16 := by simp [firstK, h]; omega
theorem first_set {t : Tr} (h : t.length = 16) {k : Nat} (hk : k < 16) {e : Ent} (he : t[k]? = some e) : (firstK t k).set k e = firstK t (k + 1) := by
  unfold firstK
  obtain ⟨m, hm⟩ : ∃ m, 16 - k = m + 1 := ⟨15 - k, by omega⟩
  have hlen : (t.take k).length = k := by simp [h]; omega
  rw [hm, show 16 - (k + 1) = m by omega, List.set_append, if_neg (by omega), hlen, Nat.sub_self, List.replicate_succ, List.set_cons_zero, List.take_add_one, he]
  simp
theorem first_far {t : Tr} (h : t.length = 16) {k : Nat} (hk : k < 16) (he : t[k]? = some farE) : firstK t (k + 1) = firstK t k := by
  rw [← first_set h hk he]
  apply List.ext_getElem?
  intro i
  rw [List.getElem?_set]
  by_cases hi : k = i
  · subst hi
    have hlen : (t.take k).length = k := by simp [h]; omega
    rw [if_pos rfl, if_pos (by rw [first_length h (by omega)]; omega)]
    unfold firstK
    rw [List.getElem?_append_right (by omega), hlen, Nat.sub_self, List.getElem?_replicate, if_pos (by omega)]
  · rw [if_neg hi]
theorem first_at {t : Tr} (h : t.length = 16) {k j : Nat} (hk : k ≤ j) (hj : j < 16) : (firstK t k)[j]? = some farE := by
  have hlen : (t.take k).length = k := by simp [h]; omega
  unfold firstK
  rw [List.getElem?_append_right (by omega), hlen, List.getElem?_replicate, if_pos (by omega)]
theorem first_low {t : Tr} (h : t.length = 16) {k : Nat} : ∀ x ∈ lisR (firstK t k), x < k := fun x hx => by
  obtain ⟨h1, h2⟩ := List.mem_filter.1 hx
  have h16 := List.mem_range.1 h1
  by_cases hk : x < k
  · exact hk
  · have := first_at h (k := k) (j := x) (by omega) h16
    unfold isR at h2
    rw [dist_at this] at h2
    exact absurd rfl (of_decide_eq_true h2)
/-- What is left of the text behind the first k entries. -/
def leftT (t : Tr) (k : Nat) : List UInt8 := textF t ((List.range' k (16 - k)).filter (isR t))
theorem left_zero (t : Tr) : leftT t 0 = textT t := by
  unfold leftT textT lisR
  rw [List.range_eq_range']
theorem left_end (t : Tr) : leftT t 16 = [] := rfl
theorem left_step (t : Tr) (k : Nat) (hk : k < 16) : leftT t k = if isR t k then pieceE (t.getD k farE) k ++ leftT t (k + 1) else leftT t (k + 1) := by
  unfold leftT
  rw [show 16 - k = (16 - (k + 1)) + 1 by omega, List.range'_succ, List.filter_cons]
  split
  · rfl
  · rfl
/-- A word: an entry's text without its blank. -/
def wordE (e : Ent) (k : Nat) : List UInt8 := letF k :: (Lib.decDigits e.1 ++ [letP e.2])
theorem piece_word (e : Ent) (k : Nat) : pieceE e k = wordE e k ++ [32] := by simp [pieceE, wordE]
theorem letP_cases (q : Int) (h : q = -1 ∨ nodeB q = true) : (q = -1 ∧ letP q = 46) ∨ (∃ a : Nat, q = (a : Int) ∧ a < 16 ∧ letP q = letF a) := by
  rcases h with rfl | h
  · exact .inl ⟨rfl, by decide⟩
  · obtain ⟨a, rfl, ha⟩ := node_in h
    exact .inr ⟨a, rfl, ha, by simp [letP, h]⟩
theorem node_letF (a : Nat) (ha : a < 16) : nodeL [letF a] = (a : Int) := by
  rcases n16 a ha with h | h | h | h | h | h | h | h | h | h | h | h | h | h | h | h <;> subst h <;> decide +kernel
theorem node_dot : nodeL [46] = -1 := by decide +kernel
theorem node_letP (q : Int) (h : q = -1 ∨ nodeB q = true) : nodeL [letP q] = q := by
  rcases letP_cases q h with ⟨rfl, h1⟩ | ⟨a, rfl, ha, h1⟩
  · rw [h1]; exact node_dot
  · rw [h1]; exact node_letF a ha
theorem word_blank (e : Ent) (k : Nat) (hk : k < 16) (h : e.2 = -1 ∨ nodeB e.2 = true) : ∀ b ∈ wordE e k, b ≠ 32 := by
  have hne : ∀ b : UInt8, 33 ≤ b.toNat → b ≠ 32 := fun b hb e => by subst e; exact absurd hb (by decide)
  intro b hb
  rcases List.mem_cons.1 hb with rfl | hb
  · exact hne _ (by rw [letF_nat k hk]; omega)
  · rcases List.mem_append.1 hb with hb | hb
    · exact hne _ (by have := digit_plain _ b hb; omega)
    · obtain rfl : b = letP e.2 := by simpa using hb
      rcases letP_cases e.2 h with ⟨_, h1⟩ | ⟨a, _, ha, h1⟩
      · rw [h1]; decide
      · rw [h1]; exact hne _ (by rw [letF_nat a ha]; omega)
theorem digits_pos (v : Nat) : 1 ≤ (Lib.decDigits v).length := by
  rw [Lib.decDigits_length]
  exact Lib.nDigits_pos v
/-- An entry's word is read. -/
theorem read_word (s : Tr) (k : Nat) (hk : k < 16) (e : Ent) (ho : Ok e) (hg : goodE e) (he : e.1 ≠ farN) (hi : ∀ x ∈ lisR s, x < k) : readT s (wordE e k) = s.set k e := by
  obtain ⟨d, q⟩ := e
  have hp := digits_pos d
  have hlen : (wordE (d, q) k).length = (Lib.decDigits d).length + 2 := by simp [wordE]
  have hmid : midL (wordE (d, q) k) = Lib.decDigits d := by
    unfold midL
    rw [hlen, Nat.add_sub_cancel]
    simp [wordE]
  have ht1 : (wordE (d, q) k).take 1 = [letF k] := by simp [wordE]
  have hdr : (wordE (d, q) k).drop ((wordE (d, q) k).length - 1) = [letP q] := by
    rw [hlen]
    unfold wordE
    rw [show (Lib.decDigits d).length + 2 - 1 = (Lib.decDigits d).length + 1 by omega, List.drop_succ_cons, List.drop_left]
  unfold readT
  rw [if_neg (by rw [hlen]; omega), hmid, num_of d ho.1]
  show readN s (wordE (d, q) k) d = s.set k (d, q)
  unfold readN
  rw [ht1, hdr, node_letF k hk, node_letP q hg.2]
  have hh := high_below s k hi
  rw [if_neg (by omega), put_ok _ _ hk, put_ok _ _ hk, text_one k hk (d, q) he, if_pos (piece_word (d, q) k)]
theorem run_left (t : Tr) (hN : Norm t) : ∀ (m k : Nat), k + m = 16 → ∀ f, (leftT t k).length ≤ f → runP f (leftT t k) (firstK t k) = some t
  | 0, k, hm, f, _ => by
    obtain rfl : k = 16 := by omega
    rw [left_end, first_all hN.1.1]
    cases f <;> rfl
  | m + 1, k, hm, f, hf => by
    have hk : k < 16 := by omega
    obtain ⟨e, he, ho⟩ := hN.1.at hk
    have hg := hN.2 e (List.mem_of_getElem? he)
    rw [left_step t k hk, getD_at he] at hf ⊢
    by_cases hr : isR t k = true
    · rw [if_pos hr] at hf ⊢
      have hne : e.1 ≠ farN := by
        unfold isR at hr
        rw [dist_at he] at hr
        exact of_decide_eq_true hr
      have hform : pieceE e k ++ leftT t (k + 1) = wordE e k ++ 32 :: leftT t (k + 1) := by rw [piece_word]; simp
      rw [hform] at hf ⊢
      obtain ⟨f', rfl⟩ : ∃ f', f = f' + 1 := ⟨f - 1, by simp at hf; omega⟩
      have hrd := read_word (firstK t k) k hk e ho hg hne (first_low hN.1.1)
      rw [first_set hN.1.1 hk he] at hrd
      have hdiff : firstK t (k + 1) ≠ firstK t k := fun h => by
        have h1 := first_at hN.1.1 (k := k) (j := k) (Nat.le_refl _) hk
        rw [← h, ← first_set hN.1.1 hk he, List.getElem?_set, if_pos rfl, if_pos (by rw [first_length hN.1.1 (by omega)]; omega)] at h1
        have h2 := Option.some.inj h1
        exact hne (by rw [h2]; rfl)
      have hc := cut_word (wordE e k) (leftT t (k + 1)) (word_blank e k hk hg.2)
      have hw : ∃ x l, wordE e k ++ 32 :: leftT t (k + 1) = x :: l := ⟨letF k, _, rfl⟩
      obtain ⟨x, l, hxl⟩ := hw
      rw [hxl] at hc ⊢
      rw [runP, hc]
      show (if readT (firstK t k) (wordE e k) = firstK t k then none else runP f' (leftT t (k + 1)) (readT (firstK t k) (wordE e k))) = some t
      rw [hrd, if_neg hdiff]
      exact run_left t hN m (k + 1) (by omega) f' (by simp at hf; omega)
    · rw [if_neg hr] at hf ⊢
      have hfar : e.1 = farN := by
        unfold isR at hr
        rw [dist_at he] at hr
        simpa using hr
      have hee : e = farE := Prod.ext hfar (hg.1 hfar)
      subst hee
      rw [← first_far hN.1.1 hk he]
      exact run_left t hN m (k + 1) (by omega) f hf
theorem run_text (t : Tr) (hN : Norm t) : runP (textT t).length (textT t) far16 = some t := by
  have h := run_left t hN 16 0 (by omega) (textT t).length (by rw [left_zero]; exact Nat.le_refl _)
  rw [left_zero, first_zero] at h
  exact h

/-! Byte by byte. -/
def stepD (t : Tr) (j n st : Nat) (x : UInt8) : Option (Tr × Nat × Nat × Nat) :=
  if st = 0 ∧ 97 ≤ x.toNat ∧ x.toNat ≤ 112 then some (t, x.toNat - 97, 0, 1)
  else if ((0 < st ∧ st < 3) ∧ 48 ≤ x.toNat ∧ x.toNat ≤ 57) ∧ n < 4294967296 then some (t, j, 10 * n + (x.toNat - 48), 2)
  else if (st = 2 ∧ (x.toNat = 46 ∨ 97 ≤ x.toNat ∧ x.toNat ≤ 112)) ∧ n < 4294967295 then some (t.set j (n, if x.toNat = 46 then -1 else ((x.toNat - 97 : Nat) : Int)), j, n, 3)
  else if st = 3 ∧ x.toNat = 32 then some (t, j, n, 0)
  else none
def runD : List UInt8 → Tr → Nat → Nat → Nat → Option Tr
  | [], t, _, _, _ => some t
  | x :: l, t, j, n, st => match stepD t j n st x with
    | none => none
    | some (t', j', n', st') => runD l t' j' n' st'
def doneD (s : List UInt8) : Option Tr → Tr × Int
  | none => (zero16, 3)
  | some t => if textT t = s then (t, 0) else (zero16, 3)
def parseD (s : List UInt8) : Tr × Int := if 300 < s.length then (zero16, 4) else doneD s (runD s far16 0 0 0)
theorem done_yes {s : List UInt8} {t : Tr} (h : textT t = s) : doneD s (some t) = (t, 0) := if_pos h
theorem done_no {s : List UInt8} {t : Tr} (h : ¬ textT t = s) : doneD s (some t) = (zero16, 3) := if_neg h
theorem far_nat : farN = 4294967295 := rfl
theorem step_keeps {t t' : Tr} {j n st j' n' st' : Nat} {x : UInt8} (hN : Norm t) (h : stepD t j n st x = some (t', j', n', st')) : Norm t' := by
  unfold stepD at h
  split at h
  · cases h; exact hN
  · split at h
    · cases h; exact hN
    · split at h
      · rename_i h3
        cases h
        have hq : (if x.toNat = 46 then -1 else ((x.toNat - 97 : Nat) : Int)) = -1 ∨ nodeB (if x.toNat = 46 then -1 else ((x.toNat - 97 : Nat) : Int)) = true := by
          by_cases hx : x.toNat = 46
          · rw [if_pos hx]; exact .inl rfl
          · rw [if_neg hx]; exact .inr (node_nat (by omega))
        exact hN.set j (ok_node (by omega) hq) ⟨fun e => by have e' : n = farN := e; rw [far_nat] at e'; omega, hq⟩
      · split at h
        · cases h; exact hN
        · cases h
theorem runD_keeps : ∀ (l : List UInt8) (t : Tr) (j n st : Nat) (u : Tr), Norm t → runD l t j n st = some u → Norm u
  | [], t, _, _, _, u, hN, h => by cases h; exact hN
  | x :: l, t, j, n, st, u, hN, h => by
    rw [runD] at h
    cases hs : stepD t j n st x with
    | none => rw [hs] at h; cases h
    | some q =>
      obtain ⟨t', j', n', st'⟩ := q
      rw [hs] at h
      exact runD_keeps l t' j' n' st' u (step_keeps hN hs) h
theorem run_step {x : UInt8} {t t' : Tr} {j n st j' n' st' : Nat} (l : List UInt8) (h : stepD t j n st x = some (t', j', n', st')) : runD (x :: l) t j n st = runD l t' j' n' st' := by rw [runD, h]
theorem run_stop {x : UInt8} {t : Tr} {j n st : Nat} (l : List UInt8) (h : stepD t j n st x = none) : runD (x :: l) t j n st = none := by rw [runD, h]
theorem step_A {x : UInt8} {t : Tr} {j n st : Nat} (h : st = 0 ∧ 97 ≤ x.toNat ∧ x.toNat ≤ 112) : stepD t j n st x = some (t, x.toNat - 97, 0, 1) := if_pos h
theorem step_B {x : UInt8} {t : Tr} {j n st : Nat} (hA : ¬ (st = 0 ∧ 97 ≤ x.toNat ∧ x.toNat ≤ 112)) (h : ((0 < st ∧ st < 3) ∧ 48 ≤ x.toNat ∧ x.toNat ≤ 57) ∧ n < 4294967296) : stepD t j n st x = some (t, j, 10 * n + (x.toNat - 48), 2) := by
  unfold stepD
  rw [if_neg hA, if_pos h]
theorem step_C {x : UInt8} {t : Tr} {j n st : Nat} (hA : ¬ (st = 0 ∧ 97 ≤ x.toNat ∧ x.toNat ≤ 112)) (hB : ¬ (((0 < st ∧ st < 3) ∧ 48 ≤ x.toNat ∧ x.toNat ≤ 57) ∧ n < 4294967296)) (h : (st = 2 ∧ (x.toNat = 46 ∨ 97 ≤ x.toNat ∧ x.toNat ≤ 112)) ∧ n < 4294967295) :
    stepD t j n st x = some (t.set j (n, if x.toNat = 46 then -1 else ((x.toNat - 97 : Nat) : Int)), j, n, 3) := by
  unfold stepD
  rw [if_neg hA, if_neg hB, if_pos h]
theorem step_D {x : UInt8} {t : Tr} {j n st : Nat} (hA : ¬ (st = 0 ∧ 97 ≤ x.toNat ∧ x.toNat ≤ 112)) (hB : ¬ (((0 < st ∧ st < 3) ∧ 48 ≤ x.toNat ∧ x.toNat ≤ 57) ∧ n < 4294967296)) (hC : ¬ ((st = 2 ∧ (x.toNat = 46 ∨ 97 ≤ x.toNat ∧ x.toNat ≤ 112)) ∧ n < 4294967295)) (h : st = 3 ∧ x.toNat = 32) :
    stepD t j n st x = some (t, j, n, 0) := by
  unfold stepD
  rw [if_neg hA, if_neg hB, if_neg hC, if_pos h]
theorem step_N {x : UInt8} {t : Tr} {j n st : Nat} (hA : ¬ (st = 0 ∧ 97 ≤ x.toNat ∧ x.toNat ≤ 112)) (hB : ¬ (((0 < st ∧ st < 3) ∧ 48 ≤ x.toNat ∧ x.toNat ≤ 57) ∧ n < 4294967296)) (hC : ¬ ((st = 2 ∧ (x.toNat = 46 ∨ 97 ≤ x.toNat ∧ x.toNat ≤ 112)) ∧ n < 4294967295)) (hD : ¬ (st = 3 ∧ x.toNat = 32)) :
    stepD t j n st x = none := by
  unfold stepD
  rw [if_neg hA, if_neg hB, if_neg hC, if_neg hD]
theorem runD_digits (t : Tr) (j : Nat) : ∀ (v : Nat) (l : List UInt8), v < 4294967296 → runD (Lib.decDigits v ++ l) t j 0 1 = runD l t j v 2 := by
  intro v
  induction v using Nat.strongRecOn with
  | _ v ih =>
    intro l hv
    by_cases h : v < 10
    · rw [Lib.decDigits, dif_pos h]
      have hd := digit_byte v h
      rw [List.cons_append, List.nil_append, run_step l (step_B (by omega) (by omega)), hd]
      simp
    · rw [Lib.decDigits, dif_neg h, List.append_assoc, ih (v / 10) (by omega) _ (by omega)]
      have hd := digit_byte (v % 10) (by omega)
      rw [List.cons_append, List.nil_append, run_step l (step_B (by omega) (by omega)), hd]
      congr 1
      omega
theorem runD_piece (s : Tr) (k : Nat) (hk : k < 16) (e : Ent) (hg : goodE e) (ho : Ok e) (he : e.1 ≠ farN) (j n : Nat) (l : List UInt8) : runD (pieceE e k ++ l) s j n 0 = runD l (s.set k e) k e.1 0 := by
  have hl := letF_nat k hk
  obtain ⟨d, q⟩ := e
  have h32 : (32 : UInt8).toNat = 32 := rfl
  have h46 : (46 : UInt8).toNat = 46 := rfl
  have ho1 : d < 4294967296 := ho.1
  have he1 : d ≠ farN := he
  have hlt : d < 4294967295 := by rw [far_nat] at he1; omega
  have hform : pieceE (d, q) k ++ l = letF k :: (Lib.decDigits d ++ (letP q :: 32 :: l)) := by simp [pieceE]
  clear he he1
  rw [hform, run_step _ (step_A ⟨rfl, by omega, by omega⟩), show (letF k).toNat - 97 = k by omega, runD_digits s k d _ ho1]
  rcases letP_cases q hg.2 with ⟨hq, h1⟩ | ⟨a, hq, ha, h1⟩
  · rw [h1, run_step _ (step_C (by omega) (by omega) ⟨⟨rfl, .inl h46⟩, hlt⟩), if_pos h46, run_step _ (step_D (by omega) (by omega) (by omega) ⟨rfl, h32⟩), hq]
  · have hla := letF_nat a ha
    rw [h1, run_step _ (step_C (by omega) (by omega) ⟨⟨rfl, .inr ⟨by omega, by omega⟩⟩, hlt⟩), if_neg (by omega), show (letF a).toNat - 97 = a by omega, run_step _ (step_D (by omega) (by omega) (by omega) ⟨rfl, h32⟩), hq]
theorem runD_left (t : Tr) (hN : Norm t) : ∀ (m k : Nat), k + m = 16 → ∀ j n, runD (leftT t k) (firstK t k) j n 0 = some t
  | 0, k, hm, j, n => by
    obtain rfl : k = 16 := by omega
    rw [left_end, first_all hN.1.1]
    rfl
  | m + 1, k, hm, j, n => by
    have hk : k < 16 := by omega
    obtain ⟨e, he, ho⟩ := hN.1.at hk
    have hg := hN.2 e (List.mem_of_getElem? he)
    rw [left_step t k hk, getD_at he]
    by_cases hr : isR t k = true
    · rw [if_pos hr]
      have hne : e.1 ≠ farN := by
        unfold isR at hr
        rw [dist_at he] at hr
        exact of_decide_eq_true hr
      rw [runD_piece (firstK t k) k hk e hg ho hne, first_set hN.1.1 hk he]
      exact runD_left t hN m (k + 1) (by omega) _ _
    · rw [if_neg hr]
      have hfar : e.1 = farN := by
        unfold isR at hr
        rw [dist_at he] at hr
        simpa using hr
      have hee : e = farE := Prod.ext hfar (hg.1 hfar)
      subst hee
      rw [← first_far hN.1.1 hk he]
      exact runD_left t hN m (k + 1) (by omega) j n
theorem runD_text (t : Tr) (hN : Norm t) : runD (textT t) far16 0 0 0 = some t := by
  have h := runD_left t hN 16 0 (by omega) 0 0
  rw [left_zero, first_zero] at h
  exact h

/-- Both read alike. -/
theorem run_iff (s : List UInt8) (u : Tr) : runP s.length s far16 = some u ↔ (runD s far16 0 0 0 = some u ∧ textT u = s) := by
  constructor
  · intro h
    obtain ⟨hN, ht⟩ := run_keeps _ _ _ _ Norm.far h
    rw [text_far, List.nil_append] at ht
    refine ⟨?_, ht⟩
    rw [← ht]
    exact runD_text u hN
  · rintro ⟨h, ht⟩
    have hN := runD_keeps _ _ _ _ _ _ Norm.far h
    rw [← ht]
    exact run_text u hN
theorem parse_same (s : List UInt8) : parseP s = parseD s := by
  unfold parseP parseD
  split
  · rfl
  · cases h1 : runP s.length s far16 with
    | some u =>
      obtain ⟨h2, h3⟩ := (run_iff s u).1 h1
      rw [h2, done_yes h3]
      rfl
    | none =>
      cases h2 : runD s far16 0 0 0 with
      | none => rfl
      | some u =>
        by_cases ht : textT u = s
        · have := (run_iff s u).2 ⟨h2, ht⟩
          rw [h1] at this
          cases this
        · rw [done_no ht]
          rfl
theorem parse_ok (s : List UInt8) (h : (parseP s).2 = 0) : textT (parseP s).1 = s := by
  unfold parseP at h ⊢
  split at h
  · cases h
  · rename_i hl
    rw [if_neg hl]
    cases h1 : runP s.length s far16 with
    | none => rw [h1] at h; cases h
    | some u => exact ((run_iff s u).1 h1).2
theorem parse_tre (s : List UInt8) : Tre (parseP s).1 := by
  unfold parseP
  split
  · exact Tre.zero
  · cases h1 : runP s.length s far16 with
    | none => exact Tre.zero
    | some u => exact (run_keeps _ _ _ _ Norm.far h1).1.1
theorem parse_text (t : Tr) (hN : Norm t) : parseP (textT t) = (t, 0) := by
  unfold parseP
  rw [if_neg (by have := text_length hN.1; omega), run_text t hN]
  rfl
end TreF
end
end Go.Proofs.YtelfbkfmngjheaaDoor
