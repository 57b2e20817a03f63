/- Plain functions of package walk: the way back to the root. No program is named here. -/
import Derived.Test.YtjpbglbbeepmnaaTreF
namespace Go.Proofs.Ytjpbglbbeepmnaa
namespace WakF
open TreF NodesF

/-- The node is reached. -/
def okT (t : Tr) (n : Int) : Bool := decide ((getT t n).1 ≠ farN)
/-- The node ahead of it. -/
def upT (t : Tr) (n : Int) : Int := (getT t n).2
def consW (n : Nat) (l : List Nat) : List Nat := if l = [] then [] else n :: l
def appW (a l : List Nat) : List Nat := if l = [] then [] else a ++ l
/-- The way back in so many steps. -/
def wayF (t : Tr) (r : Int) : Nat → Int → List Nat
  | 0, _ => []
  | f + 1, n => if okT t n = true then (if n = r then [n.toNat] else consW n.toNat (wayF t r f (upT t n))) else []
/-- The way back: nothing, where there is none. -/
def backT (t : Tr) (r j : Int) : List Nat := wayF t r 16 j
def hopsT (t : Tr) (r j : Int) : Int := ((backT t r j).length : Int) - 1
def pathT (t : Tr) (r j : Int) : List Nat := (backT t r j).reverse
/-- The second one. -/
def secL : List Nat → Int
  | _ :: x :: _ => (x : Int)
  | _ => -1
def firstT (t : Tr) (r j : Int) : Int := secL (pathT t r j)
theorem sec_short {l : List Nat} (h : l.length ≤ 1) : secL l = -1 := by
  match l, h with
  | [], _ => rfl
  | [_], _ => rfl
  | _ :: _ :: _, h => simp at h
theorem sec_at {l : List Nat} {x : Nat} (h : l[1]? = some x) : secL l = (x : Int) := by
  match l, h with
  | [], h => simp at h
  | [_], h => simp at h
  | _ :: y :: _, h =>
    obtain rfl : y = x := by simpa using h
    rfl

theorem ok_node {t : Tr} {n : Int} (h : okT t n = true) : nodeB n = true := by
  cases hb : nodeB n with
  | true => rfl
  | false =>
    have h1 := of_decide_eq_true h
    rw [get_no t hb] at h1
    exact absurd rfl h1
theorem ok_nat {t : Tr} {n : Int} (h : okT t n = true) : ∃ k : Nat, n = (k : Int) ∧ k < 16 := node_in (ok_node h)
theorem cons_nil (n : Nat) : consW n [] = [] := rfl
theorem cons_some (n : Nat) {l : List Nat} (h : l ≠ []) : consW n l = n :: l := if_neg h
theorem cons_of {n : Nat} {l : List Nat} (h : consW n l ≠ []) : l ≠ [] := fun e => h (by rw [e]; rfl)
theorem app_nil (n : List Nat) : appW n [] = [] := rfl
theorem app_some (a : List Nat) {l : List Nat} (h : l ≠ []) : appW a l = a ++ l := if_neg h
theorem app_cons (a : List Nat) (n : Nat) (l : List Nat) : appW a (consW n l) = appW (a ++ [n]) l := by
  by_cases h : l = []
  · subst h; rfl
  · rw [cons_some n h, app_some _ h, app_some _ (by simp)]; simp
theorem app_one (n : Nat) (l : List Nat) : consW n l = appW [n] l := rfl
theorem way_zero (t : Tr) (r n : Int) : wayF t r 0 n = [] := rfl
theorem way_step (t : Tr) (r : Int) (f : Nat) (n : Int) : wayF t r (f + 1) n = if okT t n = true then (if n = r then [n.toNat] else consW n.toNat (wayF t r f (upT t n))) else [] := rfl
theorem way_ok {t : Tr} {r : Int} {f : Nat} {n : Int} (h : wayF t r f n ≠ []) : okT t n = true := by
  cases f with
  | zero => exact absurd rfl h
  | succ f =>
    rw [way_step] at h
    by_cases ho : okT t n = true
    · exact ho
    · rw [if_neg ho] at h; exact absurd rfl h
theorem way_mono {t : Tr} {r : Int} : ∀ {f : Nat} {n : Int}, wayF t r f n ≠ [] → wayF t r (f + 1) n = wayF t r f n
  | 0, n, h => absurd rfl h
  | f + 1, n, h => by
    have ho := way_ok h
    rw [way_step t r (f + 1) n, way_step t r f n, if_pos ho, if_pos ho]
    rw [way_step t r f n, if_pos ho] at h
    by_cases hr : n = r
    · rw [if_pos hr, if_pos hr]
    · rw [if_neg hr] at h ⊢
      rw [if_neg hr, way_mono (cons_of h)]
theorem way_more {t : Tr} {r : Int} {f : Nat} {n : Int} (h : wayF t r f n ≠ []) : ∀ k, wayF t r (f + k) n = wayF t r f n
  | 0 => rfl
  | k + 1 => by
    have h1 := way_more h k
    rw [← Nat.add_assoc, way_mono (by rw [h1]; exact h), h1]
theorem way_head {t : Tr} {r : Int} {f : Nat} {n : Int} (h : wayF t r f n ≠ []) : ∃ l, wayF t r f n = n.toNat :: l := by
  cases f with
  | zero => exact absurd rfl h
  | succ f =>
    have ho := way_ok h
    rw [way_step, if_pos ho] at h ⊢
    by_cases hr : n = r
    · rw [if_pos hr]; exact ⟨[], rfl⟩
    · rw [if_neg hr] at h ⊢
      rw [cons_some _ (cons_of h)]
      exact ⟨_, rfl⟩
theorem way_length (t : Tr) (r : Int) : ∀ (f : Nat) (n : Int), (wayF t r f n).length ≤ f
  | 0, _ => Nat.le_refl _
  | f + 1, n => by
    rw [way_step]
    split
    · split
      · simp
      · unfold consW
        split
        · simp
        · have := way_length t r f (upT t n)
          simp only [List.length_cons]; omega
    · simp
/-- What is behind a node on the way is that node's own way. -/
theorem way_tail {t : Tr} {r : Int} : ∀ {f : Nat} {n : Int} {i x : Nat}, (wayF t r f n)[i]? = some x → wayF t r f (x : Int) = (wayF t r f n).drop i
  | 0, n, i, x, h => by simp [way_zero] at h
  | f + 1, n, i, x, h => by
    have hne : wayF t r (f + 1) n ≠ [] := fun e => by rw [e] at h; simp at h
    have ho := way_ok hne
    obtain ⟨k, rfl, hk⟩ := ok_nat ho
    by_cases hr : (k : Int) = r
    · have e : wayF t r (f + 1) (k : Int) = [k] := by rw [way_step, if_pos ho, if_pos hr]; rfl
      rw [e] at h
      cases i with
      | zero =>
        obtain rfl : k = x := by simpa using h
        rfl
      | succ i => simp at h
    · have e : wayF t r (f + 1) (k : Int) = consW k (wayF t r f (upT t (k : Int))) := by rw [way_step, if_pos ho, if_neg hr]; rfl
      have hc : consW k (wayF t r f (upT t (k : Int))) ≠ [] := by rw [← e]; exact hne
      rw [cons_some k (cons_of hc)] at e
      rw [e] at h
      cases i with
      | zero =>
        obtain rfl : k = x := by simpa using h
        rfl
      | succ i =>
        have h1 : (wayF t r f (upT t (k : Int)))[i]? = some x := by simpa using h
        have h2 := way_tail h1
        have hi := (List.getElem?_eq_some_iff.1 h1).1
        have h3 : wayF t r f (x : Int) ≠ [] := by
          rw [h2]
          intro e2
          have := congrArg List.length e2
          rw [List.length_drop, List.length_nil] at this
          omega
        rw [way_mono h3, h2, e]
        rfl
theorem way_nodup (t : Tr) (r : Int) (f : Nat) (n : Int) : (wayF t r f n).Nodup := by
  rw [List.nodup_iff_pairwise_ne, List.pairwise_iff_getElem]
  intro i j hi hj hij e
  have h1 := way_tail (t := t) (r := r) (f := f) (n := n) (i := i) (x := (wayF t r f n)[i]) (by simp [hi])
  have h2 := way_tail (t := t) (r := r) (f := f) (n := n) (i := j) (x := (wayF t r f n)[j]) (by simp [hj])
  rw [← e, h1] at h2
  have := congrArg List.length h2
  rw [List.length_drop, List.length_drop] at this
  omega
theorem way_each {t : Tr} {r : Int} {f : Nat} {n : Int} {x : Nat} (h : x ∈ wayF t r f n) : okT t (x : Int) = true ∧ x < 16 := by
  obtain ⟨i, hi⟩ := List.mem_iff_getElem?.1 h
  have h1 := way_tail hi
  have h2 : wayF t r f (x : Int) ≠ [] := by
    rw [h1]
    intro e2
    have h3 := (List.getElem?_eq_some_iff.1 hi).1
    have := congrArg List.length e2
    rw [List.length_drop, List.length_nil] at this
    omega
  have ho := way_ok h2
  obtain ⟨k, hk, hlt⟩ := ok_nat ho
  exact ⟨ho, by omega⟩
/-- So many different nodes. -/
theorem small_length {l : List Nat} (hn : l.Nodup) (h : ∀ x ∈ l, x < 16) : l.length ≤ 16 := by
  have := List.Nodup.length_le_of_subset (l₂ := List.range 16) hn (fun x hx => List.mem_range.2 (h x hx))
  simpa using this
theorem way_short (t : Tr) (r : Int) (f : Nat) (n : Int) : (wayF t r f n).length ≤ 16 := small_length (way_nodup t r f n) fun _ hx => (way_each hx).2
theorem way_less {t : Tr} {r : Int} : ∀ {f : Nat} {n : Int} {g : Nat}, wayF t r f n ≠ [] → (wayF t r f n).length ≤ g → wayF t r g n = wayF t r f n
  | 0, n, g, h, _ => absurd rfl h
  | f + 1, n, g, h, hl => by
    have ho := way_ok h
    cases g with
    | zero => exact absurd (List.length_eq_zero_iff.1 (Nat.le_zero.1 hl)) h
    | succ g =>
      rw [way_step t r g n, way_step t r f n, if_pos ho, if_pos ho]
      rw [way_step t r f n, if_pos ho] at h hl
      by_cases hr : n = r
      · rw [if_pos hr, if_pos hr]
      · rw [if_neg hr] at h hl ⊢
        have h1 := cons_of h
        rw [cons_some _ h1, List.length_cons] at hl
        rw [if_neg hr, way_less h1 (by omega)]
theorem way_all {t : Tr} {r : Int} {f : Nat} {n : Int} (h : 16 ≤ f) : wayF t r f n = backT t r n := by
  by_cases hb : backT t r n = []
  · by_cases hf : wayF t r f n = []
    · rw [hf, hb]
    · exact absurd ((way_less (g := 16) hf (way_short t r f n)).symm.trans hb) hf
  · have := way_more hb (f - 16)
    rw [show 16 + (f - 16) = f by omega] at this
    exact this
theorem back_eq (t : Tr) (r n : Int) : backT t r n = if okT t n = true then (if n = r then [n.toNat] else consW n.toNat (backT t r (upT t n))) else [] := by
  rw [← way_all (t := t) (r := r) (n := n) (f := 17) (by omega), way_step, way_all (Nat.le_refl 16)]
theorem back_no {t : Tr} {r n : Int} (h : okT t n = false) : backT t r n = [] := by rw [back_eq, h]; rfl
theorem back_root {t : Tr} {r : Int} (h : okT t r = true) : backT t r r = [r.toNat] := by rw [back_eq, h]; simp
theorem back_on {t : Tr} {r n : Int} (h : okT t n = true) (hr : n ≠ r) : backT t r n = consW n.toNat (backT t r (upT t n)) := by rw [back_eq, if_pos h, if_neg hr]
theorem back_ok {t : Tr} {r n : Int} (h : backT t r n ≠ []) : okT t n = true := way_ok h
theorem back_head {t : Tr} {r n : Int} (h : backT t r n ≠ []) : ∃ l, backT t r n = n.toNat :: l := way_head h
theorem back_tail {t : Tr} {r n : Int} {i x : Nat} (h : (backT t r n)[i]? = some x) : backT t r (x : Int) = (backT t r n).drop i := way_tail h
theorem back_nodup (t : Tr) (r n : Int) : (backT t r n).Nodup := way_nodup t r 16 n
theorem back_each {t : Tr} {r n : Int} {x : Nat} (h : x ∈ backT t r n) : okT t (x : Int) = true ∧ x < 16 := way_each h
theorem back_short (t : Tr) (r n : Int) : (backT t r n).length ≤ 16 := way_short t r 16 n
/-- Each one's node ahead is the next one. -/
theorem back_next {t : Tr} {r n : Int} {i x y : Nat} (h : (backT t r n)[i]? = some x) (h2 : (backT t r n)[i + 1]? = some y) : upT t (x : Int) = (y : Int) := by
  have e1 := back_tail h
  have e2 := back_tail h2
  have hi := (List.getElem?_eq_some_iff.1 h).1
  have hj := (List.getElem?_eq_some_iff.1 h2).1
  have hx : backT t r (x : Int) ≠ [] := by
    rw [e1]; intro e
    have := congrArg List.length e
    rw [List.length_drop, List.length_nil] at this
    omega
  have ho := back_ok hx
  have hr : (x : Int) ≠ r := by
    intro e
    rw [back_eq, if_pos ho, if_pos e] at e1
    have := congrArg List.length e1
    rw [List.length_drop, List.length_cons, List.length_nil] at this
    omega
  rw [back_on ho hr] at hx
  have hu := cons_of hx
  rw [back_on ho hr, cons_some _ hu] at e1
  obtain ⟨l, hl⟩ := back_head hu
  have e3 : ((backT t r n).drop i)[1]? = some y := by rw [List.getElem?_drop]; exact h2
  rw [← e1, hl] at e3
  have e4 : (upT t (x : Int)).toNat = y := by simpa using e3
  obtain ⟨k, hk, _⟩ := ok_nat (back_ok hu)
  omega
/-- It ends at the root. -/
theorem back_last {t : Tr} {r : Int} : ∀ (m : Nat) {n : Int}, (backT t r n).length = m + 1 → ∃ k : Nat, (backT t r n)[m]? = some k ∧ r = (k : Int) ∧ k < 16
  | m, n, h => by
    have hne : backT t r n ≠ [] := fun e => by rw [e] at h; simp at h
    have ho := back_ok hne
    obtain ⟨k, rfl, hk⟩ := ok_nat ho
    by_cases hr : (k : Int) = r
    · have e : backT t r (k : Int) = [k] := by rw [back_eq, if_pos ho, if_pos hr]; rfl
      rw [e] at h ⊢
      obtain rfl : m = 0 := by simpa using h.symm
      exact ⟨k, rfl, hr.symm, hk⟩
    · have e := back_on ho hr
      rw [e] at hne
      have hu := cons_of hne
      rw [e, cons_some _ hu] at h ⊢
      cases m with
      | zero => exact absurd (List.length_eq_zero_iff.1 (by simpa using h)) hu
      | succ m =>
        obtain ⟨q, hq, h1, h2⟩ := back_last m (n := upT t (k : Int)) (by simpa using h)
        exact ⟨q, by simpa using hq, h1, h2⟩
/-- There is no way to what is no node. -/
theorem back_none {t : Tr} {r : Int} (h : nodeB r = false) (n : Int) : backT t r n = [] := by
  cases hl : (backT t r n).length with
  | zero => exact List.length_eq_zero_iff.1 hl
  | succ m =>
    obtain ⟨k, _, rfl, hk⟩ := back_last m hl
    rw [node_nat hk] at h; cases h
theorem back_far {t : Tr} {r : Int} (h : okT t r = false) (n : Int) : backT t r n = [] := by
  cases hl : (backT t r n).length with
  | zero => exact List.length_eq_zero_iff.1 hl
  | succ m =>
    obtain ⟨k, hk, rfl, _⟩ := back_last m hl
    have := (back_each (List.mem_of_getElem? hk)).1
    rw [this] at h; cases h

/-! The loop that goes the way. -/
/-- What was gone, and the node to which it came. -/
def Gone (t : Tr) (r j : Int) (acc : List Nat) (n : Int) : Prop :=
  acc.Nodup ∧ (∀ x ∈ acc, x < 16) ∧ backT t r j = appW acc (backT t r n) ∧ ∀ i x : Nat, acc[i]? = some x → backT t r (x : Int) = appW (acc.drop i) (backT t r n)
theorem Gone.start (t : Tr) (r j : Int) : Gone t r j [] j := by
  refine ⟨List.nodup_nil, by simp, ?_, by simp⟩
  unfold appW
  split
  · assumption
  · rfl
theorem Gone.short {t : Tr} {r j n : Int} {acc : List Nat} (h : Gone t r j acc n) : acc.length ≤ 16 := small_length h.1 h.2.1
theorem Gone.far {t : Tr} {r j n : Int} {acc : List Nat} (h : Gone t r j acc n) (ho : okT t n = false) : backT t r j = [] := by
  rw [h.2.2.1, back_no ho]; rfl
theorem Gone.again {t : Tr} {r j : Int} {n : Nat} {acc : List Nat} (h : Gone t r j acc (n : Int)) (hm : n ∈ acc) : backT t r j = [] := by
  obtain ⟨i, hi⟩ := List.mem_iff_getElem?.1 hm
  have h1 := h.2.2.2 i n hi
  by_cases hb : backT t r (n : Int) = []
  · rw [h.2.2.1, hb]; rfl
  · rw [app_some _ hb] at h1
    have h2 := congrArg List.length h1
    have h3 := (List.getElem?_eq_some_iff.1 hi).1
    rw [List.length_append, List.length_drop] at h2
    omega
theorem Gone.push {t : Tr} {r j : Int} {n : Nat} {acc : List Nat} (h : Gone t r j acc (n : Int)) (ho : okT t (n : Int) = true) (hm : n ∉ acc) (hr : (n : Int) ≠ r) : Gone t r j (acc ++ [n]) (upT t (n : Int)) := by
  have hb := back_on ho hr
  rw [Int.toNat_natCast] at hb
  obtain ⟨h1, h2, h3, h4⟩ := h
  refine ⟨?_, ?_, by rw [h3, hb, app_cons], ?_⟩
  · rw [List.nodup_append]
    refine ⟨h1, by simp, ?_⟩
    intro a ha b hb2 e
    obtain rfl : b = n := by simpa using hb2
    exact hm (e ▸ ha)
  · intro x hx
    rcases List.mem_append.1 hx with hx | hx
    · exact h2 x hx
    · obtain rfl : x = n := by simpa using hx
      obtain ⟨k, hk, hlt⟩ := ok_nat ho
      omega
  · intro i x hi
    by_cases hl : i < acc.length
    · rw [List.getElem?_append_left hl] at hi
      rw [h4 i x hi, hb, app_cons, List.drop_append_of_le_length (by omega)]
    · rw [List.getElem?_append_right (by omega)] at hi
      have h0 : i - acc.length = 0 := by
        have := (List.getElem?_eq_some_iff.1 hi).1
        simp only [List.length_cons, List.length_nil] at this; omega
      rw [h0] at hi
      obtain rfl : n = x := by simpa using hi
      rw [show i = acc.length by omega, List.drop_left, hb]
      rfl
theorem Gone.done {t : Tr} {r j : Int} {n : Nat} {acc : List Nat} (h : Gone t r j acc (n : Int)) (ho : okT t (n : Int) = true) (hr : (n : Int) = r) : backT t r j = acc ++ [n] := by
  subst hr
  rw [h.2.2.1, back_root ho, app_some _ (by simp)]
  rfl
theorem Gone.more {t : Tr} {r j : Int} {n : Nat} {acc : List Nat} (h : Gone t r j acc (n : Int)) (ho : okT t (n : Int) = true) (hm : n ∉ acc) : acc.length < 16 := by
  have : (acc ++ [n]).length ≤ 16 := small_length (by
    rw [List.nodup_append]
    refine ⟨h.1, by simp, ?_⟩
    intro a ha b hb2 e
    obtain rfl : b = n := by simpa using hb2
    exact hm (e ▸ ha)) (by
    intro x hx
    rcases List.mem_append.1 hx with hx | hx
    · exact h.2.1 x hx
    · obtain rfl : x = n := by simpa using hx
      obtain ⟨k, hk, hlt⟩ := ok_nat ho
      omega)
  rw [List.length_append, List.length_cons, List.length_nil] at this
  omega

/-! A list's nodes as a set. -/
theorem with_lim {s : Int} {n : Nat} (h : 0 ≤ s ∧ s < 65536) (hn : n < 16) : 0 ≤ withN s n ∧ withN s n < 65536 := by
  unfold withN
  split
  · exact h
  · rename_i hb
    have hpow : ((2 ^ n : Nat) : Int) = (2 : Int) ^ n := by simp
    have h1 : s.toNat / 2 ^ n % 2 = 0 := by
      have e : (s.toNat : Int) = s := Int.toNat_of_nonneg h.1
      rw [← e, ← hpow] at hb
      have : ¬ (s.toNat / 2 ^ n % 2 = 1) := by omega
      omega
    have h2 := low_room s.toNat n (by omega) hn h1
    rw [← hpow]
    generalize 2 ^ n = p at *
    omega
theorem set_lim (p : Nat → Bool) : ∀ k, k ≤ 16 → 0 ≤ setF p k ∧ setF p k < 65536
  | 0, _ => ⟨Int.le_refl _, by show (0 : Int) < 65536; decide⟩
  | k + 1, hk => by
    have ih := set_lim p k (by omega)
    rw [set_step]
    split
    · exact with_lim ih (by omega)
    · exact ih
theorem set_ext {a b : Int} (ha : 0 ≤ a ∧ a < 65536) (hb : 0 ≤ b ∧ b < 65536) (h : ∀ j, j < 16 → hasN a j = hasN b j) : a = b := by
  have e : lowN a = lowN b := by
    apply Nat.eq_of_testBit_eq
    intro i
    by_cases hi : i < 16
    · rw [← has_bit a i hi, ← has_bit b i hi, h i hi]
    · have hp : 65536 ≤ 2 ^ i := Nat.le_trans (by decide : 65536 ≤ 2 ^ 16) (Nat.pow_le_pow_right (by decide) (by omega))
      rw [Nat.testBit_lt_two_pow (Nat.lt_of_lt_of_le (lowN_lt a) hp), Nat.testBit_lt_two_pow (Nat.lt_of_lt_of_le (lowN_lt b) hp)]
  have e1 : lowN a = (a % 65536).toNat := rfl
  have e2 : lowN b = (b % 65536).toNat := rfl
  rw [e1, e2] at e
  omega
/-- The nodes of a list. -/
def setL (l : List Nat) : Int := setF (fun j => l.contains j) 16
theorem setL_has (l : List Nat) {j : Nat} (hj : j < 16) : hasN (setL l) j = l.contains j := by
  unfold setL
  rw [set_has _ j hj 16 (Nat.le_refl _), decide_eq_true hj, Bool.true_and]
theorem setL_lim (l : List Nat) : 0 ≤ setL l ∧ setL l < 65536 := set_lim _ 16 (Nat.le_refl _)
theorem setL_nil : setL [] = 0 := by decide +kernel
theorem setL_push (l : List Nat) {n : Nat} (hn : n < 16) : withN (setL l) n = setL (l ++ [n]) := by
  refine set_ext (with_lim (setL_lim l) hn) (setL_lim _) fun j hj => ?_
  rw [setL_has _ hj, List.contains_append]
  by_cases e : j = n
  · subst e
    rw [has_with _ _ hj]; simp
  · rw [has_with_other _ _ _ hn hj e, setL_has _ hj]
    simp [e]
theorem setL_eq {l m : List Nat} (h : ∀ j, j < 16 → (j ∈ l ↔ j ∈ m)) : setL l = setL m := by
  refine set_ext (setL_lim _) (setL_lim _) fun j hj => ?_
  rw [setL_has _ hj, setL_has _ hj, Bool.eq_iff_iff]
  simp [h j hj]
theorem setF_setL (p : Nat → Bool) : setF p 16 = setL ((List.range 16).filter p) := by
  refine set_ext (set_lim p 16 (Nat.le_refl _)) (setL_lim _) fun j hj => ?_
  rw [set_has p j hj 16 (Nat.le_refl _), setL_has _ hj, Bool.eq_iff_iff]
  simp [hj]
theorem path_length (t : Tr) (r j : Int) : (pathT t r j).length = (backT t r j).length := by simp [pathT]
theorem path_empty (t : Tr) (r j : Int) : (pathT t r j).isEmpty = (backT t r j).isEmpty := by simp [pathT]
theorem path_short (t : Tr) (r j : Int) : (pathT t r j).length ≤ 16 := by rw [path_length]; exact back_short t r j
end WakF
end Go.Proofs.Ytjpbglbbeepmnaa
