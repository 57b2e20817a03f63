/- Plain functions of package nodes, part two: least, greatest, next, subsets. No program is named here. -/
import Derived.Test.YtjpbglbbeepmnaaNodesF
namespace Go.Proofs.Ytjpbglbbeepmnaa
namespace NodesF

/-- The first node behind n, round, of the last f steps of sixteen; -1 of none. -/
def nextG (m n : Nat) : Nat → Int
  | 0 => -1
  | f + 1 => if m / 2 ^ ((n + (16 - f)) % 16) % 2 = 1 then (((n + (16 - f)) % 16 : Nat) : Int) else nextG m n f
theorem next_step (m n i : Nat) (h1 : 1 ≤ i) (h : i ≤ 16) : nextG m n (17 - i) = if m / 2 ^ ((n + i) % 16) % 2 = 1 then (((n + i) % 16 : Nat) : Int) else nextG m n (17 - (i + 1)) := by
  have e : 17 - i = (17 - (i + 1)) + 1 := by omega
  have e2 : 16 - (17 - (i + 1)) = i := by omega
  rw [e, nextG, e2]
theorem next_spec (m n f : Nat) : (nextG m n f = -1 ∧ ∀ i, 16 - f < i → i ≤ 16 → m / 2 ^ ((n + i) % 16) % 2 = 0) ∨ (∃ a : Nat, nextG m n f = (a : Int) ∧ a < 16 ∧ m / 2 ^ a % 2 = 1) := by
  induction f with
  | zero => exact .inl ⟨rfl, fun i h1 h2 => by omega⟩
  | succ f ih =>
    by_cases hb : m / 2 ^ ((n + (16 - f)) % 16) % 2 = 1
    · exact .inr ⟨_, by rw [nextG, if_pos hb], Nat.mod_lt _ (by omega), hb⟩
    · rcases ih with ⟨h1, h2⟩ | h
      · refine .inl ⟨by rw [nextG, if_neg hb]; exact h1, fun i hi1 hi2 => ?_⟩
        by_cases hi : i = 16 - f
        · subst hi; omega
        · exact h2 i (by omega) hi2
      · exact .inr (by rw [nextG, if_neg hb]; exact h)
theorem next_low (m k : Nat) (hk : k ≤ 16) : (nodesN m k = [] ∧ nextG m 15 k = -1) ∨ (∃ a l, nodesN m k = a :: l ∧ nextG m 15 k = (a : Int)) := by
  induction k with
  | zero => exact .inl ⟨rfl, rfl⟩
  | succ k ih =>
    have e : (15 + (16 - k)) % 16 = 15 - k := by omega
    simp only [nodesN, nextG]
    rw [e]
    by_cases hb : m / 2 ^ (15 - k) % 2 = 1
    · rw [if_pos hb, if_pos hb]; exact .inr ⟨_, _, rfl, rfl⟩
    · rw [if_neg hb, if_neg hb]; exact ih (by omega)
theorem next_has (m n : Nat) (hn : n < 16) (h : nodesN m 16 ≠ []) : ∃ a : Nat, nextG m n 16 = (a : Int) ∧ a < 16 ∧ m / 2 ^ a % 2 = 1 := by
  rcases next_spec m n 16 with ⟨_, h2⟩ | h2
  · exfalso
    obtain ⟨a, l, hl⟩ := List.exists_cons_of_ne_nil h
    obtain ⟨_, h16, hb⟩ := nodes_mem m 16 (by omega) a (by rw [hl]; simp)
    have h3 := h2 ((a + 15 - n) % 16 + 1) (by omega) (by omega)
    have e : (n + ((a + 15 - n) % 16 + 1)) % 16 = a := by omega
    rw [e] at h3; omega
  · exact h2

/-- The nodes below k. -/
def preN (m : Nat) : Nat → List Nat
  | 0 => []
  | k + 1 => if m / 2 ^ k % 2 = 1 then preN m k ++ [k] else preN m k
theorem pre_whole (m k : Nat) (hk : k ≤ 16) : preN m k ++ nodesN m (16 - k) = nodesN m 16 := by
  induction k with
  | zero => rfl
  | succ k ih =>
    have h := ih (by omega)
    rw [nodes_step m k (by omega)] at h
    simp only [preN]
    by_cases hb : m / 2 ^ k % 2 = 1
    · rw [if_pos hb] at h ⊢; rw [← h]; simp
    · rw [if_neg hb] at h ⊢; exact h
theorem pre_all (m : Nat) : preN m 16 = nodesN m 16 := by
  have := pre_whole m 16 (by omega)
  simpa [nodesN] using this
theorem pop_top (k m : Nat) : popN (k + 1) m = popN k m + m / 2 ^ k % 2 := by
  induction k generalizing m with
  | zero => simp [popN]
  | succ k ih =>
    have e : m / 2 / 2 ^ k = m / 2 ^ (k + 1) := by rw [Nat.div_div_eq_div_mul, Nat.mul_comm 2, ← Nat.pow_succ]
    have h1 : popN (k + 1 + 1) m = m % 2 + popN (k + 1) (m / 2) := rfl
    have h2 : popN (k + 1) m = m % 2 + popN k (m / 2) := rfl
    rw [h1, ih (m / 2), h2, e]; omega
theorem pre_length (m k : Nat) : (preN m k).length = popN k m := by
  induction k with
  | zero => rfl
  | succ k ih =>
    rw [pop_top, preN]
    split
    · rw [List.length_append, ih]; simp; omega
    · rw [ih]; omega
theorem nodes_pop (m : Nat) : (nodesN m 16).length = popN 16 m := by rw [← pre_all, pre_length]

/-- The greatest node below k, or -1. -/
def highG (m : Nat) : Nat → Int
  | 0 => -1
  | k + 1 => if m / 2 ^ k % 2 = 1 then (k : Int) else highG m k
theorem high_pre (m k : Nat) : (preN m k = [] ∧ highG m k = -1) ∨ (∃ (a : Nat) (l : List Nat), preN m k = l ++ [a] ∧ highG m k = (a : Int)) := by
  induction k with
  | zero => exact .inl ⟨rfl, rfl⟩
  | succ k ih =>
    simp only [preN, highG]
    by_cases hb : m / 2 ^ k % 2 = 1
    · rw [if_pos hb, if_pos hb]; exact .inr ⟨_, _, rfl, rfl⟩
    · rw [if_neg hb, if_neg hb]; exact ih
theorem high_zero (k : Nat) : highG 0 k = -1 := by
  induction k with
  | zero => rfl
  | succ k ih => rw [highG, if_neg (by simp), ih]
theorem high_add (m k : Nat) : highG m (8 + k) = if highG (m / 256) k = -1 then highG m 8 else highG (m / 256) k + 8 := by
  induction k with
  | zero => simp [highG]
  | succ k ih =>
    have e : m / 2 ^ (8 + k) = m / 256 / 2 ^ k := by rw [Nat.div_div_eq_div_mul, Nat.pow_add]
    have e2 : highG m (8 + (k + 1)) = if m / 2 ^ (8 + k) % 2 = 1 then ((8 + k : Nat) : Int) else highG m (8 + k) := rfl
    rw [e2, e, highG]
    by_cases hb : m / 256 / 2 ^ k % 2 = 1
    · rw [if_pos hb, if_pos hb, if_neg (by omega)]; omega
    · rw [if_neg hb, if_neg hb]; exact ih
theorem high8_pos : ∀ q : Fin 256, q.val ≠ 0 → 0 ≤ highG q.val 8 := by decide +kernel
theorem high_wide (m : Nat) (hm : m < 65536) (h : 256 ≤ m) : highG m 16 = highG (m / 256) 8 + 8 := by
  have e := high_add m 8
  have h2 := high8_pos ⟨m / 256, by omega⟩ (by simp only; omega)
  simp only at h2
  rw [if_neg (by omega)] at e
  exact e
theorem high_small (m : Nat) (h : m < 256) : highG m 16 = highG m 8 := by
  have e := high_add m 8
  have e0 : m / 256 = 0 := by omega
  rw [e0, high_zero, if_pos rfl] at e
  exact e

/-! ### Subsets -/

theorem and_bits (a b x y : Nat) (hx : x < 2) (hy : y < 2) : (2 * a + x) &&& (2 * b + y) = 2 * (a &&& b) + x * y := by
  have h1 : ((2 * a + x) &&& (2 * b + y)) / 2 = a &&& b := by
    rw [Nat.and_div_two]; congr 1 <;> omega
  have h2 : ((2 * a + x) &&& (2 * b + y)) % 2 = x * y := by
    have h3 := Nat.and_mod_two_pow (a := 2 * a + x) (b := 2 * b + y) (n := 1)
    simp only [Nat.pow_one] at h3
    rw [h3]
    have ex : (2 * a + x) % 2 = x := by omega
    have ey : (2 * b + y) % 2 = y := by omega
    rw [ex, ey]
    rcases (by omega : x = 0 ∨ x = 1) with rfl | rfl <;> rcases (by omega : y = 0 ∨ y = 1) with rfl | rfl <;> rfl
  omega

/-- The i-th set within the lowest k bits of w, rising. -/
def subN : Nat → Nat → Nat → Nat
  | 0, _, _ => 0
  | k + 1, w, i => if w % 2 = 1 then i % 2 + 2 * subN k (w / 2) (i / 2) else 2 * subN k (w / 2) i
theorem sub_zero (k w : Nat) : subN k w 0 = 0 := by
  induction k generalizing w with
  | zero => rfl
  | succ k ih => simp only [subN]; split <;> simp [ih]
theorem sub_lt (k w i : Nat) : subN k w i < 2 ^ k := by
  induction k generalizing w i with
  | zero => simp [subN]
  | succ k ih =>
    have h1 := ih (w / 2) (i / 2)
    have h2 := ih (w / 2) i
    rw [Nat.pow_succ]
    simp only [subN]; split <;> omega
theorem sub_and (k w i : Nat) : subN k w i &&& w = subN k w i := by
  induction k generalizing w i with
  | zero => simp [subN]
  | succ k ih =>
    have hw : w = 2 * (w / 2) + w % 2 := by omega
    simp only [subN]
    split
    · rename_i h
      have e := and_bits (subN k (w / 2) (i / 2)) (w / 2) (i % 2) (w % 2) (by omega) (by omega)
      rw [← hw, ih, h] at e
      rw [Nat.add_comm, e]; omega
    · rename_i h
      have e := and_bits (subN k (w / 2) i) (w / 2) 0 (w % 2) (by omega) (by omega)
      rw [← hw, ih] at e
      simpa using e
theorem sub_last (k w : Nat) (hw : w < 2 ^ k) : subN k w (2 ^ popN k w - 1) = w := by
  induction k generalizing w with
  | zero =>
    obtain rfl : w = 0 := by simpa using hw
    rfl
  | succ k ih =>
    rw [Nat.pow_succ] at hw
    have h := ih (w / 2) (by omega)
    simp only [subN, popN]
    split
    · rename_i hb
      have hp := Nat.two_pow_pos (popN k (w / 2))
      have e1 : 2 ^ (w % 2 + popN k (w / 2)) = 2 * 2 ^ popN k (w / 2) := by rw [hb, Nat.pow_add, Nat.pow_one]
      rw [e1]
      have e2 : (2 * 2 ^ popN k (w / 2) - 1) % 2 = 1 := by omega
      have e3 : (2 * 2 ^ popN k (w / 2) - 1) / 2 = 2 ^ popN k (w / 2) - 1 := by omega
      rw [e2, e3, h]; omega
    · rename_i hb
      have e0 : w % 2 = 0 := by omega
      rw [e0, Nat.zero_add, h]; omega
theorem sub_rise (k w i j : Nat) (hij : i < j) (hj : j < 2 ^ popN k w) : subN k w i < subN k w j := by
  induction k generalizing w i j with
  | zero =>
    simp [popN] at hj
    omega
  | succ k ih =>
    simp only [popN] at hj
    simp only [subN]
    split
    · rename_i hb
      rw [hb, Nat.pow_add, Nat.pow_one] at hj
      by_cases h2 : i / 2 = j / 2
      · rw [h2]; omega
      · have := ih (w / 2) (i / 2) (j / 2) (by omega) (by omega)
        omega
    · rename_i hb
      have e0 : w % 2 = 0 := by omega
      rw [e0, Nat.zero_add] at hj
      have := ih (w / 2) i j hij hj
      omega

/-- Taking away w and one more leaves what was there. -/
theorem keep_bits (k s w : Nat) (hs : s < 2 ^ k) (hw : w < 2 ^ k) (h : s &&& w = s) : (s + 2 ^ k - 1 - w) % 2 ^ k &&& w = s := by
  induction k generalizing s w with
  | zero =>
    obtain rfl : w = 0 := by simpa using hw
    obtain rfl : s = 0 := by simpa using hs
    simp
  | succ k ih =>
    rw [Nat.pow_succ] at hs hw ⊢
    have es : s = 2 * (s / 2) + s % 2 := by omega
    have ew : w = 2 * (w / 2) + w % 2 := by omega
    have ha := and_bits (s / 2) (w / 2) (s % 2) (w % 2) (by omega) (by omega)
    rw [← es, ← ew, h] at ha
    have hx : s % 2 * (w % 2) = s % 2 := by
      rcases (by omega : s % 2 = 0 ∨ s % 2 = 1) with e | e <;> rcases (by omega : w % 2 = 0 ∨ w % 2 = 1) with f | f <;> rw [e, f] at ha ⊢ <;> omega
    have h2 : s / 2 &&& w / 2 = s / 2 := by omega
    have hi := ih (s / 2) (w / 2) (by omega) (by omega) h2
    have hp := Nat.two_pow_pos k
    generalize hP : 2 ^ k = P at *
    -- the lower bit, and the rest
    have hle : s / 2 + P - 1 - w / 2 < 2 * P := by omega
    have hdiv : ((s + P * 2 - 1 - w) % (P * 2)) = 2 * ((s / 2 + P - 1 - w / 2) % P) + (1 + s % 2 - w % 2) % 2 := by
      have hc : s % 2 ≤ w % 2 := by
        rcases (by omega : s % 2 = 0 ∨ s % 2 = 1) with e | e <;> rcases (by omega : w % 2 = 0 ∨ w % 2 = 1) with f | f <;> rw [e, f] at hx <;> omega
      by_cases hq : s / 2 + P - 1 - w / 2 < P
      · rw [Nat.mod_eq_of_lt hq]
        rw [Nat.mod_eq_of_lt (by omega)]
        omega
      · have e1 : (s / 2 + P - 1 - w / 2) % P = s / 2 + P - 1 - w / 2 - P := by
          rw [Nat.mod_eq_sub_mod (by omega), Nat.mod_eq_of_lt (by omega)]
        have e2 : (s + P * 2 - 1 - w) % (P * 2) = s + P * 2 - 1 - w - P * 2 := by
          rw [Nat.mod_eq_sub_mod (by omega), Nat.mod_eq_of_lt (by omega)]
        rw [e1, e2]; omega
    have hb := and_bits ((s / 2 + P - 1 - w / 2) % P) (w / 2) ((1 + s % 2 - w % 2) % 2) (w % 2) (by omega) (by omega)
    rw [← hdiv, ← ew, hi] at hb
    rw [hb]
    rcases (by omega : s % 2 = 0 ∨ s % 2 = 1) with e | e <;> rcases (by omega : w % 2 = 0 ∨ w % 2 = 1) with f | f <;> rw [e, f] at hx ⊢ <;> omega
/-- The next one. -/
theorem sub_next (k w i : Nat) (hw : w < 2 ^ k) (hi : i + 1 < 2 ^ popN k w) : (subN k w i + 2 ^ k - w) % 2 ^ k &&& w = subN k w (i + 1) := by
  induction k generalizing w i with
  | zero => simp [popN] at hi
  | succ k ih =>
    have hw2 : w / 2 < 2 ^ k := by rw [Nat.pow_succ] at hw; omega
    have ew : w = 2 * (w / 2) + w % 2 := by omega
    have hp := Nat.two_pow_pos k
    simp only [popN] at hi
    by_cases hb : w % 2 = 1
    · rw [hb, Nat.pow_add, Nat.pow_one] at hi
      have hs : subN (k + 1) w i = i % 2 + 2 * subN k (w / 2) (i / 2) := by simp only [subN]; rw [if_pos hb]
      have hs1 : subN (k + 1) w (i + 1) = (i + 1) % 2 + 2 * subN k (w / 2) ((i + 1) / 2) := by simp only [subN]; rw [if_pos hb]
      have hlt := sub_lt k (w / 2) (i / 2)
      rw [hs, hs1, Nat.pow_succ]
      by_cases hodd : i % 2 = 1
      · have h2 := ih (w / 2) (i / 2) hw2 (by omega)
        have e1 : (i + 1) / 2 = i / 2 + 1 := by omega
        have e2 : (i + 1) % 2 = 0 := by omega
        rw [e1, e2, hodd, ← h2]
        generalize subN k (w / 2) (i / 2) = s at *
        generalize 2 ^ k = P at *
        have hdiv : (1 + 2 * s + P * 2 - w) % (P * 2) = 2 * ((s + P - w / 2) % P) + 0 := by
          have : 1 + 2 * s + P * 2 - w = 2 * (s + P - w / 2) := by omega
          rw [this, Nat.mul_comm P 2, Nat.mul_mod_mul_left]; omega
        have hx := and_bits ((s + P - w / 2) % P) (w / 2) 0 (w % 2) (by omega) (by omega)
        rw [← hdiv, ← ew] at hx
        rw [hx]; omega
      · have e0 : i % 2 = 0 := by omega
        have e1 : (i + 1) / 2 = i / 2 := by omega
        have e2 : (i + 1) % 2 = 1 := by omega
        have h2 := keep_bits k (subN k (w / 2) (i / 2)) (w / 2) hlt hw2 (sub_and k (w / 2) (i / 2))
        rw [e1, e2, e0]
        generalize subN k (w / 2) (i / 2) = s at *
        generalize 2 ^ k = P at *
        have hdiv : (0 + 2 * s + P * 2 - w) % (P * 2) = 2 * ((s + P - 1 - w / 2) % P) + 1 := by
          by_cases hq : s + P - 1 - w / 2 < P
          · rw [Nat.mod_eq_of_lt hq, Nat.mod_eq_of_lt (by omega)]; omega
          · have e3 : (s + P - 1 - w / 2) % P = s + P - 1 - w / 2 - P := by rw [Nat.mod_eq_sub_mod (by omega), Nat.mod_eq_of_lt (by omega)]
            have e4 : (0 + 2 * s + P * 2 - w) % (P * 2) = 0 + 2 * s + P * 2 - w - P * 2 := by rw [Nat.mod_eq_sub_mod (by omega), Nat.mod_eq_of_lt (by omega)]
            rw [e3, e4]; omega
        have hx := and_bits ((s + P - 1 - w / 2) % P) (w / 2) 1 (w % 2) (by omega) (by omega)
        rw [← hdiv, ← ew, h2] at hx
        rw [hx, hb]; omega
    · have e0 : w % 2 = 0 := by omega
      rw [e0, Nat.zero_add] at hi
      have hs : subN (k + 1) w i = 2 * subN k (w / 2) i := by simp only [subN]; rw [if_neg hb]
      have hs1 : subN (k + 1) w (i + 1) = 2 * subN k (w / 2) (i + 1) := by simp only [subN]; rw [if_neg hb]
      have h2 := ih (w / 2) i hw2 hi
      rw [hs, hs1, Nat.pow_succ, ← h2]
      generalize subN k (w / 2) i = s at *
      generalize 2 ^ k = P at *
      have hdiv : (2 * s + P * 2 - w) % (P * 2) = 2 * ((s + P - w / 2) % P) + 0 := by
        have : 2 * s + P * 2 - w = 2 * (s + P - w / 2) := by omega
        rw [this, Nat.mul_comm P 2, Nat.mul_mod_mul_left]; omega
      have hx := and_bits ((s + P - w / 2) % P) (w / 2) 0 (w % 2) (by omega) (by omega)
      rw [← hdiv, ← ew] at hx
      rw [hx]; omega

/-- The first many sets within w. -/
def subsL (w many : Nat) : List Nat := (List.range (min many (2 ^ popN 16 w))).map (subN 16 w)
theorem subs_length (w many : Nat) : (subsL w many).length = min many (2 ^ popN 16 w) := by simp [subsL]
/-- (sub - w) & w, as an int has it. -/
theorem next_i64 (s w : Nat) (hs : s < 65536) (hw : w < 65536) : bits BinOp.and .i64 ((s : Int) - (w : Int)) (w : Int) = (((s + 2 ^ 16 - w) % 2 ^ 16 &&& w : Nat) : Int) := by
  show IntKind.i64.wrap ((BitVec.ofInt 64 ((s : Int) - (w : Int)) &&& BitVec.ofInt 64 (w : Int)).toNat : Nat) = _
  rw [BitVec.toNat_and, BitVec.toNat_ofInt, BitVec.toNat_ofInt, IntKind.wrap_i64]
  have e64 : ((2 ^ 64 : Nat) : Int) = 18446744073709551616 := by decide
  rw [e64]
  have e1 : ((w : Int) % 18446744073709551616).toNat = w := by omega
  rw [e1]
  have e2 : (((s : Int) - (w : Int)) % 18446744073709551616).toNat &&& w = ((((s : Int) - (w : Int)) % 18446744073709551616).toNat % 2 ^ 16) &&& w := by
    have h := Nat.and_mod_two_pow (a := (((s : Int) - (w : Int)) % 18446744073709551616).toNat) (b := w) (n := 16)
    have hm : w % 2 ^ 16 = w := Nat.mod_eq_of_lt hw
    rw [hm] at h
    rw [← h]
    exact (Nat.mod_eq_of_lt (Nat.lt_of_le_of_lt Nat.and_le_right hw)).symm
  have e3 : (((s : Int) - (w : Int)) % 18446744073709551616).toNat % 2 ^ 16 = (s + 2 ^ 16 - w) % 2 ^ 16 := by omega
  rw [e2, e3]
  have hle : (s + 2 ^ 16 - w) % 2 ^ 16 &&& w ≤ w := Nat.and_le_right
  omega
theorem andNot_sub (s w : Nat) (hs : s < 65536) (hw : w < 65536) (h : s &&& w = s) : bits BinOp.andNot .i64 (s : Int) (w : Int) = 0 := by
  show IntKind.i64.wrap ((BitVec.ofInt 64 (s : Int) &&& ~~~ BitVec.ofInt 64 (w : Int)).toNat : Nat) = 0
  have e : BitVec.ofInt 64 (s : Int) &&& ~~~ BitVec.ofInt 64 (w : Int) = 0#64 := by
    apply BitVec.eq_of_toNat_eq
    have e64 : ((2 ^ 64 : Nat) : Int) = 18446744073709551616 := by decide
    rw [BitVec.toNat_and, BitVec.toNat_not, BitVec.toNat_ofInt, BitVec.toNat_ofInt, e64]
    have e1 : ((w : Int) % 18446744073709551616).toNat = w := by omega
    have e2 : ((s : Int) % 18446744073709551616).toNat = s := by omega
    rw [e1, e2]
    apply Nat.eq_of_testBit_eq
    intro i
    have es : 2 ^ 64 - 1 - w = 2 ^ 64 - (w + 1) := by omega
    rw [es, Nat.testBit_and, Nat.testBit_two_pow_sub_succ (by omega)]
    have hb := congrArg (fun x => x.testBit i) h
    simp only [Nat.testBit_and] at hb
    cases hx : s.testBit i <;> cases hy : w.testBit i <;> simp_all
  rw [e]; rfl

end NodesF
end Go.Proofs.Ytjpbglbbeepmnaa
