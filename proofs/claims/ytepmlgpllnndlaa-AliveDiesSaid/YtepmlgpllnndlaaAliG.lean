/- Numbers of law 21: when a hello is sent, how many were, how long nothing was heard. No program is named here. -/
import Derived.Test.YtepmlgpllnndlaaAliF
namespace Go.Proofs.Ytepmlgpllnndlaa
open Go.RowKit
theorem ali_rem (t : Int) (n : Nat) (h0 : 0 < n) (h1 : n ≤ 1000) : ∃ q : Nat, q < n ∧ wrap64 ((IntKind.u64.wrap t).tmod (n : Int)) = (q : Int) := by
  have hu : 0 ≤ IntKind.u64.wrap t := by rw [IntKind.wrap_u64]; omega
  rw [Int.tmod_eq_emod_of_nonneg hu]
  have h2 : 0 ≤ IntKind.u64.wrap t % (n : Int) := Int.emod_nonneg _ (by omega)
  have h3 : IntKind.u64.wrap t % (n : Int) < (n : Int) := Int.emod_lt_of_pos _ (by omega)
  refine ⟨(IntKind.u64.wrap t % (n : Int)).toNat, by omega, ?_⟩
  rw [IntWalk.wrap64_in _ (by omega)]
  omega
theorem mod_step (m H : Nat) (h : 1 ≤ H) : (m % H + 1 = H ∧ (m + 1) % H = 0) ∨ (m % H + 1 < H ∧ (m + 1) % H = m % H + 1) := by
  have e := Nat.div_add_mod m H
  have l := Nat.mod_lt m h
  have e2 : (m + 1) % H = (m % H + 1) % H := by
    conv => lhs; rw [← e, Nat.add_assoc, Nat.mul_add_mod]
  rcases Nat.lt_or_ge (m % H + 1) H with h1 | h1
  · exact .inr ⟨h1, by rw [e2, Nat.mod_eq_of_lt h1]⟩
  · have h2 : m % H + 1 = H := by omega
    exact .inl ⟨h2, by rw [e2, h2, Nat.mod_self]⟩
/-- In how many ticks a hello is sent, ahead of tick k. -/
def wtN (H k : Nat) : Nat := if k ≤ 1 then 0 else H - (k - 2) % H
/-- How many hellos were sent ahead of tick k. -/
def cnN (H k : Nat) : Nat := if k ≤ 1 then 0 else (k - 2) / H + 1
theorem wt_step (H j : Nat) (h : 1 ≤ H) : waitF ((wtN H (j + 1) : Nat) : Int) (H : Int) = ((wtN H (j + 2) : Nat) : Int) := by
  unfold waitF wtN
  cases j with
  | zero => simp; omega
  | succ m =>
    rw [if_neg (show ¬ m + 1 + 1 ≤ 1 by omega), if_neg (show ¬ m + 1 + 2 ≤ 1 by omega), show m + 1 + 1 - 2 = m by omega, show m + 1 + 2 - 2 = m + 1 by omega]
    rcases mod_step m H h with ⟨h1, h2⟩ | ⟨h1, h2⟩
    · rw [h2, if_pos (by omega)]; omega
    · rw [h2, if_neg (by omega)]; omega
theorem due_step (H j : Nat) (h : 1 ≤ H) : dueF 2 ((wtN H (j + 1) : Nat) : Int) = decide (j % H = 0) := by
  unfold dueF wtN
  cases j with
  | zero => simp
  | succ m =>
    rw [if_neg (show ¬ m + 1 + 1 ≤ 1 by omega), show m + 1 + 1 - 2 = m by omega]
    rcases mod_step m H h with ⟨h1, h2⟩ | ⟨h1, h2⟩
    · rw [h2]; simp; omega
    · rw [h2]; simp; omega
theorem cn_step (H j : Nat) (h : 1 ≤ H) : cnN H (j + 2) = cnN H (j + 1) + (if j % H = 0 then 1 else 0) := by
  unfold cnN
  cases j with
  | zero => simp
  | succ m =>
    rw [if_neg (show ¬ m + 1 + 1 ≤ 1 by omega), if_neg (show ¬ m + 1 + 2 ≤ 1 by omega), show m + 1 + 1 - 2 = m by omega, show m + 1 + 2 - 2 = m + 1 by omega]
    have e := Nat.div_add_mod m H
    have e' := Nat.div_add_mod (m + 1) H
    rcases mod_step m H h with ⟨h1, h2⟩ | ⟨h1, h2⟩
    · rw [if_pos h2]
      have e3 : H * ((m + 1) / H) = H * (m / H + 1) := by rw [Nat.mul_add, Nat.mul_one]; omega
      have := Nat.eq_of_mul_eq_mul_left h e3
      omega
    · rw [if_neg (by omega)]
      have e3 : H * ((m + 1) / H) = H * (m / H) := by omega
      have := Nat.eq_of_mul_eq_mul_left h e3
      omega
theorem quiet_step (E D j : Nat) (h : 1 ≤ E) (hd : E < D) : quietF ((j % E : Nat) : Int) (D : Int) = ((j % E + 1 : Nat) : Int) ∧ decide ((D : Int) ≤ ((j % E + 1 : Nat) : Int)) = false := by
  have l := Nat.mod_lt j h
  constructor
  · unfold quietF
    rw [if_neg (by omega)]; omega
  · exact decide_eq_false (by omega)
theorem heard_step (E j : Nat) (h : 1 ≤ E) : (if (j + 1) % E = 0 then 0 else j % E + 1) = (j + 1) % E := by
  rcases mod_step j E h with ⟨h1, h2⟩ | ⟨h1, h2⟩
  · rw [h2]; simp
  · rw [h2, if_neg (by omega)]
theorem wt_le (H k : Nat) (h : H ≤ 4) : wtN H k ≤ 4 := by
  unfold wtN
  split <;> omega
theorem cn_le (H k : Nat) (hk : k ≤ 61) : cnN H k ≤ 60 := by
  unfold cnN
  split
  · omega
  · have := Nat.div_le_self (k - 2) H
    omega
/-- Ahead of the last tick and behind it: nothing heard from its beginning on. -/
theorem last_step (D j : Nat) (hj : j + 1 ≤ D) : quietF ((j : Nat) : Int) (D : Int) = ((j + 1 : Nat) : Int) ∧ decide ((D : Int) ≤ ((j + 1 : Nat) : Int)) = decide (j + 1 = D) := by
  constructor
  · unfold quietF
    rw [if_neg (by omega)]; omega
  · by_cases h : j + 1 = D
    · rw [decide_eq_true h]; exact decide_eq_true (by omega)
    · rw [decide_eq_false h]; exact decide_eq_false (by omega)
theorem wait_le (t H : Int) (ht : t ≤ 10) (hH : H ≤ 4) : waitF t H ≤ 10 := by
  unfold waitF
  split <;> omega
theorem quo_in (H : Nat) : Int.tdiv 59 (H : Int) = ((59 / H : Nat) : Int) := by
  rw [Int.tdiv_eq_ediv_of_nonneg (by omega)]
  simp
theorem mod_in (j H : Nat) : Int.tmod (j : Int) (H : Int) = ((j % H : Nat) : Int) := by
  rw [Int.tmod_eq_emod_of_nonneg (by omega)]
  simp
end Go.Proofs.Ytepmlgpllnndlaa
