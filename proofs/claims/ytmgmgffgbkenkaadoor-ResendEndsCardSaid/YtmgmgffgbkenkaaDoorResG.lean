/- What a part that nobody acknowledges comes to, tick by tick: plain data, no program. -/
import Derived.Test.YtmgmgffgbkenkaaDoorResF
import Derived.IntWalk
namespace Go.Proofs.YtmgmgffgbkenkaaDoor
open Go.RowKit

/-- What is there of a part ahead of tick k, by R ticks and T tries: n times it was sent. -/
def St (R T : Nat) (S : Int) (y : ByteArray) (k : Nat) (x : Snt) (n : Nat) : Prop :=
  x.s = S ∧ x.y = y ∧ ((∃ q r : Nat, r < R ∧ q < T ∧ k = q * R + r + 1 ∧ x.t = (q : Int) + 1 ∧ x.l = (R : Int) - (r : Int) ∧ n = q + 1) ∨ (k = R * T + 1 ∧ n = T))
theorem st_start (R T : Nat) (S : Int) (y : ByteArray) (hR : 1 ≤ R) (hT : 1 ≤ T) : St R T S y 1 ⟨S, y, 1, (R : Int)⟩ 1 :=
  ⟨rfl, rfl, .inl ⟨0, 0, by omega, by omega, by omega, rfl, by show (R : Int) = _; omega, rfl⟩⟩
theorem st_step {R T k n : Nat} {S : Int} {y : ByteArray} {x : Snt} (hR : R ≤ 1000) (hT : T ≤ 1000) (h : St R T S y k x n) (hk : k ≤ R * T) :
    (k ≠ R * T ∧ dead1 (T : Int) x = false ∧ again1 (T : Int) x = [] ∧ St R T S y (k + 1) (tick1 (R : Int) (T : Int) x) n) ∨
    (k = R * T ∧ dead1 (T : Int) x = true ∧ again1 (T : Int) x = [] ∧ St R T S y (k + 1) (tick1 (R : Int) (T : Int) x) n) ∨
    (k ≠ R * T ∧ dead1 (T : Int) x = false ∧ again1 (T : Int) x = [x.y] ∧ k % R = 0 ∧ St R T S y (k + 1) (tick1 (R : Int) (T : Int) x) (n + 1)) := by
  obtain ⟨hs, hy, ⟨q, r, hr, hq, rfl, ht, hl, rfl⟩ | ⟨h1, _⟩⟩ := h
  · have hqR : (q + 1) * R ≤ T * R := Nat.mul_le_mul_right R hq
    have e1 : (q + 1) * R = q * R + R := Nat.succ_mul q R
    have e2 : R * T = T * R := Nat.mul_comm R T
    by_cases h1 : r + 1 < R
    · have g1 : 1 < x.l := by omega
      refine .inl ⟨by omega, if_pos g1, if_pos g1, ?_⟩
      unfold tick1
      rw [if_pos g1, IntWalk.wrap64_in _ (by omega)]
      exact ⟨hs, hy, .inl ⟨q, r + 1, h1, hq, by omega, ht, by show x.l - 1 = _; omega, rfl⟩⟩
    · have g1 : ¬ 1 < x.l := by omega
      by_cases h2 : q + 1 = T
      · have g2 : (T : Int) ≤ x.t := by omega
        refine .inr (.inl ⟨by rw [e2, ← h2]; omega, ?_, ?_, ?_⟩)
        · unfold dead1; rw [if_neg g1]; exact decide_eq_true g2
        · unfold again1; rw [if_neg g1, if_pos g2]
        · unfold tick1
          rw [if_neg g1, if_pos g2]
          exact ⟨hs, hy, .inr ⟨by rw [e2, ← h2]; omega, h2⟩⟩
      · have g2 : ¬ (T : Int) ≤ x.t := by omega
        have hqR2 : (q + 1 + 1) * R ≤ T * R := Nat.mul_le_mul_right R (by omega)
        have e3 : (q + 1 + 1) * R = (q + 1) * R + R := Nat.succ_mul (q + 1) R
        refine .inr (.inr ⟨by omega, ?_, ?_, ?_, ?_⟩)
        · unfold dead1; rw [if_neg g1]; exact decide_eq_false g2
        · unfold again1; rw [if_neg g1, if_neg g2]
        · have e4 : q * R + r + 1 = (q + 1) * R := by omega
          rw [e4]; exact Nat.mul_mod_left _ _
        · unfold tick1
          rw [if_neg g1, if_neg g2, IntWalk.wrap64_in _ (by omega)]
          exact ⟨hs, hy, .inl ⟨q + 1, 0, by omega, by omega, by omega, by show x.t + 1 = _; omega, by show (R : Int) = _; omega, rfl⟩⟩
  · omega
theorem st_end {R T k n : Nat} {S : Int} {y : ByteArray} {x : Snt} (h : St R T S y k x n) (hk : ¬ k ≤ R * T) (hk2 : k ≤ R * T + 1) : x.s = S ∧ n = T := by
  obtain ⟨hs, hy, ⟨q, r, hr, hq, rfl, ht, hl, rfl⟩ | ⟨h1, h2⟩⟩ := h
  · have hqR : (q + 1) * R ≤ T * R := Nat.mul_le_mul_right R hq
    have e1 : (q + 1) * R = q * R + R := Nat.succ_mul q R
    have e2 : R * T = T * R := Nat.mul_comm R T
    omega
  · exact ⟨hs, h2⟩
theorem st_le {R T k n : Nat} {S : Int} {y : ByteArray} {x : Snt} (h : St R T S y k x n) : n ≤ T := by
  obtain ⟨_, _, ⟨q, r, _, hq, _, _, _, rfl⟩ | ⟨_, rfl⟩⟩ := h
  · exact hq
  · exact Nat.le_refl _
theorem st_meas (P i : Nat) (h : i ≤ P) (v : Int) (hv : v = (i : Int) + 1) : ((P : Int) + 1 - intOf (.int .i64 v)).toNat < ((P : Int) + 1 - intOf (.int .i64 (i : Int))).toNat := by
  subst hv
  simp [intOf]; omega
theorem rem_in (t : Int) (n : Nat) (h0 : 0 < n) (h1 : n ≤ 1000000) : ∃ q : Nat, q < n ∧ wrap64 ((IntKind.u64.wrap t).tmod (n : Int)) = (q : Int) := by
  have hu : 0 ≤ IntKind.u64.wrap t := by rw [IntKind.wrap_u64]; omega
  rw [Int.tmod_eq_emod_of_nonneg hu]
  have h2 : 0 ≤ IntKind.u64.wrap t % (n : Int) := Int.emod_nonneg _ (by omega)
  have h3 : IntKind.u64.wrap t % (n : Int) < (n : Int) := Int.emod_lt_of_pos _ (by omega)
  refine ⟨(IntKind.u64.wrap t % (n : Int)).toNat, by omega, ?_⟩
  rw [IntWalk.wrap64_in _ (by omega)]
  omega
theorem mod_zero {k R : Nat} (h : k % R = 0) : ((k : Int).tmod (R : Int)) = 0 := by
  rw [Int.tmod_eq_emod_of_nonneg (by omega), ← Int.natCast_emod, h]; rfl
end Go.Proofs.YtmgmgffgbkenkaaDoor
