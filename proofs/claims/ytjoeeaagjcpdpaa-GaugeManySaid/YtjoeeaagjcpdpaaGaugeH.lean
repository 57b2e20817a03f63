/- Eighths, pure: numbers that a float holds exactly, their sums and products. -/
import Derived.Test.YtjoeeaagjcpdpaaGaugeF
namespace Go.Proofs.Ytjoeeaagjcpdpaa.GaugeF
open Ieee (double)

theorem log2_shift {a : Nat} (k : Nat) (h : a ≠ 0) : (a * 2 ^ k).log2 = a.log2 + k := by
  have hp : a * 2 ^ k ≠ 0 := Nat.mul_ne_zero h (Nat.ne_of_gt (Nat.two_pow_pos _))
  rw [Nat.log2_eq_iff hp]
  constructor
  · rw [Nat.pow_add]; exact Nat.mul_le_mul_right _ (Nat.log2_self_le h)
  · rw [Nat.add_right_comm, Nat.pow_add]; exact Nat.mul_lt_mul_of_pos_right Nat.lt_log2_self (Nat.two_pow_pos _)

theorem cut_even (s : Bool) (n d : Nat) : Ieee.Toward.even.cut s (n * 2 ^ d) d = n := by
  by_cases h : n = 0
  · subst h
    unfold Ieee.Toward.cut
    simp only [Nat.shiftLeft_eq, Nat.one_mul, Nat.zero_mul, Nat.zero_div, Nat.zero_mod, Nat.mul_zero]
    have hp : 0 < 2 ^ min d (Nat.log2 0 + 2) := Nat.two_pow_pos _
    generalize 2 ^ min d (Nat.log2 0 + 2) = g at hp
    have h1 : decide (g < 0) = false := decide_eq_false (by omega)
    have h2 : (g == 0) = false := beq_eq_false_iff_ne.2 (by omega)
    rw [h1, h2]; rfl
  · unfold Ieee.Toward.cut
    have hl := log2_shift d h
    have hm : min d ((n * 2 ^ d).log2 + 2) = d := by omega
    have hp : 0 < 2 ^ d := Nat.two_pow_pos _
    simp only [hm, Nat.shiftLeft_eq, Nat.one_mul, Nat.mul_mod_left, Nat.mul_zero, Nat.mul_div_cancel _ hp]
    have h1 : decide (2 ^ d < 0) = false := decide_eq_false (by omega)
    have h2 : (2 ^ d == 0) = false := beq_eq_false_iff_ne.2 (by omega)
    rw [h1, h2]; rfl

theorem U_log2 {c : Nat} (h : 4503599627370496 ≤ c) : (U c).log2 = 52 + ex c := by
  have hm1 := mag_ge h
  have hm2 := mag_lt c
  unfold U
  rw [log2_shift _ (by omega)]
  have : (mag c).log2 = 52 := by
    rw [Nat.log2_eq_iff (by omega)]
    omega
  rw [this]

theorem word_pos (r : Nat) : double.word false r = r := rfl
theorem nearest_zero (pl : Int) : double.nearest false 0 pl = 0 := rfl
theorem nearest_exact {c mg k : Nat} {pl : Int} (hc : c < 9218868437227405312) (hp : pl = -1074 + (k : Int)) (h : mg * 2 ^ k = U c) : double.nearest false mg pl = c := by
  by_cases h0 : mg = 0
  · subst h0
    rw [Nat.zero_mul] at h
    obtain rfl : c = 0 := (U_inj (h.symm.trans U_zero.symm))
    exact nearest_zero pl
  · have hl := log2_shift k h0
    rw [h] at hl
    unfold Ieee.Format.nearest
    rw [if_neg h0]
    simp only [bi, ir, lp]
    rw [word_pos]
    have hf : ((double.fractionBits : Nat) : Int) = 52 := rfl
    rw [hf]
    subst hp
    by_cases hs : c < 4503599627370496
    · have e0 : ex c = 0 := by unfold ex; omega
      have hU : U c = c := by unfold U; rw [e0, mag, if_pos hs, Nat.pow_zero, Nat.mul_one]
      rw [hU] at h hl
      have hc0 : c ≠ 0 := by
        rintro rfl
        have := Nat.mul_ne_zero h0 (Nat.ne_of_gt (Nat.two_pow_pos k))
        exact this h
      have hlt : c.log2 < 52 := (Nat.log2_lt hc0).2 (by omega)
      have hlast : max (-1074 + (k : Int) + (mg.log2 : Int) - 52) (-1074) = -1074 := by omega
      rw [hlast]
      have a1 : (-1074 + (k : Int) - -1074).toNat = k := by omega
      have a2 : (-1074 - (-1074 + (k : Int))).toNat = 0 := by omega
      have a3 : ((-1074 : Int) - -1074).toNat = 0 := rfl
      rw [a1, a2, a3, Nat.shiftLeft_eq, h]
      have := cut_even false c 0
      rw [Nat.pow_zero, Nat.mul_one] at this
      rw [this]; omega
    · have hU := U_log2 (c := c) (by omega)
      rw [hU] at hl
      have hlast : max (-1074 + (k : Int) + (mg.log2 : Int) - 52) (-1074) = -1074 + (ex c : Int) := by omega
      rw [hlast]
      have a3 : (-1074 + (ex c : Int) - -1074).toNat = ex c := by omega
      rw [a3]
      have hend : ex c * 4503599627370496 + mag c = c := by
        unfold ex mag; rw [if_neg hs]; omega
      by_cases hk : ex c ≤ k
      · have a1 : (-1074 + (k : Int) - (-1074 + (ex c : Int))).toNat = k - ex c := by omega
        have a2 : (-1074 + (ex c : Int) - (-1074 + (k : Int))).toNat = 0 := by omega
        rw [a1, a2, Nat.shiftLeft_eq]
        have hm : mg * 2 ^ (k - ex c) = mag c := by
          have : mg * 2 ^ (k - ex c) * 2 ^ ex c = mag c * 2 ^ ex c := by
            rw [Nat.mul_assoc, ← Nat.pow_add, Nat.sub_add_cancel hk]; exact h
          exact Nat.eq_of_mul_eq_mul_right (Nat.two_pow_pos _) this
        rw [hm]
        have := cut_even false (mag c) 0
        rw [Nat.pow_zero, Nat.mul_one] at this
        rw [this, hend]; exact Nat.min_eq_left (Nat.le_of_lt hc)
      · have a1 : (-1074 + (k : Int) - (-1074 + (ex c : Int))).toNat = 0 := by omega
        have a2 : (-1074 + (ex c : Int) - (-1074 + (k : Int))).toNat = ex c - k := by omega
        rw [a1, a2, Nat.shiftLeft_eq, Nat.pow_zero, Nat.mul_one]
        have hm : mg = mag c * 2 ^ (ex c - k) := by
          have : mg * 2 ^ k = mag c * 2 ^ (ex c - k) * 2 ^ k := by
            rw [Nat.mul_assoc, ← Nat.pow_add, Nat.sub_add_cancel (by omega)]; exact h
          exact Nat.eq_of_mul_eq_mul_right (Nat.two_pow_pos _) this
        rw [hm, cut_even, hend]; exact Nat.min_eq_left (Nat.le_of_lt hc)

def K : Nat := 1071
theorem K_eq : K = 1071 := rfl
/-- The word of so many eighths. -/
def w8 (n : Nat) : Nat := if n = 0 then 0 else (1020 + n.log2) * 4503599627370496 + (n * 2 ^ (52 - n.log2) - 4503599627370496)
theorem w8_zero : w8 0 = 0 := rfl
theorem w8_parts {n : Nat} (h0 : n ≠ 0) (hn : n < 9007199254740992) : mag (w8 n) = n * 2 ^ (52 - n.log2) ∧ ex (w8 n) = 1019 + n.log2 ∧ n.log2 ≤ 52 ∧ w8 n < 9218868437227405312 := by
  have hl : n.log2 < 53 := (Nat.log2_lt h0).2 (by omega)
  have h1 := Nat.log2_self_le h0
  have h2 : n < 2 ^ (n.log2 + 1) := Nat.lt_log2_self
  have e1 : 2 ^ n.log2 * 2 ^ (52 - n.log2) = 4503599627370496 := by rw [← Nat.pow_add]; rw [show n.log2 + (52 - n.log2) = 52 by omega]
  have e2 : 2 ^ (n.log2 + 1) * 2 ^ (52 - n.log2) = 9007199254740992 := by rw [← Nat.pow_add]; rw [show n.log2 + 1 + (52 - n.log2) = 53 by omega]
  have m1 : 4503599627370496 ≤ n * 2 ^ (52 - n.log2) := by rw [← e1]; exact Nat.mul_le_mul_right _ h1
  have m2 : n * 2 ^ (52 - n.log2) < 9007199254740992 := by rw [← e2]; exact Nat.mul_lt_mul_of_pos_right h2 (Nat.two_pow_pos _)
  unfold mag ex w8
  rw [if_neg h0]
  generalize n * 2 ^ (52 - n.log2) = m at m1 m2
  generalize n.log2 = L at hl
  refine ⟨?_, ?_, by omega, by omega⟩
  · rw [if_neg (by omega)]; omega
  · omega
theorem U_w8 {n : Nat} (hn : n < 9007199254740992) : U (w8 n) = n * 2 ^ K := by
  by_cases h0 : n = 0
  · subst h0; rw [w8_zero, U_zero, Nat.zero_mul]
  · obtain ⟨h1, h2, h3, _⟩ := w8_parts h0 hn
    unfold U
    rw [h1, h2, Nat.mul_assoc, ← Nat.pow_add]
    have : 52 - n.log2 + (1019 + n.log2) = K := by rw [K_eq]; omega
    rw [this]
theorem w8_lt {n : Nat} (hn : n < 9007199254740992) : w8 n < 9218868437227405312 := by
  by_cases h0 : n = 0
  · subst h0; rw [w8_zero]; decide
  · exact (w8_parts h0 hn).2.2.2
theorem w8_iff {n m : Nat} (hn : n < 9007199254740992) (hm : m < 9007199254740992) : w8 n < w8 m ↔ n < m := by
  rw [← U_iff, U_w8 hn, U_w8 hm]
  exact Nat.mul_lt_mul_right (Nat.two_pow_pos _)
theorem w8_inj {n m : Nat} (hn : n < 9007199254740992) (hm : m < 9007199254740992) (h : w8 n = w8 m) : n = m := by
  have h1 := w8_iff hn hm
  have h2 := w8_iff hm hn
  omega
theorem near8 {n mg k : Nat} {pl : Int} (hn : n < 9007199254740992) (hp : pl = -1074 + (k : Int)) (h : mg * 2 ^ k = n * 2 ^ K) : double.nearest false mg pl = w8 n :=
  nearest_exact (w8_lt hn) hp (h.trans (U_w8 hn).symm)
theorem read8 {n : Nat} (hn : n < 9007199254740992) : double.read (w8 n) = .number false (mag (w8 n)) (-1074 + (ex (w8 n) : Int)) := by
  have hl := w8_lt hn
  have hr := rung_pos (b := w8 n) (by omega)
  rw [read_num (by omega) (by omega), hr, negB, decide_eq_false (by omega)]

theorem of_int (n : Nat) (hn : n < 1125899906842624) : floatOfInt .f64 (n : Int) = w8 (8 * n) := by
  show double.nearest (decide ((n : Int) < 0)) (n : Int).natAbs 0 = _
  rw [decide_eq_false (by omega), Int.natAbs_natCast]
  refine near8 (k := 1074) (by omega) rfl ?_
  rw [show (1074 : Nat) = 3 + K from rfl, Nat.pow_add, ← Nat.mul_assoc, Nat.mul_comm n]

theorem mul8 {x y z : Nat} (hx : x < 9007199254740992) (hy : y < 9007199254740992) (hz : z < 9007199254740992) (h : x * y = 8 * z) : floatBits .mul .f64 (w8 x) (w8 y) = some (w8 z) := by
  show ((double.read (w8 x)).product (double.read (w8 y))).map double.write = _
  rw [read8 hx, read8 hy]
  show some (double.nearest (false ^^ false) (mag (w8 x) * mag (w8 y)) (-1074 + (ex (w8 x) : Int) + (-1074 + (ex (w8 y) : Int)))) = _
  congr 1
  by_cases x0 : x = 0
  · subst x0
    obtain rfl : z = 0 := by omega
    show double.nearest false (mag (w8 0) * mag (w8 y)) _ = _
    rw [w8_zero, show mag 0 = 0 from rfl, Nat.zero_mul, nearest_zero]
  · by_cases y0 : y = 0
    · subst y0
      obtain rfl : z = 0 := by omega
      show double.nearest false (mag (w8 x) * mag (w8 0)) _ = _
      rw [w8_zero, show mag 0 = 0 from rfl, Nat.mul_zero, nearest_zero]
    · obtain ⟨_, e1, _⟩ := w8_parts x0 hx
      obtain ⟨_, e2, _⟩ := w8_parts y0 hy
      have u1 := U_w8 hx
      have u2 := U_w8 hy
      unfold U at u1 u2
      refine near8 (k := ex (w8 x) + ex (w8 y) - 1074) hz (by omega) ?_
      refine Nat.eq_of_mul_eq_mul_right (Nat.two_pow_pos (K + 3)) ?_
      rw [Nat.mul_assoc, ← Nat.pow_add, show ex (w8 x) + ex (w8 y) - 1074 + (K + 3) = ex (w8 x) + ex (w8 y) by rw [K_eq]; omega, Nat.pow_add]
      have e : mag (w8 x) * mag (w8 y) * (2 ^ ex (w8 x) * 2 ^ ex (w8 y)) = (mag (w8 x) * 2 ^ ex (w8 x)) * (mag (w8 y) * 2 ^ ex (w8 y)) := by
        rw [Nat.mul_assoc, Nat.mul_assoc, Nat.mul_left_comm (mag (w8 y))]
      rw [e, u1, u2, Nat.pow_add]
      have e2 : x * 2 ^ K * (y * 2 ^ K) = (x * y) * (2 ^ K * 2 ^ K) := by
        rw [Nat.mul_assoc, Nat.mul_assoc, Nat.mul_left_comm (2 ^ K) y]
      rw [e2, h]
      rw [show (2 : Nat) ^ 3 = 8 from rfl, Nat.mul_comm 8 z, Nat.mul_assoc, Nat.mul_assoc, Nat.mul_left_comm 8 (2 ^ K), Nat.mul_comm 8 (2 ^ K)]

theorem signed_pos (m k : Nat) : Ieee.signed false m k = ((m * 2 ^ k : Nat) : Int) := by rw [signed_eq]; rfl
theorem add8 {x y : Nat} (hx : x < 9007199254740992) (hy : y < 9007199254740992) (hz : x + y < 9007199254740992) : floatBits .add .f64 (w8 x) (w8 y) = some (w8 (x + y)) := by
  show ((double.read (w8 x)).sum (double.read (w8 y))).map double.write = _
  rw [read8 hx, read8 hy]
  have u1 := U_w8 hx
  have u2 := U_w8 hy
  unfold U at u1 u2
  generalize mag (w8 x) = m1 at *
  generalize mag (w8 y) = m2 at *
  generalize ex (w8 x) = e1 at *
  generalize ex (w8 y) = e2 at *
  unfold Ieee.Datum.sum
  simp only
  have hm : min (-1074 + (e1 : Int)) (-1074 + (e2 : Int)) = -1074 + ((min e1 e2 : Nat) : Int) := by omega
  have a1 : (-1074 + (e1 : Int) - (-1074 + ((min e1 e2 : Nat) : Int))).toNat = e1 - min e1 e2 := by omega
  have a2 : (-1074 + (e2 : Int) - (-1074 + ((min e1 e2 : Nat) : Int))).toNat = e2 - min e1 e2 := by omega
  rw [hm, a1, a2, signed_pos, signed_pos]
  have hs : ((m1 * 2 ^ (e1 - min e1 e2) : Nat) : Int) + ((m2 * 2 ^ (e2 - min e1 e2) : Nat) : Int) = ((m1 * 2 ^ (e1 - min e1 e2) + m2 * 2 ^ (e2 - min e1 e2) : Nat) : Int) := by omega
  rw [hs]
  have ht : (m1 * 2 ^ (e1 - min e1 e2) + m2 * 2 ^ (e2 - min e1 e2)) * 2 ^ min e1 e2 = (x + y) * 2 ^ K := by
    rw [Nat.add_mul, Nat.mul_assoc, Nat.mul_assoc, ← Nat.pow_add, ← Nat.pow_add, Nat.sub_add_cancel (Nat.min_le_left ..), Nat.sub_add_cancel (Nat.min_le_right ..), u1, u2, Nat.add_mul]
  generalize m1 * 2 ^ (e1 - min e1 e2) + m2 * 2 ^ (e2 - min e1 e2) = T at *
  have hn : (if (T : Int) = 0 then false && false else decide ((T : Int) < 0)) = false := by
    split
    · rfl
    · exact decide_eq_false (by omega)
  simp only [Option.map_some]
  show some (double.nearest (if (T : Int) = 0 then false && false else decide ((T : Int) < 0)) (T : Int).natAbs _) = _
  rw [hn, Int.natAbs_natCast]
  exact congrArg some (near8 hz rfl ht)

theorem quo8 : ∀ e : Fin 9, floatBits .quo .f64 (floatOfInt .f64 (e.val : Int)) 4620693217682128896 = some (w8 e.val) := by decide +kernel
theorem sub8 : ∀ e : Fin 9, floatBits .sub .f64 4607182418800017408 (w8 e.val) = some (w8 (8 - e.val)) := by decide +kernel
theorem w8_eight : w8 64 = 4620693217682128896 := by decide +kernel
theorem w8_most : w8 8000000000 = 4741671816366391296 := by decide +kernel
theorem w8_fine {n : Nat} (h : n ≤ 8000000000) : fineB (w8 n) = true := by
  refine decide_eq_true ?_
  rw [← w8_most]
  have := w8_iff (n := 8000000000) (m := n) (by omega) (by omega)
  omega
theorem w8_val {n : Nat} (hn : n < 9007199254740992) : nanB (w8 n) = false ∧ val (w8 n) = (w8 n : Int) ∧ w8 n < 18446744073709551616 := by
  have := w8_lt hn
  exact ⟨nan_pos (by omega), val_pos (by omega), by omega⟩
theorem lt8 {n m : Nat} (hn : n < 9007199254740992) (hm : m < 9007199254740992) : (FloatKind.f64.format.order (w8 n) (w8 m) == some .lt) = decide (n < m) := by
  obtain ⟨a1, a2, a3⟩ := w8_val hn
  obtain ⟨b1, b2, b3⟩ := w8_val hm
  rw [lt_test a3 b3, a1, b1, a2, b2, Bool.eq_iff_iff]
  have := w8_iff hn hm
  simp; omega
theorem gt8 {n m : Nat} (hn : n < 9007199254740992) (hm : m < 9007199254740992) : (FloatKind.f64.format.order (w8 n) (w8 m) == some .gt) = decide (m < n) := by
  obtain ⟨a1, a2, a3⟩ := w8_val hn
  obtain ⟨b1, b2, b3⟩ := w8_val hm
  rw [gt_test a3 b3, a1, b1, a2, b2, Bool.eq_iff_iff]
  have := w8_iff hm hn
  simp; omega
theorem eq8 {n m : Nat} (hn : n < 9007199254740992) (hm : m < 9007199254740992) : (FloatKind.f64.format.order (w8 n) (w8 m) == some .eq) = decide (n = m) := by
  obtain ⟨a1, a2, a3⟩ := w8_val hn
  obtain ⟨b1, b2, b3⟩ := w8_val hm
  rw [eq_test a3 b3, a1, b1, a2, b2, Bool.eq_iff_iff]
  have := w8_iff hm hn
  have := w8_iff hn hm
  simp; omega
end Go.Proofs.Ytjoeeaagjcpdpaa.GaugeF
