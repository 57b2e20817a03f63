/- Floats of 64 bits, pure: what a word stands for, how two stand to one another, and the numbers that are eighths. -/
import Derived.Laws.FloatArith
namespace Go.Proofs.Ytjoeeaagjcpdpaa.GaugeF
open Ieee (double)

def rung (b : Nat) : Nat := b % 9223372036854775808
def negB (b : Nat) : Bool := decide (9223372036854775808 ≤ b)
def nanB (b : Nat) : Bool := decide (9218868437227405312 < rung b)
def mag (r : Nat) : Nat := if r < 4503599627370496 then r else 4503599627370496 + r % 4503599627370496
def ex (r : Nat) : Nat := r / 4503599627370496 - 1
def val (b : Nat) : Int := if negB b = true then -(rung b : Int) else (rung b : Int)

theorem sw : double.signWeight = 9223372036854775808 := by decide +kernel
theorem bi : double.binade = 4503599627370496 := by decide +kernel
theorem ir : double.infRung = 9218868437227405312 := by decide +kernel
theorem lp : double.leastPlace = -1074 := by decide +kernel

theorem negB_bit {b : Nat} (hb : b < 18446744073709551616) : (b / 9223372036854775808 % 2 == 1) = negB b := by
  unfold negB
  by_cases h : 9223372036854775808 ≤ b
  · rw [decide_eq_true h]
    have : b / 9223372036854775808 = 1 := by omega
    rw [this]; rfl
  · rw [decide_eq_false h]
    have : b / 9223372036854775808 = 0 := by omega
    rw [this]; rfl

theorem read_num {b : Nat} (hb : b < 18446744073709551616) (h : rung b < 9218868437227405312) :
    double.read b = .number (negB b) (mag (rung b)) (-1074 + (ex (rung b) : Int)) := by
  unfold Ieee.Format.read
  simp only [sw, bi, ir, lp, negB_bit hb]
  change (if rung b < _ then _ else if rung b < _ then _ else if rung b = _ then _ else _) = _
  by_cases h1 : rung b < 4503599627370496
  · rw [if_pos h1]
    have e0 : ex (rung b) = 0 := by unfold ex; omega
    rw [e0, mag, if_pos h1]; rfl
  · rw [if_neg h1, if_pos h, mag, if_neg h1]; rfl
theorem read_inf {b : Nat} (hb : b < 18446744073709551616) (h : rung b = 9218868437227405312) :
    double.read b = .infinity (negB b) := by
  unfold Ieee.Format.read
  simp only [sw, bi, ir, lp, negB_bit hb]
  change (if rung b < _ then _ else if rung b < _ then _ else if rung b = _ then _ else _) = _
  rw [if_neg (by omega), if_neg (by omega), if_pos h]
theorem read_nan {b : Nat} (hb : b < 18446744073709551616) (h : 9218868437227405312 < rung b) :
    double.read b = .nan (negB b) (rung b - 9218868437227405312) := by
  unfold Ieee.Format.read
  simp only [sw, bi, ir, lp, negB_bit hb]
  change (if rung b < _ then _ else if rung b < _ then _ else if rung b = _ then _ else _) = _
  rw [if_neg (by omega), if_neg (by omega), if_neg (by omega)]; rfl

/-- A magnitude in units of the least one. -/
def U (r : Nat) : Nat := mag r * 2 ^ ex r

theorem mag_lt (r : Nat) : mag r < 9007199254740992 := by unfold mag; split <;> omega
theorem mag_ge {r : Nat} (h : 4503599627370496 ≤ r) : 4503599627370496 ≤ mag r := by unfold mag; rw [if_neg (by omega)]; omega
theorem U_lt {r s : Nat} (h : r < s) : U r < U s := by
  by_cases hq : r / 4503599627370496 = s / 4503599627370496
  · have he : ex r = ex s := by unfold ex; rw [hq]
    have hm : mag r < mag s := by
      unfold mag
      by_cases hr : r < 4503599627370496
      · have hs : s < 4503599627370496 := by omega
        rw [if_pos hr, if_pos hs]; exact h
      · rw [if_neg hr, if_neg (by omega)]; omega
    unfold U; rw [he]
    exact Nat.mul_lt_mul_of_pos_right hm (Nat.two_pow_pos _)
  · have hs : 4503599627370496 ≤ s := by omega
    have hms := mag_ge hs
    by_cases hr : r < 4503599627370496
    · have e0 : ex r = 0 := by unfold ex; omega
      unfold U
      rw [e0, Nat.pow_zero, Nat.mul_one, mag, if_pos hr]
      have h1 : 1 ≤ 2 ^ ex s := Nat.two_pow_pos _
      have h2 : 4503599627370496 * 1 ≤ mag s * 2 ^ ex s := Nat.mul_le_mul hms h1
      omega
    · have hmr := mag_lt r
      have e1 : ex r + 1 ≤ ex s := by unfold ex; omega
      have h1 : U r < 4503599627370496 * 2 ^ (ex r + 1) := by
        unfold U
        rw [Nat.pow_succ, ← Nat.mul_assoc, Nat.mul_right_comm]
        exact Nat.mul_lt_mul_of_pos_right (by omega) (Nat.two_pow_pos _)
      have h2 : 4503599627370496 * 2 ^ (ex r + 1) ≤ U s := Nat.mul_le_mul hms (Nat.pow_le_pow_right (by decide) e1)
      omega
theorem U_iff (r s : Nat) : U r < U s ↔ r < s := by
  refine ⟨fun h => ?_, U_lt⟩
  rcases Nat.lt_trichotomy r s with h1 | h1 | h1
  · exact h1
  · subst h1; omega
  · have := U_lt h1; omega
theorem U_inj {r s : Nat} (h : U r = U s) : r = s := by
  rcases Nat.lt_trichotomy r s with h1 | h1 | h1
  · have := U_lt h1; omega
  · exact h1
  · have := U_lt h1; omega
theorem U_zero : U 0 = 0 := by decide

theorem cmp_of {x y x' y' : Int} (h1 : x < y ↔ x' < y') (h2 : x = y ↔ x' = y') : compare x y = compare x' y' := by
  simp only [compare, compareOfLessAndEq, h1, h2]

theorem signed_eq (s : Bool) (m k : Nat) : Ieee.signed s m k = if s = true then -((m * 2 ^ k : Nat) : Int) else ((m * 2 ^ k : Nat) : Int) := by
  unfold Ieee.signed; rw [Nat.shiftLeft_eq]

theorem scale_lt (m n a b k : Nat) : m * 2 ^ (a + k) < n * 2 ^ (b + k) ↔ m * 2 ^ a < n * 2 ^ b := by
  rw [Nat.pow_add, Nat.pow_add, ← Nat.mul_assoc, ← Nat.mul_assoc]
  exact Nat.mul_lt_mul_right (Nat.two_pow_pos _)

/-- The two magnitudes at one place, and their rungs. -/
theorem low_lt (r s : Nat) : mag r * 2 ^ (ex r - min (ex r) (ex s)) < mag s * 2 ^ (ex s - min (ex r) (ex s)) ↔ r < s := by
  rw [← U_iff r s, ← scale_lt _ _ _ _ (min (ex r) (ex s))]
  rw [Nat.sub_add_cancel (Nat.min_le_left ..), Nat.sub_add_cancel (Nat.min_le_right ..)]
  exact Iff.rfl

theorem low_zero (r k : Nat) : mag r * 2 ^ k = 0 ↔ r = 0 := by
  have hp : 0 < 2 ^ k := Nat.two_pow_pos _
  constructor
  · intro h
    rcases Nat.mul_eq_zero.1 h with h | h
    · unfold mag at h; split at h <;> omega
    · omega
  · intro h; subst h; unfold mag; simp

theorem order_nums {a b : Nat} (ha : a < 18446744073709551616) (hb : b < 18446744073709551616) (na : rung a < 9218868437227405312) (nb : rung b < 9218868437227405312) :
    double.order a b = some (compare (val a) (val b)) := by
  unfold Ieee.Format.order
  rw [read_num ha na, read_num hb nb]
  have hm1 : (-1074 + (ex (rung a) : Int) - min (-1074 + (ex (rung a) : Int)) (-1074 + (ex (rung b) : Int))).toNat = ex (rung a) - min (ex (rung a)) (ex (rung b)) := by omega
  have hm2 : (-1074 + (ex (rung b) : Int) - min (-1074 + (ex (rung a) : Int)) (-1074 + (ex (rung b) : Int))).toNat = ex (rung b) - min (ex (rung a)) (ex (rung b)) := by omega
  show some (compare (Ieee.signed _ _ _) (Ieee.signed _ _ _)) = _
  rw [hm1, hm2, signed_eq, signed_eq]
  have h1 := low_lt (rung a) (rung b)
  have h2 := low_lt (rung b) (rung a)
  rw [Nat.min_comm (ex (rung b))] at h2
  have h3 := low_zero (rung a) (ex (rung a) - min (ex (rung a)) (ex (rung b)))
  have h4 := low_zero (rung b) (ex (rung b) - min (ex (rung a)) (ex (rung b)))
  generalize mag (rung a) * 2 ^ (ex (rung a) - min (ex (rung a)) (ex (rung b))) = A at *
  generalize mag (rung b) * 2 ^ (ex (rung b) - min (ex (rung a)) (ex (rung b))) = B at *
  unfold val
  congr 1
  clear hm1 hm2
  split <;> split <;> (refine cmp_of ?_ ?_ <;> omega)

theorem order_val {a b : Nat} (ha : a < 18446744073709551616) (hb : b < 18446744073709551616) (na : nanB a = false) (nb : nanB b = false) :
    double.order a b = some (compare (val a) (val b)) := by
  have na := of_decide_eq_false na
  have nb := of_decide_eq_false nb
  by_cases h1 : rung a < 9218868437227405312
  · by_cases h2 : rung b < 9218868437227405312
    · exact order_nums ha hb h1 h2
    · have h2 : rung b = 9218868437227405312 := by omega
      unfold Ieee.Format.order
      rw [read_num ha h1, read_inf hb h2]
      show some (if negB b = true then _ else _) = _
      congr 1
      unfold val
      rw [h2]
      split <;> split <;> simp only [compare, compareOfLessAndEq]
      · rw [if_neg (by omega), if_neg (by omega)]
      · rw [if_neg (by omega), if_neg (by omega)]
      · rw [if_pos (by omega)]
      · rw [if_pos (by omega)]
  · have h1 : rung a = 9218868437227405312 := by omega
    by_cases h2 : rung b < 9218868437227405312
    · unfold Ieee.Format.order
      rw [read_inf ha h1, read_num hb h2]
      show some (if negB a = true then _ else _) = _
      congr 1
      unfold val
      rw [h1]
      split <;> split <;> simp only [compare, compareOfLessAndEq]
      · rw [if_pos (by omega)]
      · rw [if_pos (by omega)]
      · rw [if_neg (by omega), if_neg (by omega)]
      · rw [if_neg (by omega), if_neg (by omega)]
    · have h2 : rung b = 9218868437227405312 := by omega
      unfold Ieee.Format.order
      rw [read_inf ha h1, read_inf hb h2]
      show some (compare (negB b).toNat (negB a).toNat) = _
      congr 1
      unfold val
      rw [h1, h2]
      cases negB a <;> cases negB b <;> rfl

theorem order_nan {a b : Nat} (ha : a < 18446744073709551616) (hb : b < 18446744073709551616) (h : nanB a = true ∨ nanB b = true) :
    double.order a b = none := by
  unfold Ieee.Format.order
  rcases h with h | h
  · rw [read_nan ha (of_decide_eq_true h)]; rfl
  · rw [read_nan hb (of_decide_eq_true h)]
    generalize double.read a = x
    cases x <;> rfl

def ord (a b : Nat) : Option Ordering := FloatKind.f64.format.order a b
/-- The tests, as the walk has them. -/
theorem eq_test {a b : Nat} (ha : a < 18446744073709551616) (hb : b < 18446744073709551616) :
    (FloatKind.f64.format.order a b == some .eq) = (!nanB a && !nanB b && decide (val a = val b)) := by
  show (double.order a b == some .eq) = _
  cases h1 : nanB a
  · cases h2 : nanB b
    · rw [order_val ha hb h1 h2]
      simp only [compare, compareOfLessAndEq]
      by_cases h : val a < val b
      · rw [if_pos h, decide_eq_false (by omega)]; rfl
      · rw [if_neg h]
        by_cases h3 : val a = val b
        · rw [if_pos h3, decide_eq_true h3]; rfl
        · rw [if_neg h3, decide_eq_false h3]; rfl
    · rw [order_nan ha hb (.inr h2)]; rfl
  · rw [order_nan ha hb (.inl h1)]; rfl
theorem lt_test {a b : Nat} (ha : a < 18446744073709551616) (hb : b < 18446744073709551616) :
    (FloatKind.f64.format.order a b == some .lt) = (!nanB a && !nanB b && decide (val a < val b)) := by
  show (double.order a b == some .lt) = _
  cases h1 : nanB a
  · cases h2 : nanB b
    · rw [order_val ha hb h1 h2]
      simp only [compare, compareOfLessAndEq]
      by_cases h : val a < val b
      · rw [if_pos h, decide_eq_true h]; rfl
      · rw [if_neg h, decide_eq_false h]
        split <;> rfl
    · rw [order_nan ha hb (.inr h2)]; rfl
  · rw [order_nan ha hb (.inl h1)]; rfl
theorem gt_test {a b : Nat} (ha : a < 18446744073709551616) (hb : b < 18446744073709551616) :
    (FloatKind.f64.format.order a b == some .gt) = (!nanB a && !nanB b && decide (val b < val a)) := by
  show (double.order a b == some .gt) = _
  cases h1 : nanB a
  · cases h2 : nanB b
    · rw [order_val ha hb h1 h2]
      simp only [compare, compareOfLessAndEq]
      by_cases h : val b < val a
      · rw [if_neg (by omega), if_neg (by omega), decide_eq_true h]; rfl
      · rw [decide_eq_false h]
        split
        · rfl
        · rw [if_pos (by omega)]; rfl
    · rw [order_nan ha hb (.inr h2)]; rfl
  · rw [order_nan ha hb (.inl h1)]; rfl
theorem nan_test {a : Nat} (ha : a < 18446744073709551616) : (FloatKind.f64.format.order a a != some .eq) = nanB a := by
  show (!(FloatKind.f64.format.order a a == some .eq)) = _
  rw [eq_test ha ha, decide_eq_true rfl]
  cases nanB a <;> rfl

theorem ge_test {a b : Nat} (ha : a < 18446744073709551616) (hb : b < 18446744073709551616) :
    (FloatKind.f64.format.order a b == some .gt || FloatKind.f64.format.order a b == some .eq) = (!nanB a && !nanB b && decide (val b ≤ val a)) := by
  rw [gt_test ha hb, eq_test ha hb]
  cases nanB a <;> cases nanB b <;> simp
  rw [Bool.eq_iff_iff]; simp; omega
theorem le_test {a b : Nat} (ha : a < 18446744073709551616) (hb : b < 18446744073709551616) :
    (FloatKind.f64.format.order a b == some .lt || FloatKind.f64.format.order a b == some .eq) = (!nanB a && !nanB b && decide (val a ≤ val b)) := by
  rw [lt_test ha hb, eq_test ha hb]
  cases nanB a <;> cases nanB b <;> simp
  rw [Bool.eq_iff_iff]; simp; omega

/-- A place in the order: NaN behind all, negative zero ahead of zero. -/
def key (b : Nat) : Int := if nanB b = true then 9223372036854775808 else if negB b = true then -(rung b : Int) - 1 else (rung b : Int)
def aheadB (a b : Nat) : Bool := decide (key a < key b)
def ordV (a b : Nat) : Int := if key a < key b then -1 else if key b < key a then 1 else 0
def sameB (a b : Nat) : Bool := decide (key a = key b)

theorem rung_le {b : Nat} (h : nanB b = false) : rung b ≤ 9218868437227405312 := by
  have := of_decide_eq_false h; omega
/-- ahead, as the code asks. -/
theorem ahead_eq (a b : Nat) : aheadB a b = if nanB a = true then false else if nanB b = true then true else if val a = val b then negB a && !negB b else decide (val a < val b) := by
  unfold aheadB key val
  cases h1 : nanB a
  · cases h2 : nanB b
    · have r1 := rung_le h1
      have r2 := rung_le h2
      simp only [Bool.false_eq_true, if_false]
      cases negB a <;> cases negB b <;> simp only [Bool.false_eq_true, if_false, if_true] <;> split <;> first | rfl | (simp; done) | (simp; omega) | (rw [Bool.eq_iff_iff]; simp; done) | (rw [Bool.eq_iff_iff]; simp; omega)
    · have r1 := rung_le h1
      simp only [Bool.false_eq_true, if_false, if_true]
      rw [decide_eq_true]
      split <;> omega
  · simp only [if_true]
    rw [decide_eq_false]
    split
    · omega
    · rename_i h; have := rung_le (Bool.eq_false_iff.2 h); split <;> omega
theorem same_eq (a b : Nat) : sameB a b = (nanB a && nanB b || (!nanB a && !nanB b && decide (val a = val b) && (negB a == negB b))) := by
  unfold sameB key val
  cases h1 : nanB a
  · have r1 := rung_le h1
    cases h2 : nanB b
    · have r2 := rung_le h2
      simp only [Bool.false_eq_true, if_false]
      cases negB a <;> cases negB b
      · rw [show (false == false) = true from rfl, Bool.and_true]; simp
      · rw [show (false == true) = false from rfl, Bool.and_false]; first | (simp; done) | (simp; omega)
      · rw [show (true == false) = false from rfl, Bool.and_false]; first | (simp; done) | (simp; omega)
      · rw [show (true == true) = true from rfl, Bool.and_true]; first | (simp; done) | (simp; omega)
    · simp
      split <;> omega
  · cases h2 : nanB b
    · have r2 := rung_le h2
      simp
      split <;> omega
    · simp

/-- Fine: 0 to 10^9. -/
def fineB (b : Nat) : Bool := decide (b ≤ 4741671816366391296)
theorem rung_pos {b : Nat} (h : b < 9223372036854775808) : rung b = b := by unfold rung; omega
theorem val_pos {b : Nat} (h : b < 9223372036854775808) : val b = (b : Int) := by
  unfold val; rw [rung_pos h, negB, decide_eq_false (by omega)]; rfl
theorem nan_pos {b : Nat} (h : b ≤ 9218868437227405312) : nanB b = false := by
  unfold nanB; rw [rung_pos (by omega)]; exact decide_eq_false (by omega)
theorem nan_neg {b : Nat} (h : nanB b = true) : 9218868437227405312 < b := by
  have := of_decide_eq_true h; unfold rung at this; omega
theorem fine_ge {b : Nat} (h : fineB b = true) : (FloatKind.f64.format.order b 0 == some .gt || FloatKind.f64.format.order b 0 == some .eq) = true := by
  have h := of_decide_eq_true h
  rw [ge_test (by omega) (by omega), nan_pos (by omega), nan_pos (by omega), val_pos (by omega), val_pos (by omega)]
  rw [decide_eq_true (by omega)]; rfl
theorem fine_le {b : Nat} (h : fineB b = true) : (FloatKind.f64.format.order b 4741671816366391296 == some .lt || FloatKind.f64.format.order b 4741671816366391296 == some .eq) = true := by
  have h := of_decide_eq_true h
  rw [le_test (by omega) (by omega), nan_pos (by omega), nan_pos (by omega), val_pos (by omega), val_pos (by omega)]
  rw [decide_eq_true (by omega)]; rfl
theorem fine_neg {b : Nat} (h : fineB b = true) : negB b = false := by
  have h := of_decide_eq_true h
  exact decide_eq_false (by omega)
/-- What is not Fine fails one of the three. -/
theorem not_fine {b : Nat} (hb : b < 18446744073709551616) (h : fineB b = false) :
    (FloatKind.f64.format.order b 0 == some .gt || FloatKind.f64.format.order b 0 == some .eq) = false ∨
    (FloatKind.f64.format.order b 0 == some .gt || FloatKind.f64.format.order b 0 == some .eq) = true ∧ (FloatKind.f64.format.order b 4741671816366391296 == some .lt || FloatKind.f64.format.order b 4741671816366391296 == some .eq) = false ∨
    (FloatKind.f64.format.order b 0 == some .gt || FloatKind.f64.format.order b 0 == some .eq) = true ∧ (FloatKind.f64.format.order b 4741671816366391296 == some .lt || FloatKind.f64.format.order b 4741671816366391296 == some .eq) = true ∧ negB b = true := by
  have h := of_decide_eq_false h
  rw [ge_test hb (by omega), le_test hb (by omega), nan_pos (b := 0) (by omega), nan_pos (b := 4741671816366391296) (by omega), val_pos (b := 0) (by omega), val_pos (b := 4741671816366391296) (by omega)]
  cases h1 : nanB b
  · by_cases h2 : 9223372036854775808 ≤ b
    · have h3 : negB b = true := decide_eq_true h2
      have hv : val b = -(rung b : Int) := by unfold val; rw [h3]; rfl
      by_cases h4 : rung b = 0
      · refine .inr (.inr ⟨?_, ?_, h3⟩)
        · rw [hv, h4]; decide
        · rw [hv, h4]; decide
      · refine .inl ?_
        rw [hv, decide_eq_false (by omega)]; rfl
    · refine .inr (.inl ⟨?_, ?_⟩)
      · rw [val_pos (by omega), decide_eq_true (by omega)]; rfl
      · rw [val_pos (by omega), decide_eq_false (by omega)]; rfl
  · exact .inl rfl
end Go.Proofs.Ytjoeeaagjcpdpaa.GaugeF
