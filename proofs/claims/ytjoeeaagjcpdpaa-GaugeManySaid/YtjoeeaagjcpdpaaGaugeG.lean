/- Costs, pure: the whole number that is not above. -/
import Derived.Test.YtjoeeaagjcpdpaaGaugeF
namespace Go.Proofs.Ytjoeeaagjcpdpaa.GaugeF
open Ieee (double)

theorem cut_zero (s : Bool) (n d : Nat) : Ieee.Toward.zero.cut s n d = n / 2 ^ d := by
  unfold Ieee.Toward.cut
  simp only [Bool.toNat_false, Nat.add_zero, Nat.shiftLeft_eq, Nat.one_mul]
  by_cases h : d ≤ n.log2 + 2
  · rw [Nat.min_eq_left h]
  · rw [Nat.min_eq_right (by omega)]
    have hn : n < 2 ^ (n.log2 + 1) := Nat.lt_log2_self
    have h1 : n < 2 ^ (n.log2 + 2) := Nat.lt_of_lt_of_le hn (Nat.pow_le_pow_right (by decide) (by omega))
    have h2 : n < 2 ^ d := Nat.lt_of_lt_of_le hn (Nat.pow_le_pow_right (by decide) (by omega))
    rw [Nat.div_eq_of_lt h1, Nat.div_eq_of_lt h2]

def truncN (b : Nat) : Nat := (4503599627370496 + b % 4503599627370496) / 2 ^ (1075 - b / 4503599627370496)

theorem trunc_ge {b : Nat} (h1 : 4607182418800017408 ≤ b) (h2 : b < 4679240012837945344) : 2 ^ (b / 4503599627370496 - 1023) ≤ truncN b := by
  unfold truncN
  rw [Nat.le_div_iff_mul_le (Nat.two_pow_pos _), ← Nat.pow_add]
  have e : b / 4503599627370496 - 1023 + (1075 - b / 4503599627370496) = 52 := by omega
  rw [e]; omega
theorem trunc_lt {b : Nat} (h1 : 4607182418800017408 ≤ b) (h2 : b < 4679240012837945344) : truncN b < 2 ^ (b / 4503599627370496 - 1022) := by
  unfold truncN
  rw [Nat.div_lt_iff_lt_mul (Nat.two_pow_pos _), ← Nat.pow_add]
  have e : b / 4503599627370496 - 1022 + (1075 - b / 4503599627370496) = 53 := by omega
  rw [e]; omega
theorem trunc_one {b : Nat} (h1 : 4607182418800017408 ≤ b) (h2 : b < 4679240012837945344) : 1 ≤ truncN b := by
  have := trunc_ge h1 h2
  have := Nat.two_pow_pos (b / 4503599627370496 - 1023)
  omega
theorem trunc_most {b : Nat} (h1 : 4607182418800017408 ≤ b) (h2 : b < 4679240012837945344) : truncN b < 65536 := by
  have h3 := trunc_lt h1 h2
  have h4 : 2 ^ (b / 4503599627370496 - 1022) ≤ 2 ^ 16 := Nat.pow_le_pow_right (by decide) (by omega)
  omega
theorem trunc_mono {a b : Nat} (h1 : 4607182418800017408 ≤ a) (h : a ≤ b) (h2 : b < 4679240012837945344) : truncN a ≤ truncN b := by
  by_cases hq : a / 4503599627370496 = b / 4503599627370496
  · unfold truncN; rw [hq]
    exact Nat.div_le_div_right (by omega)
  · have h3 := trunc_lt h1 (by omega)
    have h4 := trunc_ge (b := b) (by omega) h2
    have h5 : 2 ^ (a / 4503599627370496 - 1022) ≤ 2 ^ (b / 4503599627370496 - 1023) := Nat.pow_le_pow_right (by decide) (by omega)
    omega

theorem trunc_val {b : Nat} (h1 : 4607182418800017408 ≤ b) (h2 : b < 4679240012837945344) : floatToIntVal .f64 b .u32 = some (truncN b : Int) := by
  have hr := rung_pos (b := b) (by omega)
  have hd : FloatKind.f64.decode b = .number false (mag b) (-1074 + (ex b : Int)) := by
    show double.read b = _
    rw [read_num (by omega) (by omega), hr, negB, decide_eq_false (by omega)]
  have he : ex b = b / 4503599627370496 - 1 := rfl
  have hi : (-1074 + (ex b : Int)).toNat = 0 := by omega
  have hj : (-(-1074 + (ex b : Int))).toNat = 1075 - b / 4503599627370496 := by omega
  have hm : mag b = 4503599627370496 + b % 4503599627370496 := by unfold mag; rw [if_neg (by omega)]
  have ht : (FloatKind.f64.decode b).toInt .zero = some (truncN b : Int) := by
    rw [hd]
    show some (Ieee.signed false (Ieee.Toward.zero.cut false (mag b <<< (-1074 + (ex b : Int)).toNat) (-(-1074 + (ex b : Int))).toNat) 0) = _
    rw [hi, hj, cut_zero, hm, signed_eq, Nat.shiftLeft_eq, if_neg (by decide), Nat.pow_zero, Nat.mul_one, Nat.mul_one]
    rfl
  unfold floatToIntVal
  rw [ht]
  have h3 := trunc_most h1 h2
  have h4 : IntKind.u32.min = 0 := rfl
  have h5 : IntKind.u32.max = 4294967295 := rfl
  simp only [h4, h5]
  rw [if_pos (by omega)]

/-- What Cost answers. -/
def costN (b : Nat) : Nat :=
  if nanB b = true then 4294967295 else if b = 9218868437227405312 then 4294967295
  else if val b < 4607182418800017408 then 1 else if 4679240012837945344 ≤ val b then 65536 else truncN b

theorem val_ge {b : Nat} {k : Int} (hb : b < 18446744073709551616) (hk : 0 < k) (h : k ≤ val b) : b < 9223372036854775808 ∧ val b = (b : Int) := by
  by_cases h1 : b < 9223372036854775808
  · exact ⟨h1, val_pos h1⟩
  · have h2 : negB b = true := decide_eq_true (by omega)
    unfold val at h; rw [h2, if_pos rfl] at h; omega
theorem cost_far {b : Nat} (hb : b < 18446744073709551616) : costN b = 4294967295 ↔ nanB b = true ∨ b = 9218868437227405312 := by
  unfold costN
  by_cases h1 : nanB b = true
  · simp [h1]
  · rw [if_neg h1]
    by_cases h2 : b = 9218868437227405312
    · simp [h2]
    · rw [if_neg h2]
      by_cases h3 : val b < 4607182418800017408
      · rw [if_pos h3]; simp [h1, h2]
      · rw [if_neg h3]
        by_cases h4 : (4679240012837945344 : Int) ≤ val b
        · rw [if_pos h4]; simp [h1, h2]
        · rw [if_neg h4]
          obtain ⟨h5, h6⟩ := val_ge hb (by decide) (show (4607182418800017408 : Int) ≤ val b by omega)
          have := trunc_most (b := b) (by omega) (by omega)
          constructor
          · intro h; omega
          · rintro (h | h) <;> contradiction
theorem cost_in {b : Nat} (hb : b < 18446744073709551616) (h : costN b ≠ 4294967295) : 1 ≤ costN b ∧ costN b ≤ 65536 := by
  unfold costN at *
  by_cases h1 : nanB b = true
  · rw [if_pos h1] at h; omega
  · rw [if_neg h1] at h ⊢
    by_cases h2 : b = 9218868437227405312
    · rw [if_pos h2] at h; omega
    · rw [if_neg h2] at h ⊢
      by_cases h3 : val b < 4607182418800017408
      · rw [if_pos h3]; omega
      · rw [if_neg h3]
        by_cases h4 : (4679240012837945344 : Int) ≤ val b
        · rw [if_pos h4]; omega
        · rw [if_neg h4]
          obtain ⟨h5, h6⟩ := val_ge hb (by decide) (show (4607182418800017408 : Int) ≤ val b by omega)
          have := trunc_most (b := b) (by omega) (by omega)
          have := trunc_one (b := b) (by omega) (by omega)
          omega
theorem cost_mono {a b : Nat} (ha : a < 18446744073709551616) (hb : b < 18446744073709551616) (na : nanB a = false) (nb : nanB b = false) (h : val a ≤ val b) : costN a ≤ costN b := by
  by_cases hf : costN b = 4294967295
  · by_cases hg : costN a = 4294967295
    · omega
    · have := cost_in ha hg; omega
  · have hb1 := cost_in hb hf
    have nf := fun e => hf ((cost_far hb).2 e)
    have ai : a ≠ 9218868437227405312 := by
      intro e
      subst e
      rw [val_pos (by decide)] at h
      obtain ⟨h5, h6⟩ := val_ge hb (by decide) (show (9218868437227405312 : Int) ≤ val b by omega)
      have h7 := of_decide_eq_false nb
      rw [rung_pos h5] at h7
      exact nf (.inr (by omega))
    have bi : b ≠ 9218868437227405312 := fun e => nf (.inr e)
    have ea : costN a = if val a < 4607182418800017408 then 1 else if 4679240012837945344 ≤ val a then 65536 else truncN a := by
      unfold costN; rw [na, if_neg (by decide), if_neg ai]
    have eb : costN b = if val b < 4607182418800017408 then 1 else if 4679240012837945344 ≤ val b then 65536 else truncN b := by
      unfold costN; rw [nb, if_neg (by decide), if_neg bi]
    by_cases h3 : val a < 4607182418800017408
    · rw [ea, if_pos h3]; omega
    · rw [ea, if_neg h3]
      by_cases h4 : (4679240012837945344 : Int) ≤ val a
      · rw [if_pos h4, eb, if_neg (by omega), if_pos (by omega)]; omega
      · rw [if_neg h4]
        obtain ⟨h5, h6⟩ := val_ge ha (by decide) (show (4607182418800017408 : Int) ≤ val a by omega)
        obtain ⟨h7, h8⟩ := val_ge hb (by decide) (show (4607182418800017408 : Int) ≤ val b by omega)
        have := trunc_most (b := a) (by omega) (by omega)
        rw [eb, if_neg (by omega)]
        by_cases h9 : (4679240012837945344 : Int) ≤ val b
        · rw [if_pos h9]; omega
        · rw [if_neg h9]
          exact trunc_mono (by omega) (by omega) (by omega)
end Go.Proofs.Ytjoeeaagjcpdpaa.GaugeF
