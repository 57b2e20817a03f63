/- The contracts of gauge.Fine, of same, and of the library's makers of floats at what the statements ask of them. -/
import Derived.Test.YtjoeeaagjcpdpaaGaugeA
namespace Go.Proofs.Ytjoeeaagjcpdpaa
open Go.RowKit

theorem fine_any (b : Nat) (w : World) (hb : b < 18446744073709551616) :
    Calls Try.prog 14 #[.float .f64 b] w fun e w' => e = .returned (.bool (GaugeF.fineB b)) ∧ w = w' := by
  cases h : GaugeF.fineB b
  · rcases GaugeF.not_fine hb h with h1 | ⟨h1, h2⟩ | ⟨h1, h2, h3⟩
    · clear h
      go_enter Try.func14, Try.ntmps14
      go_wp2
      go_ret
      exact ⟨rfl, rfl⟩
    · clear h
      go_enter Try.func14, Try.ntmps14
      go_wp2
      go_ret
      exact ⟨rfl, rfl⟩
    · have H3 := Lib.hid h3
      clear h h3
      go_enter Try.func14, Try.ntmps14
      go_wp2_with fail
      refine (signbit_is _ hb H3.out).mono ?_
      rintro e w1 ⟨rfl, rfl⟩
      go_wp2_with fail
      go_ret
      exact ⟨rfl, rfl⟩
  · have h1 := GaugeF.fine_ge h
    have h2 := GaugeF.fine_le h
    have H3 := Lib.hid (GaugeF.fine_neg h)
    clear h
    go_enter Try.func14, Try.ntmps14
    go_wp2_with fail
    refine (signbit_is _ hb H3.out).mono ?_
    rintro e w1 ⟨rfl, rfl⟩
    go_wp2_with fail
    go_ret
    exact ⟨rfl, rfl⟩
theorem fine_is {b : Nat} {v : Bool} (w : World) (hb : b < 18446744073709551616) (h : GaugeF.fineB b = v) :
    Calls Try.prog 14 #[.float .f64 b] w fun e w' => e = .returned (.bool v) ∧ w = w' := by rw [← h]; exact fine_any b w hb

set_option maxHeartbeats 400000 in
theorem same_any (a b : Nat) (w : World) (ha : a < 18446744073709551616) (hb : b < 18446744073709551616) :
    Calls Try.prog 8 #[.float .f64 a, .float .f64 b] w fun e w' => e = .returned (.bool (GaugeF.sameB a b)) ∧ w = w' := by
  have E := GaugeF.same_eq a b
  have q := GaugeF.eq_test ha hb
  cases h1 : GaugeF.nanB a
  · have H1 := Lib.hid h1
    rw [h1] at E q
    cases h3 : (FloatKind.f64.format.order a b == some .eq)
    · rw [h3] at q
      replace E : GaugeF.sameB a b = false := by rw [E, ← q]; rfl
      have E := Lib.hid E
      clear q h1
      go_enter Try.func8, Try.ntmps8
      go_wp2_with fail
      refine (isnan_is _ ha H1.out).mono ?_
      rintro e w1 ⟨rfl, rfl⟩
      go_wp2_with fail
      go_ret
      exact ⟨ret_bool E.out.symm, rfl⟩
    · rw [h3] at q
      replace E : GaugeF.sameB a b = (GaugeF.negB a == GaugeF.negB b) := by rw [E, ← q]; simp
      have E := Lib.hid E
      clear q h1
      go_enter Try.func8, Try.ntmps8
      go_wp2_with fail
      refine (isnan_is _ ha H1.out).mono ?_
      rintro e w1 ⟨rfl, rfl⟩
      go_wp2_with fail
      refine (signbit_any _ _ ha).mono ?_
      rintro e w1 ⟨rfl, rfl⟩
      go_wp2_with fail
      refine (signbit_any _ _ hb).mono ?_
      rintro e w1 ⟨rfl, rfl⟩
      go_wp2_with fail
      go_ret
      exact ⟨ret_bool E.out.symm, rfl⟩
  · have H1 := Lib.hid h1
    rw [h1] at E q
    replace q : (FloatKind.f64.format.order a b == some .eq) = false := q
    cases h2 : GaugeF.nanB b
    · have H2 := Lib.hid h2
      replace E : GaugeF.sameB a b = false := by rw [E, h2]; rfl
      have E := Lib.hid E
      clear h1 h2
      go_enter Try.func8, Try.ntmps8
      go_wp2_with fail
      refine (isnan_is _ ha H1.out).mono ?_
      rintro e w1 ⟨rfl, rfl⟩
      go_wp2_with fail
      refine (isnan_is _ hb H2.out).mono ?_
      rintro e w1 ⟨rfl, rfl⟩
      go_wp2_with fail
      go_ret
      exact ⟨ret_bool E.out.symm, rfl⟩
    · have H2 := Lib.hid h2
      replace E : GaugeF.sameB a b = true := by rw [E, h2]; rfl
      have E := Lib.hid E
      clear h1 h2 q
      go_enter Try.func8, Try.ntmps8
      go_wp2_with fail
      refine (isnan_is _ ha H1.out).mono ?_
      rintro e w1 ⟨rfl, rfl⟩
      go_wp2_with fail
      refine (isnan_is _ hb H2.out).mono ?_
      rintro e w1 ⟨rfl, rfl⟩
      go_wp2_with fail
      go_ret
      exact ⟨ret_bool E.out.symm, rfl⟩

theorem same_is {a b : Nat} {v : Bool} (w : World) (ha : a < 18446744073709551616) (hb : b < 18446744073709551616) (h : GaugeF.sameB a b = v) :
    Calls Try.prog 8 #[.float .f64 a, .float .f64 b] w fun e w' => e = .returned (.bool v) ∧ w = w' := by rw [← h]; exact same_any a b w ha hb

theorem nan_any (w : World) : Calls Try.prog 25 #[] w fun e w' => e = .returned (.float .f64 9221120237041090561) ∧ w = w' := by
  go_enter Try.func25, Try.ntmps25
  go_wp2_with (simp only [frombits_run])
  go_ret
  exact ⟨rfl, rfl⟩
theorem inf_pos (w : World) : Calls Try.prog 26 #[.int .i64 1] w fun e w' => e = .returned (.float .f64 9218868437227405312) ∧ w = w' := by
  go_enter Try.func26, Try.ntmps26
  go_wp2_with (simp only [frombits_run])
  go_ret
  exact ⟨rfl, rfl⟩
theorem inf_neg (w : World) : Calls Try.prog 26 #[.int .i64 (-1)] w fun e w' => e = .returned (.float .f64 18442240474082181120) ∧ w = w' := by
  go_enter Try.func26, Try.ntmps26
  go_wp2_with (simp only [frombits_run])
  go_ret
  exact ⟨rfl, rfl⟩
theorem sign_bits : bits .or .u64 (bits .andNot .u64 0 9223372036854775808) (bits .and .u64 13830554455654793216 9223372036854775808) = 9223372036854775808 := by kernel_rfl
theorem copysign_is (w : World) : Calls Try.prog 28 #[.float .f64 0, .float .f64 13830554455654793216] w fun e w' => e = .returned (.float .f64 9223372036854775808) ∧ w = w' := by
  go_enter Try.func28, Try.ntmps28
  go_wp2_with (simp only [frombits_run, bits_run])
  go_ret
  exact ⟨rfl, rfl⟩
end Go.Proofs.Ytjoeeaagjcpdpaa
