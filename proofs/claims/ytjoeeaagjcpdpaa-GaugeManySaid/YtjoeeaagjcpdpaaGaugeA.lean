/- The contracts of the library's questions on floats, and of gauge.Fine, ahead, Order. -/
import Derived.Test.YtjoeeaagjcpdpaaBase
import Derived.Test.YtjoeeaagjcpdpaaGaugeF
namespace Go.Proofs.Ytjoeeaagjcpdpaa
open Go.RowKit

theorem ret_bool {a b : Bool} (h : a = b) : Ending.returned (.bool a) = .returned (.bool b) := by rw [h]
theorem fl_int {k : IntKind} {a b : Int} (h : a = b) : Ending.returned (.int k a) = .returned (.int k b) := by rw [h]

theorem isnan_any (b : Nat) (w : World) (hb : b < 18446744073709551616) :
    Calls Try.prog 11 #[.float .f64 b] w fun e w' => e = .returned (.bool (GaugeF.nanB b)) ∧ w = w' := by
  have H := Lib.hid (GaugeF.nan_test hb)
  go_enter Try.func11, Try.ntmps11
  go_wp2
  go_ret
  exact ⟨ret_bool H.out, rfl⟩

theorem bits_run (b : Nat) (w : World) : (callFunc 36 #[.float .f64 b]).run Try.prog w = .ok (.value (.int .u64 (b : Int))) w := by
  rw [run_callFunc_extern Try.func36 (by kernel_rfl) (by kernel_rfl) (by kernel_rfl) (e := Extern.MathFloatBits.float64bits) (by kernel_rfl)]; rfl
theorem frombits_run (n : Int) (w : World) : (callFunc 37 #[.int .u64 n]).run Try.prog w = .ok (.value (.float .f64 n.toNat)) w := by
  rw [run_callFunc_extern Try.func37 (by kernel_rfl) (by kernel_rfl) (by kernel_rfl) (e := Extern.MathFloatBits.float64frombits) (by kernel_rfl)]; rfl

theorem signbit_in (b : Nat) (hb : b < 18446744073709551616) : decide (wrap64 (b : Int) < 0) = GaugeF.negB b := by
  unfold wrap64
  unfold GaugeF.negB
  by_cases h : 9223372036854775808 ≤ b
  · rw [decide_eq_true h, decide_eq_true (by omega)]
  · rw [decide_eq_false h, decide_eq_false (by omega)]
theorem signbit_any (b : Nat) (w : World) (hb : b < 18446744073709551616) :
    Calls Try.prog 24 #[.float .f64 b] w fun e w' => e = .returned (.bool (GaugeF.negB b)) ∧ w = w' := by
  have H := Lib.hid (signbit_in b hb)
  go_enter Try.func24, Try.ntmps24
  go_wp2_with (simp only [bits_run])
  go_ret
  exact ⟨ret_bool H.out, rfl⟩


theorem isnan_is {b : Nat} {v : Bool} (w : World) (hb : b < 18446744073709551616) (h : GaugeF.nanB b = v) :
    Calls Try.prog 11 #[.float .f64 b] w fun e w' => e = .returned (.bool v) ∧ w = w' := by rw [← h]; exact isnan_any b w hb
theorem signbit_is {b : Nat} {v : Bool} (w : World) (hb : b < 18446744073709551616) (h : GaugeF.negB b = v) :
    Calls Try.prog 24 #[.float .f64 b] w fun e w' => e = .returned (.bool v) ∧ w = w' := by rw [← h]; exact signbit_any b w hb

theorem inf_test {b : Nat} (hb : b < 18446744073709551616) : (FloatKind.f64.format.order b 9218868437227405311 == some .gt) = decide (b = 9218868437227405312) := by
  rw [GaugeF.gt_test hb (by decide), GaugeF.nan_pos (b := 9218868437227405311) (by decide), GaugeF.val_pos (b := 9218868437227405311) (by decide)]
  cases h : GaugeF.nanB b
  · have hr := GaugeF.rung_le h
    unfold GaugeF.val GaugeF.negB
    by_cases h1 : 9223372036854775808 ≤ b
    · rw [decide_eq_true h1, decide_eq_false (p := b = _) (by omega)]
      simp
    · rw [decide_eq_false h1, GaugeF.rung_pos (by omega)]
      rw [GaugeF.rung_pos (by omega)] at hr
      simp; omega
  · have := of_decide_eq_true h
    unfold GaugeF.rung at this
    rw [decide_eq_false (p := b = _) (by omega)]; rfl

theorem isinf_any (b : Nat) (w : World) (hb : b < 18446744073709551616) :
    Calls Try.prog 12 #[.float .f64 b, .int .i64 1] w fun e w' => e = .returned (.bool (decide (b = 9218868437227405312))) ∧ w = w' := by
  have H := Lib.hid (inf_test hb)
  go_enter Try.func12, Try.ntmps12
  go_wp2
  go_ret
  exact ⟨ret_bool H.out, rfl⟩
theorem isinf_is {b : Nat} {v : Bool} (w : World) (hb : b < 18446744073709551616) (h : decide (b = 9218868437227405312) = v) :
    Calls Try.prog 12 #[.float .f64 b, .int .i64 1] w fun e w' => e = .returned (.bool v) ∧ w = w' := by rw [← h]; exact isinf_any b w hb

set_option maxHeartbeats 400000 in
theorem ahead_any (a b : Nat) (w : World) (ha : a < 18446744073709551616) (hb : b < 18446744073709551616) :
    Calls Try.prog 23 #[.float .f64 a, .float .f64 b] w fun e w' => e = .returned (.bool (GaugeF.aheadB a b)) ∧ w = w' := by
  have E := Lib.hid (GaugeF.ahead_eq a b)
  cases h1 : GaugeF.nanB a
  · have H1 := Lib.hid h1
    cases h2 : GaugeF.nanB b
    · have H2 := Lib.hid h2
      have q := GaugeF.eq_test ha hb
      rw [h1, h2] at q
      by_cases h3 : GaugeF.val a = GaugeF.val b
      · rw [decide_eq_true h3] at q
        replace q : (FloatKind.f64.format.order a b == some .eq) = true := q
        have H3 := Lib.hid h3
        cases h4 : GaugeF.negB a
        · have H4 := Lib.hid h4
          clear h1 h2 h3 h4
          go_enter Try.func23, Try.ntmps23
          go_wp2_with fail
          refine (isnan_is _ ha H1.out).mono ?_
          rintro e w1 ⟨rfl, rfl⟩
          go_wp2_with fail
          refine (isnan_is _ hb H2.out).mono ?_
          rintro e w1 ⟨rfl, rfl⟩
          go_wp2_with fail
          refine (signbit_is _ ha H4.out).mono ?_
          rintro e w1 ⟨rfl, rfl⟩
          go_wp2_with fail
          go_ret
          exact ⟨ret_bool (by rw [E.out, H1.out, H2.out, H4.out, if_neg (by decide), if_neg (by decide), if_pos H3.out]; try rfl), rfl⟩
        · have H4 := Lib.hid h4
          clear h1 h2 h3 h4
          go_enter Try.func23, Try.ntmps23
          go_wp2_with fail
          refine (isnan_is _ ha H1.out).mono ?_
          rintro e w1 ⟨rfl, rfl⟩
          go_wp2_with fail
          refine (isnan_is _ hb H2.out).mono ?_
          rintro e w1 ⟨rfl, rfl⟩
          go_wp2_with fail
          refine (signbit_is _ ha H4.out).mono ?_
          rintro e w1 ⟨rfl, rfl⟩
          go_wp2_with fail
          refine (signbit_any _ _ hb).mono ?_
          rintro e w1 ⟨rfl, rfl⟩
          go_wp2_with fail
          go_ret
          exact ⟨ret_bool (by rw [E.out, H1.out, H2.out, H4.out, if_neg (by decide), if_neg (by decide), if_pos H3.out]; try rfl), rfl⟩
      · rw [decide_eq_false h3] at q
        replace q : (FloatKind.f64.format.order a b == some .eq) = false := q
        have L := GaugeF.lt_test ha hb
        rw [h1, h2] at L
        replace L : (FloatKind.f64.format.order a b == some .lt) = decide (GaugeF.val a < GaugeF.val b) := L
        have L := Lib.hid L
        clear h1 h2
        go_enter Try.func23, Try.ntmps23
        go_wp2_with fail
        refine (isnan_is _ ha H1.out).mono ?_
        rintro e w1 ⟨rfl, rfl⟩
        go_wp2_with fail
        refine (isnan_is _ hb H2.out).mono ?_
        rintro e w1 ⟨rfl, rfl⟩
        go_wp2_with fail
        go_ret
        exact ⟨ret_bool (by rw [E.out, H1.out, H2.out, if_neg (by decide), if_neg (by decide), if_neg h3]), rfl⟩
    · have H2 := Lib.hid h2
      clear h1 h2
      go_enter Try.func23, Try.ntmps23
      go_wp2_with fail
      refine (isnan_is _ ha H1.out).mono ?_
      rintro e w1 ⟨rfl, rfl⟩
      go_wp2_with fail
      refine (isnan_is _ hb H2.out).mono ?_
      rintro e w1 ⟨rfl, rfl⟩
      go_wp2_with fail
      go_ret
      exact ⟨ret_bool (by rw [E.out, H1.out, H2.out, if_neg (by decide), if_pos rfl]), rfl⟩
  · have H1 := Lib.hid h1
    clear h1
    go_enter Try.func23, Try.ntmps23
    go_wp2_with fail
    refine (isnan_is _ ha H1.out).mono ?_
    rintro e w1 ⟨rfl, rfl⟩
    go_wp2_with fail
    go_ret
    exact ⟨ret_bool (by rw [E.out, H1.out, if_pos rfl]), rfl⟩
theorem ahead_is {a b : Nat} {v : Bool} (w : World) (ha : a < 18446744073709551616) (hb : b < 18446744073709551616) (h : GaugeF.aheadB a b = v) :
    Calls Try.prog 23 #[.float .f64 a, .float .f64 b] w fun e w' => e = .returned (.bool v) ∧ w = w' := by rw [← h]; exact ahead_any a b w ha hb

theorem order_any (a b : Nat) (w : World) (ha : a < 18446744073709551616) (hb : b < 18446744073709551616) :
    Calls Try.prog 7 #[.float .f64 a, .float .f64 b] w fun e w' => e = .returned (.int .i64 (GaugeF.ordV a b)) ∧ w = w' := by
  have E : Hid (GaugeF.ordV a b = if GaugeF.key a < GaugeF.key b then -1 else if GaugeF.key b < GaugeF.key a then 1 else 0) := rfl
  by_cases h1 : GaugeF.key a < GaugeF.key b
  · have g1 := Lib.hid (decide_eq_true h1 : GaugeF.aheadB a b = true)
    go_enter Try.func7, Try.ntmps7
    go_wp2_with fail
    refine (ahead_is _ ha hb g1.out).mono ?_
    rintro e w1 ⟨rfl, rfl⟩
    go_wp2_with fail
    go_ret
    exact ⟨fl_int (by rw [E.out, if_pos h1]), rfl⟩
  · have g1 := Lib.hid (decide_eq_false h1 : GaugeF.aheadB a b = false)
    by_cases h2 : GaugeF.key b < GaugeF.key a
    · have g2 := Lib.hid (decide_eq_true h2 : GaugeF.aheadB b a = true)
      go_enter Try.func7, Try.ntmps7
      go_wp2_with fail
      refine (ahead_is _ ha hb g1.out).mono ?_
      rintro e w1 ⟨rfl, rfl⟩
      go_wp2_with fail
      refine (ahead_is _ hb ha g2.out).mono ?_
      rintro e w1 ⟨rfl, rfl⟩
      go_wp2_with fail
      go_ret
      exact ⟨fl_int (by rw [E.out, if_neg (by omega), if_pos h2]), rfl⟩
    · have g2 := Lib.hid (decide_eq_false h2 : GaugeF.aheadB b a = false)
      go_enter Try.func7, Try.ntmps7
      go_wp2_with fail
      refine (ahead_is _ ha hb g1.out).mono ?_
      rintro e w1 ⟨rfl, rfl⟩
      go_wp2_with fail
      refine (ahead_is _ hb ha g2.out).mono ?_
      rintro e w1 ⟨rfl, rfl⟩
      go_wp2_with fail
      go_ret
      exact ⟨fl_int (by rw [E.out, if_neg (by omega), if_neg (by omega)]), rfl⟩
theorem order_is {a b : Nat} {v : Int} (w : World) (ha : a < 18446744073709551616) (hb : b < 18446744073709551616) (h : GaugeF.ordV a b = v) :
    Calls Try.prog 7 #[.float .f64 a, .float .f64 b] w fun e w' => e = .returned (.int .i64 v) ∧ w = w' := by rw [← h]; exact order_any a b w ha hb
end Go.Proofs.Ytjoeeaagjcpdpaa
