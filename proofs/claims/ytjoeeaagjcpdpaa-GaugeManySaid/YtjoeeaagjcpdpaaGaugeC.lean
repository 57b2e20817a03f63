/- The contracts of gauge.Cost and gauge.Smooth. -/
import Derived.Test.YtjoeeaagjcpdpaaGaugeB
import Derived.Test.YtjoeeaagjcpdpaaGaugeG
namespace Go.Proofs.Ytjoeeaagjcpdpaa
open Go.RowKit

theorem cost_any (b : Nat) (w : World) (hb : b < 18446744073709551616) :
    Calls Try.prog 10 #[.float .f64 b] w fun e w' => e = .returned (.int .u32 (GaugeF.costN b : Int)) ∧ w = w' := by
  have E : Hid (GaugeF.costN b = if GaugeF.nanB b = true then 4294967295 else if b = 9218868437227405312 then 4294967295
    else if GaugeF.val b < 4607182418800017408 then 1 else if 4679240012837945344 ≤ GaugeF.val b then 65536 else GaugeF.truncN b) := rfl
  cases h1 : GaugeF.nanB b
  · have H1 := Lib.hid h1
    by_cases h2 : b = 9218868437227405312
    · have H2 := Lib.hid (decide_eq_true h2)
      have H2' := Lib.hid h2
      clear h1 h2
      go_enter Try.func10, Try.ntmps10
      go_wp2_with fail
      refine (isnan_is _ hb H1.out).mono ?_
      rintro e w1 ⟨rfl, rfl⟩
      go_wp2_with fail
      refine (isinf_is _ hb H2.out).mono ?_
      rintro e w1 ⟨rfl, rfl⟩
      go_wp2_with fail
      go_ret
      exact ⟨fl_int (by rw [E.out, H1.out, if_neg (by decide), if_pos H2'.out]; rfl), rfl⟩
    · have H2 := Lib.hid (decide_eq_false h2)
      have L := GaugeF.lt_test hb (show 4607182418800017408 < 18446744073709551616 by decide)
      have G := GaugeF.ge_test hb (show 4679240012837945344 < 18446744073709551616 by decide)
      rw [h1, GaugeF.nan_pos (b := 4607182418800017408) (by decide), GaugeF.val_pos (b := 4607182418800017408) (by decide)] at L
      rw [h1, GaugeF.nan_pos (b := 4679240012837945344) (by decide), GaugeF.val_pos (b := 4679240012837945344) (by decide)] at G
      by_cases h3 : GaugeF.val b < ((4607182418800017408 : Nat) : Int)
      · rw [decide_eq_true h3] at L
        replace L : (FloatKind.f64.format.order b 4607182418800017408 == some .lt) = true := L
        have C := Lib.hid (show GaugeF.costN b = 1 by rw [E.out, h1, if_neg (by decide), if_neg h2, if_pos (show GaugeF.val b < 4607182418800017408 by omega)])
        clear h1 h2 h3 G
        go_enter Try.func10, Try.ntmps10
        go_wp2_with fail
        refine (isnan_is _ hb H1.out).mono ?_
        rintro e w1 ⟨rfl, rfl⟩
        go_wp2_with fail
        refine (isinf_is _ hb H2.out).mono ?_
        rintro e w1 ⟨rfl, rfl⟩
        go_wp2_with fail
        go_ret
        exact ⟨fl_int (by rw [C.out]; rfl), rfl⟩
      · rw [decide_eq_false h3] at L
        replace L : (FloatKind.f64.format.order b 4607182418800017408 == some .lt) = false := L
        by_cases h4 : ((4679240012837945344 : Nat) : Int) ≤ GaugeF.val b
        · rw [decide_eq_true h4] at G
          replace G : (FloatKind.f64.format.order b 4679240012837945344 == some .gt || FloatKind.f64.format.order b 4679240012837945344 == some .eq) = true := G
          have C := Lib.hid (show GaugeF.costN b = 65536 by rw [E.out, h1, if_neg (by decide), if_neg h2, if_neg (show ¬ GaugeF.val b < 4607182418800017408 by omega), if_pos (show 4679240012837945344 ≤ GaugeF.val b by omega)])
          clear h1 h2 h3 h4
          go_enter Try.func10, Try.ntmps10
          go_wp2_with fail
          refine (isnan_is _ hb H1.out).mono ?_
          rintro e w1 ⟨rfl, rfl⟩
          go_wp2_with fail
          refine (isinf_is _ hb H2.out).mono ?_
          rintro e w1 ⟨rfl, rfl⟩
          go_wp2_with fail
          go_ret
          exact ⟨fl_int (by rw [C.out]; rfl), rfl⟩
        · rw [decide_eq_false h4] at G
          replace G : (FloatKind.f64.format.order b 4679240012837945344 == some .gt || FloatKind.f64.format.order b 4679240012837945344 == some .eq) = false := G
          have C := Lib.hid (show GaugeF.costN b = GaugeF.truncN b by rw [E.out, h1, if_neg (by decide), if_neg h2, if_neg (show ¬ GaugeF.val b < 4607182418800017408 by omega), if_neg (show ¬ 4679240012837945344 ≤ GaugeF.val b by omega)])
          obtain ⟨h5, h6⟩ := GaugeF.val_ge hb (by decide) (show (4607182418800017408 : Int) ≤ GaugeF.val b by omega)
          have ht := GaugeF.trunc_val (b := b) (by omega) (by omega)
          have hc : ∀ w, (convert 22 27 (.float .f64 b)).run Try.prog w = .ok (.int .u32 (GaugeF.truncN b : Int)) w := fun w => run_convert_float_int w 22 27 .f64 .u32 b _ (by rw [Try.underlying22]; rfl) Try.underlying27 ht
          have HC := Lib.hid hc
          clear h1 h2 h3 h4 h5 h6 ht hc
          go_enter Try.func10, Try.ntmps10
          go_wp2_with fail
          refine (isnan_is _ hb H1.out).mono ?_
          rintro e w1 ⟨rfl, rfl⟩
          go_wp2_with fail
          refine (isinf_is _ hb H2.out).mono ?_
          rintro e w1 ⟨rfl, rfl⟩
          go_wp2_with (simp only [HC.out])
          go_ret
          exact ⟨fl_int (by rw [C.out]), rfl⟩
  · have H1 := Lib.hid h1
    clear h1
    go_enter Try.func10, Try.ntmps10
    go_wp2_with fail
    refine (isnan_is _ hb H1.out).mono ?_
    rintro e w1 ⟨rfl, rfl⟩
    go_wp2_with fail
    go_ret
    exact ⟨fl_int (by rw [E.out, H1.out, if_pos rfl]; rfl), rfl⟩
theorem cost_is {b : Nat} {v : Int} (w : World) (hb : b < 18446744073709551616) (h : (GaugeF.costN b : Int) = v) :
    Calls Try.prog 10 #[.float .f64 b] w fun e w' => e = .returned (.int .u32 v) ∧ w = w' := by rw [← h]; exact cost_any b w hb

theorem smooth_arg (a b : Nat) (w : World) :
    Calls Try.prog 13 #[.float .f64 a, .float .f64 b, .int .i64 9] w fun e w' => e = .returned (.tuple #[.float .f64 0, .int .i64 1]) ∧ w = w' := by
  go_enter Try.func13, Try.ntmps13
  go_wp2
  go_ret2
  exact ⟨rfl, rfl⟩
theorem smooth_form (a b : Nat) (n : Int) (w : World) (hb : b < 18446744073709551616) (h0 : 0 ≤ n) (h8 : n ≤ 8) (fb : GaugeF.fineB b = false) :
    Calls Try.prog 13 #[.float .f64 a, .float .f64 b, .int .i64 n] w fun e w' => e = .returned (.tuple #[.float .f64 0, .int .i64 3]) ∧ w = w' := by
  have FB := Lib.hid fb
  clear fb
  go_enter Try.func13, Try.ntmps13
  go_wp2_with fail
  refine (fine_is _ hb FB.out).mono ?_
  rintro e w1 ⟨rfl, rfl⟩
  go_wp2_with fail
  go_ret2
  exact ⟨rfl, rfl⟩
theorem smooth_new (a b : Nat) (n : Int) (w : World) (ha : a < 18446744073709551616) (hb : b < 18446744073709551616) (h0 : 0 ≤ n) (h8 : n ≤ 8) (fa : GaugeF.fineB a = false) (fb : GaugeF.fineB b = true) :
    Calls Try.prog 13 #[.float .f64 a, .float .f64 b, .int .i64 n] w fun e w' => e = .returned (.tuple #[.float .f64 b, .int .i64 0]) ∧ w = w' := by
  have FA := Lib.hid fa
  have FB := Lib.hid fb
  clear fa fb
  go_enter Try.func13, Try.ntmps13
  go_wp2_with fail
  refine (fine_is _ hb FB.out).mono ?_
  rintro e w1 ⟨rfl, rfl⟩
  go_wp2_with fail
  refine (fine_is _ ha FA.out).mono ?_
  rintro e w1 ⟨rfl, rfl⟩
  go_wp2_with fail
  go_ret2
  exact ⟨rfl, rfl⟩
theorem smooth_go (a b : Nat) (n : Int) (p q r s t : Nat) (w : World) (ha : a < 18446744073709551616) (hb : b < 18446744073709551616) (h0 : 0 ≤ n) (h8 : n ≤ 8) (fa : GaugeF.fineB a = true) (fb : GaugeF.fineB b = true)
    (hp : floatBits .quo .f64 (floatOfInt .f64 n) 4620693217682128896 = some p) (hq : floatBits .sub .f64 4607182418800017408 p = some q) (hr : floatBits .mul .f64 a q = some r) (hs : floatBits .mul .f64 b p = some s) (ht : floatBits .add .f64 r s = some t) :
    Calls Try.prog 13 #[.float .f64 a, .float .f64 b, .int .i64 n] w fun e w' => e = .returned (.tuple #[.float .f64 t, .int .i64 0]) ∧ w = w' := by
  have FA := Lib.hid fa
  have FB := Lib.hid fb
  have o1 : ∀ t w, (binOp .quo t (.float .f64 (floatOfInt .f64 n)) (.float .f64 4620693217682128896)).run Try.prog w = .ok (.float .f64 p) w := fun t w => run_float_arith w .quo t .f64 _ _ _ hp
  have o2 : ∀ t w, (binOp .sub t (.float .f64 4607182418800017408) (.float .f64 p)).run Try.prog w = .ok (.float .f64 q) w := fun t w => run_float_arith w .sub t .f64 _ _ _ hq
  have o3 : ∀ t w, (binOp .mul t (.float .f64 a) (.float .f64 q)).run Try.prog w = .ok (.float .f64 r) w := fun t w => run_float_arith w .mul t .f64 _ _ _ hr
  have o4 : ∀ t w, (binOp .mul t (.float .f64 b) (.float .f64 p)).run Try.prog w = .ok (.float .f64 s) w := fun t w => run_float_arith w .mul t .f64 _ _ _ hs
  have o5 : ∀ u w, (binOp .add u (.float .f64 r) (.float .f64 s)).run Try.prog w = .ok (.float .f64 t) w := fun u w => run_float_arith w .add u .f64 _ _ _ ht
  have O1 := Lib.hid o1
  have O2 := Lib.hid o2
  have O3 := Lib.hid o3
  have O4 := Lib.hid o4
  have O5 := Lib.hid o5
  clear fa fb hp hq hr hs ht o1 o2 o3 o4 o5
  go_enter Try.func13, Try.ntmps13
  go_wp2_with fail
  refine (fine_is _ hb FB.out).mono ?_
  rintro e w1 ⟨rfl, rfl⟩
  go_wp2_with fail
  refine (fine_is _ ha FA.out).mono ?_
  rintro e w1 ⟨rfl, rfl⟩
  go_wp2_with (simp only [O1.out, O2.out, O3.out, O4.out, O5.out])
  go_ret2
  exact ⟨rfl, rfl⟩
end Go.Proofs.Ytjoeeaagjcpdpaa
