/- The example that the statements of package gauge ask (awake). -/
import Derived.Test.YtjoeeaagjcpdpaaGaugeE
namespace Go.Proofs.Ytjoeeaagjcpdpaa
open Go.RowKit

theorem ga1 : floatBits .quo .f64 (floatOfInt .f64 2) 4620693217682128896 = some 4598175219545276416 := by decide +kernel
theorem ga2 : floatBits .sub .f64 4607182418800017408 4598175219545276416 = some 4604930618986332160 := by decide +kernel
theorem ga3 : floatBits .mul .f64 4620693217682128896 4604930618986332160 = some 4618441417868443648 := by decide +kernel
theorem ga4 : floatBits .mul .f64 4625196817309499392 4598175219545276416 = some 4616189618054758400 := by decide +kernel
theorem ga5 : floatBits .add .f64 4618441417868443648 4616189618054758400 = some 4621819117588971520 := by decide +kernel
theorem ga6 : GaugeF.fineB 4620693217682128896 = true := by decide +kernel
theorem ga7 : GaugeF.fineB 4625196817309499392 = true := by decide +kernel
theorem ga8 : GaugeF.fineB 9221120237041090561 = false := by decide +kernel
theorem ga9 : GaugeF.fineB 9218868437227405312 = false := by decide +kernel
def awl : List Nat := [4617315517961601024, 9221120237041090561, 4613937818241073152, 13830554455654793216]
theorem gb1 : (awl.filter GaugeF.fineB).foldlM minF 9218868437227405312 = some 4613937818241073152 := by decide +kernel
theorem gb2 : (awl.filter GaugeF.fineB).foldlM maxF 18442240474082181120 = some 4617315517961601024 := by decide +kernel
theorem gb3 : (awl.filter GaugeF.fineB).length = 2 := by decide +kernel
theorem gc1 : (GaugeF.costN 4613712638259704627 : Int) = 2 := by decide +kernel
theorem gc2 : (GaugeF.costN 9221120237041090561 : Int) = 4294967295 := by decide +kernel
theorem gc3 : (GaugeF.costN 18442240474082181120 : Int) = 1 := by decide +kernel
theorem gc4 : (GaugeF.costN 9094988921128908188 : Int) = 65536 := by decide +kernel
theorem gc5 : GaugeF.ordV 9223372036854775808 0 = -1 := by decide +kernel
theorem gc6 : GaugeF.ordV 4607182418800017408 9221120237041090561 = -1 := by decide +kernel
theorem gc7 : GaugeF.fineB 0 = true := by decide +kernel
theorem gc8 : GaugeF.fineB 9223372036854775808 = false := by decide +kernel
theorem gd1 : (FloatKind.f64.format.order 4621819117588971520 4621819117588971520 == some .eq) = true := by decide +kernel
theorem gd2 : (FloatKind.f64.format.order 4625196817309499392 4625196817309499392 == some .eq) = true := by decide +kernel
theorem gd3 : (FloatKind.f64.format.order 4613937818241073152 4613937818241073152 == some .eq) = true := by decide +kernel
theorem gd4 : (FloatKind.f64.format.order 4617315517961601024 4617315517961601024 == some .eq) = true := by decide +kernel

theorem smooth_ten (w : World) : Calls Try.prog 13 #[.float .f64 4620693217682128896, .float .f64 4625196817309499392, .int .i64 2] w fun e w' => e = .returned (.tuple #[.float .f64 4621819117588971520, .int .i64 0]) ∧ w = w' :=
  smooth_go _ _ 2 _ _ _ _ _ w (by decide) (by decide) (by decide) (by decide) ga6 ga7 ga1 ga2 ga3 ga4 ga5
theorem spread_awl (b : Addr) (c : Nat) (w : World) (h : FlAt w (some b) awl) :
    Calls Try.prog 27 #[.slice (some b) 4 c] w fun e w' => e = .returned (.tuple #[.float .f64 4613937818241073152, .float .f64 4617315517961601024, .int .i64 2]) ∧ Below w.heap.size w w' :=
  spread_is (some b) c awl _ _ 2 w h (by decide) gb1 gb2 gb3

theorem flAt_awl (w : World) (T : TypeId) : FlAt (w.alloc (.cells #[.float .f64 4617315517961601024, .float .f64 9221120237041090561, .float .f64 4613937818241073152, .float .f64 13830554455654793216] T)) (some ⟨w.heap.size, 0, none⟩) awl := by
  intro i x hi
  have h4 : i < 4 := (List.getElem?_eq_some_iff.1 hi).1
  obtain rfl | rfl | rfl | rfl : i = 0 ∨ i = 1 ∨ i = 2 ∨ i = 3 := by omega
  all_goals (cases hi; refine ⟨by decide, _, rfl, ?_⟩; simp [Addr.add, go_sem])

set_option maxRecDepth 100000 in
set_option maxHeartbeats 1000000 in
theorem gawake_any (w : World) : Calls Try.prog 9 #[] w fun e w' => e = .returned (.bool true) ∧ Below w.heap.size w w' := by
  have d1 := gd1
  have d2 := gd2
  have d3 := gd3
  have d4 := gd4
  go_enter Try.func9, Try.ntmps9
  go_wp2_with fail
  refine (smooth_ten _).mono ?_
  rintro e w1 ⟨rfl, rfl⟩
  go_wp2_with fail
  refine (nan_any _).mono ?_
  rintro e w1 ⟨rfl, rfl⟩
  go_wp2_with fail
  refine (smooth_new _ _ 2 _ (by decide) (by decide) (by decide) (by decide) ga8 ga7).mono ?_
  rintro e w1 ⟨rfl, rfl⟩
  go_wp2_with fail
  refine (inf_pos _).mono ?_
  rintro e w1 ⟨rfl, rfl⟩
  go_wp2_with fail
  refine (smooth_form _ _ 2 _ (by decide) (by decide) (by decide) ga9).mono ?_
  rintro e w1 ⟨rfl, rfl⟩
  go_wp2_with fail
  refine (smooth_arg _ _ _).mono ?_
  rintro e w1 ⟨rfl, rfl⟩
  go_wp2_with fail
  refine (nan_any _).mono ?_
  rintro e w1 ⟨rfl, rfl⟩
  go_wp2_with fail
  refine (spread_awl _ _ _ (flAt_awl _ _)).mono ?_
  rintro e w1 ⟨rfl, hb1⟩
  have HB := Lib.hid (bel_on ((Below.refl _ _).alloc (Nat.le_refl _) _) hb1)
  clear hb1
  go_wp2_with fail
  refine (cost_is _ (by decide) gc1).mono ?_
  rintro e w2 ⟨rfl, rfl⟩
  go_wp2_with fail
  refine (nan_any _).mono ?_
  rintro e w2 ⟨rfl, rfl⟩
  go_wp2_with fail
  refine (cost_is _ (by decide) gc2).mono ?_
  rintro e w2 ⟨rfl, rfl⟩
  go_wp2_with fail
  refine (inf_neg _).mono ?_
  rintro e w2 ⟨rfl, rfl⟩
  go_wp2_with fail
  refine (cost_is _ (by decide) gc3).mono ?_
  rintro e w2 ⟨rfl, rfl⟩
  go_wp2_with fail
  refine (cost_is _ (by decide) gc4).mono ?_
  rintro e w2 ⟨rfl, rfl⟩
  go_wp2_with fail
  refine (copysign_is _).mono ?_
  rintro e w2 ⟨rfl, rfl⟩
  go_wp2_with fail
  refine (order_is _ (by decide) (by decide) gc5).mono ?_
  rintro e w2 ⟨rfl, rfl⟩
  go_wp2_with fail
  refine (nan_any _).mono ?_
  rintro e w2 ⟨rfl, rfl⟩
  go_wp2_with fail
  refine (order_is _ (by decide) (by decide) gc6).mono ?_
  rintro e w2 ⟨rfl, rfl⟩
  go_wp2_with fail
  refine (fine_is _ (by decide) gc7).mono ?_
  rintro e w2 ⟨rfl, rfl⟩
  go_wp2_with fail
  refine (copysign_is _).mono ?_
  rintro e w2 ⟨rfl, rfl⟩
  go_wp2_with fail
  refine (fine_is _ (by decide) gc8).mono ?_
  rintro e w2 ⟨rfl, rfl⟩
  go_wp2_with fail
  go_ret
  exact ⟨rfl, HB.out⟩
end Go.Proofs.Ytjoeeaagjcpdpaa
