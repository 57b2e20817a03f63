/- GaugeCosts: for every two floats GaugeCosts answers true and leaves its arguments as they were. No condition. -/
import Derived.Test.YtjoeeaagjcpdpaaRows
import Derived.Test.YtjoeeaagjcpdpaaGaugeAw
import Derived.ProofKit
import Derived.OpenShut
import Derived.ShutString
import Derived.ChangeOld
import Derived.Carry
namespace Go.Proofs.Ytjoeeaagjcpdpaa.gaugeCosts
open Go.ChangeShapes Go.WideShapes Go.ChangeAt Go.RowKit
open Go.ChangeMaps (open_string shut_string)

theorem own : ownKnob Try.prog.godebug = none := by kernel_rfl
theorem laidOut : laidOutB Try.prog = true := by kernel_rfl

set_option maxHeartbeats 2000000 in
theorem walk (a b : Nat) (ha : a < 18446744073709551616) (hb : b < 18446744073709551616) (w : World) :
    Calls Try.prog 4 #[.float .f64 a, .float .f64 b] w fun e w' => e = .returned (.bool true) ∧ Below w.heap.size w w' := by
  obtain ⟨x, hx⟩ : ∃ x : Int, (GaugeF.costN a : Int) = x := ⟨_, rfl⟩
  obtain ⟨y, hy⟩ : ∃ y : Int, (GaugeF.costN b : Int) = y := ⟨_, rfl⟩
  have hle := GaugeF.le_test ha hb
  obtain ⟨le, hl⟩ : ∃ le, (FloatKind.f64.format.order a b == some .lt || FloatKind.f64.format.order a b == some .eq) = le := ⟨_, rfl⟩
  have hxy : le = true → x ≤ y := by
    rintro rfl
    rw [hl] at hle
    cases h1 : GaugeF.nanB a
    · cases h2 : GaugeF.nanB b
      · rw [h1, h2] at hle
        have := GaugeF.cost_mono ha hb h1 h2 (of_decide_eq_true hle.symm)
        omega
      · rw [h1, h2] at hle; cases hle
    · rw [h1] at hle; cases hle
  have hfar := GaugeF.cost_far ha
  have hin := GaugeF.cost_in ha
  have HX := Lib.hid hx
  have HY := Lib.hid hy
  cases h1 : GaugeF.nanB a
  · have H1 := Lib.hid h1
    by_cases h2 : a = 9218868437227405312
    · obtain rfl : x = 4294967295 := by rw [← hx, hfar.2 (.inr h2)]; rfl
      have H2 := Lib.hid (decide_eq_true h2)
      clear hx hy hle hfar hin h1 h2
      cases le
      · clear hxy
        go_enter Try.func4, Try.ntmps4
        go_wp2_with fail
        refine (cost_is _ ha HX.out).mono ?_
        rintro e w1 ⟨rfl, rfl⟩
        go_wp2_with fail
        refine (cost_is _ hb HY.out).mono ?_
        rintro e w1 ⟨rfl, rfl⟩
        go_wp2_with fail
        refine (isnan_is _ ha H1.out).mono ?_
        rintro e w1 ⟨rfl, rfl⟩
        go_wp2_with fail
        refine (isinf_is _ ha H2.out).mono ?_
        rintro e w1 ⟨rfl, rfl⟩
        go_wp2_with fail
        refine (gawake_any _).mono ?_
        rintro e w1 ⟨rfl, h1⟩
        go_wp2_with fail
        go_ret
        exact ⟨rfl, h1⟩
      · replace hxy := hxy rfl
        go_enter Try.func4, Try.ntmps4
        go_wp2_with fail
        refine (cost_is _ ha HX.out).mono ?_
        rintro e w1 ⟨rfl, rfl⟩
        go_wp2_with fail
        refine (cost_is _ hb HY.out).mono ?_
        rintro e w1 ⟨rfl, rfl⟩
        go_wp2_with fail
        refine (isnan_is _ ha H1.out).mono ?_
        rintro e w1 ⟨rfl, rfl⟩
        go_wp2_with fail
        refine (isinf_is _ ha H2.out).mono ?_
        rintro e w1 ⟨rfl, rfl⟩
        go_wp2_with fail
        refine (gawake_any _).mono ?_
        rintro e w1 ⟨rfl, h1⟩
        go_wp2_with fail
        go_ret
        exact ⟨rfl, h1⟩
    · have hnf : GaugeF.costN a ≠ 4294967295 := fun e => (hfar.1 e).elim (fun h => by rw [h1] at h; cases h) h2
      obtain ⟨i1, i2⟩ := hin hnf
      have j1 : 1 ≤ x := by omega
      have j2 : x ≤ 65536 := by omega
      have H2 := Lib.hid (decide_eq_false h2)
      have e1 : decide (x < 1) = false := decide_eq_false (by omega)
      have e2 : (x == 4294967295) = false := beq_eq_false_iff_ne.2 (by omega)
      clear hx hy hle hfar hin h1 h2 hnf i1 i2
      cases le
      · clear hxy
        go_enter Try.func4, Try.ntmps4
        go_wp2_with fail
        refine (cost_is _ ha HX.out).mono ?_
        rintro e w1 ⟨rfl, rfl⟩
        go_wp2_with fail
        refine (cost_is _ hb HY.out).mono ?_
        rintro e w1 ⟨rfl, rfl⟩
        go_wp2_with fail
        refine (isnan_is _ ha H1.out).mono ?_
        rintro e w1 ⟨rfl, rfl⟩
        go_wp2_with fail
        refine (isinf_is _ ha H2.out).mono ?_
        rintro e w1 ⟨rfl, rfl⟩
        go_wp2_with fail
        refine (gawake_any _).mono ?_
        rintro e w1 ⟨rfl, h1⟩
        go_wp2_with fail
        go_ret
        exact ⟨rfl, h1⟩
      · replace hxy := hxy rfl
        go_enter Try.func4, Try.ntmps4
        go_wp2_with fail
        refine (cost_is _ ha HX.out).mono ?_
        rintro e w1 ⟨rfl, rfl⟩
        go_wp2_with fail
        refine (cost_is _ hb HY.out).mono ?_
        rintro e w1 ⟨rfl, rfl⟩
        go_wp2_with fail
        refine (isnan_is _ ha H1.out).mono ?_
        rintro e w1 ⟨rfl, rfl⟩
        go_wp2_with fail
        refine (isinf_is _ ha H2.out).mono ?_
        rintro e w1 ⟨rfl, rfl⟩
        go_wp2_with fail
        refine (gawake_any _).mono ?_
        rintro e w1 ⟨rfl, h1⟩
        go_wp2_with fail
        go_ret
        exact ⟨rfl, h1⟩
  · have H1 := Lib.hid h1
    obtain rfl : x = 4294967295 := by rw [← hx, hfar.2 (.inl h1)]; rfl
    obtain rfl : le = false := by rw [← hl, GaugeF.le_test ha hb, h1]; rfl
    clear hx hy hle hfar hin h1 hxy
    go_enter Try.func4, Try.ntmps4
    go_wp2_with fail
    refine (cost_is _ ha HX.out).mono ?_
    rintro e w1 ⟨rfl, rfl⟩
    go_wp2_with fail
    refine (cost_is _ hb HY.out).mono ?_
    rintro e w1 ⟨rfl, rfl⟩
    go_wp2_with fail
    refine (isnan_is _ ha H1.out).mono ?_
    rintro e w1 ⟨rfl, rfl⟩
    go_wp2_with fail
    refine (gawake_any _).mono ?_
    rintro e w1 ⟨rfl, h1⟩
    go_wp2_with fail
    go_ret
    exact ⟨rfl, h1⟩


set_option maxRecDepth 100000 in
theorem lifted (os : Os) (started : os.Started) (H : Type) (enc : TypeId × Value → H) :
    ReturnsInHanded {} Try.checked os 4 .any (Rows.gaugeCostsSpec.pre6 enc Try.prog Try.f4 Rows.gaugeCostsRow.domain false) (Rows.gaugeCostsSpec.post enc Try.prog Try.f4 false true false false) := by
  refine returnsInHanded_of_change (C := Try.checked) own started (by kernel_rfl) Try.func4
    (ChangeSpec.witness6 (enc := enc) (C := Try.checked) false ⟨#[], #[.float .f64 0, .float .f64 0], []⟩ 8 (by kernel_rfl) (by kernel_rfl) (by kernel_rfl) (by kernel_rfl)) ?_
  intro W base args ds gs before hval0 hW hcnd _
  have hval : ∀ (j : Nat) t v, Try.f4.params[j]? = some t → args[j]? = some v → Value.okWide Try.prog W .any base t v := hval0
  have hW' := hW
  obtain ⟨p, q, hA0, hV, rfl, hfz, hnd⟩ := hW
  have hA : DataW.TrodAll enc Try.prog W 0 (fun _ => true) true Try.f4.params.toList args.toList ds p := hA0
  rw [Try.params4] at hA hval
  obtain ⟨v0, vs0, d0, ds0, p0, q0, hargs, rfl, rfl, h0, r0⟩ := trodAll_cons hA
  obtain ⟨v1, vs1, d1, ds1, p1, q1, rfl, rfl, rfl, h1, r1⟩ := trodAll_cons r0
  obtain ⟨rfl, rfl, rfl⟩ := trodAll_nil r1
  obtain rfl : args = #[v0, v1] := by cases args; simp_all
  obtain ⟨rfl, rfl⟩ := trodVars_none hV
  have k0 := h0
  have lt0 : ∀ x ∈ p0, x.block < W.heap.size := by obtain ⟨m, hm⟩ := k0; exact DataW.trod_lt m _ _ _ hm
  have k1 := h1
  have lt1 : ∀ x ∈ p1, x.block < W.heap.size := by obtain ⟨m, hm⟩ := k1; exact DataW.trod_lt m _ _ _ hm
  obtain ⟨a, rfl, _, _, ha⟩ := open_float Try.underlying22 (hval 0 22 v0 rfl rfl) h0
  have hba : a < 18446744073709551616 := by simpa [Lit.wf] using ha
  obtain ⟨b, rfl, _, _, hb⟩ := open_float Try.underlying22 (hval 1 22 v1 rfl rfl) h1
  have hbb : b < 18446744073709551616 := by simpa [Lit.wf] using hb
  clear hA0 hval0
  refine (walk a b hba hbb W).mono fun e W' ⟨he, bel⟩ => ?_
  subst he
  exact ⟨_, rfl, _, _, _, [], _, [], hW', trodAll_mk1 (shut_bool Try.underlying4 _),
    (trodAll_cons_mk (Below.trod laidOut (by kernel_rfl) (of_decide_eq_true (by kernel_rfl)) k0 bel lt0)
    (trodAll_cons_mk (Below.trod laidOut (by kernel_rfl) (of_decide_eq_true (by kernel_rfl)) k1 bel lt1)
    trodAll_mk0)), rfl, bel.frame _, fun h => by cases h⟩

theorem proved : Rows.GaugeCostsSaid :=
  OpenClaim.holds_of_wide 4 Try.f4 rfl rfl rfl rfl rfl rfl rfl ⟨rfl, rfl, rfl, rfl, rfl⟩ rfl rfl rfl rfl rfl (by kernel_rfl) Try.func4 (by kernel_rfl)
    (of_decide_eq_true (by kernel_rfl)) (by unfold Func.isWrapper; first | (rw [if_pos (by decide +kernel)]; kernel_rfl) | (rw [if_neg (by decide +kernel)]; exact ⟨rfl, rfl⟩))
    (fun os started H enc _ => lifted os started H enc)
end Go.Proofs.Ytjoeeaagjcpdpaa.gaugeCosts
