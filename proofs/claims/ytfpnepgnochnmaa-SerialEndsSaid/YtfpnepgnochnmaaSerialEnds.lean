/- SerialEnds: whatever number comes, the law returns true (taken modulo 65536 it either has a next one, which is one ahead of it, is near it and right, and it is below the last one, or it is the last one or above, and its next one is none), and its argument reads as before. No condition. -/
import Derived.Test.YtfpnepgnochnmaaRows
import Derived.Test.YtfpnepgnochnmaaSerAw
import Derived.ProofKit
import Derived.OpenShut
import Derived.ShutString
import Derived.ChangeOld
import Derived.Carry
namespace Go.Proofs.Ytfpnepgnochnmaa.serialEnds
open Go.ChangeShapes Go.WideShapes Go.ChangeAt Go.RowKit
open Go.ChangeMaps (open_string shut_string)

theorem own : ownKnob Try.prog.godebug = none := by kernel_rfl
theorem laidOut : laidOutB Try.prog = true := by kernel_rfl

theorem rem_of (t : Int) : ∃ q : Nat, q < 65536 ∧ wrap64 ((IntKind.u64.wrap t).tmod 65536) = (q : Int) := by
  have hu : 0 ≤ IntKind.u64.wrap t := by rw [IntKind.wrap_u64]; omega
  rw [Int.tmod_eq_emod_of_nonneg hu]
  have h2 : 0 ≤ IntKind.u64.wrap t % 65536 := Int.emod_nonneg _ (by omega)
  have h3 : IntKind.u64.wrap t % 65536 < 65536 := Int.emod_lt_of_pos _ (by omega)
  refine ⟨(IntKind.u64.wrap t % 65536).toNat, by omega, ?_⟩
  rw [IntWalk.wrap64_in _ (by omega)]
  omega
theorem rights (q : Nat) (h : q < 65536) : rightS (q : Int) = true := by
  have h1 : (0 : Int) ≤ (q : Int) := by omega
  have h2 : (q : Int) ≤ 65535 := by omega
  simp [rightS, h2]
theorem right_suc (q : Nat) (h : q < 65000) : rightS ((q : Int) + 1) = true := by
  have h1 : (0 : Int) ≤ (q : Int) + 1 := by omega
  have h2 : (q : Int) + 1 ≤ 65535 := by omega
  simp [rightS, h1, h2]
theorem ahead_suc (q : Nat) (h : q < 65000) : aheadS ((q : Int) + 1) (q : Int) = 1 := by
  have h1 : ¬ (q : Int) + 1 < (q : Int) := by omega
  simp only [aheadS, rights q (by omega), right_suc q h, h1]
  simp
  omega
theorem ahead_back (q : Nat) : aheadS (q : Int) ((q : Int) + 1) = -1 := by
  have h1 : (q : Int) < (q : Int) + 1 := by omega
  simp [aheadS, h1]
theorem near_suc (q : Nat) (h : q < 65000) : nearS ((q : Int) + 1) (q : Int) = true := by
  rw [nearS, ahead_suc q h]
  decide

set_option maxRecDepth 100000 in
set_option maxHeartbeats 2000000 in
theorem walk (n : Int) (w : World) :
    Calls Try.prog 3 #[.int .i64 n] w fun e w' => e = .returned (.bool true) ∧ Below w.heap.size w w' := by
  obtain ⟨q, hq, et⟩ := rem_of n
  have AW := Lib.hid sawake_any
  have NX := Lib.hid (fun w => snext_any (q : Int) w (by omega) (by omega))
  by_cases h : q < 65000
  · have e0 : nextS (q : Int) = ((q : Int) + 1, 0) := by
      have h1 : ¬ (65000 : Int) ≤ (q : Int) := by omega
      simp [nextS, rights q hq, h1]
    rw [e0] at NX
    have A0 := Lib.hid (fun w => sahead_any ((q : Int) + 1) (q : Int) w)
    rw [ahead_suc q h] at A0
    have A1 := Lib.hid (fun w => sahead_any (q : Int) ((q : Int) + 1) w)
    rw [ahead_back q] at A1
    have M0 := Lib.hid (fun w => snear_any ((q : Int) + 1) (q : Int) w)
    rw [near_suc q h] at M0
    have R0 := Lib.hid (fun w => sright_any ((q : Int) + 1) w)
    rw [right_suc q h] at R0
    have h2 : (q : Int) < 65000 := by omega
    clear e0 h hq
    go_enter Try.func3, Try.ntmps3
    go_wp2_with fail
    refine (NX.out _).mono ?_
    rintro e w1 ⟨rfl, rfl⟩
    go_wp2_with fail
    refine (A0.out _).mono ?_
    rintro e w1 ⟨rfl, rfl⟩
    go_wp2_with fail
    refine (A1.out _).mono ?_
    rintro e w1 ⟨rfl, rfl⟩
    go_wp2_with fail
    refine (M0.out _).mono ?_
    rintro e w1 ⟨rfl, rfl⟩
    go_wp2_with fail
    refine (R0.out _).mono ?_
    rintro e w1 ⟨rfl, rfl⟩
    go_wp2_with fail
    refine (AW.out _).mono ?_
    rintro e w1 ⟨rfl, rfl⟩
    go_wp2_with fail
    go_ret
    exact ⟨rfl, Below.refl _ _⟩
  · have e0 : nextS (q : Int) = (0, 11) := by
      have h1 : (65000 : Int) ≤ (q : Int) := by omega
      simp [nextS, rights q hq, h1]
    rw [e0] at NX
    have h2 : (65000 : Int) ≤ (q : Int) := by omega
    clear e0 h hq
    go_enter Try.func3, Try.ntmps3
    go_wp2_with fail
    refine (NX.out _).mono ?_
    rintro e w1 ⟨rfl, rfl⟩
    go_wp2_with fail
    refine (AW.out _).mono ?_
    rintro e w1 ⟨rfl, rfl⟩
    go_wp2_with fail
    go_ret
    exact ⟨rfl, Below.refl _ _⟩


set_option maxRecDepth 100000 in
theorem lifted (os : Os) (started : os.Started) (H : Type) (enc : TypeId × Value → H) :
    ReturnsInHanded {} Try.checked os 3 .any (Rows.serialEndsSpec.pre6 enc Try.prog Try.f3 Rows.serialEndsRow.domain false) (Rows.serialEndsSpec.post enc Try.prog Try.f3 false true false false) := by
  refine returnsInHanded_of_change (C := Try.checked) own started (by kernel_rfl) Try.func3
    (ChangeSpec.witness6 (enc := enc) (C := Try.checked) false ⟨#[], #[.int .i64 0], []⟩ 8 (by kernel_rfl) (by kernel_rfl) (by kernel_rfl) (by kernel_rfl)) ?_
  intro W base args ds gs before hval0 hW hcnd _
  have hval : ∀ (j : Nat) t v, Try.f3.params[j]? = some t → args[j]? = some v → Value.okWide Try.prog W .any base t v := hval0
  have hW' := hW
  obtain ⟨p, q, hA0, hV, rfl, hfz, hnd⟩ := hW
  have hA : DataW.TrodAll enc Try.prog W 0 (fun _ => true) true Try.f3.params.toList args.toList ds p := hA0
  rw [Try.params3] at hA hval
  obtain ⟨v0, vs0, d0, ds0, p0, q0, hargs, rfl, rfl, h0, r0⟩ := trodAll_cons hA
  obtain ⟨rfl, rfl, rfl⟩ := trodAll_nil r0
  obtain rfl : args = #[v0] := by cases args; simp_all
  obtain ⟨rfl, rfl⟩ := trodVars_none hV
  have k0 := h0
  have lt0 : ∀ x ∈ p0, x.block < W.heap.size := by obtain ⟨m, hm⟩ := k0; exact DataW.trod_lt m _ _ _ hm
  obtain ⟨n, rfl, _, _, hn⟩ := open_int Try.underlying3 (hval 0 3 v0 rfl rfl) h0
  have hbn := bounds_i64 hn
  clear hA0 hval0
  refine (walk n W).mono fun e W' ⟨he, bel⟩ => ?_
  subst he
  exact ⟨_, rfl, _, _, _, [], _, [], hW', trodAll_mk1 (shut_bool Try.underlying4 _),
    (trodAll_cons_mk (Below.trod laidOut (by kernel_rfl) (of_decide_eq_true (by kernel_rfl)) k0 bel lt0)
    trodAll_mk0), rfl, bel.frame _, fun h => by cases h⟩

theorem proved : Rows.SerialEndsSaid :=
  OpenClaim.holds_of_wide 3 Try.f3 rfl rfl rfl rfl rfl rfl rfl ⟨rfl, rfl, rfl, rfl, rfl⟩ rfl rfl rfl rfl rfl (by kernel_rfl) Try.func3 (by kernel_rfl)
    (of_decide_eq_true (by kernel_rfl)) (by unfold Func.isWrapper; first | (rw [if_pos (by decide +kernel)]; kernel_rfl) | (rw [if_neg (by decide +kernel)]; exact ⟨rfl, rfl⟩))
    (fun os started H enc _ => lifted os started H enc)
end Go.Proofs.Ytfpnepgnochnmaa.serialEnds
