/- PackFlips: for every text and every number, PackFlips answers true and leaves its arguments as they were. No condition. -/
import Derived.Test.YtigedkbocooinaaRows
import Derived.Test.YtigedkbocooinaaPackK
import Derived.ProofKit
import Derived.OpenShut
import Derived.ShutString
import Derived.ChangeOld
import Derived.Carry
namespace Go.Proofs.Ytigedkbocooinaa.packFlips
open Go.ChangeShapes Go.WideShapes Go.ChangeAt Go.RowKit
open Go.ChangeMaps (open_string shut_string)

theorem own : ownKnob Try.prog.godebug = none := by kernel_rfl
theorem laidOut : laidOutB Try.prog = true := by kernel_rfl

theorem bit_in (k : Int) (n : Nat) (h1 : 0 < n) (h2 : n ≤ 600) : ∃ b, wrap64 ((IntKind.u64.wrap k).tmod (8 * (n : Int))) = b ∧ 0 ≤ b ∧ b < 8 * n := by
  refine ⟨_, rfl, ?_⟩
  rw [IntKind.wrap_u64]
  have h0 : 0 ≤ k % 18446744073709551616 := by omega
  have ha := Int.tmod_nonneg (8 * (n : Int)) h0
  have hb := Int.tmod_lt_of_pos (k % 18446744073709551616) (show 0 < 8 * (n : Int) by omega)
  rw [IntWalk.wrap64_in _ (by omega)]
  exact ⟨ha, hb⟩

theorem walk (s : ByteArray) (k : Int) (hs : s.size ≤ maxLen) (hk : (Lit.int .i64 k).wf = true) (w : World) :
    Calls Try.prog 4 #[.string s, .int .i64 k] w fun e w' => e = .returned (.bool true) ∧ Below w.heap.size w w' := by
  unfold maxLen at hs
  have hk1 := bounds_i64 hk
  obtain ⟨hk1, hk2⟩ := hk1
  by_cases h : s.size = 0 ∨ 600 < s.size
  · have hE : str (PackF.flipF [] k) = ⟨#[]⟩ := by
      have : PackF.flipF [] k = [] := List.eq_nil_of_length_eq_zero (by rw [PackF.flip_length]; rfl)
      rw [this]; rfl
    have HE := Lib.hid hE
    clear hE
    by_cases h0 : s.size = 0
    · have hz : ((s.size : Int) == 0) = true := beq_iff_eq.2 (by omega)
      clear h h0
      go_enter Try.func4, Try.ntmps4
      go_wp2_with fail
      refine (flip_is _ (by decide) (by omega) HE.out).mono ?_
      rintro e w1 ⟨rfl, hbel1⟩
      go_wp2_with fail
      refine (awake_any _).mono ?_
      rintro e w2 ⟨rfl, hbel2⟩
      go_wp2_with fail
      go_ret
      exact ⟨rfl, hbel1.trans (hbel2.mono hbel1.size)⟩
    · have hz : ((s.size : Int) == 0) = false := beq_eq_false_iff_ne.2 (by omega)
      have hd : decide (600 < (s.size : Int)) = true := decide_eq_true (by omega)
      clear h h0
      go_enter Try.func4, Try.ntmps4
      go_wp2_with fail
      refine (flip_is _ (by decide) (by omega) HE.out).mono ?_
      rintro e w1 ⟨rfl, hbel1⟩
      go_wp2_with fail
      refine (awake_any _).mono ?_
      rintro e w2 ⟨rfl, hbel2⟩
      go_wp2_with fail
      go_ret
      exact ⟨rfl, hbel1.trans (hbel2.mono hbel1.size)⟩
  · have h1 : 0 < s.size := by omega
    have h2 : s.size ≤ 600 := by omega
    have hz : ((s.size : Int) == 0) = false := beq_eq_false_iff_ne.2 (by omega)
    have hd : decide (600 < (s.size : Int)) = false := decide_eq_false (by omega)
    clear h
    obtain ⟨b, hb, hb0, hb1⟩ := bit_in k s.size h1 h2
    obtain ⟨x, hx⟩ : ∃ x, str (PackF.flipF s.data.toList b) = x := ⟨_, rfl⟩
    have hs' : s.size ≤ maxLen := by unfold maxLen; omega
    have hxs : x.size = s.size := by rw [← hx, str_size, PackF.flip_length, size_list]
    have hxx : str (PackF.flipF x.data.toList b) = s := by rw [← hx, str_list, PackF.flip_flip, str_of]
    have hxm : x.size ≤ maxLen := by omega
    have hne : (x.toList == s.toList) = false := by
      rw [Lib.toList_data, Lib.toList_data, beq_eq_false_iff_ne, ← hx, str_list]
      exact PackF.flip_ne _ _ hb0 (by rw [size_list]; exact hb1)
    have HX := Lib.hid hx
    have HXX := Lib.hid hxx
    clear hx hxx
    go_enter Try.func4, Try.ntmps4
    go_wp2_with fail
    refine (flip_is _ hs' (by omega) HX.out).mono ?_
    rintro e w1 ⟨rfl, hbel1⟩
    go_wp2_with fail
    refine (flip_is _ hxm (by omega) HXX.out).mono ?_
    rintro e w2 ⟨rfl, hbel2⟩
    go_wp2_with fail
    refine (awake_any _).mono ?_
    rintro e w3 ⟨rfl, hbel3⟩
    go_wp2_with fail
    go_ret
    have h12 := hbel1.trans (hbel2.mono hbel1.size)
    exact ⟨rfl, h12.trans (hbel3.mono h12.size)⟩

set_option maxRecDepth 100000 in
theorem lifted (os : Os) (started : os.Started) (H : Type) (enc : TypeId × Value → H) :
    ReturnsInHanded {} Try.checked os 4 .any (Rows.packFlipsSpec.pre6 enc Try.prog Try.f4 Rows.packFlipsRow.domain false) (Rows.packFlipsSpec.post enc Try.prog Try.f4 false true false false) := by
  refine returnsInHanded_of_change (C := Try.checked) own started (by kernel_rfl) Try.func4
    (ChangeSpec.witness6 (enc := enc) (C := Try.checked) false ⟨#[], #[.string ByteArray.empty, .int .i64 0], []⟩ 8 (by kernel_rfl) (by kernel_rfl) (by kernel_rfl) (by kernel_rfl)) ?_
  intro W base args ds gs before hval0 hW hcnd _
  have hval : ∀ (j : Nat) t v, Try.f4.params[j]? = some t → args[j]? = some v → Value.okWide Try.prog W .any base t v := hval0
  have hW' := hW
  obtain ⟨p, q, hA0, hV, rfl, hfz, hnd⟩ := hW
  have hA : DataW.TrodAll enc Try.prog W 0 (fun _ => true) true Try.f4.params.toList args.toList ds p := hA0
  rw [Try.params4] at hA hval
  obtain ⟨v0, vs0, d0, ds0, p0, q0, hargs, rfl, rfl, h0, r0⟩ := trodAll_cons hA
  obtain ⟨v1, vs1, d1, ds1, p1, q1, rfl, rfl, rfl, h1, r1⟩ := trodAll_cons r0
  obtain ⟨rfl, rfl, rfl⟩ := trodAll_nil r1
  obtain rfl : args = #[v0, v1] := by cases args; simp_all
  obtain ⟨rfl, rfl⟩ := trodVars_none hV
  have k0 := h0
  have lt0 : ∀ x ∈ p0, x.block < W.heap.size := by obtain ⟨m, hm⟩ := k0; exact DataW.trod_lt m _ _ _ hm
  have k1 := h1
  have lt1 : ∀ x ∈ p1, x.block < W.heap.size := by obtain ⟨m, hm⟩ := k1; exact DataW.trod_lt m _ _ _ hm
  obtain ⟨s, rfl, _, _, hs⟩ := open_string Try.underlying9 (hval 0 9 v0 rfl rfl) h0
  obtain ⟨k, rfl, _, _, hk⟩ := open_int Try.underlying3 (hval 1 3 v1 rfl rfl) h1
  clear hA0 hval0
  refine (walk s k hs hk W).mono fun e W' ⟨he, bel⟩ => ?_
  subst he
  exact ⟨_, rfl, _, _, _, [], _, [], hW', trodAll_mk1 (shut_bool Try.underlying4 _),
    (trodAll_cons_mk (Below.trod laidOut (by kernel_rfl) (of_decide_eq_true (by kernel_rfl)) k0 bel lt0)
    (trodAll_cons_mk (Below.trod laidOut (by kernel_rfl) (of_decide_eq_true (by kernel_rfl)) k1 bel lt1) trodAll_mk0)), rfl, bel.frame _, fun h => by cases h⟩

theorem proved : Rows.PackFlipsSaid :=
  OpenClaim.holds_of_wide 4 Try.f4 rfl rfl rfl rfl rfl rfl rfl ⟨rfl, rfl, rfl, rfl, rfl⟩ rfl rfl rfl rfl rfl (by kernel_rfl) Try.func4 (by kernel_rfl)
    (of_decide_eq_true (by kernel_rfl)) (by unfold Func.isWrapper; first | (rw [if_pos (by decide +kernel)]; kernel_rfl) | (rw [if_neg (by decide +kernel)]; exact ⟨rfl, rfl⟩))
    (fun os started H enc _ => lifted os started H enc)
end Go.Proofs.Ytigedkbocooinaa.packFlips
