/- PackVars: for every two numbers and every text, PackVars answers true and leaves its arguments as they were. No condition. -/
import Derived.Test.YtigedkbocooinaaRows
import Derived.Test.YtigedkbocooinaaPackK
import Derived.ProofKit
import Derived.OpenShut
import Derived.ShutString
import Derived.ChangeOld
import Derived.Carry
namespace Go.Proofs.Ytigedkbocooinaa.packVars
open Go.ChangeShapes Go.WideShapes Go.ChangeAt Go.RowKit
open Go.ChangeMaps (open_string shut_string)

theorem own : ownKnob Try.prog.godebug = none := by kernel_rfl
theorem laidOut : laidOutB Try.prog = true := by kernel_rfl

theorem unvar_is {s r : ByteArray} {n : Nat} {c : Int} (w : World) (hs : s.size ≤ maxLen) (h : unvarV s.data.toList = .tuple #[.int .u64 (n : Int), .string r, .int .i64 c]) :
    Calls Try.prog 12 #[.string s] w fun e w' => e = .returned (.tuple #[.int .u64 (n : Int), .string r, .int .i64 c]) ∧ ∃ n, w' = w.drewN n := by
  rw [← h]; exact unvar_any s w hs
theorem refunvar_is {s r : ByteArray} {n : Nat} {c : Int} (w : World) (hs : s.size ≤ maxLen) (h : unvarV s.data.toList = .tuple #[.int .u64 (n : Int), .string r, .int .i64 c]) :
    Calls Try.prog 13 #[.string s] w fun e w' => e = .returned (.tuple #[.int .u64 (n : Int), .string r, .int .i64 c]) ∧ ∃ n, w' = w.drewN n := by
  rw [← h]; exact refunvar_any s w hs
theorem var_is {r : ByteArray} {n : Nat} (w : World) (hn : n < 18446744073709551616) (h : str (PackF.varL n) = r) :
    Calls Try.prog 14 #[.int .u64 (n : Int)] w fun e w' => e = .returned (.string r) ∧ Below w.heap.size w w' := by
  rw [← h]; exact var_any n w hn
theorem refvar_is {r : ByteArray} {n : Nat} (w : World) (hn : n < 18446744073709551616) (h : str (PackF.varL n) = r) :
    Calls Try.prog 15 #[.int .u64 (n : Int)] w fun e w' => e = .returned (.string r) ∧ Below w.heap.size w w' := by
  rw [← h]; exact refvar_any n w hn
theorem zig_is {k z : Int} (w : World) (h1 : -9223372036854775808 ≤ k ∧ k ≤ 9223372036854775807) (h : PackF.zigF k = z) :
    Calls Try.prog 16 #[.int .i64 k] w fun e w' => e = .returned (.int .u64 z) ∧ w = w' := by
  rw [← h]; exact zig_any k w h1.1 h1.2
theorem refzig_is {k z : Int} (w : World) (h1 : -9223372036854775808 ≤ k ∧ k ≤ 9223372036854775807) (h : PackF.zigF k = z) :
    Calls Try.prog 17 #[.int .i64 k] w fun e w' => e = .returned (.int .u64 z) ∧ w = w' := by
  rw [← h]; exact refzig_any k w h1.1 h1.2
theorem zag_is {u y : Int} (w : World) (h1 : 0 ≤ u ∧ u ≤ 18446744073709551615) (h : PackF.zagF u = y) :
    Calls Try.prog 18 #[.int .u64 u] w fun e w' => e = .returned (.int .i64 y) ∧ w = w' := by
  rw [← h]; exact zag_any u w h1.1 h1.2
theorem refzag_is {u y : Int} (w : World) (h1 : 0 ≤ u ∧ u ≤ 18446744073709551615) (h : PackF.zagF u = y) :
    Calls Try.prog 19 #[.int .u64 u] w fun e w' => e = .returned (.int .i64 y) ∧ w = w' := by
  rw [← h]; exact refzag_any u w h1.1 h1.2

/-- What Unvar answers has a name. -/
theorem unvar_names (s : ByteArray) : ∃ (n : Nat) (r : ByteArray) (c : Int), unvarV s.data.toList = .tuple #[.int .u64 (n : Int), .string r, .int .i64 c] ∧ n < 18446744073709551616 ∧ r.size ≤ s.size ∧ (c = 0 → str (PackF.varL n) ++ r = s) := by
  refine ⟨(PackF.unvarF s.data.toList).1, str (PackF.unvarF s.data.toList).2.1, (PackF.unvarF s.data.toList).2.2, rfl, PackF.unvarF_lt _, ?_, fun h => ?_⟩
  · rw [str_size, ← size_list]; exact PackF.unvarF_length _
  · rw [str_append, PackF.var_unvar _ h, str_of]

set_option maxHeartbeats 1000000 in
theorem walk (n : Nat) (k : Int) (s : ByteArray) (hn : n < 18446744073709551616) (hk : -9223372036854775808 ≤ k ∧ k ≤ 9223372036854775807) (hs : s.size ≤ maxLen) (w : World) :
    Calls Try.prog 5 #[.int .u64 (n : Int), .int .i64 k, .string s] w fun e w' => e = .returned (.bool true) ∧ Below w.heap.size w w' := by
  by_cases h : 300 < s.size
  · unfold maxLen at hs
    go_enter Try.func5, Try.ntmps5
    go_wp2_with fail
    refine (awake_any _).mono ?_
    rintro e w2 ⟨rfl, hbel2⟩
    go_wp2_with fail
    go_ret
    exact ⟨rfl, hbel2⟩
  · have h2 : s.size ≤ 300 := by omega
    clear h
    obtain ⟨a, r, c, hV, ha, hr, hback⟩ := unvar_names s
    have HV := Lib.hid hV
    obtain ⟨x, hx⟩ : ∃ x, str (PackF.varL n) = x := ⟨_, rfl⟩
    have HX := Lib.hid hx
    have hxs : x.size ≤ 10 := by rw [← hx, str_size]; exact PackF.varG_length 9 n
    have hXS : Hid (unvarV (x ++ s).data.toList = .tuple #[.int .u64 (n : Int), .string s, .int .i64 0]) := by
      have e : (x ++ s).data.toList = PackF.varL n ++ s.data.toList := by rw [← hx, ByteArray.data_append, Array.toList_append, str_list]
      rw [e]; unfold unvarV; rw [PackF.unvar_var n _ hn, str_of]; trivial
    have hxm : (x ++ s).size ≤ maxLen := by rw [ByteArray.size_append]; unfold maxLen; omega
    obtain ⟨z, hz⟩ : ∃ z, PackF.zigF k = z := ⟨_, rfl⟩
    have hzr := PackF.zig_range k hk.1 hk.2
    have hzz : Hid (PackF.zagF z = k) := by rw [← hz]; exact PackF.zag_zig k
    rw [hz] at hzr
    have HZ := Lib.hid hz
    obtain ⟨y, hy⟩ : ∃ y, PackF.zagF (n : Int) = y := ⟨_, rfl⟩
    have hyr := PackF.zag_range (n : Int) (by omega) (by omega)
    have hyy : Hid (PackF.zigF y = (n : Int)) := by rw [← hy]; exact PackF.zig_zag _ (by omega)
    rw [hy] at hyr
    have HY := Lib.hid hy
    have HM := Lib.hid hxm
    have hs2 := hs
    have HS := Lib.hid hs2
    have HN := Lib.hid hn
    have HK := Lib.hid hk
    have HZR := Lib.hid hzr
    have HYR := Lib.hid hyr
    clear hV hx hz hy hxm hs hn hk hzr hyr hs2
    by_cases hc : c = 0
    · subst hc
      obtain ⟨v, hv⟩ : ∃ v, str (PackF.varL a) = v := ⟨_, rfl⟩
      have hvr := hback rfl
      have hvs : v.size ≤ 10 := by rw [← hv, str_size]; exact PackF.varG_length 9 a
      rw [hv] at hvr
      have hvt : Hid (((v ++ r).toList == s.toList) = true) := by rw [hvr]; exact beq_self_eq_true _
      have HA := Lib.hid ha
      have HVA := Lib.hid hv
      clear hback hvr hv ha
      go_enter Try.func5, Try.ntmps5
      go_wp2_with fail
      refine (unvar_is _ HS.out HV.out).mono ?_
      rintro e w1 ⟨rfl, n1, rfl⟩
      go_wp2_with fail
      refine (refunvar_is _ HS.out HV.out).mono ?_
      rintro e w1 ⟨rfl, n2, rfl⟩
      go_wp2_with fail
      refine (var_is _ HN.out HX.out).mono ?_
      rintro e w1 ⟨rfl, hb1⟩
      go_wp2_with fail
      refine (refvar_is _ HN.out HX.out).mono ?_
      rintro e w2 ⟨rfl, hb2⟩
      go_wp2_with fail
      refine (zig_is _ HK.out HZ.out).mono ?_
      rintro e w3 ⟨rfl, rfl⟩
      go_wp2_with fail
      refine (refzig_is _ HK.out HZ.out).mono ?_
      rintro e w3 ⟨rfl, rfl⟩
      go_wp2_with fail
      refine (zag_is _ ⟨by omega, by have := HN.out; omega⟩ HY.out).mono ?_
      rintro e w3 ⟨rfl, rfl⟩
      go_wp2_with fail
      refine (refzag_is _ ⟨by omega, by have := HN.out; omega⟩ HY.out).mono ?_
      rintro e w3 ⟨rfl, rfl⟩
      go_wp2_with fail
      refine (var_is _ HN.out HX.out).mono ?_
      rintro e w3 ⟨rfl, hb3⟩
      go_wp2_with fail
      refine (unvar_is _ HM.out hXS.out).mono ?_
      rintro e w4 ⟨rfl, n4, rfl⟩
      go_wp2_with fail
      refine (zig_is _ HK.out HZ.out).mono ?_
      rintro e w4 ⟨rfl, rfl⟩
      go_wp2_with fail
      refine (zag_is _ HZR.out hzz.out).mono ?_
      rintro e w4 ⟨rfl, rfl⟩
      go_wp2_with fail
      refine (zag_is _ ⟨by omega, by have := HN.out; omega⟩ HY.out).mono ?_
      rintro e w4 ⟨rfl, rfl⟩
      go_wp2_with fail
      refine (zig_is _ HYR.out hyy.out).mono ?_
      rintro e w4 ⟨rfl, rfl⟩
      go_wp2_with fail
      refine (var_is _ HA.out HVA.out).mono ?_
      rintro e w5 ⟨rfl, hb5⟩
      have hvt' := hvt.out
      go_wp2_with fail
      refine (awake_any _).mono ?_
      rintro e w6 ⟨rfl, hb6⟩
      go_wp2_with fail
      go_ret
      have g1 : Below w.heap.size w w1 := (below_drewN (Below.refl _ _) _).trans hb1
      have g2 := g1.trans (hb2.mono g1.size)
      have g3 := g2.trans (hb3.mono g2.size)
      have g5 := g3.trans ((below_drewN (Below.refl _ _) n4).trans (hb5.mono g3.size))
      exact ⟨rfl, g5.trans (hb6.mono g5.size)⟩
    · have hct : (c != 0) = true := by rw [bne_iff_ne]; exact hc
      clear hback ha hc
      go_enter Try.func5, Try.ntmps5
      go_wp2_with fail
      refine (unvar_is _ HS.out HV.out).mono ?_
      rintro e w1 ⟨rfl, n1, rfl⟩
      go_wp2_with fail
      refine (refunvar_is _ HS.out HV.out).mono ?_
      rintro e w1 ⟨rfl, n2, rfl⟩
      go_wp2_with fail
      refine (var_is _ HN.out HX.out).mono ?_
      rintro e w1 ⟨rfl, hb1⟩
      go_wp2_with fail
      refine (refvar_is _ HN.out HX.out).mono ?_
      rintro e w2 ⟨rfl, hb2⟩
      go_wp2_with fail
      refine (zig_is _ HK.out HZ.out).mono ?_
      rintro e w3 ⟨rfl, rfl⟩
      go_wp2_with fail
      refine (refzig_is _ HK.out HZ.out).mono ?_
      rintro e w3 ⟨rfl, rfl⟩
      go_wp2_with fail
      refine (zag_is _ ⟨by omega, by have := HN.out; omega⟩ HY.out).mono ?_
      rintro e w3 ⟨rfl, rfl⟩
      go_wp2_with fail
      refine (refzag_is _ ⟨by omega, by have := HN.out; omega⟩ HY.out).mono ?_
      rintro e w3 ⟨rfl, rfl⟩
      go_wp2_with fail
      refine (var_is _ HN.out HX.out).mono ?_
      rintro e w3 ⟨rfl, hb3⟩
      go_wp2_with fail
      refine (unvar_is _ HM.out hXS.out).mono ?_
      rintro e w4 ⟨rfl, n4, rfl⟩
      go_wp2_with fail
      refine (zig_is _ HK.out HZ.out).mono ?_
      rintro e w4 ⟨rfl, rfl⟩
      go_wp2_with fail
      refine (zag_is _ HZR.out hzz.out).mono ?_
      rintro e w4 ⟨rfl, rfl⟩
      go_wp2_with fail
      refine (zag_is _ ⟨by omega, by have := HN.out; omega⟩ HY.out).mono ?_
      rintro e w4 ⟨rfl, rfl⟩
      go_wp2_with fail
      refine (zig_is _ HYR.out hyy.out).mono ?_
      rintro e w4 ⟨rfl, rfl⟩
      go_wp2_with fail
      refine (awake_any _).mono ?_
      rintro e w6 ⟨rfl, hb6⟩
      go_wp2_with fail
      go_ret
      have g1 : Below w.heap.size w w1 := (below_drewN (Below.refl _ _) _).trans hb1
      have g2 := g1.trans (hb2.mono g1.size)
      have g3 := g2.trans (hb3.mono g2.size)
      exact ⟨rfl, g3.trans ((below_drewN (Below.refl _ _) n4).trans (hb6.mono g3.size))⟩

set_option maxRecDepth 100000 in
theorem lifted (os : Os) (started : os.Started) (H : Type) (enc : TypeId × Value → H) :
    ReturnsInHanded {} Try.checked os 5 .any (Rows.packVarsSpec.pre6 enc Try.prog Try.f5 Rows.packVarsRow.domain false) (Rows.packVarsSpec.post enc Try.prog Try.f5 false true false false) := by
  refine returnsInHanded_of_change (C := Try.checked) own started (by kernel_rfl) Try.func5
    (ChangeSpec.witness6 (enc := enc) (C := Try.checked) false ⟨#[], #[.int .u64 0, .int .i64 0, .string ByteArray.empty], []⟩ 8 (by kernel_rfl) (by kernel_rfl) (by kernel_rfl) (by kernel_rfl)) ?_
  intro W base args ds gs before hval0 hW hcnd _
  have hval : ∀ (j : Nat) t v, Try.f5.params[j]? = some t → args[j]? = some v → Value.okWide Try.prog W .any base t v := hval0
  have hW' := hW
  obtain ⟨p, q, hA0, hV, rfl, hfz, hnd⟩ := hW
  have hA : DataW.TrodAll enc Try.prog W 0 (fun _ => true) true Try.f5.params.toList args.toList ds p := hA0
  rw [Try.params5] at hA hval
  obtain ⟨v0, vs0, d0, ds0, p0, q0, hargs, rfl, rfl, h0, r0⟩ := trodAll_cons hA
  obtain ⟨v1, vs1, d1, ds1, p1, q1, rfl, rfl, rfl, h1, r1⟩ := trodAll_cons r0
  obtain ⟨v2, vs2, d2, ds2, p2, q2, rfl, rfl, rfl, h2, r2⟩ := trodAll_cons r1
  obtain ⟨rfl, rfl, rfl⟩ := trodAll_nil r2
  obtain rfl : args = #[v0, v1, v2] := by cases args; simp_all
  obtain ⟨rfl, rfl⟩ := trodVars_none hV
  have k0 := h0
  have lt0 : ∀ x ∈ p0, x.block < W.heap.size := by obtain ⟨m, hm⟩ := k0; exact DataW.trod_lt m _ _ _ hm
  have k1 := h1
  have lt1 : ∀ x ∈ p1, x.block < W.heap.size := by obtain ⟨m, hm⟩ := k1; exact DataW.trod_lt m _ _ _ hm
  have k2 := h2
  have lt2 : ∀ x ∈ p2, x.block < W.heap.size := by obtain ⟨m, hm⟩ := k2; exact DataW.trod_lt m _ _ _ hm
  obtain ⟨n, rfl, _, _, hn⟩ := open_int Try.underlying22 (hval 0 22 v0 rfl rfl) h0
  obtain ⟨k, rfl, _, _, hk⟩ := open_int Try.underlying3 (hval 1 3 v1 rfl rfl) h1
  obtain ⟨s, rfl, _, _, hs⟩ := open_string Try.underlying9 (hval 2 9 v2 rfl rfl) h2
  clear hA0 hval0
  have hnb := bounds_u64 hn
  obtain ⟨n, rfl⟩ := Int.eq_ofNat_of_zero_le hnb.1
  refine (walk n k s (by omega) (bounds_i64 hk) hs W).mono fun e W' ⟨he, bel⟩ => ?_
  subst he
  exact ⟨_, rfl, _, _, _, [], _, [], hW', trodAll_mk1 (shut_bool Try.underlying4 _),
    (trodAll_cons_mk (Below.trod laidOut (by kernel_rfl) (of_decide_eq_true (by kernel_rfl)) k0 bel lt0)
    (trodAll_cons_mk (Below.trod laidOut (by kernel_rfl) (of_decide_eq_true (by kernel_rfl)) k1 bel lt1)
    (trodAll_cons_mk (Below.trod laidOut (by kernel_rfl) (of_decide_eq_true (by kernel_rfl)) k2 bel lt2) trodAll_mk0))), rfl, bel.frame _, fun h => by cases h⟩

theorem proved : Rows.PackVarsSaid :=
  OpenClaim.holds_of_wide 5 Try.f5 rfl rfl rfl rfl rfl rfl rfl ⟨rfl, rfl, rfl, rfl, rfl⟩ rfl rfl rfl rfl rfl (by kernel_rfl) Try.func5 (by kernel_rfl)
    (of_decide_eq_true (by kernel_rfl)) (by unfold Func.isWrapper; first | (rw [if_pos (by decide +kernel)]; kernel_rfl) | (rw [if_neg (by decide +kernel)]; exact ⟨rfl, rfl⟩))
    (fun os started H enc _ => lifted os started H enc)
end Go.Proofs.Ytigedkbocooinaa.packVars
