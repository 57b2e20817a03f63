/- TimerRuns: whatever timers, ticks and node come, the law returns true (what is left behind so many ticks, what went off, the timers of a node and the next one are as the document's own say; none is lost; ahead of the next one nothing goes off, and then something does), and its arguments read as before. No condition. -/
import Derived.Test.YtpfgbdcnfmlkcaaRows
import Derived.Test.YtpfgbdcnfmlkcaaTimI
import Derived.Test.YtpfgbdcnfmlkcaaTimH
import Derived.Test.YtpfgbdcnfmlkcaaAlOpen
import Derived.Test.YtpfgbdcnfmlkcaaFrom
import Derived.ProofKit
import Derived.OpenShut
import Derived.ShutString
import Derived.ChangeOld
import Derived.Carry
namespace Go.Proofs.Ytpfgbdcnfmlkcaa.timerRuns
open Go.ChangeShapes Go.WideShapes Go.ChangeAt Go.RowKit
open Go.ChangeMaps (open_string shut_string)

theorem own : ownKnob Try.prog.godebug = none := by kernel_rfl
theorem laidOut : laidOutB Try.prog = true := by kernel_rfl

theorem rem_in (t : Int) (n : Nat) (h0 : 0 < n) (h1 : n ≤ 1000) : ∃ q : Nat, q < n ∧ wrap64 ((IntKind.u64.wrap t).tmod (n : Int)) = (q : Int) := by
  have hu : 0 ≤ IntKind.u64.wrap t := by rw [IntKind.wrap_u64]; omega
  rw [Int.tmod_eq_emod_of_nonneg hu]
  have h2 : 0 ≤ IntKind.u64.wrap t % (n : Int) := Int.emod_nonneg _ (by omega)
  have h3 : IntKind.u64.wrap t % (n : Int) < (n : Int) := Int.emod_lt_of_pos _ (by omega)
  refine ⟨(IntKind.u64.wrap t % (n : Int)).toNat, by omega, ?_⟩
  rw [IntWalk.wrap64_in _ (by omega)]
  omega
theorem eqA_refl (L : List Alm) : eqA L L = true := decide_eq_true rfl

set_option maxRecDepth 100000 in
set_option maxHeartbeats 4000000 in
theorem walk (a : Option Addr) (m c : Nat) (L : List Alm) (t d : Int) (w : World) (hL : alS.At w a m c L) (hi : ∀ x ∈ L, x.In) :
    Calls Try.prog 4 #[.slice a m c, .int .i64 t, .int .i64 d] w fun e w' => e = .returned (.bool true) ∧ Below w.heap.size w w' := by
  have AW := Lib.hid tawake_any
  have HL := Lib.hid hL
  have hf : Fits L := fun x hx => (hi x hx).2.2.2
  have HF := Lib.hid hf
  have HLEN := Lib.hid hL.1
  clear hL hi hf
  by_cases hm : m ≤ 100
  · have d1 : decide (100 < (m : Int)) = false := decide_eq_false (by omega)
    obtain ⟨q, hq, et⟩ := rem_in t 60 (by omega) (by omega)
    have et' : wrap64 ((IntKind.u64.wrap t).tmod 60) = (q : Int) := et
    have HM := Lib.hid hm
    have HQ := Lib.hid hq
    clear et hm hq
    go_enter Try.func4, Try.ntmps4
    go_wp2_with fail
    refine (run_any q a m c L _ HL.out (by have := HM.out; omega) HF.out (by have := HQ.out; omega)).mono ?_
    rintro e w1 ⟨za, zn, zc, y, rfl, hz, hy, hb⟩
    obtain ⟨ya, yc, rfl, hya, _⟩ := hy.shape
    obtain ⟨yn, hyn⟩ : ∃ n, (runOff L q).length = n := ⟨_, rfl⟩
    rw [hyn] at hya
    rw [hyn]
    have ZA := Lib.hid hz
    have YA := Lib.hid hya
    have HH := Lib.hid hb
    have es : (zn : Int) + (yn : Int) = (m : Int) := by
      have h1 := run_length L q
      have h2 := hz.1
      have h3 := HLEN.out
      omega
    have ew : wrap64 (m : Int) = (m : Int) := IntWalk.wrap64_in _ (by have := HM.out; omega)
    clear hz hy hya hyn hb
    go_wp2_with fail
    refine (rrun_any q a m c L _ (HL.out.on HH.out) (by have := HM.out; omega) HF.out (by have := HQ.out; omega)).mono ?_
    rintro e w2 ⟨ra, rn, rc, y2, rfl, hz, hy, hb⟩
    obtain ⟨sa, sc, rfl, hya, _⟩ := hy.shape
    have ZA2 := Lib.hid (ZA.out.on hb)
    have YA2 := Lib.hid (YA.out.on hb)
    have RA2 := Lib.hid hz
    have SA2 := Lib.hid hya
    have HH2 := Lib.hid (bel_on HH.out hb)
    clear hz hy hya hb ZA YA HH
    go_wp2_with fail
    refine (rsame_is _ _ _ _ _ _ _ _ true _ ZA2.out RA2.out (eqA_refl _)).mono ?_
    rintro e w3 ⟨rfl, hb⟩
    have YA3 := Lib.hid (YA2.out.on hb)
    have SA3 := Lib.hid (SA2.out.on hb)
    have HH3 := Lib.hid (bel_on HH2.out hb)
    clear hb ZA2 RA2 YA2 SA2 HH2
    go_wp2_with fail
    refine (rsame_is _ _ _ _ _ _ _ _ true _ YA3.out SA3.out (eqA_refl _)).mono ?_
    rintro e w4 ⟨rfl, hb⟩
    have HH4 := Lib.hid (bel_on HH3.out hb)
    clear hb YA3 SA3 HH3
    go_wp2_with fail
    refine (of_any d a m c L _ (HL.out.on HH4.out) (by have := HM.out; omega)).mono ?_
    rintro e w5 ⟨v1, rfl, ho, hb⟩
    obtain ⟨fa, fc, rfl, hfa, _⟩ := ho.shape
    have FA5 := Lib.hid hfa
    have HH5 := Lib.hid (bel_on HH4.out hb)
    clear hb ho hfa HH4
    go_wp2_with fail
    refine (rof_any d a m c L _ (HL.out.on HH5.out) (by have := HM.out; omega)).mono ?_
    rintro e w6 ⟨v2, rfl, ho, hb⟩
    obtain ⟨ga, gc, rfl, hga, _⟩ := ho.shape
    have FA6 := Lib.hid (FA5.out.on hb)
    have GA6 := Lib.hid hga
    have HH6 := Lib.hid (bel_on HH5.out hb)
    clear hb ho hga FA5 HH5
    go_wp2_with fail
    refine (rsame_is _ _ _ _ _ _ _ _ true _ FA6.out GA6.out (eqA_refl _)).mono ?_
    rintro e w7 ⟨rfl, hb⟩
    have HH7 := Lib.hid (bel_on HH6.out hb)
    clear hb FA6 GA6 HH6
    obtain ⟨N, hN⟩ : ∃ N, nextL L = N := ⟨_, rfl⟩
    have NX := Lib.hid (fun w' (hb : Below w.heap.size w w') => hN ▸ next_any a m c L w' (HL.out.on hb) (by have := HM.out; omega))
    have RNX := Lib.hid (fun w' (hb : Below w.heap.size w w') => hN ▸ rnext_any a m c L w' (HL.out.on hb) (by have := HM.out; omega))
    have HN := Lib.hid hN
    clear hN
    go_wp2_with fail
    refine (NX.out _ HH7.out).mono ?_
    rintro e w8 ⟨rfl, hb⟩
    have HH8 := Lib.hid (bel_on HH7.out hb)
    clear hb HH7
    go_wp2_with fail
    refine (RNX.out _ HH8.out).mono ?_
    rintro e w9 ⟨rfl, hb⟩
    have HH9 := Lib.hid (bel_on HH8.out hb)
    clear hb HH8
    have nn : (N != N) = false := by simp
    have mm : ((m : Int) != (m : Int)) = false := by simp
    go_wp2_with fail
    refine (NX.out _ HH9.out).mono ?_
    rintro e w10 ⟨rfl, hb⟩
    have HH10 := Lib.hid (bel_on HH9.out hb)
    clear hb HH9 es ew nn mm NX RNX
    by_cases h0 : N = 0
    · have hm0 : m = 0 := by
        rcases next_least L with ⟨h1, _⟩ | ⟨h1, _⟩
        · rw [← HLEN.out, h1]; rfl
        · have := HN.out; omega
      subst hm0
      subst h0
      go_wp2_with fail
      refine (AW.out _).mono ?_
      rintro e w11 ⟨rfl, hb⟩
      have HH11 := Lib.hid (bel_on HH10.out hb)
      clear hb HH10
      go_wp2_with fail
      go_ret
      exact ⟨rfl, HH11.out⟩
    · have h1 : 1 ≤ N := by
        rcases next_least L with ⟨_, h1⟩ | ⟨h1, _⟩
        · have := HN.out; omega
        · have := HN.out; omega
      have t0 : (N == 0) = false := by simpa using h0
      have t1 : decide (N < 1) = false := decide_eq_false (by omega)
      by_cases h9 : 900 < N
      · have t2 : decide (900 < N) = true := decide_eq_true h9
        clear h0 h1 h9
        go_wp2_with fail
        refine (AW.out _).mono ?_
        rintro e w11 ⟨rfl, hb⟩
        have HH11 := Lib.hid (bel_on HH10.out hb)
        clear hb HH10
        go_wp2_with fail
        go_ret
        exact ⟨rfl, HH11.out⟩
      · have t2 : decide (900 < N) = false := decide_eq_false h9
        obtain ⟨k, hk⟩ := Int.eq_ofNat_of_zero_le (show 0 ≤ N - 1 by omega)
        obtain ⟨K, hK⟩ : ∃ K, k + 1 = K := ⟨_, rfl⟩
        have hNK : N = (K : Int) := by omega
        subst hNK
        have e1 : wrap64 ((K : Int) - 1) = (k : Int) := by rw [hk]; exact IntWalk.wrap64_in _ (by omega)
        have HK9 : Hid (k ≤ 900) := Lib.hid (by omega)
        have RA : Hid (runOff L k = []) := Lib.hid (run_ahead (by have := HN.out; omega))
        have RT : Hid (runOff L K ≠ []) := Lib.hid (by rw [← hK]; exact run_then (by have := HN.out; omega))
        have HKK := Lib.hid hK
        clear h0 h1 h9 hk hK
        go_wp2_with fail
        refine (run_any k a m c L _ (HL.out.on HH10.out) (by have := HM.out; omega) HF.out (by have := HK9.out; omega)).mono ?_
        rintro e w11 ⟨za, zn, zc, y, rfl, _, hy, hb⟩
        obtain ⟨ya, yc, rfl, _, _⟩ := hy.shape
        have HH11 := Lib.hid (bel_on HH10.out hb)
        rw [RA.out]
        clear hy hb HH10 e1
        go_wp2_with fail
        refine (run_any K a m c L _ (HL.out.on HH11.out) (by have := HM.out; omega) HF.out (by have := HK9.out; have := HKK.out; omega)).mono ?_
        rintro e w12 ⟨za, zn, zc, y, rfl, _, hy, hb⟩
        obtain ⟨xa, xc, rfl, _, _⟩ := hy.shape
        have HH12 := Lib.hid (bel_on HH11.out hb)
        obtain ⟨xn, hxn⟩ : ∃ n, (runOff L K).length = n := ⟨_, rfl⟩
        rw [hxn]
        have hx0 : 0 < xn := by
          have := RT.out
          rw [← hxn]
          exact Nat.pos_of_ne_zero (fun h => this (List.eq_nil_of_length_eq_zero h))
        have tx : decide (0 < (xn : Int)) = true := decide_eq_true (by omega)
        have tx2 : decide (0 < xn) = true := decide_eq_true hx0
        clear hy hb HH11 hxn hx0
        go_wp2_with fail
        refine (AW.out _).mono ?_
        rintro e w13 ⟨rfl, hb⟩
        have HH13 := Lib.hid (bel_on HH12.out hb)
        clear hb HH12
        go_wp2_with fail
        go_ret
        exact ⟨rfl, HH13.out⟩
  · have d1 : decide (100 < (m : Int)) = true := decide_eq_true (by omega)
    have d2 : decide (100 < m) = true := decide_eq_true (by omega)
    clear hm
    go_enter Try.func4, Try.ntmps4
    go_wp2_with fail
    refine (AW.out _).mono ?_
    rintro e w1 ⟨rfl, hb⟩
    have HB := Lib.hid hb
    clear hb
    go_wp2_with fail
    go_ret
    exact ⟨rfl, HB.out⟩

set_option maxRecDepth 100000 in
theorem lifted (os : Os) (started : os.Started) (H : Type) (enc : TypeId × Value → H) :
    ReturnsInHanded {} Try.checked os 4 .any (Rows.timerRunsSpec.pre6 enc Try.prog Try.f4 Rows.timerRunsRow.domain false) (Rows.timerRunsSpec.post enc Try.prog Try.f4 false true false false) := by
  refine returnsInHanded_of_change (C := Try.checked) own started (by kernel_rfl) Try.func4
    (ChangeSpec.witness6 (enc := enc) (C := Try.checked) false ⟨#[], #[.slice none 0 0, .int .i64 0, .int .i64 0], []⟩ 8 (by kernel_rfl) (by kernel_rfl) (by kernel_rfl) (by kernel_rfl)) ?_
  intro W base args ds gs before hval0 hW hcnd _
  have hval : ∀ (j : Nat) t v, Try.f4.params[j]? = some t → args[j]? = some v → Value.okWide Try.prog W .any base t v := hval0
  have hW' := hW
  obtain ⟨p, q, hA0, hV, rfl, hfz, hnd⟩ := hW
  have hA : DataW.TrodAll enc Try.prog W 0 (fun _ => true) true Try.f4.params.toList args.toList ds p := hA0
  rw [Try.params4] at hA hval
  obtain ⟨v0, vs0, d0, ds0, p0, q0, hargs, rfl, rfl, h0, r0⟩ := trodAll_cons hA
  obtain ⟨v1, vs1, d1, ds1, p1, q1, rfl, rfl, rfl, h1, r1⟩ := trodAll_cons r0
  obtain ⟨v2, vs2, d2, ds2, p2, q2, rfl, rfl, rfl, h2, r2⟩ := trodAll_cons r1
  obtain ⟨rfl, rfl, rfl⟩ := trodAll_nil r2
  obtain rfl : args = #[v0, v1, v2] := by cases args; simp_all
  obtain ⟨rfl, rfl⟩ := trodVars_none hV
  have k0 := h0
  have lt0 : ∀ x ∈ p0, x.block < W.heap.size := by obtain ⟨m, hm⟩ := k0; exact DataW.trod_lt m _ _ _ hm
  have k1 := h1
  have lt1 : ∀ x ∈ p1, x.block < W.heap.size := by obtain ⟨m, hm⟩ := k1; exact DataW.trod_lt m _ _ _ hm
  have k2 := h2
  have lt2 : ∀ x ∈ p2, x.block < W.heap.size := by obtain ⟨m, hm⟩ := k2; exact DataW.trod_lt m _ _ _ hm
  obtain ⟨al, nl, cl, ll, rfl, hll, hil⟩ := open_alarms (hval 0 25 v0 rfl rfl) h0
  obtain ⟨t, rfl, _, _, ht⟩ := open_int Try.underlying3 (hval 1 3 v1 rfl rfl) h1
  have hbt := bounds_i64 ht
  obtain ⟨d, rfl, _, _, hd⟩ := open_int Try.underlying3 (hval 2 3 v2 rfl rfl) h2
  have hbd := bounds_i64 hd
  clear hA0 hval0
  refine (walk al nl cl ll t d W hll hil).mono fun e W' ⟨he, bel⟩ => ?_
  subst he
  exact ⟨_, rfl, _, _, _, [], _, [], hW', trodAll_mk1 (shut_bool Try.underlying4 _),
    (trodAll_cons_mk (Below.trod laidOut (by kernel_rfl) (of_decide_eq_true (by kernel_rfl)) k0 bel lt0)
    (trodAll_cons_mk (Below.trod laidOut (by kernel_rfl) (of_decide_eq_true (by kernel_rfl)) k1 bel lt1)
    (trodAll_cons_mk (Below.trod laidOut (by kernel_rfl) (of_decide_eq_true (by kernel_rfl)) k2 bel lt2)
    trodAll_mk0))), rfl, bel.frame _, fun h => by cases h⟩

theorem proved : Rows.TimerRunsSaid :=
  OpenClaim.holds_of_wide 4 Try.f4 rfl rfl rfl rfl rfl rfl rfl ⟨rfl, rfl, rfl, rfl, rfl⟩ rfl rfl rfl rfl rfl (by kernel_rfl) Try.func4 (by kernel_rfl)
    (of_decide_eq_true (by kernel_rfl)) (by unfold Func.isWrapper; first | (rw [if_pos (by decide +kernel)]; kernel_rfl) | (rw [if_neg (by decide +kernel)]; exact ⟨rfl, rfl⟩))
    (fun os started H enc _ => lifted os started H enc)
end Go.Proofs.Ytpfgbdcnfmlkcaa.timerRuns
