/- ResendEnds: for every three numbers ResendEnds answers true and leaves its argument as it was; the table of bits that the package acks lists reads as the text of the program lays it (tied). No other condition. -/
import Derived.Test.YtmgmgffgbkenkaaDoorRows
import Derived.Test.YtmgmgffgbkenkaaDoorResAw
import Derived.Test.YtmgmgffgbkenkaaDoorResG
import Derived.Test.YtmgmgffgbkenkaaDoorStrsOpen
import Derived.ProofKit
import Derived.OpenShut
import Derived.ShutString
import Derived.ChangeOld
import Derived.Carry
import Derived.Test.YtmgmgffgbkenkaaDoorAcksLaid
import Derived.Test.YtmgmgffgbkenkaaDoorTie
import Derived.Test.YtmgmgffgbkenkaaDoorCards
import Derived.SevenTiedAt
import Derived.Stop.Joined
import Derived.LaidMore
namespace Go.Proofs.YtmgmgffgbkenkaaDoor.resendEnds
open Go.ChangeShapes Go.WideShapes Go.ChangeAt Go.RowKit
open Go.ChangeMaps (open_string shut_string)

theorem own : ownKnob Tryd.prog.godebug = none := by kernel_rfl
theorem laidOut : laidOutB Tryd.prog = true := by kernel_rfl

set_option maxRecDepth 100000 in
set_option maxHeartbeats 4000000 in
theorem walk (ns0 ns1 ns2 : Int) (w : World) (hT : Tab w) :
    Calls Tryd.prog 3 #[(.agg #[.int .i64 ns0, .int .i64 ns1, .int .i64 ns2] : Value)] w fun e w' => e = .returned (.bool true) ∧ Below w.heap.size w w' := by
  have TB := Lib.hid hT
  obtain ⟨q0, hq0, eq0⟩ := rem_in ns0 6 (by omega) (by omega)
  have E0 : Hid (wrap64 ((IntKind.u64.wrap ns0).tmod 6) = (q0 : Int)) := Lib.hid eq0
  obtain ⟨q1, hq1, eq1⟩ := rem_in ns1 6 (by omega) (by omega)
  have E1 : Hid (wrap64 ((IntKind.u64.wrap ns1).tmod 6) = (q1 : Int)) := Lib.hid eq1
  obtain ⟨S, hS, eq2⟩ := rem_in ns2 65536 (by omega) (by omega)
  have E2 : Hid (wrap64 ((IntKind.u64.wrap ns2).tmod 65536) = (S : Int)) := Lib.hid eq2
  obtain ⟨R, hR⟩ : ∃ R, 1 + q0 = R := ⟨_, rfl⟩
  obtain ⟨T, hTT⟩ : ∃ T, 1 + q1 = T := ⟨_, rfl⟩
  have hr : 1 + (q0 : Int) = (R : Int) := by omega
  have ht : 1 + (q1 : Int) = (T : Int) := by omega
  have HRT : Hid (1 ≤ R ∧ R ≤ 6 ∧ 1 ≤ T ∧ T ≤ 6 ∧ S ≤ 65535) := Lib.hid (by omega)
  have ER : Hid (wrap64 (R : Int) = (R : Int)) := Lib.hid (IntWalk.wrap64_in _ (by omega))
  have ET : Hid (wrap64 (T : Int) = (T : Int)) := Lib.hid (IntWalk.wrap64_in _ (by omega))
  have HB0 : Hid (Below w.heap.size w (w.alloc (.cells #[.int .i64 ns0, .int .i64 ns1, .int .i64 ns2] 22))) := Lib.hid ((Below.refl _ _).alloc (Nat.le_refl _) _)
  have HN0 : Hid (Blk (w.alloc (.cells #[.int .i64 ns0, .int .i64 ns1, .int .i64 ns2] 22)) w.heap.size [.int .i64 ns0, .int .i64 ns1, .int .i64 ns2]) := Lib.hid (Blk.new w _ _)
  clear hT eq0 eq1 eq2 hq0 hq1 hS hR hTT
  go_enter Tryd.func3, Tryd.ntmps3
  go_wp2_with fail
  refine (rules_gives _).mono ?_
  rintro e w1 ⟨rfl, hb⟩
  have HB1 := Lib.hid (bel_on HB0.out hb)
  have HN1 := Lib.hid (HN0.out.on hb)
  clear hb HB0 HN0
  go_upto_region 2 with fail
  obtain ⟨v1, hv1⟩ : ∃ v1, w1.alloc (.cells #[.int .i64 2, .int .i64 8, .int .i64 2, .int .i64 3] 24) = v1 := ⟨_, rfl⟩
  obtain ⟨br, hbr⟩ : ∃ br, w1.heap.size = br := ⟨_, rfl⟩
  rw [hv1, hbr]
  have HR1 : Hid (Blk v1 br [.int .i64 2, .int .i64 8, .int .i64 2, .int .i64 3]) := Lib.hid (hv1 ▸ Blk.newAt hbr _ _)
  have HN2 := Lib.hid (hv1 ▸ HN1.out.next (.cells #[.int .i64 2, .int .i64 8, .int .i64 2, .int .i64 3] 24))
  have HB2 := Lib.hid (hv1 ▸ HB1.out.alloc HB1.out.size (.cells #[.int .i64 2, .int .i64 8, .int .i64 2, .int .i64 3] 24))
  have HBR : Hid (w.heap.size < br) := Lib.hid (by have := HN1.out.lt; omega)
  clear hv1 hbr HN1 HB1
  have n0 := HN2.out.cell 0 rfl
  have n1 := HN2.out.cell 1 rfl
  have r2 := HR1.out.cell 2 rfl
  have r3 := HR1.out.cell 3 rfl
  have z2 := HR1.out.thaw 2
  have z3 := HR1.out.thaw 3
  have e0 := E0.out
  have e1 := E1.out
  have eR := ER.out
  have eT := ET.out
  go_region
  obtain ⟨v2, hv2⟩ : ∃ v2, ((v1.setCell ⟨br, 2, none⟩ (.int .i64 (R : Int))).setCell ⟨br, 3, none⟩ (.int .i64 (T : Int))).drew = v2 := ⟨_, rfl⟩
  rw [hv2]
  have HR2 : Hid (Blk v2 br [.int .i64 2, .int .i64 8, .int .i64 (R : Int), .int .i64 (T : Int)]) := Lib.hid (hv2 ▸ ((HR1.out.set 2 (.int .i64 (R : Int))).set 3 (.int .i64 (T : Int))).drew)
  have HN3 : Hid (Blk v2 w.heap.size [.int .i64 ns0, .int .i64 ns1, .int .i64 ns2]) := Lib.hid (hv2 ▸ ((HN2.out.other ⟨br, 2, none⟩ (.int .i64 (R : Int)) (Nat.ne_of_lt HBR.out)).other ⟨br, 3, none⟩ (.int .i64 (T : Int)) (Nat.ne_of_lt HBR.out)).drew)
  have HB3 : Hid (Below w.heap.size w v2) := Lib.hid (hv2 ▸ ((HB2.out.setCell (p := ⟨br, 2, none⟩) (Nat.le_of_lt HBR.out) (.int .i64 (R : Int))).setCell (p := ⟨br, 3, none⟩) (Nat.le_of_lt HBR.out) (.int .i64 (T : Int))).drew)
  clear hv2 HN2 HB2 HR1 n0 n1 r2 r3 z2 z3 e0 e1 eR eT E0 E1 ER ET hr ht
  have n2 := HN3.out.cell 2 rfl
  have e2 := E2.out
  have r0 := HR2.out.cell 0 rfl
  have r1 := HR2.out.cell 1 rfl
  have r2 := HR2.out.cell 2 rfl
  have r3 := HR2.out.cell 3 rfl
  have hrt := HRT.out
  have HE0 : Hid (wrongE [] (S : Int) (R : Int) = 0) := Lib.hid (by
    unfold wrongE
    rw [if_neg (by omega), if_neg (by simp), if_neg (by simp)])
  have HA0 : Hid (addL [] (S : Int) ⟨#[120]⟩ (R : Int) = [⟨(S : Int), ⟨#[120]⟩, 1, (R : Int)⟩]) := Lib.hid (addL_ok _ HE0.out)
  clear hrt
  go_wp2_with fail
  refine (add_any (S : Int) ⟨#[120]⟩ 2 8 (R : Int) (T : Int) none 0 0 [] _ (Shp.At.nil _) (by omega)).mono ?_
  rintro e w2 ⟨va, rfl, ho, hb⟩
  rw [HA0.out] at ho
  rw [HE0.out]
  obtain ⟨g, c, rfl, hat, _⟩ := ho.lit (Nat.zero_lt_one)
  have HL := Lib.hid hat
  have HR3 := Lib.hid (HR2.out.on hb)
  have HB4 := Lib.hid (bel_on HB3.out hb)
  clear ho hb hat HR2 HN3 HB3 n2 e2 r0 r1 r2 r3 HE0 HA0 E2
  go_upto_region 8 with fail
  obtain ⟨P, hP⟩ : ∃ P, R * T = P := ⟨_, rfl⟩
  have HP := Lib.hid hP
  have hP1 : P ≤ 36 := by
    have h := HRT.out
    rw [← hP]
    exact Nat.mul_le_mul h.2.1 h.2.2.2.1
  have HP1 := Lib.hid hP1
  have eP : (R : Int) * (T : Int) = (P : Int) := by rw [← hP]; simp
  have eP' : wrap64 (P : Int) = (P : Int) := IntWalk.wrap64_in _ (by omega)
  clear hP hP1
  go_loopw [4, 6, 7] (fun l s j wr => ∃ (k n g c : Nat) (x : Snt), k ≤ P + 1 ∧ l = .slice (some ⟨g, 0, none⟩) 1 c ∧ s = .int .i64 (n : Int) ∧ j = .int .i64 (k : Int) ∧ Hid (St R T (S : Int) ⟨#[120]⟩ k x n) ∧ snS.At wr (some ⟨g, 0, none⟩) 1 c [x] ∧ Blk wr br [.int .i64 2, .int .i64 8, .int .i64 (R : Int), .int .i64 (T : Int)] ∧ Below w.heap.size w wr) (fun _ _ j _ => ((P : Int) + 1 - intOf j).toNat)
  case atStart => exact ⟨1, 1, g, c, _, by omega, rfl, rfl, rfl, Lib.hid (st_start R T _ _ HRT.out.1 HRT.out.2.2.1), HL.out, HR3.out, HB4.out⟩
  case round =>
    clear HL HR3 HB4
    obtain ⟨k, n, g, c, x, hk, rfl, rfl, rfl, HS, hL, hR, hH⟩ := hrel
    have HL := Lib.hid hL
    have HR := Lib.hid hR
    have HH := Lib.hid hH
    clear hL hR hH
    have r0 := HR.out.cell 0 rfl
    have r1 := HR.out.cell 1 rfl
    have r2 := HR.out.cell 2 rfl
    have r3 := HR.out.cell 3 rfl
    by_cases hkP : k ≤ P
    · have d1 : decide ((k : Int) ≤ (P : Int)) = true := decide_eq_true (by omega)
      have d1' : decide (k ≤ P) = true := decide_eq_true hkP
      have TK := Lib.hid (tick_any 2 8 (R : Int) (T : Int) (some ⟨g, 0, none⟩) 1 c [x] wr HL.out (by omega))
      have SS := Lib.hid (st_step (by have := HRT.out; omega) (by have := HRT.out; omega) HS.out (by rw [HP.out]; exact hkP))
      rw [HP.out] at SS
      have HKP := Lib.hid hkP
      have ek : wrap64 ((k : Int) + 1) = (k : Int) + 1 := IntWalk.wrap64_in _ (by have := HP1.out; omega)
      have HNT := Lib.hid (st_le HS.out)
      have e1L : tickL (R : Int) (T : Int) [x] = [tick1 (R : Int) (T : Int) x] := rfl
      have e2L : againL (T : Int) [x] = again1 (T : Int) x := by simp [againL]
      have e3L : deadL (T : Int) [x] = dead1 (T : Int) x := by simp [deadL]
      rw [e1L, e2L, e3L] at TK
      clear hkP hk e1L e2L e3L
      go_wp2_with fail
      refine (TK.out).mono ?_
      rintro e w3 ⟨u, z, rfl, ho, hz, hb⟩
      obtain ⟨g2, c2, rfl, hat, _⟩ := ho.lit (Nat.zero_lt_one)
      obtain ⟨az, cz, rfl, _, _⟩ := hz.shape
      have HL2 := Lib.hid hat
      have HR2 := Lib.hid (HR.out.on hb)
      have HH2 := Lib.hid (bel_on HH.out hb)
      clear ho hz hb hat HL HR HH r0 r1 r2 r3 TK
      have r2 := HR2.out.cell 2 rfl
      have r3 := HR2.out.cell 3 rfl
      rcases SS.out with ⟨h1, h2, h3, h4⟩ | ⟨h1, h2, h3, h4⟩ | ⟨h1, h2, h3, h4, h5⟩
      · rw [h2, h3]
        have HS2 := Lib.hid h4
        have d2 : ((k : Int) == (P : Int)) = false := beq_eq_false_iff_ne.2 (by omega)
        have en : wrap64 ((n : Int) + 0) = (n : Int) := by rw [Int.add_zero]; exact IntWalk.wrap64_in _ (by have := HNT.out; have := HRT.out; omega)
        have en' : wrap64 (n : Int) = (n : Int) := IntWalk.wrap64_in _ (by have := HNT.out; have := HRT.out; omega)
        clear h1 h2 h3 h4 SS d1 d1'
        go_wp2_with fail
        go_roundw
        case rel => exact ⟨k + 1, n, g2, c2, _, by have := HKP.out; omega, rfl, by go_num, by go_num, HS2, HL2.out, HR2.out, HH2.out⟩
        case measure => exact st_meas P k HKP.out _ ek
      · rw [h2, h3]
        have HS2 := Lib.hid h4
        subst h1
        have d2 : ((k : Int) == (k : Int)) = true := by simp
        have en : wrap64 ((n : Int) + 0) = (n : Int) := by rw [Int.add_zero]; exact IntWalk.wrap64_in _ (by have := HNT.out; have := HRT.out; omega)
        have en' : wrap64 (n : Int) = (n : Int) := IntWalk.wrap64_in _ (by have := HNT.out; have := HRT.out; omega)
        clear h2 h3 h4 SS d1 d1'
        go_wp2_with fail
        go_roundw
        case rel => exact ⟨k + 1, n, g2, c2, _, by have := HKP.out; omega, rfl, by go_num, by go_num, HS2, HL2.out, HR2.out, HH2.out⟩
        case measure => exact st_meas k k HKP.out _ ek
      · rw [h2, h3]
        have HS2 := Lib.hid h5
        have d2 : ((k : Int) == (P : Int)) = false := beq_eq_false_iff_ne.2 (by omega)
        have en : wrap64 ((n : Int) + 1) = (n : Int) + 1 := IntWalk.wrap64_in _ (by have := HNT.out; have := HRT.out; omega)
        have hR0 : (R : Int) ≠ 0 := by have := HRT.out; omega
        have dR : ((R : Int) == 0) = false := beq_eq_false_iff_ne.2 hR0
        have em : (k : Int).tmod (R : Int) = 0 := mod_zero h4
        clear h1 h2 h3 h4 h5 SS d1 d1'
        go_wp2_with fail
        go_roundw
        case rel => exact ⟨k + 1, n + 1, g2, c2, _, by have := HKP.out; omega, rfl, by go_num, by go_num, HS2, HL2.out, HR2.out, HH2.out⟩
        case measure => exact st_meas P k HKP.out _ ek
    · have hpk : ¬ (k : Int) ≤ (P : Int) := by omega
      have d1 : decide ((k : Int) ≤ (P : Int)) = false := decide_eq_false hpk
      have d1' : decide (k ≤ P) = false := decide_eq_false hkP
      obtain ⟨hs1, hs2⟩ := st_end HS.out (by rw [HP.out]; exact hkP) (by rw [HP.out]; exact hk)
      subst hs2
      have f0 : wr.cell? ⟨g, 0, none⟩ = some (.int .i64 (S : Int)) := by rw [← hs1]; exact sn_lit HL.out 0 0 rfl rfl
      have eS : wrap64 ((S : Int) + 1) = (S : Int) + 1 := IntWalk.wrap64_in _ (by have := HRT.out; omega)
      have AK := Lib.hid (acked_any 0 0 0 0 0 ((S : Int) + 1) 0 (by have := HRT.out; omega) (some ⟨g, 0, none⟩) 1 c [x] wr (TB.out.on HH.out) HL.out (by omega) (by intro y hy; obtain rfl := List.mem_singleton.1 hy; have := HRT.out; omega))
      have HKE : Hid (keepL (AcksF.hasB ((S : Int) + 1) 0) [x] = []) := Lib.hid (by
        unfold keepL
        rw [List.filter_cons_of_neg]
        · rfl
        · rw [AcksF.hasB_low _ (by omega)]; simp)
      rw [HKE.out] at AK
      clear hkP hk hpk hs1 HS HKE
      go_wp2_with fail
      refine (AK.out).mono ?_
      rintro e w3 ⟨u, rfl, ho, hb⟩
      obtain ⟨a3, c3, rfl, hat, _⟩ := ho.shape
      have HR2 := Lib.hid (HR.out.on hb)
      have HH2 := Lib.hid (bel_on HH.out hb)
      have TK := Lib.hid (tick_any 2 8 (R : Int) (n : Int) a3 0 c3 [] w3 hat (by omega))
      clear ho hb hat HL HR HH r0 r1 r2 r3 AK f0
      have r0 := HR2.out.cell 0 rfl
      have r1 := HR2.out.cell 1 rfl
      have r2 := HR2.out.cell 2 rfl
      have r3 := HR2.out.cell 3 rfl
      go_wp2_with fail
      refine (TK.out).mono ?_
      rintro e w4 ⟨u, z, rfl, ho, hz, hb⟩
      obtain ⟨a4, c4, rfl, _, _⟩ := ho.shape
      obtain ⟨az, cz, rfl, _, _⟩ := hz.shape
      have HR3 := Lib.hid (HR2.out.on hb)
      have HH3 := Lib.hid (bel_on HH2.out hb)
      have AW := Lib.hid (rawake_any w4 (TB.out.on HH3.out))
      clear ho hz hb HR2 HH2 r0 r1 r2 r3 TK
      have r3 := HR3.out.cell 3 rfl
      go_wp2_with fail
      refine (AW.out).mono ?_
      rintro e w5 ⟨rfl, hb⟩
      have HH4 := Lib.hid (bel_on HH3.out hb)
      clear hb r3 AW
      go_wp2_with fail
      go_ret
      exact ⟨rfl, HH4.out⟩

set_option maxRecDepth 100000 in
theorem lifted (os : Os) (started : os.Started) (H : Type) (enc : TypeId × Value → H) :
    ReturnsInHanded {} Tryd.checked os 3 .any (fun w args => (Rows.resendEndsSpec.pre enc Tryd.prog Tryd.f3 [] false w args ∧ laidMetH Tryd.prog laidOne w) ∧ sizedMet enc Tryd.prog Tryd.f3 (OpenSpec.ofChange Rows.resendEndsSpec) false w args) (Rows.resendEndsSpec.post enc Tryd.prog Tryd.f3 false true false false) := by
  refine returnsInHanded_of_change_and (C := Tryd.checked) (X := fun w _ => laidMetH Tryd.prog laidOne w) (fun _ _ _ hh h => h.of_heap hh) own started (by kernel_rfl) Tryd.func3
    (ChangeSpec.witness_shaped (enc := enc) (C := Tryd.checked) (os := os) (X := fun w _ => laidMetH Tryd.prog laidOne w) false (World.doorLaid Tryd.prog 14 os) #[.agg #[.int .i64 0, .int .i64 0, .int .i64 0]] 8 rfl (World.shaped_of_RefB (by kernel_rfl) (by kernel_rfl)) (by kernel_rfl) (by kernel_rfl) (by kernel_rfl) (door_met os _)) ?_
  intro W base args ds gs before hval0 hW _ _ hL _
  have tab := of_laid hL
  have hval : ∀ (j : Nat) t v, Tryd.f3.params[j]? = some t → args[j]? = some v → Value.okWide Tryd.prog W .any base t v := hval0
  have hW' := hW
  obtain ⟨p, q, hA0, hV, rfl, hfz, hnd⟩ := hW
  have hA : DataW.TrodAll enc Tryd.prog W 0 (fun _ => true) true Tryd.f3.params.toList args.toList ds p := hA0
  rw [Tryd.params3] at hA hval
  obtain ⟨v0, vs0, d0, ds0, p0, q0, hargs, rfl, rfl, h0, r0⟩ := trodAll_cons hA
  obtain ⟨rfl, rfl, rfl⟩ := trodAll_nil r0
  obtain rfl : args = #[v0] := by cases args; simp_all
  obtain ⟨rfl, rfl⟩ := trodVars_none hV
  have k0 := h0
  have lt0 : ∀ x ∈ p0, x.block < W.heap.size := by obtain ⟨m, hm⟩ := k0; exact DataW.trod_lt m _ _ _ hm
  obtain ⟨ns0, ns1, ns2, rfl, hbns0, hbns1, hbns2⟩ := open_int3 (hval 0 22 v0 rfl rfl) h0
  clear hA0 hval0
  refine (walk ns0 ns1 ns2 W tab).mono fun e W' ⟨he, bel⟩ => ?_
  subst he
  exact ⟨_, rfl, _, _, _, [], _, [], hW', trodAll_mk1 (shut_bool Tryd.underlying4 _),
    (trodAll_cons_mk (Below.trod laidOut (by kernel_rfl) (of_decide_eq_true (by kernel_rfl)) k0 bel lt0)
    trodAll_mk0), rfl, bel.frame _, fun h => by cases h⟩

theorem proved : Rows.ResendEndsSaid :=
  OpenClaim.holds_of_wide 3 Tryd.f3 rfl rfl rfl rfl rfl rfl rfl ⟨rfl, rfl, rfl, rfl, rfl⟩ rfl rfl rfl rfl rfl (by kernel_rfl) Tryd.func3 (by kernel_rfl)
    (of_decide_eq_true (by kernel_rfl)) (by unfold Func.isWrapper; first | (rw [if_pos (by decide +kernel)]; kernel_rfl) | (rw [if_neg (by decide +kernel)]; exact ⟨rfl, rfl⟩))
    (fun os started H enc _ => lifted os started H enc)

theorem card : Rows.ResendEndsCardSaid :=
  Claim7.holds_tied_plain_at .later [] [.data] true Rows.resendEndsCard.stood.harness Rows.resendEndsCard.stood.looks
    proved (fun _ h => by cases h) (by kernel_rfl) (fun _ h => by cases h) resendEnds_row_tie rfl ⟨rfl, rfl⟩ (by kernel_rfl) rfl
    (fun f fn hf hfn => by
      obtain rfl : f = 3 := Option.some.inj ((show Tryd.prog.funcNamed "fingerpost/fingerpostlaw17.ResendEnds" = some 3 by kernel_rfl).symm.trans hf) |>.symm
      obtain rfl : fn = Tryd.f3 := (Option.some.inj (Tryd.func3.symm.trans hfn)).symm
      exact ⟨by kernel_rfl, fun j t ht => by
        rw [Tryd.params3] at ht
        have hm : t ∈ [22] := by simpa using Array.mem_of_getElem? ht
        have hall : ([22].all fun u => !Tryd.prog.wantsStandIn u) = true := by kernel_rfl
        exact (show Tryd.prog.wantsStandIn t = false by simpa using List.all_eq_true.1 hall t hm)⟩)
    (by kernel_rfl)
end Go.Proofs.YtmgmgffgbkenkaaDoor.resendEnds
