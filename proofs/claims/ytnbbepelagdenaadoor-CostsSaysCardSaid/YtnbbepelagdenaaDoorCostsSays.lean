/- CostsSays: for any links, number and cost CostsSays answers true and leaves its arguments as they were; the three tables of Go's own packages strconv and bits that the row lists read as the program's text lays them (tied). No other condition. -/
import Derived.Test.YtnbbepelagdenaaDoorRows
import Derived.Test.YtnbbepelagdenaaDoorCosAw
import Derived.Test.YtnbbepelagdenaaDoorCosO
import Derived.Test.YtnbbepelagdenaaDoorCosOpen
import Derived.Test.YtnbbepelagdenaaDoorFrom
import Derived.Test.YtnbbepelagdenaaDoorNatAt
import Derived.ProofKit
import Derived.OpenShut
import Derived.ShutString
import Derived.ChangeOld
import Derived.Carry
import Derived.Test.YtnbbepelagdenaaDoorCosLaid
import Derived.Test.YtnbbepelagdenaaDoorTie
import Derived.Test.YtnbbepelagdenaaDoorCards
import Derived.SevenTiedAt
import Derived.Stop.Joined
import Derived.LaidMore
namespace Go.Proofs.YtnbbepelagdenaaDoor.costsSays
open Go.ChangeShapes Go.WideShapes Go.ChangeAt Go.RowKit
open Go.ChangeMaps (open_string shut_string)

theorem own : ownKnob Tryd.prog.godebug = none := by kernel_rfl
theorem laidOut : laidOutB Tryd.prog = true := by kernel_rfl

attribute [local go_sem ↓] loadAt_cos loadAt_row storeAt_cos
open CosF Go.Sort

set_option maxRecDepth 100000 in
set_option maxHeartbeats 4000000 in
theorem walk (c : Pt) (n : Int) (k : Nat) (w : World) (hc : Cos c) (tab : Tab10 w) :
    Calls Tryd.prog 3 #[.agg (cosP c).toArray, .int .i64 n, .int .u32 (k : Int)] w fun e w' => e = .returned (.bool true) ∧ Below w.heap.size w w' := by
  have AW : Hid (Gives Tryd.prog 18 #[] (.bool true)) := Lib.hid awake_any
  have HC := Lib.hid hc
  have TAB := Lib.hid tab
  have SE := Lib.hid (cset_any c n k hc)
  have RSE := Lib.hid (rset_any c n k hc)
  have HS := Lib.hid (hc.set n k)
  have CU := Lib.hid (ccut_any c n hc)
  have RCU := Lib.hid (rcut_any c n hc)
  have HU := Lib.hid (hc.cut n)
  have OF := Lib.hid (cof_any c n hc)
  have ROF := Lib.hid (rof_any c n hc)
  have SO := Lib.hid (csound_any c hc)
  have RSO := Lib.hid (rsound_any c hc)
  have UP := Lib.hid (fun w => cup_any c w)
  have RUP := Lib.hid (fun w => rup_any c w)
  have RTX : Hid (Gives Tryd.prog 17 #[.agg (cosP c).toArray] (.string (str (textC c)))) := Lib.hid (fun w => rtext_any c hc w)
  have TXT : Hid (∀ w, Tab10 w → Calls Tryd.prog 16 #[.agg (cosP c).toArray] w fun e w' => e = .returned (.string (str (textC c))) ∧ Below w.heap.size w w') := Lib.hid (fun w ht => ctext_any c hc w (fun _ _ _ => ht))
  obtain ⟨s, hs⟩ : ∃ s, setC c n k = s := ⟨_, rfl⟩
  obtain ⟨r, hr⟩ : ∃ r, setE n k = r := ⟨_, rfl⟩
  obtain ⟨u, hu⟩ : ∃ u, cutC c n = u := ⟨_, rfl⟩
  obtain ⟨f, hf⟩ : ∃ f, ofC c n = f := ⟨_, rfl⟩
  obtain ⟨d, hd⟩ : ∃ d, soundF c = d := ⟨_, rfl⟩
  obtain ⟨t, ht⟩ : ∃ t, str (textC c) = t := ⟨_, rfl⟩
  obtain ⟨l, hl⟩ : ∃ l, upC c = l := ⟨_, rfl⟩
  rw [hs, hr] at SE RSE
  rw [hs] at HS
  rw [hu] at CU RCU HU
  rw [hf] at OF ROF
  rw [hd] at SO RSO
  rw [ht] at RTX TXT
  have HM : Hid (l.length ≤ 16) := Lib.hid (by rw [← hl]; exact NodesF.nodes_len _ _)
  rw [hl] at UP RUP
  have EQS : Hid (∀ w, (binOp .eql 25 (.agg (cosP s).toArray) (.agg (cosP s).toArray)).run Tryd.prog w = .ok (.bool true) w) := Lib.hid (fun w => by
    have h := cos_eql s s w HS.out.1 HS.out.1
    rw [decide_eq_true rfl] at h
    exact h)
  have EQU : Hid (∀ w, (binOp .eql 25 (.agg (cosP u).toArray) (.agg (cosP u).toArray)).run Tryd.prog w = .ok (.bool true) w) := Lib.hid (fun w => by
    have h := cos_eql u u w HU.out.1 HU.out.1
    rw [decide_eq_true rfl] at h
    exact h)
  clear hc tab hs hr hu hf hd ht hl
  go_enter Tryd.func3, Tryd.ntmps3
  go_upto_region 1 with fail
  obtain ⟨k0, h0⟩ := one_cos w c
  obtain ⟨wa, hwa⟩ : ∃ v, w.alloc (.cells (cosP c).toArray 25) = v := ⟨_, rfl⟩
  rw [hwa] at k0 h0 ⊢
  clear hwa
  have K3 := Lib.hid k0
  have HB := Lib.hid h0
  clear k0 h0
  have hl := cos_load K3.out HC.out
  go_wp2_with fail
  refine (SE.out _).mono ?_
  rintro e wb ⟨rfl, hb⟩
  clear hl
  have K3' := Lib.hid (K3.out.on hb)
  have HB' := Lib.hid (bel_on HB.out hb)
  clear K3 HB hb
  have K3 := K3'
  have HB := HB'
  clear K3' HB'
  have hst := new_store (w := wb) rfl HS.out
  go_upto_region 2 with fail
  clear hst
  have K7' := Lib.hid (Blk.new wb (cosP s) 25)
  have K3' := Lib.hid (K3.out.next (.cells (cosP s).toArray 25))
  have HB' := Lib.hid (HB.out.alloc HB.out.size (.cells (cosP s).toArray 25))
  obtain ⟨wba, hwa⟩ : ∃ v, wb.alloc (.cells (cosP s).toArray 25) = v := ⟨_, rfl⟩
  rw [hwa] at K7' K3' HB' ⊢
  obtain ⟨bK7, hbK7⟩ : ∃ b, wb.heap.size = b := ⟨_, rfl⟩
  rw [hbK7] at K7' ⊢
  clear hwa hbK7 HB K3
  have K7 := K7'
  have K3 := K3'
  have HB := HB'
  clear K7' K3' HB'
  have hl := cos_load K3.out HC.out
  go_wp2_with fail
  refine (RSE.out _).mono ?_
  rintro e wc ⟨rfl, hb⟩
  clear hl
  have K3' := Lib.hid (K3.out.on hb)
  have K7' := Lib.hid (K7.out.on hb)
  have HB' := Lib.hid (bel_on HB.out hb)
  clear K3 K7 HB hb
  have K3 := K3'
  have K7 := K7'
  have HB := HB'
  clear K3' K7' HB'
  have hst := new_store (w := wc) rfl HS.out
  go_upto_region 3 with fail
  clear hst
  have K9' := Lib.hid (Blk.new wc (cosP s) 25)
  have K3' := Lib.hid (K3.out.next (.cells (cosP s).toArray 25))
  have K7' := Lib.hid (K7.out.next (.cells (cosP s).toArray 25))
  have HB' := Lib.hid (HB.out.alloc HB.out.size (.cells (cosP s).toArray 25))
  obtain ⟨wca, hwa⟩ : ∃ v, wc.alloc (.cells (cosP s).toArray 25) = v := ⟨_, rfl⟩
  rw [hwa] at K9' K3' K7' HB' ⊢
  obtain ⟨bK9, hbK9⟩ : ∃ b, wc.heap.size = b := ⟨_, rfl⟩
  rw [hbK9] at K9' ⊢
  clear hwa hbK9 HB K3 K7
  have K9 := K9'
  have K3 := K3'
  have K7 := K7'
  have HB := HB'
  clear K9' K3' K7' HB'
  have s0 : (wholeLoad 25 (.pointer (some ⟨w.heap.size, 0, none⟩))).run Tryd.prog wca.drew = .ok (.agg (cosP c).toArray) wca.drew ∧ Blk wca.drew w.heap.size (cosP c) ∧ Blk wca.drew bK7 (cosP s) ∧ Blk wca.drew bK9 (cosP s) ∧ Below w.heap.size w wca.drew := ⟨cos_load K3.out.drew HC.out, K3.out.drew, K7.out.drew, K9.out.drew, HB.out.drew⟩
  refine wp_region_until (fun w' => (wholeLoad 25 (.pointer (some ⟨w.heap.size, 0, none⟩))).run Tryd.prog w' = .ok (.agg (cosP c).toArray) w' ∧ Blk w' w.heap.size (cosP c) ∧ Blk w' bK7 (cosP s) ∧ Blk w' bK9 (cosP s) ∧ Below w.heap.size w w') 5 (by kernel_rfl) s0 (fun hS => ?_)
  clear s0
  refine wpAnyU_take 0 rfl (by kernel_rfl) (by kernel_rfl) (by kernel_rfl) (by decide) (by kernel_rfl) (by kernel_rfl) (fun _ _ _ h => h) (by rfl) (by intro w hSw; (try dsimp only at hSw); go_simp <;> with_reducible rfl) (by assumption) ?_
  try simp only [Act.put]
  try simp only [List.setIfInBounds_toArray]
  try simp only [List.set]
  refine wpAnyU_take 2 rfl (by kernel_rfl) (by kernel_rfl) (by kernel_rfl) (by decide) (by kernel_rfl) (by kernel_rfl) (fun _ _ _ h => h) (by rfl) (by intro w hSw; (try dsimp only at hSw); go_simp <;> with_reducible rfl) (by assumption) ?_
  try simp only [Act.put]
  try simp only [List.setIfInBounds_toArray]
  try simp only [List.set]
  refine wpAnyU_one 1 rfl (by kernel_rfl) (fun K hK => ?_)
  go_simp
  refine (UP.out _).mono ?_
  rintro e w1 hown
  obtain ⟨aL, cL, rfl, nL, hb⟩ := nats_slice hown
  clear hown
  go_simp
  obtain ⟨_, q3, q7, q9, qb⟩ := hS
  have hS' : (wholeLoad 25 (.pointer (some ⟨w.heap.size, 0, none⟩))).run Tryd.prog w1 = .ok (.agg (cosP c).toArray) w1 ∧ Blk w1 w.heap.size (cosP c) ∧ Blk w1 bK7 (cosP s) ∧ Blk w1 bK9 (cosP s) ∧ Below w.heap.size w w1 := ⟨cos_load (q3.on hb) HC.out, q3.on hb, q7.on hb, q9.on hb, bel_on qb hb⟩
  clear q3 q7 q9 qb
  refine hK.out _ _ (fun _ => hS') (fun _ => ?_)
  clear hK K
  have hS := hS'
  clear hS'
  clear hb
  try simp only [Act.put]
  try simp only [List.setIfInBounds_toArray]
  try simp only [List.set]
  refine wpAnyU_one 3 rfl (by kernel_rfl) (fun K hK => ?_)
  go_simp
  refine (RUP.out _).mono ?_
  rintro e w1 hown
  obtain ⟨aM, cM, rfl, nM, hb⟩ := nats_slice hown
  clear hown
  go_simp
  obtain ⟨_, q3, q7, q9, qb⟩ := hS
  have hS' : (wholeLoad 25 (.pointer (some ⟨w.heap.size, 0, none⟩))).run Tryd.prog w1 = .ok (.agg (cosP c).toArray) w1 ∧ Blk w1 w.heap.size (cosP c) ∧ Blk w1 bK7 (cosP s) ∧ Blk w1 bK9 (cosP s) ∧ Below w.heap.size w w1 := ⟨cos_load (q3.on hb) HC.out, q3.on hb, q7.on hb, q9.on hb, bel_on qb hb⟩
  clear q3 q7 q9 qb
  refine hK.out _ _ (fun _ => hS') (fun _ => ?_)
  clear hK K
  have hS := hS'
  clear hS'
  have nL := nL.on hb
  clear hb
  try simp only [Act.put]
  try simp only [List.setIfInBounds_toArray]
  try simp only [List.set]
  refine wpAnyU_one 4 rfl (by kernel_rfl) (fun K hK => ?_)
  go_simp
  refine hK.out _ _ (fun _ => hS) (fun _ => ?_)
  clear hK K
  try simp only [Act.put]
  try simp only [List.setIfInBounds_toArray]
  try simp only [List.set]
  refine wpAnyU_one 5 rfl (by kernel_rfl) (fun K hK => ?_)
  go_simp
  refine hK.out _ _ (fun hno => by cases hno) (fun _ => ?_)
  clear hK K
  try simp only [Act.put]
  try simp only [List.setIfInBounds_toArray]
  try simp only [List.set]
  refine wpAnyU_done (by kernel_rfl) ?_ _
  have NL := Lib.hid nL
  have NM := Lib.hid nM
  obtain ⟨_, q3, q7, q9, qb⟩ := hS
  have K3' := Lib.hid q3
  have K7' := Lib.hid q7
  have K9' := Lib.hid q9
  have HB' := Lib.hid qb
  clear K3 K7 K9 HB nL nM q3 q7 q9 qb
  obtain ⟨nl, hnl⟩ : ∃ n, l.length = n := ⟨_, rfl⟩
  have HNL := Lib.hid hnl
  rw [hnl] at HM ⊢
  have hn64 : nl ≤ 16 := HM.out
  clear hnl
  go_wp2_with fail
  go_loopw [39] (fun v wr => ∃ i : Nat, v = .int .i64 (i : Int) ∧ i ≤ nl ∧ Below w1.heap.size w1 wr) (fun v _ => (nl - intOf v).toNat)
  case atStart => exact ⟨0, rfl, Nat.zero_le _, Below.refl _ _⟩
  case round =>
    obtain ⟨i, rfl, hi, hb⟩ := hrel
    have HQ := Lib.hid hb
    clear hb
    by_cases hin : i < nl
    · obtain ⟨x, hx⟩ : ∃ x, l[i]? = some x := ⟨_, List.getElem?_eq_getElem (by have := HNL.out; omega)⟩
      obtain ⟨gL, rfl, _, pL⟩ := (NL.out.on HQ.out).read hx
      obtain ⟨gM, rfl, _, pM⟩ := (NM.out.on HQ.out).read hx
      have hin' : (i : Int) < (nl : Int) := by omega
      have HK := Lib.hid hin
      have e1 : wrap64 ((i : Int) + 1) = (i : Int) + 1 := IntWalk.wrap64_in _ (by omega)
      clear hx hin hi
      go_upto_region 9 with fail
      have pL' := cell_regrown pL
      have pM' := cell_regrown pM
      clear pL pM
      refine wp_region_quiet_below (by kernel_rfl) (by kernel_rfl) ?_
      repeat (first | go_big_quiet_step (fail) | quiet_step (fail))
      refine wpQuiet_nil ?_
      intro _ hw'
      obtain ⟨⟨dq, osq⟩, hw''⟩ := hw'
      subst hw''
      clear pL' pM'
      have HQ' := Lib.hid (bel_on HQ.out (below_regrown wr dq osq))
      clear HQ
      obtain ⟨wn, hwn⟩ : ∃ v, grow (redrawn wr dq) osq = v := ⟨_, rfl⟩
      rw [hwn] at HQ' ⊢
      clear hwn
      go_wp2_with fail
      go_roundw
      case rel => exact ⟨i + 1, by go_num, HK.out, HQ'.out⟩
      case measure => exact meas_up nl i _ rfl HK.out
    · obtain rfl : i = nl := by omega
      clear hi NL NM HNL
      go_upto_region 12 with fail
      have hq := HQ.out
      have K3'' := Lib.hid (K3'.out.on hq)
      have K7'' := Lib.hid (K7'.out.on hq)
      have K9'' := Lib.hid (K9'.out.on hq)
      have HB'' := Lib.hid (bel_on HB'.out hq)
      clear hq K3' K7' K9' HB' HQ
      have l3 := fun dd os => cos_load (K3''.out.on (below_regrown _ dd os)) HC.out
      have l7 := fun dd os => cos_load (K7''.out.on (below_regrown _ dd os)) HS.out
      have l9 := fun dd os => cos_load (K9''.out.on (below_regrown _ dd os)) HS.out
      have TX : Hid (From wr Tryd.prog 16 #[.agg (cosP c).toArray] (.string t)) := Lib.hid (fun w hb => TXT.out w ((TAB.out.on HB''.out).on hb))
      have es := EQS.out
      have eu := EQU.out
      refine wp_region_quiet_below (by kernel_rfl) (by kernel_rfl) ?_
      repeat (first | go_big_quiet_step (first | with_reducible exact CU.out.at _ _ _ | with_reducible exact RCU.out.at _ _ _ | with_reducible exact OF.out.at _ _ _ | with_reducible exact ROF.out.at _ _ _ | with_reducible exact SO.out.at _ _ _ | with_reducible exact RSO.out.at _ _ _ | with_reducible exact TX.out.at _ _ | with_reducible exact RTX.out.at _ _ _ | with_reducible exact AW.out.at _ _ _) | quiet_step (first | with_reducible exact CU.out.at _ _ _ | with_reducible exact RCU.out.at _ _ _ | with_reducible exact OF.out.at _ _ _ | with_reducible exact ROF.out.at _ _ _ | with_reducible exact SO.out.at _ _ _ | with_reducible exact RSO.out.at _ _ _ | with_reducible exact TX.out.at _ _ | with_reducible exact RTX.out.at _ _ _ | with_reducible exact AW.out.at _ _ _))
      refine wpQuiet_nil ?_
      intro _ hw'
      obtain ⟨⟨dq, osq⟩, hw''⟩ := hw'
      subst hw''
      clear l3 l7 l9 es eu
      go_wp2_with fail
      go_ret
      exact ⟨rfl, bel_on HB''.out (below_regrown wr dq osq)⟩


set_option maxRecDepth 100000 in
theorem lifted (os : Os) (started : os.Started) (H : Type) (enc : TypeId × Value → H) :
    ReturnsInHanded {} Tryd.checked os 3 .any (fun w args => (Rows.costsSaysSpec.pre enc Tryd.prog Tryd.f3 [] false w args ∧ laidMetH Tryd.prog laidThree w) ∧ sizedMet enc Tryd.prog Tryd.f3 (OpenSpec.ofChange Rows.costsSaysSpec) false w args) (Rows.costsSaysSpec.post enc Tryd.prog Tryd.f3 false true false false) := by
  refine returnsInHanded_of_change_and (C := Tryd.checked) (X := fun w _ => laidMetH Tryd.prog laidThree w) (fun _ _ _ hh h => h.of_heap hh) own started (by kernel_rfl) Tryd.func3
    (ChangeSpec.witness_shaped (enc := enc) (C := Tryd.checked) (os := os) (X := fun w _ => laidMetH Tryd.prog laidThree w) false (World.doorLaid Tryd.prog 257 os) #[.agg #[.int .i64 0, .int .u32 0, .int .u32 0, .int .u32 0, .int .u32 0, .int .u32 0, .int .u32 0, .int .u32 0, .int .u32 0, .int .u32 0, .int .u32 0, .int .u32 0, .int .u32 0, .int .u32 0, .int .u32 0, .int .u32 0, .int .u32 0], .int .i64 0, .int .u32 0] 8 rfl (World.shaped_of_RefB (by kernel_rfl) (by kernel_rfl)) (by kernel_rfl) (by kernel_rfl) (by kernel_rfl) (door_met os _)) ?_
  intro W base args ds gs before hval0 hW _ _ hL _
  have tab := of_laid hL
  have hval : ∀ (j : Nat) t v, Tryd.f3.params[j]? = some t → args[j]? = some v → Value.okWide Tryd.prog W .any base t v := hval0
  have hW' := hW
  obtain ⟨p, q, hA0, hV, rfl, hfz, hnd⟩ := hW
  have hA : DataW.TrodAll enc Tryd.prog W 0 (fun _ => true) true Tryd.f3.params.toList args.toList ds p := hA0
  rw [Tryd.params3] at hA hval
  obtain ⟨v0, vs0, d0, ds0, p0, q0, hargs, rfl, rfl, h0, r0⟩ := trodAll_cons hA
  obtain ⟨v1, vs1, d1, ds1, p1, q1, rfl, rfl, rfl, h1, r1⟩ := trodAll_cons r0
  obtain ⟨v2, vs2, d2, ds2, p2, q2, rfl, rfl, rfl, h2, r2⟩ := trodAll_cons r1
  obtain ⟨rfl, rfl, rfl⟩ := trodAll_nil r2
  obtain rfl : args = #[v0, v1, v2] := by cases args; simp_all
  obtain ⟨rfl, rfl⟩ := trodVars_none hV
  have k0 := h0
  have lt0 : ∀ x ∈ p0, x.block < W.heap.size := by obtain ⟨m, hm⟩ := k0; exact DataW.trod_lt m _ _ _ hm
  have k1 := h1
  have lt1 : ∀ x ∈ p1, x.block < W.heap.size := by obtain ⟨m, hm⟩ := k1; exact DataW.trod_lt m _ _ _ hm
  have k2 := h2
  have lt2 : ∀ x ∈ p2, x.block < W.heap.size := by obtain ⟨m, hm⟩ := k2; exact DataW.trod_lt m _ _ _ hm
  obtain ⟨c, rfl, hcc⟩ := open_costs (hval 0 25 v0 rfl rfl) h0
  obtain ⟨n, rfl, _, _, hn⟩ := open_int Tryd.underlying3 (hval 1 3 v1 rfl rfl) h1
  have hbn := bounds_i64 hn
  obtain ⟨k, rfl, _, _, hk⟩ := open_int Tryd.underlying22 (hval 2 22 v2 rfl rfl) h2
  have hbk := bounds_u32 hk
  obtain ⟨k, rfl⟩ := Int.eq_ofNat_of_zero_le hbk.1
  clear hA0 hval0
  refine (walk c n k W hcc tab).mono fun e W' ⟨he, bel⟩ => ?_
  subst he
  exact ⟨_, rfl, _, _, _, [], _, [], hW', trodAll_mk1 (shut_bool Tryd.underlying4 _),
    (trodAll_cons_mk (Below.trod laidOut (by kernel_rfl) (of_decide_eq_true (by kernel_rfl)) k0 bel lt0)
    (trodAll_cons_mk (Below.trod laidOut (by kernel_rfl) (of_decide_eq_true (by kernel_rfl)) k1 bel lt1)
    (trodAll_cons_mk (Below.trod laidOut (by kernel_rfl) (of_decide_eq_true (by kernel_rfl)) k2 bel lt2)
    trodAll_mk0))), rfl, bel.frame _, fun h => by cases h⟩

theorem proved : Rows.CostsSaysSaid :=
  OpenClaim.holds_of_wide 3 Tryd.f3 rfl rfl rfl rfl rfl rfl rfl ⟨rfl, rfl, rfl, rfl, rfl⟩ rfl rfl rfl rfl rfl (by kernel_rfl) Tryd.func3 (by kernel_rfl)
    (of_decide_eq_true (by kernel_rfl)) (by unfold Func.isWrapper; first | (rw [if_pos (by decide +kernel)]; kernel_rfl) | (rw [if_neg (by decide +kernel)]; exact ⟨rfl, rfl⟩))
    (fun os started H enc _ => lifted os started H enc)

theorem card : Rows.CostsSaysCardSaid :=
  Claim7.holds_tied_plain_at .later [] [.data, .data, .data] true Rows.costsSaysCard.stood.harness Rows.costsSaysCard.stood.looks
    proved (fun _ h => by cases h) (by kernel_rfl) (fun _ h => by cases h) costsSays_row_tie rfl ⟨rfl, rfl⟩ (by kernel_rfl) rfl
    (fun f fn hf hfn => by
      obtain rfl : f = 3 := Option.some.inj ((show Tryd.prog.funcNamed "fingerpost/fingerpostlaw14.CostsSays" = some 3 by kernel_rfl).symm.trans hf) |>.symm
      obtain rfl : fn = Tryd.f3 := (Option.some.inj (Tryd.func3.symm.trans hfn)).symm
      exact ⟨by kernel_rfl, fun j t ht => by
        rw [Tryd.params3] at ht
        have hm : t ∈ [25, 3, 22] := by simpa using Array.mem_of_getElem? ht
        have hall : ([25, 3, 22].all fun u => !Tryd.prog.wantsStandIn u) = true := by kernel_rfl
        exact (show Tryd.prog.wantsStandIn t = false by simpa using List.all_eq_true.1 hall t hm)⟩)
    (by kernel_rfl)
end Go.Proofs.YtnbbepelagdenaaDoor.costsSays
