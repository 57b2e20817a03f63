/- TreeSays: for any tree, node and entry TreeSays answers true and leaves its arguments as they were; the three tables of Go's own packages strconv and bits that the row lists read as the program's text lays them (tied). No other condition. -/
import Derived.Test.YtelfbkfmngjheaaDoorRows
import Derived.Test.YtelfbkfmngjheaaDoorTreAw
import Derived.Test.YtelfbkfmngjheaaDoorTreO
import Derived.Test.YtelfbkfmngjheaaDoorTreOpen
import Derived.Test.YtelfbkfmngjheaaDoorTreTwo
import Derived.Test.YtelfbkfmngjheaaDoorFrom
import Derived.ProofKit
import Derived.OpenShut
import Derived.ShutString
import Derived.ChangeOld
import Derived.Carry
import Derived.Test.YtelfbkfmngjheaaDoorTreLaid
import Derived.Test.YtelfbkfmngjheaaDoorTie
import Derived.Test.YtelfbkfmngjheaaDoorCards
import Derived.SevenTiedAt
import Derived.Stop.Joined
import Derived.LaidMore
namespace Go.Proofs.YtelfbkfmngjheaaDoor.treeSays
open Go.ChangeShapes Go.WideShapes Go.ChangeAt Go.RowKit
open Go.ChangeMaps (open_string shut_string)

theorem own : ownKnob Tryd.prog.godebug = none := by kernel_rfl
theorem laidOut : laidOutB Tryd.prog = true := by kernel_rfl

open TreF Go.Sort
attribute [local go_sem ↓] loadAt_tre storeAt_tre loadAt_ent storeAt_ent

set_option maxRecDepth 100000 in
set_option maxHeartbeats 4000000 in
theorem walk (t : Tr) (j : Int) (d : Nat) (p : Int) (w : World) (ht : Tre t) (ho : Ok (d, p)) (tab : Tab10 w) :
    Calls Tryd.prog 3 #[.agg (treC t).toArray, .int .i64 j, .agg #[.int .u32 (d : Int), .int .i64 p]] w fun e w' => e = .returned (.bool true) ∧ Below w.heap.size w w' := by
  have AW : Hid (Gives Tryd.prog 18 #[] (.bool true)) := Lib.hid awake_any
  have NE := Lib.hid (tnew_any j)
  have RNE := Lib.hid (rnew_any j)
  have GE := Lib.hid (tget_any t j ht)
  have RGE := Lib.hid (rget_any t j ht)
  have PU := Lib.hid (tput_any t j d p ht ho)
  have RPU := Lib.hid (rput_any t j d p ht ho)
  have RO := Lib.hid (troot_any t ht)
  have RRO := Lib.hid (rroot_any t ht)
  have RE := Lib.hid (treached_any t ht)
  have RRE := Lib.hid (rreached_any t ht)
  have RTX : Hid (Gives Tryd.prog 17 #[.agg (treC t).toArray] (.string (str (textT t)))) := Lib.hid (fun w => rttext_any t ht w)
  have TXT : Hid (∀ w, Tab10 w → Calls Tryd.prog 16 #[.agg (treC t).toArray] w fun e w' => e = .returned (.string (str (textT t))) ∧ Below w.heap.size w w') := Lib.hid (fun w hT => ttext_any t ht w (fun _ _ _ => hT))
  have HT := Lib.hid ht
  have hn1 := (Tre.new j).1
  have hp1 := (ht.put j ho).1
  have TAB := Lib.hid tab
  obtain ⟨s, hs⟩ : ∃ s, newT j = s := ⟨_, rfl⟩
  obtain ⟨u, hu⟩ : ∃ u, putT t j (d, p) = u := ⟨_, rfl⟩
  obtain ⟨gd, hgd⟩ : ∃ x, (getT t j).1 = x := ⟨_, rfl⟩
  obtain ⟨gp, hgp⟩ : ∃ x, (getT t j).2 = x := ⟨_, rfl⟩
  obtain ⟨r, hr⟩ : ∃ r, rootT t = r := ⟨_, rfl⟩
  obtain ⟨m, hm⟩ : ∃ m, setR t = m := ⟨_, rfl⟩
  obtain ⟨x, hx⟩ : ∃ x, str (textT t) = x := ⟨_, rfl⟩
  rw [hs] at NE RNE hn1
  rw [hu] at PU RPU hp1
  rw [hgd, hgp] at GE RGE
  rw [hr] at RO RRO
  rw [hm] at RE RRE
  rw [hx] at RTX TXT
  have EQS : Hid (∀ w, (binOp .eql 26 (.agg (treC s).toArray) (.agg (treC s).toArray)).run Tryd.prog w = .ok (.bool true) w) := Lib.hid (fun w => by
    have h := tre_eql s s w hn1 hn1
    rw [decide_eq_true rfl] at h
    exact h)
  have EQU : Hid (∀ w, (binOp .eql 26 (.agg (treC u).toArray) (.agg (treC u).toArray)).run Tryd.prog w = .ok (.bool true) w) := Lib.hid (fun w => by
    have h := tre_eql u u w hp1 hp1
    rw [decide_eq_true rfl] at h
    exact h)
  have EQE : Hid (∀ w, (binOp .eql 24 (.agg #[.int .u32 (gd : Int), .int .i64 gp]) (.agg #[.int .u32 (gd : Int), .int .i64 gp])).run Tryd.prog w = .ok (.bool true) w) := Lib.hid (fun w => by
    have h := ent_eql gd gd gp gp w
    rw [decide_eq_true rfl] at h
    exact h)
  clear ht ho tab hs hu hgd hgp hr hm hx hn1 hp1
  go_enter Tryd.func3, Tryd.ntmps3
  go_upto_region 1 with fail
  obtain ⟨k0, k1, h0⟩ := two_box w t d p
  obtain ⟨wr, hwa⟩ : ∃ v, (w.alloc (.cells (treC t).toArray 26)).alloc (.cells #[.int .u32 (d : Int), .int .i64 p] 24) = v := ⟨_, rfl⟩
  rw [hwa] at k0 k1 h0 ⊢
  clear hwa
  have K0 := Lib.hid k0
  have K1 := Lib.hid k1
  have HB := Lib.hid h0
  clear k0 k1 h0
  have TX : Hid (From wr Tryd.prog 16 #[.agg (treC t).toArray] (.string x)) := Lib.hid (fun w hb => TXT.out w ((TAB.out.on HB.out).on hb))
  have l0 := fun dd os => tre_load (K0.out.on (below_regrown _ dd os)) HT.out
  have l1 := fun dd os => one_load (K1.out.on (below_regrown _ dd os))
  have es := EQS.out
  have eu := EQU.out
  have ee := EQE.out
  refine wp_region_quiet_below (by kernel_rfl) (by kernel_rfl) ?_
  repeat (first | go_big_quiet_step (first | with_reducible exact NE.out.at _ _ _ | with_reducible exact RNE.out.at _ _ _ | with_reducible exact GE.out.at _ _ _ | with_reducible exact RGE.out.at _ _ _ | with_reducible exact PU.out.at _ _ _ | with_reducible exact RPU.out.at _ _ _ | with_reducible exact RO.out.at _ _ _ | with_reducible exact RRO.out.at _ _ _ | with_reducible exact RE.out.at _ _ _ | with_reducible exact RRE.out.at _ _ _ | with_reducible exact RTX.out.at _ _ _ | with_reducible exact AW.out.at _ _ _ | with_reducible exact TX.out.at _ _) | quiet_step (first | with_reducible exact NE.out.at _ _ _ | with_reducible exact RNE.out.at _ _ _ | with_reducible exact GE.out.at _ _ _ | with_reducible exact RGE.out.at _ _ _ | with_reducible exact PU.out.at _ _ _ | with_reducible exact RPU.out.at _ _ _ | with_reducible exact RO.out.at _ _ _ | with_reducible exact RRO.out.at _ _ _ | with_reducible exact RE.out.at _ _ _ | with_reducible exact RRE.out.at _ _ _ | with_reducible exact RTX.out.at _ _ _ | with_reducible exact AW.out.at _ _ _ | with_reducible exact TX.out.at _ _))
  refine wpQuiet_nil ?_
  intro _ hw'
  obtain ⟨⟨dq, osq⟩, hw''⟩ := hw'
  subst hw''
  clear l0 l1 es eu ee
  go_wp2_with fail
  go_ret
  exact ⟨rfl, bel_on HB.out (below_regrown wr dq osq)⟩

set_option maxRecDepth 100000 in
theorem lifted (os : Os) (started : os.Started) (H : Type) (enc : TypeId × Value → H) :
    ReturnsInHanded {} Tryd.checked os 3 .any (fun w args => (Rows.treeSaysSpec.pre enc Tryd.prog Tryd.f3 [] false w args ∧ laidMetH Tryd.prog laidThree w) ∧ sizedMet enc Tryd.prog Tryd.f3 (OpenSpec.ofChange Rows.treeSaysSpec) false w args) (Rows.treeSaysSpec.post enc Tryd.prog Tryd.f3 false true false false) := by
  refine returnsInHanded_of_change_and (C := Tryd.checked) (X := fun w _ => laidMetH Tryd.prog laidThree w) (fun _ _ _ hh h => h.of_heap hh) own started (by kernel_rfl) Tryd.func3
    (ChangeSpec.witness_shaped (enc := enc) (C := Tryd.checked) (os := os) (X := fun w _ => laidMetH Tryd.prog laidThree w) false (World.doorLaid Tryd.prog 62 os) #[.agg #[.int .u32 0, .int .i64 0, .int .u32 0, .int .i64 0, .int .u32 0, .int .i64 0, .int .u32 0, .int .i64 0, .int .u32 0, .int .i64 0, .int .u32 0, .int .i64 0, .int .u32 0, .int .i64 0, .int .u32 0, .int .i64 0, .int .u32 0, .int .i64 0, .int .u32 0, .int .i64 0, .int .u32 0, .int .i64 0, .int .u32 0, .int .i64 0, .int .u32 0, .int .i64 0, .int .u32 0, .int .i64 0, .int .u32 0, .int .i64 0, .int .u32 0, .int .i64 0], .int .i64 0, .agg #[.int .u32 0, .int .i64 0]] 8 rfl (World.shaped_of_RefB (by kernel_rfl) (by kernel_rfl)) (by kernel_rfl) (by kernel_rfl) (by kernel_rfl) (door_met os _)) ?_
  intro W base args ds gs before hval0 hW _ _ hL _
  have tab := of_laid hL
  have hval : ∀ (j : Nat) t v, Tryd.f3.params[j]? = some t → args[j]? = some v → Value.okWide Tryd.prog W .any base t v := hval0
  have hW' := hW
  obtain ⟨p, q, hA0, hV, rfl, hfz, hnd⟩ := hW
  have hA : DataW.TrodAll enc Tryd.prog W 0 (fun _ => true) true Tryd.f3.params.toList args.toList ds p := hA0
  rw [Tryd.params3] at hA hval
  obtain ⟨v0, vs0, d0, ds0, p0, q0, hargs, rfl, rfl, h0, r0⟩ := trodAll_cons hA
  obtain ⟨v1, vs1, d1, ds1, p1, q1, rfl, rfl, rfl, h1, r1⟩ := trodAll_cons r0
  obtain ⟨v2, vs2, d2, ds2, p2, q2, rfl, rfl, rfl, h2, r2⟩ := trodAll_cons r1
  obtain ⟨rfl, rfl, rfl⟩ := trodAll_nil r2
  obtain rfl : args = #[v0, v1, v2] := by cases args; simp_all
  obtain ⟨rfl, rfl⟩ := trodVars_none hV
  have k0 := h0
  have lt0 : ∀ x ∈ p0, x.block < W.heap.size := by obtain ⟨m, hm⟩ := k0; exact DataW.trod_lt m _ _ _ hm
  have k1 := h1
  have lt1 : ∀ x ∈ p1, x.block < W.heap.size := by obtain ⟨m, hm⟩ := k1; exact DataW.trod_lt m _ _ _ hm
  have k2 := h2
  have lt2 : ∀ x ∈ p2, x.block < W.heap.size := by obtain ⟨m, hm⟩ := k2; exact DataW.trod_lt m _ _ _ hm
  obtain ⟨t, rfl, htt⟩ := open_tree (hval 0 26 v0 rfl rfl) h0
  obtain ⟨j, rfl, _, _, hj⟩ := open_int Tryd.underlying3 (hval 1 3 v1 rfl rfl) h1
  have hbj := bounds_i64 hj
  obtain ⟨ed, ep, rfl, hoe⟩ := open_ent (hval 2 24 v2 rfl rfl) h2
  clear hA0 hval0
  refine (walk t j ed ep W htt hoe tab).mono fun e W' ⟨he, bel⟩ => ?_
  subst he
  exact ⟨_, rfl, _, _, _, [], _, [], hW', trodAll_mk1 (shut_bool Tryd.underlying4 _),
    (trodAll_cons_mk (Below.trod laidOut (by kernel_rfl) (of_decide_eq_true (by kernel_rfl)) k0 bel lt0)
    (trodAll_cons_mk (Below.trod laidOut (by kernel_rfl) (of_decide_eq_true (by kernel_rfl)) k1 bel lt1)
    (trodAll_cons_mk (Below.trod laidOut (by kernel_rfl) (of_decide_eq_true (by kernel_rfl)) k2 bel lt2)
    trodAll_mk0))), rfl, bel.frame _, fun h => by cases h⟩

theorem proved : Rows.TreeSaysSaid :=
  OpenClaim.holds_of_wide 3 Tryd.f3 rfl rfl rfl rfl rfl rfl rfl ⟨rfl, rfl, rfl, rfl, rfl⟩ rfl rfl rfl rfl rfl (by kernel_rfl) Tryd.func3 (by kernel_rfl)
    (of_decide_eq_true (by kernel_rfl)) (by unfold Func.isWrapper; first | (rw [if_pos (by decide +kernel)]; kernel_rfl) | (rw [if_neg (by decide +kernel)]; exact ⟨rfl, rfl⟩))
    (fun os started H enc _ => lifted os started H enc)

theorem card : Rows.TreeSaysCardSaid :=
  Claim7.holds_tied_plain_at .later [] [.data, .data, .data] true Rows.treeSaysCard.stood.harness Rows.treeSaysCard.stood.looks
    proved (fun _ h => by cases h) (by kernel_rfl) (fun _ h => by cases h) treeSays_row_tie rfl ⟨rfl, rfl⟩ (by kernel_rfl) rfl
    (fun f fn hf hfn => by
      obtain rfl : f = 3 := Option.some.inj ((show Tryd.prog.funcNamed "fingerpost/fingerpostlaw23.TreeSays" = some 3 by kernel_rfl).symm.trans hf) |>.symm
      obtain rfl : fn = Tryd.f3 := (Option.some.inj (Tryd.func3.symm.trans hfn)).symm
      exact ⟨by kernel_rfl, fun j t ht => by
        rw [Tryd.params3] at ht
        have hm : t ∈ [26, 3, 24] := by simpa using Array.mem_of_getElem? ht
        have hall : ([26, 3, 24].all fun u => !Tryd.prog.wantsStandIn u) = true := by kernel_rfl
        exact (show Tryd.prog.wantsStandIn t = false by simpa using List.all_eq_true.1 hall t hm)⟩)
    (by kernel_rfl)
end Go.Proofs.YtelfbkfmngjheaaDoor.treeSays
