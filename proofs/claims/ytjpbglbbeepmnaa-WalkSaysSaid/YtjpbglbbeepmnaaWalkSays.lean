/- WalkSays: whatever tree and numbers come, the law returns true (Back, Path, First and Hops answer as the document's own), and its arguments read as before. No condition. -/
import Derived.Test.YtjpbglbbeepmnaaRows
import Derived.Test.YtjpbglbbeepmnaaWakD
import Derived.Test.YtjpbglbbeepmnaaWakE
import Derived.Test.YtjpbglbbeepmnaaTreOpen
import Derived.Test.YtjpbglbbeepmnaaFrom
import Derived.ProofKit
import Derived.OpenShut
import Derived.ShutString
import Derived.ChangeOld
import Derived.Carry
namespace Go.Proofs.Ytjpbglbbeepmnaa.walkSays
open Go.ChangeShapes Go.WideShapes Go.ChangeAt Go.RowKit
open Go.ChangeMaps (open_string shut_string)

theorem own : ownKnob Try.prog.godebug = none := by kernel_rfl
theorem laidOut : laidOutB Try.prog = true := by kernel_rfl

open Go.Sort TreF WakF
attribute [local go_sem ↓] loadAt_tre storeAt_tre loadAt_ent storeAt_ent
theorem same_from {w0 : World} {a b : Option Addr} {c d : Nat} {l : List Nat} (h : NatAt w0 a 0 l) (h2 : NatAt w0 b 0 l) (hl : l.length ≤ 16) :
    From w0 Try.prog 10 #[.slice a l.length c, .slice b l.length d] (.bool true) := fun w hb => by
  have := same_any a b c d l l w (h.on hb) (h2.on hb) hl hl
  rwa [decide_eq_true rfl] at this

set_option maxHeartbeats 2000000 in
set_option maxRecDepth 100000 in
theorem walk (t : Tr) (x y : Int) (w : World) (ht : Tre t) :
    Calls Try.prog 3 #[.agg (treC t).toArray, .int .i64 x, .int .i64 y] w fun e w' => e = .returned (.bool true) ∧ Below w.heap.size w w' := by
  have BA := Lib.hid (fun w => wback_any t x y ht w)
  have RB := Lib.hid (fun w => rback_any t x y ht w)
  have PA := Lib.hid (fun w => wpath_any t x y ht w)
  have RP := Lib.hid (fun w => rpath_any t x y ht w)
  have FI := Lib.hid (wfirst_any t x y ht)
  have RF := Lib.hid (rfirst_any t x y ht)
  have HO := Lib.hid (whops_any t x y ht)
  have RH := Lib.hid (rhops_any t x y ht)
  have AW := Lib.hid awake_any
  have HT := Lib.hid ht
  have HL := Lib.hid (back_short t x y)
  have HL2 := Lib.hid (path_short t x y)
  generalize hopsT t x y = hh at HO RH
  generalize firstT t x y = ff at FI RF
  generalize pathT t x y = l2 at PA RP HL2
  generalize backT t x y = l at BA RB HL
  obtain ⟨b1, hb1⟩ : ∃ b, (!l.isEmpty) = b := ⟨_, rfl⟩
  obtain ⟨b2, hb2⟩ : ∃ b, (!l2.isEmpty) = b := ⟨_, rfl⟩
  have HB1 := Lib.hid hb1
  have HB2 := Lib.hid hb2
  have e1 : (b1 == b1) = true := by simp
  have e2 : (b2 == b2) = true := by simp
  have e3 : (hh == hh) = true := by simp
  have e4 : (ff == ff) = true := by simp
  obtain ⟨n1, hn1⟩ : ∃ n, l.length = n := ⟨_, rfl⟩
  obtain ⟨n2, hn2⟩ : ∃ n, l2.length = n := ⟨_, rfl⟩
  have HN1 := Lib.hid hn1
  have HN2 := Lib.hid hn2
  clear ht hb1 hb2 hn1 hn2
  go_enter Try.func3, Try.ntmps3
  go_upto_region 1 with fail
  obtain ⟨B0, BB⟩ := tbox_new w t
  obtain ⟨w1, hw1⟩ : ∃ v, w.alloc (.cells (treC t).toArray 26) = v := ⟨_, rfl⟩
  rw [hw1] at B0 BB ⊢
  clear hw1
  have K := Lib.hid B0
  have HB := Lib.hid BB
  clear B0 BB
  have l0 := tre_load K.out HT.out
  go_wp2_with fail
  refine (BA.out _).mono ?_
  rintro e w2 hp
  obtain ⟨LAa, LAc, rfl, ho, hb⟩ := hp.at (Nat.zero_le _)
  clear l0
  have K_ := Lib.hid (K.out.on hb)
  clear K
  have K := K_
  clear K_
  have HB_ := Lib.hid (bel_on HB.out hb)
  clear HB
  have HB := HB_
  clear HB_
  have LA := Lib.hid (NatAt.own ho)
  rw [HB1.out, HN1.out]
  clear ho hp hb
  have l0 := tre_load K.out HT.out
  go_wp2_with fail
  refine (RB.out _).mono ?_
  rintro e w3 hp
  obtain ⟨LBa, LBc, rfl, ho, hb⟩ := hp.at (Nat.zero_le _)
  clear l0
  have K_ := Lib.hid (K.out.on hb)
  clear K
  have K := K_
  clear K_
  have HB_ := Lib.hid (bel_on HB.out hb)
  clear HB
  have HB := HB_
  clear HB_
  have LA_ := Lib.hid (LA.out.on hb)
  clear LA
  have LA := LA_
  clear LA_
  have LB := Lib.hid (NatAt.own ho)
  rw [HB1.out, HN1.out]
  clear ho hp hb
  have l0 := tre_load K.out HT.out
  go_wp2_with fail
  refine (PA.out _).mono ?_
  rintro e w4 hp
  obtain ⟨LCa, LCc, rfl, ho, hb⟩ := hp.at (Nat.zero_le _)
  clear l0
  have K_ := Lib.hid (K.out.on hb)
  clear K
  have K := K_
  clear K_
  have HB_ := Lib.hid (bel_on HB.out hb)
  clear HB
  have HB := HB_
  clear HB_
  have LA_ := Lib.hid (LA.out.on hb)
  clear LA
  have LA := LA_
  clear LA_
  have LB_ := Lib.hid (LB.out.on hb)
  clear LB
  have LB := LB_
  clear LB_
  have LC := Lib.hid (NatAt.own ho)
  rw [HB2.out, HN2.out]
  clear ho hp hb
  have l0 := tre_load K.out HT.out
  go_wp2_with fail
  refine (RP.out _).mono ?_
  rintro e w5 hp
  obtain ⟨LDa, LDc, rfl, ho, hb⟩ := hp.at (Nat.zero_le _)
  clear l0
  have K_ := Lib.hid (K.out.on hb)
  clear K
  have K := K_
  clear K_
  have HB_ := Lib.hid (bel_on HB.out hb)
  clear HB
  have HB := HB_
  clear HB_
  have LA_ := Lib.hid (LA.out.on hb)
  clear LA
  have LA := LA_
  clear LA_
  have LB_ := Lib.hid (LB.out.on hb)
  clear LB
  have LB := LB_
  clear LB_
  have LC_ := Lib.hid (LC.out.on hb)
  clear LC
  have LC := LC_
  clear LC_
  have LD := Lib.hid (NatAt.own ho)
  rw [HB2.out, HN2.out]
  clear ho hp hb
  have S1 := Lib.hid (same_from (c := LAc) (d := LBc) (LA.out.low (Nat.zero_le _)) (LB.out.low (Nat.zero_le _)) HL.out)
  have S2 := Lib.hid (same_from (c := LCc) (d := LDc) (LC.out.low (Nat.zero_le _)) (LD.out.low (Nat.zero_le _)) HL2.out)
  rw [HN1.out] at S1
  rw [HN2.out] at S2
  go_upto_region 5 with fail
  have l0 := fun dd os => tre_load (K.out.on (below_regrown _ dd os)) HT.out
  refine wp_region_quiet_below (by kernel_rfl) (by kernel_rfl) ?_
  repeat (first | go_big_quiet_step (first | with_reducible exact FI.out.at _ _ _ | with_reducible exact RF.out.at _ _ _ | with_reducible exact HO.out.at _ _ _ | with_reducible exact RH.out.at _ _ _ | with_reducible exact AW.out.at _ _ _ | with_reducible exact S1.out.at _ _ | with_reducible exact S2.out.at _ _) | quiet_step (first | with_reducible exact FI.out.at _ _ _ | with_reducible exact RF.out.at _ _ _ | with_reducible exact HO.out.at _ _ _ | with_reducible exact RH.out.at _ _ _ | with_reducible exact AW.out.at _ _ _ | with_reducible exact S1.out.at _ _ | with_reducible exact S2.out.at _ _))
  refine wpQuiet_nil ?_
  intro _ hw'
  obtain ⟨⟨dq, osq⟩, hw''⟩ := hw'
  subst hw''
  go_wp2_with fail
  go_ret
  exact ⟨rfl, bel_on HB.out (below_regrown _ dq osq)⟩

set_option maxRecDepth 100000 in
theorem lifted (os : Os) (started : os.Started) (H : Type) (enc : TypeId × Value → H) :
    ReturnsInHanded {} Try.checked os 3 .any (Rows.walkSaysSpec.pre6 enc Try.prog Try.f3 Rows.walkSaysRow.domain false) (Rows.walkSaysSpec.post enc Try.prog Try.f3 false true false false) := by
  refine returnsInHanded_of_change (C := Try.checked) own started (by kernel_rfl) Try.func3
    (ChangeSpec.witness6 (enc := enc) (C := Try.checked) false ⟨#[], #[.agg #[.int .u32 0, .int .i64 0, .int .u32 0, .int .i64 0, .int .u32 0, .int .i64 0, .int .u32 0, .int .i64 0, .int .u32 0, .int .i64 0, .int .u32 0, .int .i64 0, .int .u32 0, .int .i64 0, .int .u32 0, .int .i64 0, .int .u32 0, .int .i64 0, .int .u32 0, .int .i64 0, .int .u32 0, .int .i64 0, .int .u32 0, .int .i64 0, .int .u32 0, .int .i64 0, .int .u32 0, .int .i64 0, .int .u32 0, .int .i64 0, .int .u32 0, .int .i64 0], .int .i64 0, .int .i64 0], []⟩ 8 (by kernel_rfl) (by kernel_rfl) (by kernel_rfl) (by kernel_rfl)) ?_
  intro W base args ds gs before hval0 hW hcnd _
  have hval : ∀ (j : Nat) t v, Try.f3.params[j]? = some t → args[j]? = some v → Value.okWide Try.prog W .any base t v := hval0
  have hW' := hW
  obtain ⟨p, q, hA0, hV, rfl, hfz, hnd⟩ := hW
  have hA : DataW.TrodAll enc Try.prog W 0 (fun _ => true) true Try.f3.params.toList args.toList ds p := hA0
  rw [Try.params3] at hA hval
  obtain ⟨v0, vs0, d0, ds0, p0, q0, hargs, rfl, rfl, h0, r0⟩ := trodAll_cons hA
  obtain ⟨v1, vs1, d1, ds1, p1, q1, rfl, rfl, rfl, h1, r1⟩ := trodAll_cons r0
  obtain ⟨v2, vs2, d2, ds2, p2, q2, rfl, rfl, rfl, h2, r2⟩ := trodAll_cons r1
  obtain ⟨rfl, rfl, rfl⟩ := trodAll_nil r2
  obtain rfl : args = #[v0, v1, v2] := by cases args; simp_all
  obtain ⟨rfl, rfl⟩ := trodVars_none hV
  have k0 := h0
  have lt0 : ∀ x ∈ p0, x.block < W.heap.size := by obtain ⟨m, hm⟩ := k0; exact DataW.trod_lt m _ _ _ hm
  have k1 := h1
  have lt1 : ∀ x ∈ p1, x.block < W.heap.size := by obtain ⟨m, hm⟩ := k1; exact DataW.trod_lt m _ _ _ hm
  have k2 := h2
  have lt2 : ∀ x ∈ p2, x.block < W.heap.size := by obtain ⟨m, hm⟩ := k2; exact DataW.trod_lt m _ _ _ hm
  obtain ⟨t, rfl, htt⟩ := open_tree (hval 0 26 v0 rfl rfl) h0
  obtain ⟨x, rfl, _, _, hx⟩ := open_int Try.underlying3 (hval 1 3 v1 rfl rfl) h1
  have hbx := bounds_i64 hx
  obtain ⟨y, rfl, _, _, hy⟩ := open_int Try.underlying3 (hval 2 3 v2 rfl rfl) h2
  have hby := bounds_i64 hy
  clear hA0 hval0
  refine (walk t x y W htt).mono fun e W' ⟨he, bel⟩ => ?_
  subst he
  exact ⟨_, rfl, _, _, _, [], _, [], hW', trodAll_mk1 (shut_bool Try.underlying4 _),
    (trodAll_cons_mk (Below.trod laidOut (by kernel_rfl) (of_decide_eq_true (by kernel_rfl)) k0 bel lt0)
    (trodAll_cons_mk (Below.trod laidOut (by kernel_rfl) (of_decide_eq_true (by kernel_rfl)) k1 bel lt1)
    (trodAll_cons_mk (Below.trod laidOut (by kernel_rfl) (of_decide_eq_true (by kernel_rfl)) k2 bel lt2)
    trodAll_mk0))), rfl, bel.frame _, fun h => by cases h⟩

theorem proved : Rows.WalkSaysSaid :=
  OpenClaim.holds_of_wide 3 Try.f3 rfl rfl rfl rfl rfl rfl rfl ⟨rfl, rfl, rfl, rfl, rfl⟩ rfl rfl rfl rfl rfl (by kernel_rfl) Try.func3 (by kernel_rfl)
    (of_decide_eq_true (by kernel_rfl)) (by unfold Func.isWrapper; first | (rw [if_pos (by decide +kernel)]; kernel_rfl) | (rw [if_neg (by decide +kernel)]; exact ⟨rfl, rfl⟩))
    (fun os started H enc _ => lifted os started H enc)
end Go.Proofs.Ytjpbglbbeepmnaa.walkSays
