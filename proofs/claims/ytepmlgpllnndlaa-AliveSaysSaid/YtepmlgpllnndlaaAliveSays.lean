/- AliveSays: whatever end and rules come, the law returns true (what a tick does with the end, whether a hello is due, and what it is once it heard something, is as the document says), and its arguments read as before. No condition. -/
import Derived.Test.YtepmlgpllnndlaaRows
import Derived.Test.YtepmlgpllnndlaaAliAw
import Derived.Test.YtepmlgpllnndlaaAliH
import Derived.Test.YtepmlgpllnndlaaAliI
import Derived.Test.YtepmlgpllnndlaaPortOpen
import Derived.ProofKit
import Derived.OpenShut
import Derived.ShutString
import Derived.ChangeOld
import Derived.Carry
namespace Go.Proofs.Ytepmlgpllnndlaa.aliveSays
open Go.ChangeShapes Go.WideShapes Go.ChangeAt Go.RowKit
open Go.ChangeMaps (open_string shut_string)

theorem own : ownKnob Try.prog.godebug = none := by kernel_rfl
theorem laidOut : laidOutB Try.prog = true := by kernel_rfl

attribute [local go_sem ↓] loadAt_prt storeAt_prt loadAt_rul storeAt_rul
set_option maxRecDepth 100000 in
set_option maxHeartbeats 4000000 in
theorem walk (st q t : Int) (x : Ends) (h d r s : Int) (w : World) (hf : x.Full w) (hq : -9223372036854775808 ≤ q ∧ q < 9223372036854775808) (ht : -9223372036854775808 ≤ t ∧ t < 9223372036854775808) (hd : d < 9223372036854775808) :
    Calls Try.prog 3 #[.agg (prt st q t x).toArray, .agg (rul h d r s).toArray] w fun e w' => e = .returned (.bool true) ∧ Below w.heap.size w w' := by
  have AW := Lib.hid aawake_any
  have TK : Hid (Gives Try.prog 7 #[.agg (prt st q t x).toArray, .agg (rul h d r s).toArray] (.tuple #[.agg (prt st (tickQ st q d) (tickW st t h) x).toArray, .bool (tickS st t), .bool (tickD st q d)])) := Lib.hid (tick_any st q t x h d r s ht.2 hd hq.1)
  have RT : Hid (Gives Try.prog 8 #[.agg (prt st q t x).toArray, .agg (rul h d r s).toArray] (.tuple #[.agg (prt st (tickQ st q d) (tickW st t h) x).toArray, .bool (tickS st t), .bool (tickD st q d)])) := Lib.hid (rtick_any st q t x h d r s ht.2 hd hq.1)
  have DU : Hid (Gives Try.prog 10 #[.agg (prt st q t x).toArray] (.bool (dueF st t))) := Lib.hid (due_any st q t x)
  have RD : Hid (Gives Try.prog 11 #[.agg (prt st q t x).toArray] (.bool (dueF st t))) := Lib.hid (rdue_any st q t x)
  have HE : Hid (Gives Try.prog 12 #[.agg (prt st q t x).toArray] (.agg (prt st 0 t x).toArray)) := Lib.hid (heard_any st q t x)
  have RH : Hid (Gives Try.prog 13 #[.agg (prt st q t x).toArray] (.agg (prt st 0 t x).toArray)) := Lib.hid (rheard_any st q t x)
  generalize tickQ st q d = q1 at *
  generalize tickW st t h = t1 at *
  generalize tickS st t = X at *
  generalize tickD st q d = Y at *
  generalize dueF st t = V at *
  have tX : (X == X) = true := by simp
  have tY : (Y == Y) = true := by simp
  have tV : (V == V) = true := by simp
  have HF := Lib.hid hf
  clear hf hq ht hd
  obtain ⟨b0, hb0⟩ : ∃ b, decide ((50 : Int) < (x.sn : Int)) = b := ⟨_, rfl⟩
  obtain ⟨b1, hb1⟩ : ∃ b, decide ((100 : Int) < (x.gn : Int)) = b := ⟨_, rfl⟩
  go_enter Try.func3, Try.ntmps3
  go_upto_region 1 with fail
  obtain ⟨B0, B1, BB⟩ := two_ali w st q t x h d r s
  obtain ⟨w1, hw1⟩ : ∃ w1, ((w.alloc (.cells (prt st q t x).toArray 33)).alloc (.cells (rul h d r s).toArray 35)) = w1 := ⟨_, rfl⟩
  rw [hw1] at B0 B1 BB ⊢
  clear hw1
  have c8 := B0.cell 8 rfl
  have c10 := B0.cell 10 rfl
  have c11 := B0.cell 11 rfl
  have B0 := Lib.hid B0
  have B1 := Lib.hid B1
  have BB := Lib.hid BB
  cases b0 with
  | true =>
    go_wp2_with fail
    refine (AW.out _).mono ?_
    rintro e w2 ⟨rfl, hb⟩
    go_wp2_with fail
    go_ret
    exact ⟨rfl, bel_on BB.out hb⟩
  | false =>
    cases b1 with
    | true =>
      go_wp2_with fail
      refine (AW.out _).mono ?_
      rintro e w2 ⟨rfl, hb⟩
      go_wp2_with fail
      go_ret
      exact ⟨rfl, bel_on BB.out hb⟩
    | false =>
      have LG : Hid (Calls Try.prog 5 #[.slice x.aa x.an x.ac] w1 fun e w' => (∃ b, e = .returned (.bool b)) ∧ Below w1.heap.size w1 w') := Lib.hid (by
        obtain ⟨_, ⟨A, hA⟩, _⟩ := HF.out
        exact long16_any x.aa x.an x.ac A w1 (hA.on BB.out))
      go_wp2_with fail
      refine LG.out.mono ?_
      rintro e w2 ⟨⟨b, rfl⟩, hb⟩
      clear c8 c10 c11 LG hb0 hb1
      have B0 := Lib.hid (B0.out.on hb)
      have B1 := Lib.hid (B1.out.on hb)
      have BB := Lib.hid (bel_on BB.out hb)
      clear hb
      cases b with
      | true =>
        go_wp2_with fail
        refine (AW.out _).mono ?_
        rintro e w3 ⟨rfl, hb⟩
        go_wp2_with fail
        go_ret
        exact ⟨rfl, bel_on BB.out hb⟩
      | false =>
        have hl := prt_load B0.out
        have hm := rul_load B1.out
        go_wp2_with fail
        refine (TK.out _).mono ?_
        rintro e w3 ⟨rfl, hb⟩
        clear hl hm TK
        have B0 := Lib.hid (B0.out.on hb)
        have B1 := Lib.hid (B1.out.on hb)
        have BB := Lib.hid (bel_on BB.out hb)
        clear hb
        have hst := prt_new (w := w3) (st := st) (q := q1) (t := t1) (x := x) rfl
        go_upto_region 4 with fail
        clear hst
        have N5 : Hid (Blk (w3.alloc (.cells (prt st q1 t1 x).toArray 33)) w3.heap.size (prt st q1 t1 x)) := Lib.hid (Blk.new w3 _ _)
        have B0 := Lib.hid (B0.out.next (.cells (prt st q1 t1 x).toArray 33))
        have B1 := Lib.hid (B1.out.next (.cells (prt st q1 t1 x).toArray 33))
        have BB := Lib.hid (BB.out.alloc BB.out.size (.cells (prt st q1 t1 x).toArray 33))
        obtain ⟨w4, hw⟩ : ∃ v, w3.alloc (.cells (prt st q1 t1 x).toArray 33) = v := ⟨_, rfl⟩
        rw [hw] at B0 B1 N5 BB ⊢
        clear hw
        obtain ⟨bN5, hb⟩ : ∃ b, w3.heap.size = b := ⟨_, rfl⟩
        rw [hb] at N5 ⊢
        clear hb
        have hl := prt_load B0.out
        have hm := rul_load B1.out
        go_wp2_with fail
        refine (RT.out _).mono ?_
        rintro e w5 ⟨rfl, hb⟩
        clear hl hm RT
        have B0 := Lib.hid (B0.out.on hb)
        have B1 := Lib.hid (B1.out.on hb)
        have N5 := Lib.hid (N5.out.on hb)
        have BB := Lib.hid (bel_on BB.out hb)
        clear hb
        have hst := prt_new (w := w5) (st := st) (q := q1) (t := t1) (x := x) rfl
        go_upto_region 5 with fail
        clear hst
        have N8 : Hid (Blk (w5.alloc (.cells (prt st q1 t1 x).toArray 33)) w5.heap.size (prt st q1 t1 x)) := Lib.hid (Blk.new w5 _ _)
        have B0 := Lib.hid (B0.out.next (.cells (prt st q1 t1 x).toArray 33))
        have B1 := Lib.hid (B1.out.next (.cells (prt st q1 t1 x).toArray 33))
        have N5 := Lib.hid (N5.out.next (.cells (prt st q1 t1 x).toArray 33))
        have BB := Lib.hid (BB.out.alloc BB.out.size (.cells (prt st q1 t1 x).toArray 33))
        obtain ⟨w6, hw⟩ : ∃ v, w5.alloc (.cells (prt st q1 t1 x).toArray 33) = v := ⟨_, rfl⟩
        rw [hw] at B0 B1 N5 N8 BB ⊢
        clear hw
        obtain ⟨bN8, hb⟩ : ∃ b, w5.heap.size = b := ⟨_, rfl⟩
        rw [hb] at N8 ⊢
        clear hb
        have S1 : Hid (From w6 Try.prog 9 #[.agg (prt st q1 t1 x).toArray, .agg (prt st q1 t1 x).toArray] (.bool true)) := Lib.hid (fun w' hb => s20_any st q1 t1 x w' (HF.out.on (bel_on BB.out hb)))
        have S2 : Hid (From w6 Try.prog 9 #[.agg (prt st 0 t x).toArray, .agg (prt st 0 t x).toArray] (.bool true)) := Lib.hid (fun w' hb => s20_any st 0 t x w' (HF.out.on (bel_on BB.out hb)))
        have l2 := fun d os => prt_load (B0.out.on (below_regrown _ d os))
        have l5 := fun d os => prt_load (N5.out.on (below_regrown _ d os))
        have l8 := fun d os => prt_load (N8.out.on (below_regrown _ d os))
        refine wp_region_quiet_below (by kernel_rfl) (by kernel_rfl) ?_
        repeat (first | go_big_quiet_step (first | with_reducible exact S1.out.at _ _ | with_reducible exact S2.out.at _ _ | with_reducible exact DU.out.at _ _ _ | with_reducible exact RD.out.at _ _ _ | with_reducible exact HE.out.at _ _ _ | with_reducible exact RH.out.at _ _ _ | with_reducible exact AW.out.at _ _ _) | quiet_step (first | with_reducible exact S1.out.at _ _ | with_reducible exact S2.out.at _ _ | with_reducible exact DU.out.at _ _ _ | with_reducible exact RD.out.at _ _ _ | with_reducible exact HE.out.at _ _ _ | with_reducible exact RH.out.at _ _ _ | with_reducible exact AW.out.at _ _ _))
        refine wpQuiet_nil ?_
        intro _ hw'
        obtain ⟨⟨dq, osq⟩, hw''⟩ := hw'
        subst hw''
        go_wp2
        go_ret
        exact ⟨rfl, bel_on BB.out (below_regrown _ dq osq)⟩

set_option maxRecDepth 100000 in
theorem lifted (os : Os) (started : os.Started) (H : Type) (enc : TypeId × Value → H) :
    ReturnsInHanded {} Try.checked os 3 .any (Rows.aliveSaysSpec.pre6 enc Try.prog Try.f3 Rows.aliveSaysRow.domain false) (Rows.aliveSaysSpec.post enc Try.prog Try.f3 false true false false) := by
  refine returnsInHanded_of_change (C := Try.checked) own started (by kernel_rfl) Try.func3
    (ChangeSpec.witness6 (enc := enc) (C := Try.checked) false ⟨#[], #[.agg #[.int .i64 0, .int .u32 0, .int .u32 0, .int .u32 0, .int .u32 0, .int .i64 0, .int .i64 0, .int .i64 0, .slice none 0 0, .int .i64 0, .slice none 0 0, .slice none 0 0], .agg #[.int .i64 0, .int .i64 0, .int .i64 0, .int .i64 0]], []⟩ 8 (by kernel_rfl) (by kernel_rfl) (by kernel_rfl) (by kernel_rfl)) ?_
  intro W base args ds gs before hval0 hW hcnd _
  have hval : ∀ (j : Nat) t v, Try.f3.params[j]? = some t → args[j]? = some v → Value.okWide Try.prog W .any base t v := hval0
  have hW' := hW
  obtain ⟨p, q, hA0, hV, rfl, hfz, hnd⟩ := hW
  have hA : DataW.TrodAll enc Try.prog W 0 (fun _ => true) true Try.f3.params.toList args.toList ds p := hA0
  rw [Try.params3] at hA hval
  obtain ⟨v0, vs0, d0, ds0, p0, q0, hargs, rfl, rfl, h0, r0⟩ := trodAll_cons hA
  obtain ⟨v1, vs1, d1, ds1, p1, q1, rfl, rfl, rfl, h1, r1⟩ := trodAll_cons r0
  obtain ⟨rfl, rfl, rfl⟩ := trodAll_nil r1
  obtain rfl : args = #[v0, v1] := by cases args; simp_all
  obtain ⟨rfl, rfl⟩ := trodVars_none hV
  have k0 := h0
  have lt0 : ∀ x ∈ p0, x.block < W.heap.size := by obtain ⟨m, hm⟩ := k0; exact DataW.trod_lt m _ _ _ hm
  have k1 := h1
  have lt1 : ∀ x ∈ p1, x.block < W.heap.size := by obtain ⟨m, hm⟩ := k1; exact DataW.trod_lt m _ _ _ hm
  obtain ⟨pst, pq, pt, px, rfl, hfp, hqp, htp⟩ := open_port (hval 0 33 v0 rfl rfl) h0
  obtain ⟨rh, rd, rr, rs, rfl, hdr⟩ := open_rules (hval 1 35 v1 rfl rfl) h1
  clear hA0 hval0
  refine (walk pst pq pt px rh rd rr rs W hfp hqp htp hdr).mono fun e W' ⟨he, bel⟩ => ?_
  subst he
  exact ⟨_, rfl, _, _, _, [], _, [], hW', trodAll_mk1 (shut_bool Try.underlying4 _),
    (trodAll_cons_mk (Below.trod laidOut (by kernel_rfl) (of_decide_eq_true (by kernel_rfl)) k0 bel lt0)
    (trodAll_cons_mk (Below.trod laidOut (by kernel_rfl) (of_decide_eq_true (by kernel_rfl)) k1 bel lt1)
    trodAll_mk0)), rfl, bel.frame _, fun h => by cases h⟩

theorem proved : Rows.AliveSaysSaid :=
  OpenClaim.holds_of_wide 3 Try.f3 rfl rfl rfl rfl rfl rfl rfl ⟨rfl, rfl, rfl, rfl, rfl⟩ rfl rfl rfl rfl rfl (by kernel_rfl) Try.func3 (by kernel_rfl)
    (of_decide_eq_true (by kernel_rfl)) (by unfold Func.isWrapper; first | (rw [if_pos (by decide +kernel)]; kernel_rfl) | (rw [if_neg (by decide +kernel)]; exact ⟨rfl, rfl⟩))
    (fun os started H enc _ => lifted os started H enc)
end Go.Proofs.Ytepmlgpllnndlaa.aliveSays
