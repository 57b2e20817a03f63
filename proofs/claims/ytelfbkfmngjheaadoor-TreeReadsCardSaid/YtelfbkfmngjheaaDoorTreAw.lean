/- Contracts of law 23: its own example (awake). -/
import Derived.Test.YtelfbkfmngjheaaDoorTreT
import Derived.Test.YtelfbkfmngjheaaDoorTreA
import Derived.Lib.QuietBelow
namespace Go.Proofs.YtelfbkfmngjheaaDoor
open Go.RowKit Go.Sort TreF
attribute [local go_sem ↓] loadAt_tre storeAt_tre loadAt_ent storeAt_ent

/-- The root 2, and 5 at 7 behind it. -/
def t25 : Tr := putT (newT 2) 5 (7, 2)
theorem ok72 : Ok (7, 2) := by refine ⟨?_, ?_, ?_⟩ <;> decide
theorem ok00 : Ok (0, 0) := by refine ⟨?_, ?_, ?_⟩ <;> decide
theorem t25_tre : Tre t25 := (Tre.new 2).put 5 ok72
theorem aw1 : rootT t25 = 2 := by decide +kernel
theorem aw2 : setR t25 = 36 := by decide +kernel
theorem aw3 : getT t25 5 = (7, 2) := by decide +kernel
theorem aw4 : nodeB 16 = false := by decide
theorem aw5 : lisR t25 = [2, 5] := by decide +kernel
theorem aw6 : putT t25 (-1) (0, 0) = t25 := by decide +kernel
theorem aw7 : newT 16 = far16 := by decide +kernel
theorem aw8 : newT (-1) = far16 := by decide +kernel
theorem aw9 : setR far16 = 0 := by decide +kernel
theorem aw10 : rootT far16 = -1 := by decide +kernel
theorem aw11 : str (textT t25) = ⟨#[99, 48, 46, 32, 102, 55, 99, 32]⟩ := by
  have h0 : Lib.decDigits 0 = [48] := Lib.decDigits_one (i := 0) (by decide)
  have h7 : Lib.decDigits 7 = [55] := Lib.decDigits_one (i := 7) (by decide)
  have e2 : t25.getD 2 farE = (0, -1) := by decide +kernel
  have e5 : t25.getD 5 farE = (7, 2) := by decide +kernel
  rw [textT, aw5]
  simp only [textF, e2, e5, pieceE, h0, h7]
  rfl

set_option maxHeartbeats 1000000 in
set_option maxRecDepth 100000 in
theorem awake_any : Gives Tryd.prog 18 #[] (.bool true) := fun w => by
  have N2 := Lib.hid (tnew_any 2)
  have P1 : Hid (Gives Tryd.prog 10 #[.agg (treC (newT 2)).toArray, .int .i64 5, .agg #[.int .u32 7, .int .i64 2]] (.agg (treC t25).toArray)) := Lib.hid (tput_any (newT 2) 5 7 2 (Tre.new 2) ok72)
  have R1 : Hid (Gives Tryd.prog 12 #[.agg (treC t25).toArray] (.int .i64 2)) := Lib.hid (by have h := troot_any t25 t25_tre; rw [aw1] at h; exact h)
  have R2 : Hid (Gives Tryd.prog 12 #[.agg (treC far16).toArray] (.int .i64 (-1))) := Lib.hid (by have h := troot_any far16 Tre.far; rw [aw10] at h; exact h)
  have E1 : Hid (Gives Tryd.prog 14 #[.agg (treC t25).toArray] (.int .i64 36)) := Lib.hid (by have h := treached_any t25 t25_tre; rw [aw2] at h; exact h)
  have E2 : Hid (Gives Tryd.prog 14 #[.agg (treC far16).toArray] (.int .i64 0)) := Lib.hid (by have h := treached_any far16 Tre.far; rw [aw9] at h; exact h)
  have G1 : Hid (Gives Tryd.prog 8 #[.agg (treC t25).toArray, .int .i64 5] (.agg #[.int .u32 7, .int .i64 2])) := Lib.hid (by have h := tget_any t25 5 t25_tre; rw [aw3] at h; exact h)
  have G2 : Hid (Gives Tryd.prog 8 #[.agg (treC t25).toArray, .int .i64 16] (.agg #[.int .u32 4294967295, .int .i64 (-1)])) := Lib.hid (fun w => tget_out t25 16 w aw4)
  have TX : Hid (Gives Tryd.prog 16 #[.agg (treC t25).toArray] (.string ⟨#[99, 48, 46, 32, 102, 55, 99, 32]⟩)) := Lib.hid (fun w => by
    have h := ttext_any t25 t25_tre w (fun n hn h100 => by
      rw [aw5] at hn
      have h2 : distN t25 2 = 0 := by decide +kernel
      have h5 : distN t25 5 = 7 := by decide +kernel
      simp only [List.mem_cons, List.not_mem_nil, or_false] at hn
      rcases hn with rfl | rfl <;> omega)
    rw [aw11] at h
    exact h)
  have P2 : Hid (Gives Tryd.prog 10 #[.agg (treC t25).toArray, .int .i64 (-1), .agg #[.int .u32 0, .int .i64 0]] (.agg (treC t25).toArray)) := Lib.hid (by have h := tput_any t25 (-1) 0 0 t25_tre ok00; rw [aw6] at h; exact h)
  have N16 : Hid (Gives Tryd.prog 6 #[.int .i64 16] (.agg (treC far16).toArray)) := Lib.hid (by have h := tnew_any 16; rw [aw7] at h; exact h)
  have NM : Hid (Gives Tryd.prog 6 #[.int .i64 (-1)] (.agg (treC far16).toArray)) := Lib.hid (by have h := tnew_any (-1); rw [aw8] at h; exact h)
  have Q1 : Hid (∀ w, (binOp .eql 24 (.agg #[.int .u32 7, .int .i64 2]) (.agg #[.int .u32 7, .int .i64 2])).run Tryd.prog w = .ok (.bool true) w) := Lib.hid (fun w => by
    have h := ent_eql 7 7 2 2 w
    rw [decide_eq_true rfl] at h
    exact h)
  have Q2 : Hid (∀ w, (binOp .eql 24 (.agg #[.int .u32 4294967295, .int .i64 (-1)]) (.agg #[.int .u32 4294967295, .int .i64 (-1)])).run Tryd.prog w = .ok (.bool true) w) := Lib.hid (fun w => by
    have h := ent_eql farN farN (-1) (-1) w
    rw [decide_eq_true rfl, far_int] at h
    exact h)
  have Q3 : Hid (∀ w, (binOp .eql 26 (.agg (treC t25).toArray) (.agg (treC t25).toArray)).run Tryd.prog w = .ok (.bool true) w) := Lib.hid (fun w => by
    have h := tre_eql t25 t25 w t25_tre.1 t25_tre.1
    rw [decide_eq_true rfl] at h
    exact h)
  have HT := Lib.hid t25_tre
  obtain ⟨n2, hn2⟩ : ∃ n, newT 2 = n := ⟨_, rfl⟩
  obtain ⟨t, ht⟩ : ∃ t, t25 = t := ⟨_, rfl⟩
  obtain ⟨f, hf⟩ : ∃ f, far16 = f := ⟨_, rfl⟩
  rw [hn2] at N2 P1
  rw [ht] at P1 R1 E1 G1 G2 TX P2 Q3 HT
  rw [hf] at R2 E2 N16 NM
  clear hn2 ht hf
  go_enter Tryd.func18, Tryd.ntmps18
  go_wp2_with fail
  refine (N2.out _).mono ?_
  rintro e w1 ⟨rfl, hb⟩
  have HB := Lib.hid hb
  clear hb
  go_wp2_with fail
  refine (P1.out _).mono ?_
  rintro e w2 ⟨rfl, hb⟩
  have HB' := Lib.hid (bel_on HB.out hb)
  clear hb HB
  have hst := new_tre (w := w2) rfl HT.out
  go_upto_region 2 with fail
  clear hst
  have k0 := Blk.new w2 (treC t) 26
  have h0 := HB'.out.alloc HB'.out.size (.cells (treC t).toArray 26)
  obtain ⟨w1a, hwa⟩ : ∃ v, w2.alloc (.cells (treC t).toArray 26) = v := ⟨_, rfl⟩
  rw [hwa] at k0 h0 ⊢
  obtain ⟨b, hbn⟩ : ∃ b, w2.heap.size = b := ⟨_, rfl⟩
  rw [hbn] at k0 ⊢
  clear hbn hwa HB'
  have K := Lib.hid k0
  have HB := Lib.hid h0
  clear k0 h0
  have l0 := fun dd os => tre_load (K.out.on (below_regrown _ dd os)) HT.out
  have q1 := Q1.out
  have q2 := Q2.out
  have q3 := Q3.out
  refine wp_region_quiet_below (by kernel_rfl) (by kernel_rfl) ?_
  repeat (first | go_big_quiet_step (first | with_reducible exact R1.out.at _ _ _ | with_reducible exact R2.out.at _ _ _ | with_reducible exact E1.out.at _ _ _ | with_reducible exact E2.out.at _ _ _ | with_reducible exact G1.out.at _ _ _ | with_reducible exact G2.out.at _ _ _ | with_reducible exact TX.out.at _ _ _ | with_reducible exact P2.out.at _ _ _ | with_reducible exact N16.out.at _ _ _ | with_reducible exact NM.out.at _ _ _) | quiet_step (first | with_reducible exact R1.out.at _ _ _ | with_reducible exact R2.out.at _ _ _ | with_reducible exact E1.out.at _ _ _ | with_reducible exact E2.out.at _ _ _ | with_reducible exact G1.out.at _ _ _ | with_reducible exact G2.out.at _ _ _ | with_reducible exact TX.out.at _ _ _ | with_reducible exact P2.out.at _ _ _ | with_reducible exact N16.out.at _ _ _ | with_reducible exact NM.out.at _ _ _))
  refine wpQuiet_nil ?_
  intro _ hw'
  obtain ⟨⟨dq, osq⟩, hw''⟩ := hw'
  subst hw''
  clear l0 q1 q2 q3
  go_wp2_with fail
  go_ret
  exact ⟨rfl, bel_on HB.out (below_regrown w1a dq osq)⟩
end Go.Proofs.YtelfbkfmngjheaaDoor
