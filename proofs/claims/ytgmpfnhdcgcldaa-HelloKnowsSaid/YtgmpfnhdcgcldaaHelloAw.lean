/- The example that the statements of package hello ask (awake). -/
import Derived.Test.YtgmpfnhdcgcldaaHelloE
namespace Go.Proofs.Ytgmpfnhdcgcldaa
open Go.RowKit Go.Sort

theorem ha_some (w : World) : Calls Try.prog 18 #[] w fun e w' => e = .returned (.agg #[.int .i64 3, .int .u32 1, .int .u32 2, .int .u32 0, .int .u32 0] : Value) ∧ Below w.heap.size w w' := by
  go_enter Try.func18, Try.ntmps18
  go_wp2
  refine bodyPost_ret (v := (.agg #[.int .i64 3, .int .u32 1, .int .u32 2, .int .u32 0, .int .u32 0] : Value)) (by simp [results, Try.results18, go_sem]) rfl ⟨rfl, ?_⟩
  exact (Below.refl _ _).alloc (Nat.le_refl _) _
theorem ha1 (w : World) : Calls Try.prog 7 #[(.agg #[.int .i64 3, .int .u32 1, .int .u32 2, .int .u32 0, .int .u32 0] : Value)] w fun e w' => e = .returned (.tuple #[.string ⟨#[3, 0, 0, 0, 1, 0, 0, 0, 2, 0, 0, 0, 0, 0, 0, 0, 0]⟩, .int .i64 0]) ∧ Below w.heap.size w w' := by
  have h := hbytes_ok 3 1 2 0 0 (by decide) (by decide) (by decide) (by decide) (by decide) w
  have e : str (helloL 3 1 2 0 0) = ⟨#[3, 0, 0, 0, 1, 0, 0, 0, 2, 0, 0, 0, 0, 0, 0, 0, 0]⟩ := by decide +kernel
  rw [e] at h
  exact h
theorem ha2 (w : World) : Calls Try.prog 9 #[.string ⟨#[3, 0, 0, 0, 1, 0, 0, 0, 2, 0, 0, 0, 0, 0, 0, 0, 0]⟩] w fun e w' => e = .returned (.tuple #[(.agg #[.int .i64 3, .int .u32 1, .int .u32 2, .int .u32 0, .int .u32 0] : Value), .int .i64 0]) ∧ Below w.heap.size w w' := by
  have h := hread_any [3, 0, 0, 0, 1, 0, 0, 0, 2, 0, 0, 0, 0, 0, 0, 0, 0] (by decide) w
  have e : rdF [3, 0, 0, 0, 1, 0, 0, 0, 2, 0, 0, 0, 0, 0, 0, 0, 0] = 3 ∧ rdA [3, 0, 0, 0, 1, 0, 0, 0, 2, 0, 0, 0, 0, 0, 0, 0, 0] = 1 ∧ rdB [3, 0, 0, 0, 1, 0, 0, 0, 2, 0, 0, 0, 0, 0, 0, 0, 0] = 2 ∧ rdC [3, 0, 0, 0, 1, 0, 0, 0, 2, 0, 0, 0, 0, 0, 0, 0, 0] = 0 ∧ rdD [3, 0, 0, 0, 1, 0, 0, 0, 2, 0, 0, 0, 0, 0, 0, 0, 0] = 0 ∧ rdE [3, 0, 0, 0, 1, 0, 0, 0, 2, 0, 0, 0, 0, 0, 0, 0, 0] = 0 := by decide +kernel
  obtain ⟨e1, e2, e3, e4, e5, e6⟩ := e
  unfold readV at h
  rw [e1, e2, e3, e4, e5, e6] at h
  exact h
theorem ha3 {s : ByteArray} (w : World) (hs : s = str [3, 0, 0, 0, 1, 0, 0, 0, 2, 0, 0, 0, 0, 0, 0, 0, 0, 120]) : Calls Try.prog 9 #[.string s] w fun e w' => e = .returned (.tuple #[(.agg #[.int .i64 0, .int .u32 0, .int .u32 0, .int .u32 0, .int .u32 0] : Value), .int .i64 3]) ∧ Below w.heap.size w w' := by
  subst hs
  have h := hread_any [3, 0, 0, 0, 1, 0, 0, 0, 2, 0, 0, 0, 0, 0, 0, 0, 0, 120] (by decide) w
  have e : rdF [3, 0, 0, 0, 1, 0, 0, 0, 2, 0, 0, 0, 0, 0, 0, 0, 0, 120] = 0 ∧ rdA [3, 0, 0, 0, 1, 0, 0, 0, 2, 0, 0, 0, 0, 0, 0, 0, 0, 120] = 0 ∧ rdB [3, 0, 0, 0, 1, 0, 0, 0, 2, 0, 0, 0, 0, 0, 0, 0, 0, 120] = 0 ∧ rdC [3, 0, 0, 0, 1, 0, 0, 0, 2, 0, 0, 0, 0, 0, 0, 0, 0, 120] = 0 ∧ rdD [3, 0, 0, 0, 1, 0, 0, 0, 2, 0, 0, 0, 0, 0, 0, 0, 0, 120] = 0 ∧ rdE [3, 0, 0, 0, 1, 0, 0, 0, 2, 0, 0, 0, 0, 0, 0, 0, 0, 120] = 3 := by decide +kernel
  obtain ⟨e1, e2, e3, e4, e5, e6⟩ := e
  unfold readV at h
  rw [e1, e2, e3, e4, e5, e6] at h
  exact h
theorem ha4 (w : World) : Calls Try.prog 7 #[(.agg #[.int .i64 16, .int .u32 1, .int .u32 2, .int .u32 0, .int .u32 0] : Value)] w fun e w' => e = .returned (.tuple #[.string ⟨#[]⟩, .int .i64 1]) ∧ Below w.heap.size w w' := hbytes_bad 16 1 2 0 0 (by decide) w
theorem ha5 : Gives Try.prog 11 #[(.agg #[.int .i64 3, .int .u32 1, .int .u32 2, .int .u32 0, .int .u32 0] : Value)] (.bool true) := hright_any 3 1 2 0 0
theorem ha6 : Gives Try.prog 11 #[(.agg #[.int .i64 0, .int .u32 0, .int .u32 0, .int .u32 0, .int .u32 0] : Value)] (.bool false) := hright_any 0 0 0 0 0

set_option maxRecDepth 100000 in
set_option maxHeartbeats 1000000 in
theorem hawake_any (w : World) : Calls Try.prog 6 #[] w fun e w' => e = .returned (.bool true) ∧ Below w.heap.size w w' := by
  have SO : Hid (Gives Try.prog 18 #[] (.agg #[.int .i64 3, .int .u32 1, .int .u32 2, .int .u32 0, .int .u32 0] : Value)) := Lib.hid ha_some
  have hfd : ∀ w : World, (Instr.field 28 (.agg #[.int .i64 3, .int .u32 1, .int .u32 2, .int .u32 0, .int .u32 0] : Value) 1).run Try.prog w = .ok (.agg #[.int .u32 1, .int .u32 2, .int .u32 0, .int .u32 0] : Value) w := fun _ => by kernel_rfl
  have R1 := Lib.hid ha5
  have R0 := Lib.hid ha6
  go_enter Try.func6, Try.ntmps6
  have h := Lib.hid (Below.refl w.heap.size w)
  go_wp2_with fail
  refine (ha_some _).mono ?_
  rintro e w1 ⟨rfl, hb⟩
  have h' := bel_on h.out hb
  clear hb h
  have h := Lib.hid h'
  clear h'
  go_wp2_with fail
  refine (ha1 _).mono ?_
  rintro e w2 ⟨rfl, hb⟩
  have h' := bel_on h.out hb
  clear hb h
  have h := Lib.hid h'
  clear h'
  go_wp2_with fail
  refine (ha2 _).mono ?_
  rintro e w3 ⟨rfl, hb⟩
  have h' := bel_on h.out hb
  clear hb h
  have h := Lib.hid h'
  clear h'
  go_wp2_with fail
  refine (ha3 _ (by decide +kernel)).mono ?_
  rintro e w4 ⟨rfl, hb⟩
  have b_h : Blk w4 w3.heap.size [.int .i64 3, .int .u32 1, .int .u32 2, .int .u32 0, .int .u32 0] := (Blk.new w3 [.int .i64 3, .int .u32 1, .int .u32 2, .int .u32 0, .int .u32 0] 28).on hb
  have h' := bel_on ((h.out).alloc (h.out).size _) hb
  clear hb h
  have B_h := Lib.hid b_h
  have h := Lib.hid h'
  clear h' b_h
  go_wp2_with fail
  refine (ha_some _).mono ?_
  rintro e w5 ⟨rfl, hb⟩
  have b_h : Blk w5 w3.heap.size [.int .i64 3, .int .u32 1, .int .u32 2, .int .u32 0, .int .u32 0] := (B_h.out.next (.cells #[.int .i64 0, .int .u32 0, .int .u32 0, .int .u32 0, .int .u32 0] 28)).on hb
  have b_x : Blk w5 w4.heap.size [.int .i64 0, .int .u32 0, .int .u32 0, .int .u32 0, .int .u32 0] := (Blk.new w4 [.int .i64 0, .int .u32 0, .int .u32 0, .int .u32 0, .int .u32 0] 28).on hb
  have h' := bel_on ((h.out).alloc (h.out).size _) hb
  clear hb h B_h
  have B_h := Lib.hid b_h
  have B_x := Lib.hid b_x
  have h := Lib.hid h'
  clear h' b_h b_x
  go_wp2_with fail
  refine (ha4 _).mono ?_
  rintro e w6 ⟨rfl, hb⟩
  have b_h : Blk w6 w3.heap.size [.int .i64 3, .int .u32 1, .int .u32 2, .int .u32 0, .int .u32 0] := B_h.out.on hb
  have b_x : Blk w6 w4.heap.size [.int .i64 0, .int .u32 0, .int .u32 0, .int .u32 0, .int .u32 0] := B_x.out.on hb
  have h' := bel_on h.out hb
  clear hb h B_h B_x
  have B_h := Lib.hid b_h
  have B_x := Lib.hid b_x
  have h := Lib.hid h'
  clear h' b_h b_x
  clear B_x
  go_upto_region 5 with fail
  have c_h0 := cell_regrown (B_h.out.cell 0 rfl)
  have c_h1 := cell_regrown (B_h.out.cell 1 rfl)
  have c_h2 := cell_regrown (B_h.out.cell 2 rfl)
  have c_h3 := cell_regrown (B_h.out.cell 3 rfl)
  have c_h4 := cell_regrown (B_h.out.cell 4 rfl)
  refine wp_region_quiet_below (by kernel_rfl) (by kernel_rfl) ?_
  repeat (first | go_big_quiet_step (first | with_reducible exact SO.out.at _ _ _ | with_reducible exact R1.out.at _ _ _ | with_reducible exact R0.out.at _ _ _) | quiet_step (first | with_reducible exact SO.out.at _ _ _ | with_reducible exact R1.out.at _ _ _ | with_reducible exact R0.out.at _ _ _))
  refine wpQuiet_nil ?_
  intro _ hw'
  obtain ⟨⟨dq, osq⟩, hw''⟩ := hw'
  subst hw''
  go_wp2_with fail
  go_ret
  exact ⟨rfl, bel_on h.out (below_regrown _ dq osq)⟩
end Go.Proofs.Ytgmpfnhdcgcldaa
