/- The example that the statements of package epoch ask (awake). -/
import Derived.Test.YtkpobcffkjoilaaEpochB
import Derived.Test.YtkpobcffkjoilaaEpochC
namespace Go.Proofs.Ytkpobcffkjoilaa
open Go.RowKit Go.Sort

theorem ea1 (w : World) : Calls Try.prog 6 #[(.agg #[.int .u32 1, .int .u32 9] : Value)] w fun e w' => e = .returned (.tuple #[(.agg #[.int .u32 1, .int .u32 10] : Value), .int .i64 0]) ∧ Below w.heap.size w w' := next_ok 1 9 (by decide) (by decide) w
theorem ea2 (w : World) : Calls Try.prog 7 #[(.agg #[.int .u32 1, .int .u32 10] : Value)] w fun e w' => e = .returned (.tuple #[(.agg #[.int .u32 2, .int .u32 0] : Value), .int .i64 0]) ∧ Below w.heap.size w w' := reboot_ok 1 10 (by decide) (by decide) w
theorem ea3 (w : World) : Calls Try.prog 6 #[(.agg #[.int .u32 0, .int .u32 4294967295] : Value)] w fun e w' => e = .returned (.tuple #[(.agg #[.int .u32 0, .int .u32 0] : Value), .int .i64 11]) ∧ Below w.heap.size w w' := next_wrap 0 4294967295 rfl w
theorem ea4 (w : World) : Calls Try.prog 10 #[(.agg #[.int .u32 1, .int .u32 10, .int .u32 2, .int .u32 0] : Value)] w fun e w' => e = .returned (.string ⟨#[0, 0, 0, 1, 0, 0, 0, 10, 0, 0, 0, 2, 0, 0, 0, 0]⟩) ∧ Below w.heap.size w w' := by
  have h := bytes_any 1 10 2 0 (by decide) (by decide) (by decide) (by decide) w
  have e : str (pairL 1 10 2 0) = ⟨#[0, 0, 0, 1, 0, 0, 0, 10, 0, 0, 0, 2, 0, 0, 0, 0]⟩ := by decide +kernel
  rw [e] at h
  exact h
theorem ea5 {s : ByteArray} (w : World) (hs : s = str [0, 0, 0, 1, 0, 0, 0, 10, 0, 0, 0, 2, 0, 0, 0, 0, 120]) : Calls Try.prog 9 #[.string s] w fun e w' => e = .returned (.tuple #[(.agg #[.int .u32 1, .int .u32 10, .int .u32 2, .int .u32 0] : Value), .string ⟨#[120]⟩, .int .i64 0]) ∧ Below w.heap.size w w' := by
  subst hs
  exact read_ok [0, 0, 0, 1, 0, 0, 0, 10, 0, 0, 0, 2, 0, 0, 0, 0, 120] (by decide) (by decide) w
theorem ea6 (w : World) : Calls Try.prog 9 #[.string ⟨#[115, 104, 111, 114, 116]⟩] w fun e w' => e = .returned (.tuple #[(.agg #[.int .u32 0, .int .u32 0, .int .u32 0, .int .u32 0] : Value), .string ⟨#[]⟩, .int .i64 2]) ∧ Below w.heap.size w w' := read_short [115, 104, 111, 114, 116] (by decide) w
theorem ea7 (w : World) : Calls Try.prog 5 #[(.agg #[.int .u32 2, .int .u32 0] : Value), (.agg #[.int .u32 1, .int .u32 10] : Value)] w fun e w' => e = .returned (.bool true) ∧ Below w.heap.size w w' := newer_any 2 0 1 10 w
theorem ea8 (w : World) : Calls Try.prog 5 #[(.agg #[.int .u32 1, .int .u32 10] : Value), (.agg #[.int .u32 2, .int .u32 0] : Value)] w fun e w' => e = .returned (.bool false) ∧ Below w.heap.size w w' := newer_any 1 10 2 0 w
theorem ea9 (w : World) : Calls Try.prog 12 #[(.agg #[.int .u32 1, .int .u32 10, .int .u32 2, .int .u32 0] : Value)] w fun e w' => e = .returned (.agg #[.int .u32 2, .int .u32 0, .int .u32 1, .int .u32 10] : Value) ∧ Below w.heap.size w w' := swap_any 1 10 2 0 w
theorem ea10 (w : World) : Calls Try.prog 13 #[(.agg #[.int .u32 1, .int .u32 10, .int .u32 2, .int .u32 0] : Value), (.agg #[.int .u32 2, .int .u32 0, .int .u32 1, .int .u32 10] : Value)] w fun e w' => e = .returned (.bool true) ∧ Below w.heap.size w w' := same_eq 1 10 2 0 w
theorem ea11 (w : World) : Calls Try.prog 13 #[(.agg #[.int .u32 1, .int .u32 10, .int .u32 2, .int .u32 0] : Value), (.agg #[.int .u32 1, .int .u32 10, .int .u32 2, .int .u32 0] : Value)] w fun e w' => e = .returned (.bool false) ∧ Below w.heap.size w w' := same_ne 1 10 2 0 1 10 2 0 (by decide) w
theorem ea12 (w : World) : Calls Try.prog 11 #[(.agg #[.int .u32 0, .int .u32 0] : Value)] w fun e w' => e = .returned (.bool true) ∧ Below w.heap.size w w' := none_any 0 0 w
theorem ea13 (w : World) : Calls Try.prog 11 #[(.agg #[.int .u32 1, .int .u32 10] : Value)] w fun e w' => e = .returned (.bool false) ∧ Below w.heap.size w w' := none_any 1 10 w

set_option maxHeartbeats 1000000 in
theorem eawake_any (w : World) : Calls Try.prog 8 #[] w fun e w' => e = .returned (.bool true) ∧ Below w.heap.size w w' := by
  go_enter Try.func8, Try.ntmps8
  have h := Lib.hid (Below.refl w.heap.size w)
  go_wp2_with fail
  refine (ea1 _).mono ?_
  rintro e w1 ⟨rfl, hb⟩
  have h' := bel_on h.out hb
  clear hb h
  have h := Lib.hid h'
  clear h'
  have c_a0 := (Blk.new w1 [.int .u32 1, .int .u32 10] 24).cell 0 rfl
  have c_a1 := (Blk.new w1 [.int .u32 1, .int .u32 10] 24).cell 1 rfl
  go_wp2_with fail
  refine (ea2 _).mono ?_
  rintro e w2 ⟨rfl, hb⟩
  clear c_a0 c_a1
  have b_a : Blk w2 w1.heap.size [.int .u32 1, .int .u32 10] := (Blk.new w1 [.int .u32 1, .int .u32 10] 24).on hb
  have h' := bel_on ((h.out).alloc (h.out).size _) hb
  clear hb h
  have B_a := Lib.hid b_a
  have h := Lib.hid h'
  clear h' b_a
  go_wp2_with fail
  refine (ea3 _).mono ?_
  rintro e w3 ⟨rfl, hb⟩
  have b_a : Blk w3 w1.heap.size [.int .u32 1, .int .u32 10] := (B_a.out.next (.cells #[.int .u32 2, .int .u32 0] 24)).on hb
  have b_b : Blk w3 w2.heap.size [.int .u32 2, .int .u32 0] := (Blk.new w2 [.int .u32 2, .int .u32 0] 24).on hb
  have h' := bel_on ((h.out).alloc (h.out).size _) hb
  clear hb h B_a
  have B_a := Lib.hid b_a
  have B_b := Lib.hid b_b
  have h := Lib.hid h'
  clear h' b_a b_b
  have c_a0 := (B_a.out.next (.cells #[.int .u32 0, .int .u32 0] 24)).cell 0 rfl
  have c_a1 := (B_a.out.next (.cells #[.int .u32 0, .int .u32 0] 24)).cell 1 rfl
  have c_b0 := (B_b.out.next (.cells #[.int .u32 0, .int .u32 0] 24)).cell 0 rfl
  have c_b1 := (B_b.out.next (.cells #[.int .u32 0, .int .u32 0] 24)).cell 1 rfl
  have c_p0 := (Blk.newAt (b := (w3.heap.size + 1)) (w := (World.alloc w3 (.cells #[.int .u32 0, .int .u32 0] 24))) (by simp only [World.size_alloc]) [.int .u32 1, .int .u32 10, .int .u32 2, .int .u32 0] 32).cell 0 rfl
  have c_p1 := (Blk.newAt (b := (w3.heap.size + 1)) (w := (World.alloc w3 (.cells #[.int .u32 0, .int .u32 0] 24))) (by simp only [World.size_alloc]) [.int .u32 1, .int .u32 10, .int .u32 2, .int .u32 0] 32).cell 1 rfl
  have c_p2 := (Blk.newAt (b := (w3.heap.size + 1)) (w := (World.alloc w3 (.cells #[.int .u32 0, .int .u32 0] 24))) (by simp only [World.size_alloc]) [.int .u32 1, .int .u32 10, .int .u32 2, .int .u32 0] 32).cell 2 rfl
  have c_p3 := (Blk.newAt (b := (w3.heap.size + 1)) (w := (World.alloc w3 (.cells #[.int .u32 0, .int .u32 0] 24))) (by simp only [World.size_alloc]) [.int .u32 1, .int .u32 10, .int .u32 2, .int .u32 0] 32).cell 3 rfl
  go_wp2_with fail
  refine (ea4 _).mono ?_
  rintro e w4 ⟨rfl, hb⟩
  clear c_a0 c_a1 c_b0 c_b1 c_p0 c_p1 c_p2 c_p3
  have b_a : Blk w4 w1.heap.size [.int .u32 1, .int .u32 10] := ((B_a.out.next (.cells #[.int .u32 0, .int .u32 0] 24)).next (.cells #[.int .u32 1, .int .u32 10, .int .u32 2, .int .u32 0] 32)).on hb
  have b_b : Blk w4 w2.heap.size [.int .u32 2, .int .u32 0] := ((B_b.out.next (.cells #[.int .u32 0, .int .u32 0] 24)).next (.cells #[.int .u32 1, .int .u32 10, .int .u32 2, .int .u32 0] 32)).on hb
  have b_p : Blk w4 (w3.heap.size + 1) [.int .u32 1, .int .u32 10, .int .u32 2, .int .u32 0] := (Blk.newAt (b := (w3.heap.size + 1)) (w := (World.alloc w3 (.cells #[.int .u32 0, .int .u32 0] 24))) (by simp only [World.size_alloc]) [.int .u32 1, .int .u32 10, .int .u32 2, .int .u32 0] 32).on hb
  have h' := bel_on ((((h.out).alloc (h.out).size _)).alloc (((h.out).alloc (h.out).size _)).size _) hb
  clear hb h B_a B_b
  have B_a := Lib.hid b_a
  have B_b := Lib.hid b_b
  have B_p := Lib.hid b_p
  have h := Lib.hid h'
  clear h' b_a b_b b_p
  go_wp2_with fail
  refine (ea5 _ (by decide +kernel)).mono ?_
  rintro e w5 ⟨rfl, hb⟩
  have b_a : Blk w5 w1.heap.size [.int .u32 1, .int .u32 10] := B_a.out.on hb
  have b_b : Blk w5 w2.heap.size [.int .u32 2, .int .u32 0] := B_b.out.on hb
  have b_p : Blk w5 (w3.heap.size + 1) [.int .u32 1, .int .u32 10, .int .u32 2, .int .u32 0] := B_p.out.on hb
  have h' := bel_on h.out hb
  clear hb h B_a B_b B_p
  have B_a := Lib.hid b_a
  have B_b := Lib.hid b_b
  have B_p := Lib.hid b_p
  have h := Lib.hid h'
  clear h' b_a b_b b_p
  go_wp2_with fail
  refine (ea6 _).mono ?_
  rintro e w6 ⟨rfl, hb⟩
  have b_a : Blk w6 w1.heap.size [.int .u32 1, .int .u32 10] := (B_a.out.next (.cells #[.int .u32 1, .int .u32 10, .int .u32 2, .int .u32 0] 32)).on hb
  have b_b : Blk w6 w2.heap.size [.int .u32 2, .int .u32 0] := (B_b.out.next (.cells #[.int .u32 1, .int .u32 10, .int .u32 2, .int .u32 0] 32)).on hb
  have b_p : Blk w6 (w3.heap.size + 1) [.int .u32 1, .int .u32 10, .int .u32 2, .int .u32 0] := (B_p.out.next (.cells #[.int .u32 1, .int .u32 10, .int .u32 2, .int .u32 0] 32)).on hb
  have b_q : Blk w6 w5.heap.size [.int .u32 1, .int .u32 10, .int .u32 2, .int .u32 0] := (Blk.new w5 [.int .u32 1, .int .u32 10, .int .u32 2, .int .u32 0] 32).on hb
  have h' := bel_on ((h.out).alloc (h.out).size _) hb
  clear hb h B_a B_b B_p
  have B_a := Lib.hid b_a
  have B_b := Lib.hid b_b
  have B_p := Lib.hid b_p
  have B_q := Lib.hid b_q
  have h := Lib.hid h'
  clear h' b_a b_b b_p b_q
  go_upto_region 7 with fail
  have c_a0 := cell_regrown ((B_a.out.next (.cells #[.int .u32 0, .int .u32 0, .int .u32 0, .int .u32 0] 32)).cell 0 rfl)
  have c_a1 := cell_regrown ((B_a.out.next (.cells #[.int .u32 0, .int .u32 0, .int .u32 0, .int .u32 0] 32)).cell 1 rfl)
  have c_b0 := cell_regrown ((B_b.out.next (.cells #[.int .u32 0, .int .u32 0, .int .u32 0, .int .u32 0] 32)).cell 0 rfl)
  have c_b1 := cell_regrown ((B_b.out.next (.cells #[.int .u32 0, .int .u32 0, .int .u32 0, .int .u32 0] 32)).cell 1 rfl)
  have c_p0 := cell_regrown ((B_p.out.next (.cells #[.int .u32 0, .int .u32 0, .int .u32 0, .int .u32 0] 32)).cell 0 rfl)
  have c_p1 := cell_regrown ((B_p.out.next (.cells #[.int .u32 0, .int .u32 0, .int .u32 0, .int .u32 0] 32)).cell 1 rfl)
  have c_p2 := cell_regrown ((B_p.out.next (.cells #[.int .u32 0, .int .u32 0, .int .u32 0, .int .u32 0] 32)).cell 2 rfl)
  have c_p3 := cell_regrown ((B_p.out.next (.cells #[.int .u32 0, .int .u32 0, .int .u32 0, .int .u32 0] 32)).cell 3 rfl)
  have c_q0 := cell_regrown ((B_q.out.next (.cells #[.int .u32 0, .int .u32 0, .int .u32 0, .int .u32 0] 32)).cell 0 rfl)
  have c_q1 := cell_regrown ((B_q.out.next (.cells #[.int .u32 0, .int .u32 0, .int .u32 0, .int .u32 0] 32)).cell 1 rfl)
  have c_q2 := cell_regrown ((B_q.out.next (.cells #[.int .u32 0, .int .u32 0, .int .u32 0, .int .u32 0] 32)).cell 2 rfl)
  have c_q3 := cell_regrown ((B_q.out.next (.cells #[.int .u32 0, .int .u32 0, .int .u32 0, .int .u32 0] 32)).cell 3 rfl)
  have Eea7 : Hid (Gives Try.prog _ _ _) := Lib.hid ea7
  have Eea8 : Hid (Gives Try.prog _ _ _) := Lib.hid ea8
  have Eea9 : Hid (Gives Try.prog _ _ _) := Lib.hid ea9
  have Eea10 : Hid (Gives Try.prog _ _ _) := Lib.hid ea10
  have Eea11 : Hid (Gives Try.prog _ _ _) := Lib.hid ea11
  have Eea12 : Hid (Gives Try.prog _ _ _) := Lib.hid ea12
  have Eea13 : Hid (Gives Try.prog _ _ _) := Lib.hid ea13
  refine wp_region_quiet_below (by kernel_rfl) (by kernel_rfl) ?_
  repeat (first | go_big_quiet_step (first | with_reducible exact Eea7.out.at _ _ _ | with_reducible exact Eea8.out.at _ _ _ | with_reducible exact Eea9.out.at _ _ _ | with_reducible exact Eea10.out.at _ _ _ | with_reducible exact Eea11.out.at _ _ _ | with_reducible exact Eea12.out.at _ _ _ | with_reducible exact Eea13.out.at _ _ _) | quiet_step (first | with_reducible exact Eea7.out.at _ _ _ | with_reducible exact Eea8.out.at _ _ _ | with_reducible exact Eea9.out.at _ _ _ | with_reducible exact Eea10.out.at _ _ _ | with_reducible exact Eea11.out.at _ _ _ | with_reducible exact Eea12.out.at _ _ _ | with_reducible exact Eea13.out.at _ _ _))
  refine wpQuiet_nil ?_
  intro _ hw'
  obtain ⟨⟨dq, osq⟩, hw''⟩ := hw'
  subst hw''
  go_wp2_with fail
  go_ret
  exact ⟨rfl, bel_on (h.out.alloc h.out.size _) (below_regrown _ dq osq)⟩
end Go.Proofs.Ytkpobcffkjoilaa
