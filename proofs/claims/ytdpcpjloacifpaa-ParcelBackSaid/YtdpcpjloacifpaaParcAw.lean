/- The example that the statements of package parcel ask (awake). -/
import Derived.Test.YtdpcpjloacifpaaParcG
import Derived.Test.YtdpcpjloacifpaaParcH
namespace Go.Proofs.Ytdpcpjloacifpaa
open Go.RowKit Go.Sort

theorem pa_some : Gives Try.prog 13 #[] (.agg #[.int .i64 1, .int .u32 0, .int .u32 0, .int .u32 0, .int .u32 0, .int .i64 2, .int .i64 3, .int .i64 9, .string ⟨#[104, 105]⟩] : Value) := by
  intro w
  go_enter Try.func13, Try.ntmps13
  go_wp2
  refine bodyPost_ret (v := (.agg #[.int .i64 1, .int .u32 0, .int .u32 0, .int .u32 0, .int .u32 0, .int .i64 2, .int .i64 3, .int .i64 9, .string ⟨#[104, 105]⟩] : Value)) (by simp [results, Try.results13, go_sem]) rfl ⟨rfl, ?_⟩
  exact (Below.refl _ _).alloc (Nat.le_refl _) _
theorem pa_text : ∃ S SX : ByteArray, S.size = 22 ∧ S.extract 17 20 = SX ∧ (SX.toList == ([35, 9, 2] : List UInt8)) = true ∧
    Gives Try.prog 6 #[(.agg #[.int .i64 1, .int .u32 0, .int .u32 0, .int .u32 0, .int .u32 0, .int .i64 2, .int .i64 3, .int .i64 9, .string ⟨#[104, 105]⟩] : Value)] (.tuple #[.string S, .int .i64 0]) ∧
    Gives Try.prog 7 #[.string S] (.tuple #[(.agg #[.int .i64 1, .int .u32 0, .int .u32 0, .int .u32 0, .int .u32 0, .int .i64 2, .int .i64 3, .int .i64 9, .string ⟨#[104, 105]⟩] : Value), .int .i64 0]) := by
  have h1 := pbytes_ok 1 0 0 0 0 2 3 9 ⟨#[104, 105]⟩ (by decide) (by decide) (by decide) (by decide) (by decide)
  have h2 := pback_write 1 0 0 0 0 2 3 9 ⟨#[104, 105]⟩ (by decide) (by decide) (by decide) (by decide) (by decide)
  refine ⟨_, _, ?_, rfl, ?_, h1, h2⟩
  · rw [str_size, parcL_length, size_list]; rfl
  · decide +kernel
theorem pa3 (w : World) : Calls Try.prog 8 #[(.agg #[.int .i64 1, .int .u32 0, .int .u32 0, .int .u32 0, .int .u32 0, .int .i64 2, .int .i64 3, .int .i64 9, .string ⟨#[104, 105]⟩] : Value), .int .i64 4, (.agg #[.int .u32 0, .int .u32 0, .int .u32 0, .int .u32 0] : Value)] w fun e w' => e = .returned (.tuple #[(.agg #[.int .i64 4, .int .u32 0, .int .u32 0, .int .u32 0, .int .u32 0, .int .i64 2, .int .i64 3, .int .i64 8, .string ⟨#[104, 105]⟩] : Value), .bool true]) ∧ Below w.heap.size w w' :=
  hop_yes 1 0 0 0 0 2 3 9 ⟨#[104, 105]⟩ 4 0 0 0 0 (by omega) (by omega) w
theorem pa4 (w : World) : Calls Try.prog 8 #[(.agg #[.int .i64 0, .int .u32 0, .int .u32 0, .int .u32 0, .int .u32 0, .int .i64 0, .int .i64 0, .int .i64 1, .string ⟨#[]⟩] : Value), .int .i64 4, (.agg #[.int .u32 0, .int .u32 0, .int .u32 0, .int .u32 0] : Value)] w fun e w' => e = .returned (.tuple #[(.agg #[.int .i64 0, .int .u32 0, .int .u32 0, .int .u32 0, .int .u32 0, .int .i64 0, .int .i64 0, .int .i64 0, .string ⟨#[]⟩] : Value), .bool false]) ∧ Below w.heap.size w w' :=
  hop_no 0 0 0 0 0 0 0 1 ⟨#[]⟩ 4 0 0 0 0 (by omega) w
theorem pa5 (w : World) : Calls Try.prog 7 #[.string ⟨#[115, 104, 111, 114, 116]⟩] w fun e w' => e = .returned (.tuple #[(.agg #[.int .i64 0, .int .u32 0, .int .u32 0, .int .u32 0, .int .u32 0, .int .i64 0, .int .i64 0, .int .i64 0, .string ⟨#[]⟩] : Value), .int .i64 2]) ∧ Below w.heap.size w w' :=
  pread_less ⟨#[115, 104, 111, 114, 116]⟩ (by decide) w
theorem pa6 (w : World) : Calls Try.prog 6 #[(.agg #[.int .i64 0, .int .u32 0, .int .u32 0, .int .u32 0, .int .u32 0, .int .i64 0, .int .i64 0, .int .i64 0, .string ⟨#[]⟩] : Value)] w fun e w' => e = .returned (.tuple #[.string ⟨#[]⟩, .int .i64 1]) ∧ Below w.heap.size w w' :=
  pbytes_bad 0 0 0 0 0 0 0 0 ⟨#[]⟩ (by decide) (by decide) w
theorem pa7 : Gives Try.prog 14 #[(.agg #[.int .i64 1, .int .u32 0, .int .u32 0, .int .u32 0, .int .u32 0, .int .i64 2, .int .i64 3, .int .i64 9, .string ⟨#[104, 105]⟩] : Value)] (.bool true) := pright_any 1 0 0 0 0 2 3 9 ⟨#[104, 105]⟩ (by decide)

set_option maxRecDepth 100000 in
set_option maxHeartbeats 2000000 in
theorem pawake_any : Gives Try.prog 5 #[] (.bool true) := by
  intro w
  obtain ⟨S, SX, hs1, hs2, hs3, hs4, hs5⟩ := pa_text
  have SO := Lib.hid pa_some
  have B1 := Lib.hid hs4
  have RD := Lib.hid hs5
  have R1 := Lib.hid pa7
  have EQ : ∀ w, (binOp .eql 28 (.agg #[.int .i64 1, .int .u32 0, .int .u32 0, .int .u32 0, .int .u32 0, .int .i64 2, .int .i64 3, .int .i64 9, .string ⟨#[104, 105]⟩] : Value) (.agg #[.int .i64 1, .int .u32 0, .int .u32 0, .int .u32 0, .int .u32 0, .int .i64 2, .int .i64 3, .int .i64 9, .string ⟨#[104, 105]⟩] : Value)).run Try.prog w = .ok (.bool true) w := fun w => by
    rw [run_parcel_eq, sameP_refl]
  clear hs4 hs5
  go_enter Try.func5, Try.ntmps5
  have h := Lib.hid (Below.refl w.heap.size w)
  go_wp2_with fail
  refine (SO.out _).mono ?_
  rintro e w1 ⟨rfl, hb⟩
  have h' := bel_on h.out hb
  clear hb h
  have h := Lib.hid h'
  clear h'
  go_wp2_with fail
  refine (B1.out _).mono ?_
  rintro e w2 ⟨rfl, hb⟩
  have h' := bel_on h.out hb
  clear hb h
  have h := Lib.hid h'
  clear h'
  go_wp2_with fail
  refine (RD.out _).mono ?_
  rintro e w3 ⟨rfl, hb⟩
  have h' := bel_on h.out hb
  clear hb h
  have h := Lib.hid h'
  clear h'
  have c_p0 := (Blk.new w3 [.int .i64 1, .int .u32 0, .int .u32 0, .int .u32 0, .int .u32 0, .int .i64 2, .int .i64 3, .int .i64 9, .string ⟨#[104, 105]⟩] 28).cell 0 rfl
  have c_p1 := (Blk.new w3 [.int .i64 1, .int .u32 0, .int .u32 0, .int .u32 0, .int .u32 0, .int .i64 2, .int .i64 3, .int .i64 9, .string ⟨#[104, 105]⟩] 28).cell 1 rfl
  have c_p2 := (Blk.new w3 [.int .i64 1, .int .u32 0, .int .u32 0, .int .u32 0, .int .u32 0, .int .i64 2, .int .i64 3, .int .i64 9, .string ⟨#[104, 105]⟩] 28).cell 2 rfl
  have c_p3 := (Blk.new w3 [.int .i64 1, .int .u32 0, .int .u32 0, .int .u32 0, .int .u32 0, .int .i64 2, .int .i64 3, .int .i64 9, .string ⟨#[104, 105]⟩] 28).cell 3 rfl
  have c_p4 := (Blk.new w3 [.int .i64 1, .int .u32 0, .int .u32 0, .int .u32 0, .int .u32 0, .int .i64 2, .int .i64 3, .int .i64 9, .string ⟨#[104, 105]⟩] 28).cell 4 rfl
  have c_p5 := (Blk.new w3 [.int .i64 1, .int .u32 0, .int .u32 0, .int .u32 0, .int .u32 0, .int .i64 2, .int .i64 3, .int .i64 9, .string ⟨#[104, 105]⟩] 28).cell 5 rfl
  have c_p6 := (Blk.new w3 [.int .i64 1, .int .u32 0, .int .u32 0, .int .u32 0, .int .u32 0, .int .i64 2, .int .i64 3, .int .i64 9, .string ⟨#[104, 105]⟩] 28).cell 6 rfl
  have c_p7 := (Blk.new w3 [.int .i64 1, .int .u32 0, .int .u32 0, .int .u32 0, .int .u32 0, .int .i64 2, .int .i64 3, .int .i64 9, .string ⟨#[104, 105]⟩] 28).cell 7 rfl
  have c_p8 := (Blk.new w3 [.int .i64 1, .int .u32 0, .int .u32 0, .int .u32 0, .int .u32 0, .int .i64 2, .int .i64 3, .int .i64 9, .string ⟨#[104, 105]⟩] 28).cell 8 rfl
  go_wp2_with fail
  refine (pa3 _).mono ?_
  rintro e w4 ⟨rfl, hb⟩
  clear c_p0 c_p1 c_p2 c_p3 c_p4 c_p5 c_p6 c_p7 c_p8
  have b_p : Blk w4 w3.heap.size [.int .i64 1, .int .u32 0, .int .u32 0, .int .u32 0, .int .u32 0, .int .i64 2, .int .i64 3, .int .i64 9, .string ⟨#[104, 105]⟩] := (Blk.new w3 [.int .i64 1, .int .u32 0, .int .u32 0, .int .u32 0, .int .u32 0, .int .i64 2, .int .i64 3, .int .i64 9, .string ⟨#[104, 105]⟩] 28).on hb
  have h' := bel_on ((h.out).alloc (h.out).size _) hb
  clear hb h
  have B_p := Lib.hid b_p
  have h := Lib.hid h'
  clear h' b_p
  go_wp2_with fail
  refine (pa4 _).mono ?_
  rintro e w5 ⟨rfl, hb⟩
  have b_p : Blk w5 w3.heap.size [.int .i64 1, .int .u32 0, .int .u32 0, .int .u32 0, .int .u32 0, .int .i64 2, .int .i64 3, .int .i64 9, .string ⟨#[104, 105]⟩] := (B_p.out.next (.cells #[.int .i64 4, .int .u32 0, .int .u32 0, .int .u32 0, .int .u32 0, .int .i64 2, .int .i64 3, .int .i64 8, .string ⟨#[104, 105]⟩] 28)).on hb
  have b_h : Blk w5 w4.heap.size [.int .i64 4, .int .u32 0, .int .u32 0, .int .u32 0, .int .u32 0, .int .i64 2, .int .i64 3, .int .i64 8, .string ⟨#[104, 105]⟩] := (Blk.new w4 [.int .i64 4, .int .u32 0, .int .u32 0, .int .u32 0, .int .u32 0, .int .i64 2, .int .i64 3, .int .i64 8, .string ⟨#[104, 105]⟩] 28).on hb
  have h' := bel_on ((h.out).alloc (h.out).size _) hb
  clear hb h B_p
  have B_p := Lib.hid b_p
  have B_h := Lib.hid b_h
  have h := Lib.hid h'
  clear h' b_p b_h
  go_wp2_with fail
  refine (pa5 _).mono ?_
  rintro e w6 ⟨rfl, hb⟩
  have b_p : Blk w6 w3.heap.size [.int .i64 1, .int .u32 0, .int .u32 0, .int .u32 0, .int .u32 0, .int .i64 2, .int .i64 3, .int .i64 9, .string ⟨#[104, 105]⟩] := (B_p.out.next (.cells #[.int .i64 0, .int .u32 0, .int .u32 0, .int .u32 0, .int .u32 0, .int .i64 0, .int .i64 0, .int .i64 0, .string ⟨#[]⟩] 28)).on hb
  have b_h : Blk w6 w4.heap.size [.int .i64 4, .int .u32 0, .int .u32 0, .int .u32 0, .int .u32 0, .int .i64 2, .int .i64 3, .int .i64 8, .string ⟨#[104, 105]⟩] := (B_h.out.next (.cells #[.int .i64 0, .int .u32 0, .int .u32 0, .int .u32 0, .int .u32 0, .int .i64 0, .int .i64 0, .int .i64 0, .string ⟨#[]⟩] 28)).on hb
  have h' := bel_on ((h.out).alloc (h.out).size _) hb
  clear hb h B_p B_h
  have B_p := Lib.hid b_p
  have B_h := Lib.hid b_h
  have h := Lib.hid h'
  clear h' b_p b_h
  go_wp2_with fail
  refine (pa6 _).mono ?_
  rintro e w7 ⟨rfl, hb⟩
  have b_p : Blk w7 w3.heap.size [.int .i64 1, .int .u32 0, .int .u32 0, .int .u32 0, .int .u32 0, .int .i64 2, .int .i64 3, .int .i64 9, .string ⟨#[104, 105]⟩] := (B_p.out.next (.cells #[.int .i64 0, .int .u32 0, .int .u32 0, .int .u32 0, .int .u32 0, .int .i64 0, .int .i64 0, .int .i64 0, .string ⟨#[]⟩] 28)).on hb
  have b_h : Blk w7 w4.heap.size [.int .i64 4, .int .u32 0, .int .u32 0, .int .u32 0, .int .u32 0, .int .i64 2, .int .i64 3, .int .i64 8, .string ⟨#[104, 105]⟩] := (B_h.out.next (.cells #[.int .i64 0, .int .u32 0, .int .u32 0, .int .u32 0, .int .u32 0, .int .i64 0, .int .i64 0, .int .i64 0, .string ⟨#[]⟩] 28)).on hb
  have h' := bel_on ((h.out).alloc (h.out).size _) hb
  clear hb h B_p B_h
  have B_p := Lib.hid b_p
  have B_h := Lib.hid b_h
  have h := Lib.hid h'
  clear h' b_p b_h
  go_upto_region 9 with fail
  have c_p0 := cell_regrown (B_p.out.cell 0 rfl)
  have c_p1 := cell_regrown (B_p.out.cell 1 rfl)
  have c_p2 := cell_regrown (B_p.out.cell 2 rfl)
  have c_p3 := cell_regrown (B_p.out.cell 3 rfl)
  have c_p4 := cell_regrown (B_p.out.cell 4 rfl)
  have c_p5 := cell_regrown (B_p.out.cell 5 rfl)
  have c_p6 := cell_regrown (B_p.out.cell 6 rfl)
  have c_p7 := cell_regrown (B_p.out.cell 7 rfl)
  have c_p8 := cell_regrown (B_p.out.cell 8 rfl)
  have c_h0 := cell_regrown (B_h.out.cell 0 rfl)
  have c_h7 := cell_regrown (B_h.out.cell 7 rfl)
  refine wp_region_quiet_below (by kernel_rfl) (by kernel_rfl) ?_
  repeat (first | go_big_quiet_step (first | with_reducible exact SO.out.at _ _ _ | with_reducible exact R1.out.at _ _ _) | quiet_step (first | with_reducible exact SO.out.at _ _ _ | with_reducible exact R1.out.at _ _ _))
  refine wpQuiet_nil ?_
  intro _ hw'
  obtain ⟨⟨dq, osq⟩, hw''⟩ := hw'
  subst hw''
  go_wp2_with fail
  go_ret
  exact ⟨rfl, bel_on h.out (below_regrown _ dq osq)⟩
end Go.Proofs.Ytdpcpjloacifpaa
