/- EpochBack: for every pair of epochs and every text EpochBack answers true and leaves its arguments as they were. No condition. -/
import Derived.Test.YtkpobcffkjoilaaRows
import Derived.Test.YtkpobcffkjoilaaEpochAw
import Derived.Test.YtkpobcffkjoilaaAggOpen
import Derived.ProofKit
import Derived.OpenShut
import Derived.ShutString
import Derived.ChangeOld
import Derived.Carry
namespace Go.Proofs.Ytkpobcffkjoilaa.epochBack
open Go.Sort Go.ChangeShapes Go.WideShapes Go.ChangeAt Go.RowKit
open Go.ChangeMaps (open_string shut_string)

theorem own : ownKnob Try.prog.godebug = none := by kernel_rfl
theorem laidOut : laidOutB Try.prog = true := by kernel_rfl

theorem read_back (p0 p1 p2 p3 : Nat) (h0 : p0 < 4294967296) (h1 : p1 < 4294967296) (h2 : p2 < 4294967296) (h3 : p3 < 4294967296) (s : ByteArray) (hs : s.size ≤ 300) :
    Gives Try.prog 9 #[.string (str (pairL p0 p1 p2 p3) ++ s)] (.tuple #[(.agg #[.int .u32 (p0 : Int), .int .u32 (p1 : Int), .int .u32 (p2 : Int), .int .u32 (p3 : Int)] : Value), .string s, .int .i64 0]) := fun w => by
  have hl := pairL_length p0 p1 p2 p3
  have e : str (pairL p0 p1 p2 p3) ++ s = str (pairL p0 p1 p2 p3 ++ s.data.toList) := by
    have : str (pairL p0 p1 p2 p3) ++ s = str (pairL p0 p1 p2 p3) ++ str s.data.toList := by rw [str_of]
    rw [this, str_append]
  have h := read_ok (pairL p0 p1 p2 p3 ++ s.data.toList) (by rw [List.length_append, hl]; omega) (by rw [List.length_append, hl, size_list]; unfold maxLen; omega) w
  have d16 : (pairL p0 p1 p2 p3 ++ s.data.toList).drop 16 = s.data.toList := by rw [List.drop_append_of_le_length (by omega), List.drop_of_length_le (by omega)]; rfl
  have d8 : (pairL p0 p1 p2 p3 ++ s.data.toList).drop 8 = putL p2 p3 ++ s.data.toList := by unfold pairL; rw [List.append_assoc, drop_put]
  have b0 : boot (pairL p0 p1 p2 p3 ++ s.data.toList) = p0 := by unfold pairL; rw [List.append_assoc, boot_put _ _ _ h0]
  have b1 : local' (pairL p0 p1 p2 p3 ++ s.data.toList) = p1 := by unfold pairL; rw [List.append_assoc, local_put _ _ _ h1]
  rw [d16, d8, b0, b1, boot_put _ _ _ h2, local_put _ _ _ h3, str_of] at h
  rw [e]; exact h

set_option maxRecDepth 100000 in
set_option maxHeartbeats 2000000 in
theorem walk (p0 p1 p2 p3 : Nat) (s : ByteArray) (h0 : p0 < 4294967296) (h1 : p1 < 4294967296) (h2 : p2 < 4294967296) (h3 : p3 < 4294967296) (hs : s.size ≤ maxLen) (w : World) :
    Calls Try.prog 4 #[(.agg #[.int .u32 (p0 : Int), .int .u32 (p1 : Int), .int .u32 (p2 : Int), .int .u32 (p3 : Int)] : Value), .string s] w fun e w' => e = .returned (.bool true) ∧ Below w.heap.size w w' := by
  unfold maxLen at hs
  have HB : Hid (Below w.heap.size w (w.alloc (.cells #[.int .u32 (p0 : Int), .int .u32 (p1 : Int), .int .u32 (p2 : Int), .int .u32 (p3 : Int)] 32))) := Lib.hid ((Below.refl _ _).alloc (Nat.le_refl _) _)
  by_cases hbig : 300 < s.size
  · have ha : decide (300 < (s.size : Int)) = true := decide_eq_true (by omega)
    clear hbig
    go_enter Try.func4, Try.ntmps4
    go_wp2_with fail
    refine (eawake_any _).mono ?_
    rintro e w1 ⟨rfl, hb⟩
    go_wp2_with fail
    go_ret
    exact ⟨rfl, bel_on HB.out hb⟩
  have ha : decide (300 < (s.size : Int)) = false := decide_eq_false (by omega)
  have RB := Lib.hid (read_back p0 p1 p2 p3 h0 h1 h2 h3 s (by omega))
  have BY : Hid (Gives Try.prog 10 #[(.agg #[.int .u32 (p0 : Int), .int .u32 (p1 : Int), .int .u32 (p2 : Int), .int .u32 (p3 : Int)] : Value)] (.string (str (pairL p0 p1 p2 p3)))) := Lib.hid (bytes_any p0 p1 p2 p3 h0 h1 h2 h3)
  have S1 : Hid (Gives Try.prog 12 #[(.agg #[.int .u32 (p0 : Int), .int .u32 (p1 : Int), .int .u32 (p2 : Int), .int .u32 (p3 : Int)] : Value)] (.agg #[.int .u32 (p2 : Int), .int .u32 (p3 : Int), .int .u32 (p0 : Int), .int .u32 (p1 : Int)] : Value)) := Lib.hid (swap_any _ _ _ _)
  have S2 : Hid (Gives Try.prog 12 #[(.agg #[.int .u32 (p2 : Int), .int .u32 (p3 : Int), .int .u32 (p0 : Int), .int .u32 (p1 : Int)] : Value)] (.agg #[.int .u32 (p0 : Int), .int .u32 (p1 : Int), .int .u32 (p2 : Int), .int .u32 (p3 : Int)] : Value)) := Lib.hid (swap_any _ _ _ _)
  have AW : Hid (Gives Try.prog 8 #[] (.bool true)) := Lib.hid eawake_any
  have hov : ¬ 9223372036854775807 < (str (pairL p0 p1 p2 p3)).size + s.size := by rw [str_size, pairL_length]; omega
  obtain ⟨r1, hr1⟩ : ∃ r, ((p0 : Int) == 0 && (p1 : Int) == 0) = r := ⟨_, rfl⟩
  obtain ⟨r2, hr2⟩ : ∃ r, ((p2 : Int) == 0 && (p3 : Int) == 0) = r := ⟨_, rfl⟩
  have N1 : Hid (Gives Try.prog 11 #[(.agg #[.int .u32 (p0 : Int), .int .u32 (p1 : Int)] : Value)] (.bool r1)) := hr1 ▸ Lib.hid (none_any _ _)
  have N2 : Hid (Gives Try.prog 11 #[(.agg #[.int .u32 (p2 : Int), .int .u32 (p3 : Int)] : Value)] (.bool r2)) := hr2 ▸ Lib.hid (none_any _ _)
  have SM : Hid (Gives Try.prog 13 #[(.agg #[.int .u32 (p0 : Int), .int .u32 (p1 : Int), .int .u32 (p2 : Int), .int .u32 (p3 : Int)] : Value), (.agg #[.int .u32 (p2 : Int), .int .u32 (p3 : Int), .int .u32 (p0 : Int), .int .u32 (p1 : Int)] : Value)] (.bool (!r1 && !r2))) := hr1 ▸ hr2 ▸ Lib.hid (same_eq _ _ _ _)
  clear hr1 hr2 hbig hs h0 h1 h2 h3
  have bp := Blk.new w [.int .u32 (p0 : Int), .int .u32 (p1 : Int), .int .u32 (p2 : Int), .int .u32 (p3 : Int)] 32
  rcases r1 with _ | _
  · rcases r2 with _ | _
    · go_enter Try.func4, Try.ntmps4
      have h := Lib.hid (Below.refl w.heap.size w)
      clear bp HB
      have c_p0 := (Blk.new w [.int .u32 (p0 : Int), .int .u32 (p1 : Int), .int .u32 (p2 : Int), .int .u32 (p3 : Int)] 32).cell 0 rfl
      have c_p1 := (Blk.new w [.int .u32 (p0 : Int), .int .u32 (p1 : Int), .int .u32 (p2 : Int), .int .u32 (p3 : Int)] 32).cell 1 rfl
      have c_p2 := (Blk.new w [.int .u32 (p0 : Int), .int .u32 (p1 : Int), .int .u32 (p2 : Int), .int .u32 (p3 : Int)] 32).cell 2 rfl
      have c_p3 := (Blk.new w [.int .u32 (p0 : Int), .int .u32 (p1 : Int), .int .u32 (p2 : Int), .int .u32 (p3 : Int)] 32).cell 3 rfl
      go_wp2_with fail
      refine (BY.out _).mono ?_
      rintro e w1 ⟨rfl, hb⟩
      clear c_p0 c_p1 c_p2 c_p3
      have b_p : Blk w1 w.heap.size [.int .u32 (p0 : Int), .int .u32 (p1 : Int), .int .u32 (p2 : Int), .int .u32 (p3 : Int)] := (Blk.new w [.int .u32 (p0 : Int), .int .u32 (p1 : Int), .int .u32 (p2 : Int), .int .u32 (p3 : Int)] 32).on hb
      have h' := bel_on ((h.out).alloc (h.out).size _) hb
      clear hb h
      have B_p := Lib.hid b_p
      have h := Lib.hid h'
      clear h' b_p
      have c_p0 := B_p.out.cell 0 rfl
      have c_p1 := B_p.out.cell 1 rfl
      have c_p2 := B_p.out.cell 2 rfl
      have c_p3 := B_p.out.cell 3 rfl
      go_wp2_with fail
      refine (RB.out _).mono ?_
      rintro e w2 ⟨rfl, hb⟩
      clear c_p0 c_p1 c_p2 c_p3
      have b_p : Blk w2 w.heap.size [.int .u32 (p0 : Int), .int .u32 (p1 : Int), .int .u32 (p2 : Int), .int .u32 (p3 : Int)] := B_p.out.on hb
      have h' := bel_on h.out hb
      clear hb h B_p
      have B_p := Lib.hid b_p
      have h := Lib.hid h'
      clear h' b_p
      have c_p0 := (B_p.out.next (.cells #[.int .u32 (p0 : Int), .int .u32 (p1 : Int), .int .u32 (p2 : Int), .int .u32 (p3 : Int)] 32)).cell 0 rfl
      have c_p1 := (B_p.out.next (.cells #[.int .u32 (p0 : Int), .int .u32 (p1 : Int), .int .u32 (p2 : Int), .int .u32 (p3 : Int)] 32)).cell 1 rfl
      have c_p2 := (B_p.out.next (.cells #[.int .u32 (p0 : Int), .int .u32 (p1 : Int), .int .u32 (p2 : Int), .int .u32 (p3 : Int)] 32)).cell 2 rfl
      have c_p3 := (B_p.out.next (.cells #[.int .u32 (p0 : Int), .int .u32 (p1 : Int), .int .u32 (p2 : Int), .int .u32 (p3 : Int)] 32)).cell 3 rfl
      go_wp2_with fail
      refine (N1.out _).mono ?_
      rintro e w3 ⟨rfl, hb⟩
      clear c_p0 c_p1 c_p2 c_p3
      have b_p : Blk w3 w.heap.size [.int .u32 (p0 : Int), .int .u32 (p1 : Int), .int .u32 (p2 : Int), .int .u32 (p3 : Int)] := (B_p.out.next (.cells #[.int .u32 (p0 : Int), .int .u32 (p1 : Int), .int .u32 (p2 : Int), .int .u32 (p3 : Int)] 32)).on hb
      have b_q : Blk w3 w2.heap.size [.int .u32 (p0 : Int), .int .u32 (p1 : Int), .int .u32 (p2 : Int), .int .u32 (p3 : Int)] := (Blk.new w2 [.int .u32 (p0 : Int), .int .u32 (p1 : Int), .int .u32 (p2 : Int), .int .u32 (p3 : Int)] 32).on hb
      have h' := bel_on ((h.out).alloc (h.out).size _) hb
      clear hb h B_p
      have B_p := Lib.hid b_p
      have B_q := Lib.hid b_q
      have h := Lib.hid h'
      clear h' b_p b_q
      have c_p0 := B_p.out.cell 0 rfl
      have c_p1 := B_p.out.cell 1 rfl
      have c_p2 := B_p.out.cell 2 rfl
      have c_p3 := B_p.out.cell 3 rfl
      go_wp2_with fail
      refine (N2.out _).mono ?_
      rintro e w4 ⟨rfl, hb⟩
      clear c_p0 c_p1 c_p2 c_p3
      have b_p : Blk w4 w.heap.size [.int .u32 (p0 : Int), .int .u32 (p1 : Int), .int .u32 (p2 : Int), .int .u32 (p3 : Int)] := B_p.out.on hb
      have b_q : Blk w4 w2.heap.size [.int .u32 (p0 : Int), .int .u32 (p1 : Int), .int .u32 (p2 : Int), .int .u32 (p3 : Int)] := B_q.out.on hb
      have h' := bel_on h.out hb
      clear hb h B_p B_q
      have B_p := Lib.hid b_p
      have B_q := Lib.hid b_q
      have h := Lib.hid h'
      clear h' b_p b_q
      go_upto_region 5 with fail
      have c_p0 := cell_regrown (B_p.out.cell 0 rfl)
      have c_p1 := cell_regrown (B_p.out.cell 1 rfl)
      have c_p2 := cell_regrown (B_p.out.cell 2 rfl)
      have c_p3 := cell_regrown (B_p.out.cell 3 rfl)
      have c_q0 := cell_regrown (B_q.out.cell 0 rfl)
      have c_q1 := cell_regrown (B_q.out.cell 1 rfl)
      have c_q2 := cell_regrown (B_q.out.cell 2 rfl)
      have c_q3 := cell_regrown (B_q.out.cell 3 rfl)
      refine wp_region_quiet_below (by kernel_rfl) (by kernel_rfl) ?_
      repeat (first | go_big_quiet_step (first | with_reducible exact S1.out.at _ _ _ | with_reducible exact S2.out.at _ _ _ | with_reducible exact SM.out.at _ _ _ | with_reducible exact AW.out.at _ _ _) | quiet_step (first | with_reducible exact S1.out.at _ _ _ | with_reducible exact S2.out.at _ _ _ | with_reducible exact SM.out.at _ _ _ | with_reducible exact AW.out.at _ _ _))
      refine wpQuiet_nil ?_
      intro _ hw'
      obtain ⟨⟨dq, osq⟩, hw''⟩ := hw'
      subst hw''
      go_wp2_with fail
      go_ret
      exact ⟨rfl, bel_on h.out (below_regrown _ dq osq)⟩
    · go_enter Try.func4, Try.ntmps4
      have h := Lib.hid (Below.refl w.heap.size w)
      clear bp HB
      have c_p0 := (Blk.new w [.int .u32 (p0 : Int), .int .u32 (p1 : Int), .int .u32 (p2 : Int), .int .u32 (p3 : Int)] 32).cell 0 rfl
      have c_p1 := (Blk.new w [.int .u32 (p0 : Int), .int .u32 (p1 : Int), .int .u32 (p2 : Int), .int .u32 (p3 : Int)] 32).cell 1 rfl
      have c_p2 := (Blk.new w [.int .u32 (p0 : Int), .int .u32 (p1 : Int), .int .u32 (p2 : Int), .int .u32 (p3 : Int)] 32).cell 2 rfl
      have c_p3 := (Blk.new w [.int .u32 (p0 : Int), .int .u32 (p1 : Int), .int .u32 (p2 : Int), .int .u32 (p3 : Int)] 32).cell 3 rfl
      go_wp2_with fail
      refine (BY.out _).mono ?_
      rintro e w1 ⟨rfl, hb⟩
      clear c_p0 c_p1 c_p2 c_p3
      have b_p : Blk w1 w.heap.size [.int .u32 (p0 : Int), .int .u32 (p1 : Int), .int .u32 (p2 : Int), .int .u32 (p3 : Int)] := (Blk.new w [.int .u32 (p0 : Int), .int .u32 (p1 : Int), .int .u32 (p2 : Int), .int .u32 (p3 : Int)] 32).on hb
      have h' := bel_on ((h.out).alloc (h.out).size _) hb
      clear hb h
      have B_p := Lib.hid b_p
      have h := Lib.hid h'
      clear h' b_p
      have c_p0 := B_p.out.cell 0 rfl
      have c_p1 := B_p.out.cell 1 rfl
      have c_p2 := B_p.out.cell 2 rfl
      have c_p3 := B_p.out.cell 3 rfl
      go_wp2_with fail
      refine (RB.out _).mono ?_
      rintro e w2 ⟨rfl, hb⟩
      clear c_p0 c_p1 c_p2 c_p3
      have b_p : Blk w2 w.heap.size [.int .u32 (p0 : Int), .int .u32 (p1 : Int), .int .u32 (p2 : Int), .int .u32 (p3 : Int)] := B_p.out.on hb
      have h' := bel_on h.out hb
      clear hb h B_p
      have B_p := Lib.hid b_p
      have h := Lib.hid h'
      clear h' b_p
      have c_p0 := (B_p.out.next (.cells #[.int .u32 (p0 : Int), .int .u32 (p1 : Int), .int .u32 (p2 : Int), .int .u32 (p3 : Int)] 32)).cell 0 rfl
      have c_p1 := (B_p.out.next (.cells #[.int .u32 (p0 : Int), .int .u32 (p1 : Int), .int .u32 (p2 : Int), .int .u32 (p3 : Int)] 32)).cell 1 rfl
      have c_p2 := (B_p.out.next (.cells #[.int .u32 (p0 : Int), .int .u32 (p1 : Int), .int .u32 (p2 : Int), .int .u32 (p3 : Int)] 32)).cell 2 rfl
      have c_p3 := (B_p.out.next (.cells #[.int .u32 (p0 : Int), .int .u32 (p1 : Int), .int .u32 (p2 : Int), .int .u32 (p3 : Int)] 32)).cell 3 rfl
      go_wp2_with fail
      refine (N1.out _).mono ?_
      rintro e w3 ⟨rfl, hb⟩
      clear c_p0 c_p1 c_p2 c_p3
      have b_p : Blk w3 w.heap.size [.int .u32 (p0 : Int), .int .u32 (p1 : Int), .int .u32 (p2 : Int), .int .u32 (p3 : Int)] := (B_p.out.next (.cells #[.int .u32 (p0 : Int), .int .u32 (p1 : Int), .int .u32 (p2 : Int), .int .u32 (p3 : Int)] 32)).on hb
      have b_q : Blk w3 w2.heap.size [.int .u32 (p0 : Int), .int .u32 (p1 : Int), .int .u32 (p2 : Int), .int .u32 (p3 : Int)] := (Blk.new w2 [.int .u32 (p0 : Int), .int .u32 (p1 : Int), .int .u32 (p2 : Int), .int .u32 (p3 : Int)] 32).on hb
      have h' := bel_on ((h.out).alloc (h.out).size _) hb
      clear hb h B_p
      have B_p := Lib.hid b_p
      have B_q := Lib.hid b_q
      have h := Lib.hid h'
      clear h' b_p b_q
      have c_p0 := B_p.out.cell 0 rfl
      have c_p1 := B_p.out.cell 1 rfl
      have c_p2 := B_p.out.cell 2 rfl
      have c_p3 := B_p.out.cell 3 rfl
      go_wp2_with fail
      refine (N2.out _).mono ?_
      rintro e w4 ⟨rfl, hb⟩
      clear c_p0 c_p1 c_p2 c_p3
      have b_p : Blk w4 w.heap.size [.int .u32 (p0 : Int), .int .u32 (p1 : Int), .int .u32 (p2 : Int), .int .u32 (p3 : Int)] := B_p.out.on hb
      have b_q : Blk w4 w2.heap.size [.int .u32 (p0 : Int), .int .u32 (p1 : Int), .int .u32 (p2 : Int), .int .u32 (p3 : Int)] := B_q.out.on hb
      have h' := bel_on h.out hb
      clear hb h B_p B_q
      have B_p := Lib.hid b_p
      have B_q := Lib.hid b_q
      have h := Lib.hid h'
      clear h' b_p b_q
      go_upto_region 5 with fail
      have c_p0 := cell_regrown (B_p.out.cell 0 rfl)
      have c_p1 := cell_regrown (B_p.out.cell 1 rfl)
      have c_p2 := cell_regrown (B_p.out.cell 2 rfl)
      have c_p3 := cell_regrown (B_p.out.cell 3 rfl)
      have c_q0 := cell_regrown (B_q.out.cell 0 rfl)
      have c_q1 := cell_regrown (B_q.out.cell 1 rfl)
      have c_q2 := cell_regrown (B_q.out.cell 2 rfl)
      have c_q3 := cell_regrown (B_q.out.cell 3 rfl)
      refine wp_region_quiet_below (by kernel_rfl) (by kernel_rfl) ?_
      repeat (first | go_big_quiet_step (first | with_reducible exact S1.out.at _ _ _ | with_reducible exact S2.out.at _ _ _ | with_reducible exact SM.out.at _ _ _ | with_reducible exact AW.out.at _ _ _) | quiet_step (first | with_reducible exact S1.out.at _ _ _ | with_reducible exact S2.out.at _ _ _ | with_reducible exact SM.out.at _ _ _ | with_reducible exact AW.out.at _ _ _))
      refine wpQuiet_nil ?_
      intro _ hw'
      obtain ⟨⟨dq, osq⟩, hw''⟩ := hw'
      subst hw''
      go_wp2_with fail
      go_ret
      exact ⟨rfl, bel_on h.out (below_regrown _ dq osq)⟩
  · have hsame : (!true && !r2) = false := rfl
    rw [hsame] at SM
    go_enter Try.func4, Try.ntmps4
    have h := Lib.hid (Below.refl w.heap.size w)
    clear bp HB
    have c_p0 := (Blk.new w [.int .u32 (p0 : Int), .int .u32 (p1 : Int), .int .u32 (p2 : Int), .int .u32 (p3 : Int)] 32).cell 0 rfl
    have c_p1 := (Blk.new w [.int .u32 (p0 : Int), .int .u32 (p1 : Int), .int .u32 (p2 : Int), .int .u32 (p3 : Int)] 32).cell 1 rfl
    have c_p2 := (Blk.new w [.int .u32 (p0 : Int), .int .u32 (p1 : Int), .int .u32 (p2 : Int), .int .u32 (p3 : Int)] 32).cell 2 rfl
    have c_p3 := (Blk.new w [.int .u32 (p0 : Int), .int .u32 (p1 : Int), .int .u32 (p2 : Int), .int .u32 (p3 : Int)] 32).cell 3 rfl
    go_wp2_with fail
    refine (BY.out _).mono ?_
    rintro e w1 ⟨rfl, hb⟩
    clear c_p0 c_p1 c_p2 c_p3
    have b_p : Blk w1 w.heap.size [.int .u32 (p0 : Int), .int .u32 (p1 : Int), .int .u32 (p2 : Int), .int .u32 (p3 : Int)] := (Blk.new w [.int .u32 (p0 : Int), .int .u32 (p1 : Int), .int .u32 (p2 : Int), .int .u32 (p3 : Int)] 32).on hb
    have h' := bel_on ((h.out).alloc (h.out).size _) hb
    clear hb h
    have B_p := Lib.hid b_p
    have h := Lib.hid h'
    clear h' b_p
    have c_p0 := B_p.out.cell 0 rfl
    have c_p1 := B_p.out.cell 1 rfl
    have c_p2 := B_p.out.cell 2 rfl
    have c_p3 := B_p.out.cell 3 rfl
    go_wp2_with fail
    refine (RB.out _).mono ?_
    rintro e w2 ⟨rfl, hb⟩
    clear c_p0 c_p1 c_p2 c_p3
    have b_p : Blk w2 w.heap.size [.int .u32 (p0 : Int), .int .u32 (p1 : Int), .int .u32 (p2 : Int), .int .u32 (p3 : Int)] := B_p.out.on hb
    have h' := bel_on h.out hb
    clear hb h B_p
    have B_p := Lib.hid b_p
    have h := Lib.hid h'
    clear h' b_p
    have c_p0 := (B_p.out.next (.cells #[.int .u32 (p0 : Int), .int .u32 (p1 : Int), .int .u32 (p2 : Int), .int .u32 (p3 : Int)] 32)).cell 0 rfl
    have c_p1 := (B_p.out.next (.cells #[.int .u32 (p0 : Int), .int .u32 (p1 : Int), .int .u32 (p2 : Int), .int .u32 (p3 : Int)] 32)).cell 1 rfl
    have c_p2 := (B_p.out.next (.cells #[.int .u32 (p0 : Int), .int .u32 (p1 : Int), .int .u32 (p2 : Int), .int .u32 (p3 : Int)] 32)).cell 2 rfl
    have c_p3 := (B_p.out.next (.cells #[.int .u32 (p0 : Int), .int .u32 (p1 : Int), .int .u32 (p2 : Int), .int .u32 (p3 : Int)] 32)).cell 3 rfl
    go_wp2_with fail
    refine (N1.out _).mono ?_
    rintro e w3 ⟨rfl, hb⟩
    clear c_p0 c_p1 c_p2 c_p3
    have b_p : Blk w3 w.heap.size [.int .u32 (p0 : Int), .int .u32 (p1 : Int), .int .u32 (p2 : Int), .int .u32 (p3 : Int)] := (B_p.out.next (.cells #[.int .u32 (p0 : Int), .int .u32 (p1 : Int), .int .u32 (p2 : Int), .int .u32 (p3 : Int)] 32)).on hb
    have b_q : Blk w3 w2.heap.size [.int .u32 (p0 : Int), .int .u32 (p1 : Int), .int .u32 (p2 : Int), .int .u32 (p3 : Int)] := (Blk.new w2 [.int .u32 (p0 : Int), .int .u32 (p1 : Int), .int .u32 (p2 : Int), .int .u32 (p3 : Int)] 32).on hb
    have h' := bel_on ((h.out).alloc (h.out).size _) hb
    clear hb h B_p
    have B_p := Lib.hid b_p
    have B_q := Lib.hid b_q
    have h := Lib.hid h'
    clear h' b_p b_q
    go_upto_region 5 with fail
    have c_p0 := cell_regrown (B_p.out.cell 0 rfl)
    have c_p1 := cell_regrown (B_p.out.cell 1 rfl)
    have c_p2 := cell_regrown (B_p.out.cell 2 rfl)
    have c_p3 := cell_regrown (B_p.out.cell 3 rfl)
    have c_q0 := cell_regrown (B_q.out.cell 0 rfl)
    have c_q1 := cell_regrown (B_q.out.cell 1 rfl)
    have c_q2 := cell_regrown (B_q.out.cell 2 rfl)
    have c_q3 := cell_regrown (B_q.out.cell 3 rfl)
    refine wp_region_quiet_below (by kernel_rfl) (by kernel_rfl) ?_
    repeat (first | go_big_quiet_step (first | with_reducible exact S1.out.at _ _ _ | with_reducible exact S2.out.at _ _ _ | with_reducible exact SM.out.at _ _ _ | with_reducible exact AW.out.at _ _ _) | quiet_step (first | with_reducible exact S1.out.at _ _ _ | with_reducible exact S2.out.at _ _ _ | with_reducible exact SM.out.at _ _ _ | with_reducible exact AW.out.at _ _ _))
    refine wpQuiet_nil ?_
    intro _ hw'
    obtain ⟨⟨dq, osq⟩, hw''⟩ := hw'
    subst hw''
    go_wp2_with fail
    go_ret
    exact ⟨rfl, bel_on h.out (below_regrown _ dq osq)⟩

set_option maxRecDepth 100000 in
theorem lifted (os : Os) (started : os.Started) (H : Type) (enc : TypeId × Value → H) :
    ReturnsInHanded {} Try.checked os 4 .any (Rows.epochBackSpec.pre6 enc Try.prog Try.f4 Rows.epochBackRow.domain false) (Rows.epochBackSpec.post enc Try.prog Try.f4 false true false false) := by
  refine returnsInHanded_of_change (C := Try.checked) own started (by kernel_rfl) Try.func4
    (ChangeSpec.witness6 (enc := enc) (C := Try.checked) false ⟨#[], #[.agg #[.int .u32 0, .int .u32 0, .int .u32 0, .int .u32 0], .string ByteArray.empty], []⟩ 8 (by kernel_rfl) (by kernel_rfl) (by kernel_rfl) (by kernel_rfl)) ?_
  intro W base args ds gs before hval0 hW hcnd _
  have hval : ∀ (j : Nat) t v, Try.f4.params[j]? = some t → args[j]? = some v → Value.okWide Try.prog W .any base t v := hval0
  have hW' := hW
  obtain ⟨p, q, hA0, hV, rfl, hfz, hnd⟩ := hW
  have hA : DataW.TrodAll enc Try.prog W 0 (fun _ => true) true Try.f4.params.toList args.toList ds p := hA0
  rw [Try.params4] at hA hval
  obtain ⟨v0, vs0, d0, ds0, p0, q0, hargs, rfl, rfl, h0, r0⟩ := trodAll_cons hA
  obtain ⟨v1, vs1, d1, ds1, p1, q1, rfl, rfl, rfl, h1, r1⟩ := trodAll_cons r0
  obtain ⟨rfl, rfl, rfl⟩ := trodAll_nil r1
  obtain rfl : args = #[v0, v1] := by cases args; simp_all
  obtain ⟨rfl, rfl⟩ := trodVars_none hV
  have k0 := h0
  have lt0 : ∀ x ∈ p0, x.block < W.heap.size := by obtain ⟨m, hm⟩ := k0; exact DataW.trod_lt m _ _ _ hm
  have k1 := h1
  have lt1 : ∀ x ∈ p1, x.block < W.heap.size := by obtain ⟨m, hm⟩ := k1; exact DataW.trod_lt m _ _ _ hm
  obtain ⟨p0, p1, p2, p3, rfl, hp0, hp1, hp2, hp3⟩ := open_pair Try.underlying32 Try.underlying24 rfl Try.underlying22 Try.underlying22 rfl rfl (by kernel_rfl) (by kernel_rfl) (by kernel_rfl) rfl rfl (by kernel_rfl) (hval 0 32 v0 rfl rfl) h0
  obtain ⟨s, rfl, _, _, hs⟩ := open_string Try.underlying9 (hval 1 9 v1 rfl rfl) h1
  clear hA0 hval0
  refine (walk p0 p1 p2 p3 s hp0 hp1 hp2 hp3 hs W).mono fun e W' ⟨he, bel⟩ => ?_
  subst he
  exact ⟨_, rfl, _, _, _, [], _, [], hW', trodAll_mk1 (shut_bool Try.underlying4 _),
    (trodAll_cons_mk (Below.trod laidOut (by kernel_rfl) (of_decide_eq_true (by kernel_rfl)) k0 bel lt0)
    (trodAll_cons_mk (Below.trod laidOut (by kernel_rfl) (of_decide_eq_true (by kernel_rfl)) k1 bel lt1)
    trodAll_mk0)), rfl, bel.frame _, fun h => by cases h⟩

theorem proved : Rows.EpochBackSaid :=
  OpenClaim.holds_of_wide 4 Try.f4 rfl rfl rfl rfl rfl rfl rfl ⟨rfl, rfl, rfl, rfl, rfl⟩ rfl rfl rfl rfl rfl (by kernel_rfl) Try.func4 (by kernel_rfl)
    (of_decide_eq_true (by kernel_rfl)) (by unfold Func.isWrapper; first | (rw [if_pos (by decide +kernel)]; kernel_rfl) | (rw [if_neg (by decide +kernel)]; exact ⟨rfl, rfl⟩))
    (fun os started H enc _ => lifted os started H enc)
end Go.Proofs.Ytkpobcffkjoilaa.epochBack
