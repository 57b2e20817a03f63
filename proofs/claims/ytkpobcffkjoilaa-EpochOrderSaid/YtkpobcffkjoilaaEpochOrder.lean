/- EpochOrder: for every three epochs EpochOrder answers true and leaves its arguments as they were. No condition. -/
import Derived.Test.YtkpobcffkjoilaaRows
import Derived.Test.YtkpobcffkjoilaaEpochAw
import Derived.Test.YtkpobcffkjoilaaAggOpen
import Derived.ProofKit
import Derived.OpenShut
import Derived.ShutString
import Derived.ChangeOld
import Derived.Carry
namespace Go.Proofs.Ytkpobcffkjoilaa.epochOrder
open Go.Sort Go.ChangeShapes Go.WideShapes Go.ChangeAt Go.RowKit
open Go.ChangeMaps (open_string shut_string)

theorem own : ownKnob Try.prog.godebug = none := by kernel_rfl
theorem laidOut : laidOutB Try.prog = true := by kernel_rfl

theorem newer_tri (a0 a1 b0 b1 : Int) : ((a0 == b0) = true ∧ (a1 == b1) = true ∧ newerF a0 a1 b0 b1 = false ∧ newerF b0 b1 a0 a1 = false) ∨
    ((a0 == b0) = true ∧ (a1 == b1) = false ∧ newerF a0 a1 b0 b1 = true ∧ newerF b0 b1 a0 a1 = false) ∨ ((a0 == b0) = true ∧ (a1 == b1) = false ∧ newerF a0 a1 b0 b1 = false ∧ newerF b0 b1 a0 a1 = true) ∨
    ((a0 == b0) = false ∧ newerF a0 a1 b0 b1 = true ∧ newerF b0 b1 a0 a1 = false) ∨ ((a0 == b0) = false ∧ newerF a0 a1 b0 b1 = false ∧ newerF b0 b1 a0 a1 = true) := by
  by_cases h : a0 = b0
  · subst h
    rw [newer_same rfl, newer_same rfl]
    rcases Int.lt_trichotomy a1 b1 with h | h | h
    · right; right; left; simp; omega
    · left; simp; omega
    · right; left; simp; omega
  · rw [newer_other h, newer_other (fun e => h e.symm)]
    rcases Int.lt_trichotomy a0 b0 with h' | h' | h'
    · right; right; right; right; simp; omega
    · exact absurd h' h
    · right; right; right; left; simp; omega
theorem newer_trans {a0 a1 b0 b1 c0 c1 : Int} (h : newerF a0 a1 b0 b1 = true) (g : newerF b0 b1 c0 c1 = true) : newerF a0 a1 c0 c1 = true := by
  unfold newerF at *
  split at h <;> split at g <;> split <;> simp at * <;> omega

set_option maxRecDepth 100000 in
set_option maxHeartbeats 2000000 in
theorem walk (a0 a1 b0 b1 c0 c1 : Nat) (ha0 : a0 < 4294967296) (ha1 : a1 < 4294967296) (w : World) :
    Calls Try.prog 3 #[(.agg #[.int .u32 (a0 : Int), .int .u32 (a1 : Int)] : Value), (.agg #[.int .u32 (b0 : Int), .int .u32 (b1 : Int)] : Value), (.agg #[.int .u32 (c0 : Int), .int .u32 (c1 : Int)] : Value)] w fun e w' => e = .returned (.bool true) ∧ Below w.heap.size w w' := by
  have HB : Hid (Below w.heap.size w (((w.alloc (.cells #[.int .u32 (a0 : Int), .int .u32 (a1 : Int)] 24)).alloc (.cells #[.int .u32 (b0 : Int), .int .u32 (b1 : Int)] 24)).alloc (.cells #[.int .u32 (c0 : Int), .int .u32 (c1 : Int)] 24))) := Lib.hid ((((Below.refl _ _).alloc (Nat.le_refl _) _).alloc (by simp) _).alloc (by simp; omega) _)
  have p : Blk (((w.alloc (.cells #[.int .u32 (a0 : Int), .int .u32 (a1 : Int)] 24)).alloc (.cells #[.int .u32 (b0 : Int), .int .u32 (b1 : Int)] 24)).alloc (.cells #[.int .u32 (c0 : Int), .int .u32 (c1 : Int)] 24)) w.heap.size [.int .u32 (a0 : Int), .int .u32 (a1 : Int)] := ((Blk.new w [.int .u32 (a0 : Int), .int .u32 (a1 : Int)] 24).next _).next _
  have q : Blk (((w.alloc (.cells #[.int .u32 (a0 : Int), .int .u32 (a1 : Int)] 24)).alloc (.cells #[.int .u32 (b0 : Int), .int .u32 (b1 : Int)] 24)).alloc (.cells #[.int .u32 (c0 : Int), .int .u32 (c1 : Int)] 24)) (w.heap.size + 1) [.int .u32 (b0 : Int), .int .u32 (b1 : Int)] := (Blk.newAt (by simp only [World.size_alloc]) [.int .u32 (b0 : Int), .int .u32 (b1 : Int)] 24).next _
  have r : Blk (((w.alloc (.cells #[.int .u32 (a0 : Int), .int .u32 (a1 : Int)] 24)).alloc (.cells #[.int .u32 (b0 : Int), .int .u32 (b1 : Int)] 24)).alloc (.cells #[.int .u32 (c0 : Int), .int .u32 (c1 : Int)] 24)) (w.heap.size + 2) [.int .u32 (c0 : Int), .int .u32 (c1 : Int)] := Blk.newAt (by simp only [World.size_alloc]) [.int .u32 (c0 : Int), .int .u32 (c1 : Int)] 24
  have HP := Lib.hid p
  have HTRI := Lib.hid (newer_tri (a0 : Int) (a1 : Int) (b0 : Int) (b1 : Int))
  go_enter Try.func3, Try.ntmps3
  go_upto_region 1 with fail
  go_cut [50] (fun c wx => c = .bool false ∧ Blk wx w.heap.size [.int .u32 (a0 : Int), .int .u32 (a1 : Int)] ∧ Below w.heap.size w wx)
  case first =>
    have p0 := cell_regrown (p.cell 0 rfl)
    have p1 := cell_regrown (p.cell 1 rfl)
    have q0 := cell_regrown (q.cell 0 rfl)
    have q1 := cell_regrown (q.cell 1 rfl)
    have r0 := cell_regrown (r.cell 0 rfl)
    have r1 := cell_regrown (r.cell 1 rfl)
    clear p q r
    rcases HTRI.out with ⟨e0, e1, n1, n2⟩ | ⟨e0, e1, n1, n2⟩ | ⟨e0, e1, n1, n2⟩ | ⟨e0, n1, n2⟩ | ⟨e0, n1, n2⟩
    · clear HTRI
      have N1 : Hid (Gives Try.prog 5 #[(.agg #[.int .u32 (a0 : Int), .int .u32 (a1 : Int)] : Value), (.agg #[.int .u32 (b0 : Int), .int .u32 (b1 : Int)] : Value)] (.bool false)) := Lib.hid fun w => n1 ▸ newer_any _ _ _ _ w
      have N2 : Hid (Gives Try.prog 5 #[(.agg #[.int .u32 (b0 : Int), .int .u32 (b1 : Int)] : Value), (.agg #[.int .u32 (a0 : Int), .int .u32 (a1 : Int)] : Value)] (.bool false)) := Lib.hid fun w => n2 ▸ newer_any _ _ _ _ w
      clear n1 n2
      refine wp_region_quiet_below (by kernel_rfl) (by kernel_rfl) ?_
      repeat (first | go_big_quiet_step (first | with_reducible exact N1.out.at _ _ _ | with_reducible exact N2.out.at _ _ _) | quiet_step (first | with_reducible exact N1.out.at _ _ _ | with_reducible exact N2.out.at _ _ _))
      refine wpQuiet_nil ?_
      intro _ hw'
      obtain ⟨⟨dq, osq⟩, hw''⟩ := hw'
      subst hw''
      go_wp2
      go_meet
      exact ⟨rfl, HP.out.on (below_regrown _ dq osq), bel_on HB.out (below_regrown _ dq osq)⟩
    · clear HTRI
      have N1 : Hid (Gives Try.prog 5 #[(.agg #[.int .u32 (a0 : Int), .int .u32 (a1 : Int)] : Value), (.agg #[.int .u32 (b0 : Int), .int .u32 (b1 : Int)] : Value)] (.bool true)) := Lib.hid fun w => n1 ▸ newer_any _ _ _ _ w
      have N2 : Hid (Gives Try.prog 5 #[(.agg #[.int .u32 (b0 : Int), .int .u32 (b1 : Int)] : Value), (.agg #[.int .u32 (a0 : Int), .int .u32 (a1 : Int)] : Value)] (.bool false)) := Lib.hid fun w => n2 ▸ newer_any _ _ _ _ w
      obtain ⟨x3, n3⟩ : ∃ x, newerF (b0 : Int) (b1 : Int) (c0 : Int) (c1 : Int) = x := ⟨_, rfl⟩
      rcases x3 with _ | _
      · have N3 : Hid (Gives Try.prog 5 #[(.agg #[.int .u32 (b0 : Int), .int .u32 (b1 : Int)] : Value), (.agg #[.int .u32 (c0 : Int), .int .u32 (c1 : Int)] : Value)] (.bool false)) := Lib.hid fun w => n3 ▸ newer_any _ _ _ _ w
        clear n1 n2 n3
        refine wp_region_quiet_below (by kernel_rfl) (by kernel_rfl) ?_
        repeat (first | go_big_quiet_step (first | with_reducible exact N1.out.at _ _ _ | with_reducible exact N2.out.at _ _ _ | with_reducible exact N3.out.at _ _ _) | quiet_step (first | with_reducible exact N1.out.at _ _ _ | with_reducible exact N2.out.at _ _ _ | with_reducible exact N3.out.at _ _ _))
        refine wpQuiet_nil ?_
        intro _ hw'
        obtain ⟨⟨dq, osq⟩, hw''⟩ := hw'
        subst hw''
        go_wp2
        go_meet
        exact ⟨rfl, HP.out.on (below_regrown _ dq osq), bel_on HB.out (below_regrown _ dq osq)⟩
      · have n4 := newer_trans n1 n3
        have N3 : Hid (Gives Try.prog 5 #[(.agg #[.int .u32 (b0 : Int), .int .u32 (b1 : Int)] : Value), (.agg #[.int .u32 (c0 : Int), .int .u32 (c1 : Int)] : Value)] (.bool true)) := Lib.hid fun w => n3 ▸ newer_any _ _ _ _ w
        have N4 : Hid (Gives Try.prog 5 #[(.agg #[.int .u32 (a0 : Int), .int .u32 (a1 : Int)] : Value), (.agg #[.int .u32 (c0 : Int), .int .u32 (c1 : Int)] : Value)] (.bool true)) := Lib.hid fun w => n4 ▸ newer_any _ _ _ _ w
        clear n1 n2 n3 n4
        refine wp_region_quiet_below (by kernel_rfl) (by kernel_rfl) ?_
        repeat (first | go_big_quiet_step (first | with_reducible exact N1.out.at _ _ _ | with_reducible exact N2.out.at _ _ _ | with_reducible exact N3.out.at _ _ _ | with_reducible exact N4.out.at _ _ _) | quiet_step (first | with_reducible exact N1.out.at _ _ _ | with_reducible exact N2.out.at _ _ _ | with_reducible exact N3.out.at _ _ _ | with_reducible exact N4.out.at _ _ _))
        refine wpQuiet_nil ?_
        intro _ hw'
        obtain ⟨⟨dq, osq⟩, hw''⟩ := hw'
        subst hw''
        go_wp2
        go_meet
        exact ⟨rfl, HP.out.on (below_regrown _ dq osq), bel_on HB.out (below_regrown _ dq osq)⟩
    · clear HTRI
      have N1 : Hid (Gives Try.prog 5 #[(.agg #[.int .u32 (a0 : Int), .int .u32 (a1 : Int)] : Value), (.agg #[.int .u32 (b0 : Int), .int .u32 (b1 : Int)] : Value)] (.bool false)) := Lib.hid fun w => n1 ▸ newer_any _ _ _ _ w
      have N2 : Hid (Gives Try.prog 5 #[(.agg #[.int .u32 (b0 : Int), .int .u32 (b1 : Int)] : Value), (.agg #[.int .u32 (a0 : Int), .int .u32 (a1 : Int)] : Value)] (.bool true)) := Lib.hid fun w => n2 ▸ newer_any _ _ _ _ w
      clear n1 n2
      refine wp_region_quiet_below (by kernel_rfl) (by kernel_rfl) ?_
      repeat (first | go_big_quiet_step (first | with_reducible exact N1.out.at _ _ _ | with_reducible exact N2.out.at _ _ _) | quiet_step (first | with_reducible exact N1.out.at _ _ _ | with_reducible exact N2.out.at _ _ _))
      refine wpQuiet_nil ?_
      intro _ hw'
      obtain ⟨⟨dq, osq⟩, hw''⟩ := hw'
      subst hw''
      go_wp2
      go_meet
      exact ⟨rfl, HP.out.on (below_regrown _ dq osq), bel_on HB.out (below_regrown _ dq osq)⟩
    · clear HTRI
      have N1 : Hid (Gives Try.prog 5 #[(.agg #[.int .u32 (a0 : Int), .int .u32 (a1 : Int)] : Value), (.agg #[.int .u32 (b0 : Int), .int .u32 (b1 : Int)] : Value)] (.bool true)) := Lib.hid fun w => n1 ▸ newer_any _ _ _ _ w
      have N2 : Hid (Gives Try.prog 5 #[(.agg #[.int .u32 (b0 : Int), .int .u32 (b1 : Int)] : Value), (.agg #[.int .u32 (a0 : Int), .int .u32 (a1 : Int)] : Value)] (.bool false)) := Lib.hid fun w => n2 ▸ newer_any _ _ _ _ w
      obtain ⟨x3, n3⟩ : ∃ x, newerF (b0 : Int) (b1 : Int) (c0 : Int) (c1 : Int) = x := ⟨_, rfl⟩
      rcases x3 with _ | _
      · have N3 : Hid (Gives Try.prog 5 #[(.agg #[.int .u32 (b0 : Int), .int .u32 (b1 : Int)] : Value), (.agg #[.int .u32 (c0 : Int), .int .u32 (c1 : Int)] : Value)] (.bool false)) := Lib.hid fun w => n3 ▸ newer_any _ _ _ _ w
        clear n1 n2 n3
        refine wp_region_quiet_below (by kernel_rfl) (by kernel_rfl) ?_
        repeat (first | go_big_quiet_step (first | with_reducible exact N1.out.at _ _ _ | with_reducible exact N2.out.at _ _ _ | with_reducible exact N3.out.at _ _ _) | quiet_step (first | with_reducible exact N1.out.at _ _ _ | with_reducible exact N2.out.at _ _ _ | with_reducible exact N3.out.at _ _ _))
        refine wpQuiet_nil ?_
        intro _ hw'
        obtain ⟨⟨dq, osq⟩, hw''⟩ := hw'
        subst hw''
        go_wp2
        go_meet
        exact ⟨rfl, HP.out.on (below_regrown _ dq osq), bel_on HB.out (below_regrown _ dq osq)⟩
      · have n4 := newer_trans n1 n3
        have N3 : Hid (Gives Try.prog 5 #[(.agg #[.int .u32 (b0 : Int), .int .u32 (b1 : Int)] : Value), (.agg #[.int .u32 (c0 : Int), .int .u32 (c1 : Int)] : Value)] (.bool true)) := Lib.hid fun w => n3 ▸ newer_any _ _ _ _ w
        have N4 : Hid (Gives Try.prog 5 #[(.agg #[.int .u32 (a0 : Int), .int .u32 (a1 : Int)] : Value), (.agg #[.int .u32 (c0 : Int), .int .u32 (c1 : Int)] : Value)] (.bool true)) := Lib.hid fun w => n4 ▸ newer_any _ _ _ _ w
        clear n1 n2 n3 n4
        refine wp_region_quiet_below (by kernel_rfl) (by kernel_rfl) ?_
        repeat (first | go_big_quiet_step (first | with_reducible exact N1.out.at _ _ _ | with_reducible exact N2.out.at _ _ _ | with_reducible exact N3.out.at _ _ _ | with_reducible exact N4.out.at _ _ _) | quiet_step (first | with_reducible exact N1.out.at _ _ _ | with_reducible exact N2.out.at _ _ _ | with_reducible exact N3.out.at _ _ _ | with_reducible exact N4.out.at _ _ _))
        refine wpQuiet_nil ?_
        intro _ hw'
        obtain ⟨⟨dq, osq⟩, hw''⟩ := hw'
        subst hw''
        go_wp2
        go_meet
        exact ⟨rfl, HP.out.on (below_regrown _ dq osq), bel_on HB.out (below_regrown _ dq osq)⟩
    · clear HTRI
      have N1 : Hid (Gives Try.prog 5 #[(.agg #[.int .u32 (a0 : Int), .int .u32 (a1 : Int)] : Value), (.agg #[.int .u32 (b0 : Int), .int .u32 (b1 : Int)] : Value)] (.bool false)) := Lib.hid fun w => n1 ▸ newer_any _ _ _ _ w
      have N2 : Hid (Gives Try.prog 5 #[(.agg #[.int .u32 (b0 : Int), .int .u32 (b1 : Int)] : Value), (.agg #[.int .u32 (a0 : Int), .int .u32 (a1 : Int)] : Value)] (.bool true)) := Lib.hid fun w => n2 ▸ newer_any _ _ _ _ w
      clear n1 n2
      refine wp_region_quiet_below (by kernel_rfl) (by kernel_rfl) ?_
      repeat (first | go_big_quiet_step (first | with_reducible exact N1.out.at _ _ _ | with_reducible exact N2.out.at _ _ _) | quiet_step (first | with_reducible exact N1.out.at _ _ _ | with_reducible exact N2.out.at _ _ _))
      refine wpQuiet_nil ?_
      intro _ hw'
      obtain ⟨⟨dq, osq⟩, hw''⟩ := hw'
      subst hw''
      go_wp2
      go_meet
      exact ⟨rfl, HP.out.on (below_regrown _ dq osq), bel_on HB.out (below_regrown _ dq osq)⟩
  case rest =>
    obtain ⟨rfl, hbl, hbe⟩ := hcut
    have B_a := Lib.hid hbl
    have h := Lib.hid hbe
    clear hbl hbe HP HB HTRI p q r
    rcases Nat.lt_or_ge a1 4294967295 with hM | hM <;> rcases Nat.lt_or_ge a0 4294967295 with hR | hR
    · have NX : Hid (Gives Try.prog 6 #[(.agg #[.int .u32 (a0 : Int), .int .u32 (a1 : Int)] : Value)] (.tuple #[(.agg #[.int .u32 (a0 : Int), .int .u32 ((a1 : Int) + 1)] : Value), .int .i64 0])) := Lib.hid (next_ok (a0 : Int) (a1 : Int) (by omega) (by omega))
      have RB : Hid (Gives Try.prog 7 #[(.agg #[.int .u32 (a0 : Int), .int .u32 (a1 : Int)] : Value)] (.tuple #[(.agg #[.int .u32 ((a0 : Int) + 1), .int .u32 0] : Value), .int .i64 0])) := Lib.hid (reboot_ok (a0 : Int) (a1 : Int) (by omega) (by omega))
      have M1 : Hid (Gives Try.prog 5 #[(.agg #[.int .u32 (a0 : Int), .int .u32 ((a1 : Int) + 1)] : Value), (.agg #[.int .u32 (a0 : Int), .int .u32 (a1 : Int)] : Value)] (.bool true)) := Lib.hid fun w => (show newerF (a0 : Int) ((a1 : Int) + 1) (a0 : Int) (a1 : Int) = true by unfold newerF; split <;> (apply decide_eq_true; omega)) ▸ newer_any _ _ _ _ w
      have M2 : Hid (Gives Try.prog 5 #[(.agg #[.int .u32 ((a0 : Int) + 1), .int .u32 0] : Value), (.agg #[.int .u32 (a0 : Int), .int .u32 (a1 : Int)] : Value)] (.bool true)) := Lib.hid fun w => (show newerF ((a0 : Int) + 1) 0 (a0 : Int) (a1 : Int) = true by unfold newerF; split <;> (apply decide_eq_true; omega)) ▸ newer_any _ _ _ _ w
      have M3 : Hid (Gives Try.prog 5 #[(.agg #[.int .u32 ((a0 : Int) + 1), .int .u32 0] : Value), (.agg #[.int .u32 (a0 : Int), .int .u32 ((a1 : Int) + 1)] : Value)] (.bool true)) := Lib.hid fun w => (show newerF ((a0 : Int) + 1) 0 (a0 : Int) ((a1 : Int) + 1) = true by unfold newerF; split <;> (apply decide_eq_true; omega)) ▸ newer_any _ _ _ _ w
      have AW : Hid (Gives Try.prog 8 #[] (.bool true)) := Lib.hid eawake_any
      clear hM hR ha0 ha1
      have c_a0 := B_a.out.cell 0 rfl
      have c_a1 := B_a.out.cell 1 rfl
      go_wp2_with fail
      refine (NX.out _).mono ?_
      rintro e w1 ⟨rfl, hb⟩
      clear c_a0 c_a1
      have b_a : Blk w1 w.heap.size [.int .u32 (a0 : Int), .int .u32 (a1 : Int)] := B_a.out.on hb
      have h' := bel_on h.out hb
      clear hb h B_a
      have B_a := Lib.hid b_a
      have h := Lib.hid h'
      clear h' b_a
      have c_a0 := (B_a.out.next (.cells #[.int .u32 (a0 : Int), .int .u32 ((a1 : Int) + 1)] 24)).cell 0 rfl
      have c_a1 := (B_a.out.next (.cells #[.int .u32 (a0 : Int), .int .u32 ((a1 : Int) + 1)] 24)).cell 1 rfl
      go_wp2_with fail
      refine (RB.out _).mono ?_
      rintro e w2 ⟨rfl, hb⟩
      clear c_a0 c_a1
      have b_a : Blk w2 w.heap.size [.int .u32 (a0 : Int), .int .u32 (a1 : Int)] := (B_a.out.next (.cells #[.int .u32 (a0 : Int), .int .u32 ((a1 : Int) + 1)] 24)).on hb
      have b_n : Blk w2 w1.heap.size [.int .u32 (a0 : Int), .int .u32 ((a1 : Int) + 1)] := (Blk.new w1 [.int .u32 (a0 : Int), .int .u32 ((a1 : Int) + 1)] 24).on hb
      have h' := bel_on ((h.out).alloc (h.out).size _) hb
      clear hb h B_a
      have B_a := Lib.hid b_a
      have B_n := Lib.hid b_n
      have h := Lib.hid h'
      clear h' b_a b_n
      have c_a0 := (B_a.out.next (.cells #[.int .u32 ((a0 : Int) + 1), .int .u32 0] 24)).cell 0 rfl
      have c_a1 := (B_a.out.next (.cells #[.int .u32 ((a0 : Int) + 1), .int .u32 0] 24)).cell 1 rfl
      have c_n0 := (B_n.out.next (.cells #[.int .u32 ((a0 : Int) + 1), .int .u32 0] 24)).cell 0 rfl
      have c_n1 := (B_n.out.next (.cells #[.int .u32 ((a0 : Int) + 1), .int .u32 0] 24)).cell 1 rfl
      have c_r0 := (Blk.new w2 [.int .u32 ((a0 : Int) + 1), .int .u32 0] 24).cell 0 rfl
      have c_r1 := (Blk.new w2 [.int .u32 ((a0 : Int) + 1), .int .u32 0] 24).cell 1 rfl
      go_wp2_with fail
      refine (M1.out _).mono ?_
      rintro e w3 ⟨rfl, hb⟩
      clear c_a0 c_a1 c_n0 c_n1 c_r0 c_r1
      have b_a : Blk w3 w.heap.size [.int .u32 (a0 : Int), .int .u32 (a1 : Int)] := (B_a.out.next (.cells #[.int .u32 ((a0 : Int) + 1), .int .u32 0] 24)).on hb
      have b_n : Blk w3 w1.heap.size [.int .u32 (a0 : Int), .int .u32 ((a1 : Int) + 1)] := (B_n.out.next (.cells #[.int .u32 ((a0 : Int) + 1), .int .u32 0] 24)).on hb
      have b_r : Blk w3 w2.heap.size [.int .u32 ((a0 : Int) + 1), .int .u32 0] := (Blk.new w2 [.int .u32 ((a0 : Int) + 1), .int .u32 0] 24).on hb
      have h' := bel_on ((h.out).alloc (h.out).size _) hb
      clear hb h B_a B_n
      have B_a := Lib.hid b_a
      have B_n := Lib.hid b_n
      have B_r := Lib.hid b_r
      have h := Lib.hid h'
      clear h' b_a b_n b_r
      have c_a0 := B_a.out.cell 0 rfl
      have c_a1 := B_a.out.cell 1 rfl
      have c_n0 := B_n.out.cell 0 rfl
      have c_n1 := B_n.out.cell 1 rfl
      have c_r0 := B_r.out.cell 0 rfl
      have c_r1 := B_r.out.cell 1 rfl
      go_wp2_with fail
      refine (M2.out _).mono ?_
      rintro e w4 ⟨rfl, hb⟩
      clear c_a0 c_a1 c_n0 c_n1 c_r0 c_r1
      have b_a : Blk w4 w.heap.size [.int .u32 (a0 : Int), .int .u32 (a1 : Int)] := B_a.out.on hb
      have b_n : Blk w4 w1.heap.size [.int .u32 (a0 : Int), .int .u32 ((a1 : Int) + 1)] := B_n.out.on hb
      have b_r : Blk w4 w2.heap.size [.int .u32 ((a0 : Int) + 1), .int .u32 0] := B_r.out.on hb
      have h' := bel_on h.out hb
      clear hb h B_a B_n B_r
      have B_a := Lib.hid b_a
      have B_n := Lib.hid b_n
      have B_r := Lib.hid b_r
      have h := Lib.hid h'
      clear h' b_a b_n b_r
      have c_a0 := B_a.out.cell 0 rfl
      have c_a1 := B_a.out.cell 1 rfl
      have c_n0 := B_n.out.cell 0 rfl
      have c_n1 := B_n.out.cell 1 rfl
      have c_r0 := B_r.out.cell 0 rfl
      have c_r1 := B_r.out.cell 1 rfl
      go_wp2_with fail
      refine (M3.out _).mono ?_
      rintro e w5 ⟨rfl, hb⟩
      clear c_a0 c_a1 c_n0 c_n1 c_r0 c_r1
      have b_a : Blk w5 w.heap.size [.int .u32 (a0 : Int), .int .u32 (a1 : Int)] := B_a.out.on hb
      have b_n : Blk w5 w1.heap.size [.int .u32 (a0 : Int), .int .u32 ((a1 : Int) + 1)] := B_n.out.on hb
      have b_r : Blk w5 w2.heap.size [.int .u32 ((a0 : Int) + 1), .int .u32 0] := B_r.out.on hb
      have h' := bel_on h.out hb
      clear hb h B_a B_n B_r
      have B_a := Lib.hid b_a
      have B_n := Lib.hid b_n
      have B_r := Lib.hid b_r
      have h := Lib.hid h'
      clear h' b_a b_n b_r
      have c_a0 := B_a.out.cell 0 rfl
      have c_a1 := B_a.out.cell 1 rfl
      have c_n0 := B_n.out.cell 0 rfl
      have c_n1 := B_n.out.cell 1 rfl
      have c_r0 := B_r.out.cell 0 rfl
      have c_r1 := B_r.out.cell 1 rfl
      go_wp2_with fail
      refine (AW.out _).mono ?_
      rintro e w6 ⟨rfl, hb⟩
      clear c_a0 c_a1 c_n0 c_n1 c_r0 c_r1
      have b_a : Blk w6 w.heap.size [.int .u32 (a0 : Int), .int .u32 (a1 : Int)] := B_a.out.on hb
      have b_n : Blk w6 w1.heap.size [.int .u32 (a0 : Int), .int .u32 ((a1 : Int) + 1)] := B_n.out.on hb
      have b_r : Blk w6 w2.heap.size [.int .u32 ((a0 : Int) + 1), .int .u32 0] := B_r.out.on hb
      have h' := bel_on h.out hb
      clear hb h B_a B_n B_r
      have B_a := Lib.hid b_a
      have B_n := Lib.hid b_n
      have B_r := Lib.hid b_r
      have h := Lib.hid h'
      clear h' b_a b_n b_r
      go_wp2_with fail
      go_ret
      exact ⟨rfl, h.out⟩
    · have NX : Hid (Gives Try.prog 6 #[(.agg #[.int .u32 (a0 : Int), .int .u32 (a1 : Int)] : Value)] (.tuple #[(.agg #[.int .u32 (a0 : Int), .int .u32 ((a1 : Int) + 1)] : Value), .int .i64 0])) := Lib.hid (next_ok (a0 : Int) (a1 : Int) (by omega) (by omega))
      have RB : Hid (Gives Try.prog 7 #[(.agg #[.int .u32 (a0 : Int), .int .u32 (a1 : Int)] : Value)] (.tuple #[(.agg #[.int .u32 0, .int .u32 0] : Value), .int .i64 11])) := Lib.hid (reboot_wrap (a0 : Int) (a1 : Int) (by omega))
      have M1 : Hid (Gives Try.prog 5 #[(.agg #[.int .u32 (a0 : Int), .int .u32 ((a1 : Int) + 1)] : Value), (.agg #[.int .u32 (a0 : Int), .int .u32 (a1 : Int)] : Value)] (.bool true)) := Lib.hid fun w => (show newerF (a0 : Int) ((a1 : Int) + 1) (a0 : Int) (a1 : Int) = true by unfold newerF; split <;> (apply decide_eq_true; omega)) ▸ newer_any _ _ _ _ w
      have AW : Hid (Gives Try.prog 8 #[] (.bool true)) := Lib.hid eawake_any
      clear hM hR ha0 ha1
      have c_a0 := B_a.out.cell 0 rfl
      have c_a1 := B_a.out.cell 1 rfl
      go_wp2_with fail
      refine (NX.out _).mono ?_
      rintro e w1 ⟨rfl, hb⟩
      clear c_a0 c_a1
      have b_a : Blk w1 w.heap.size [.int .u32 (a0 : Int), .int .u32 (a1 : Int)] := B_a.out.on hb
      have h' := bel_on h.out hb
      clear hb h B_a
      have B_a := Lib.hid b_a
      have h := Lib.hid h'
      clear h' b_a
      have c_a0 := (B_a.out.next (.cells #[.int .u32 (a0 : Int), .int .u32 ((a1 : Int) + 1)] 24)).cell 0 rfl
      have c_a1 := (B_a.out.next (.cells #[.int .u32 (a0 : Int), .int .u32 ((a1 : Int) + 1)] 24)).cell 1 rfl
      go_wp2_with fail
      refine (RB.out _).mono ?_
      rintro e w2 ⟨rfl, hb⟩
      clear c_a0 c_a1
      have b_a : Blk w2 w.heap.size [.int .u32 (a0 : Int), .int .u32 (a1 : Int)] := (B_a.out.next (.cells #[.int .u32 (a0 : Int), .int .u32 ((a1 : Int) + 1)] 24)).on hb
      have b_n : Blk w2 w1.heap.size [.int .u32 (a0 : Int), .int .u32 ((a1 : Int) + 1)] := (Blk.new w1 [.int .u32 (a0 : Int), .int .u32 ((a1 : Int) + 1)] 24).on hb
      have h' := bel_on ((h.out).alloc (h.out).size _) hb
      clear hb h B_a
      have B_a := Lib.hid b_a
      have B_n := Lib.hid b_n
      have h := Lib.hid h'
      clear h' b_a b_n
      have c_a0 := (B_a.out.next (.cells #[.int .u32 0, .int .u32 0] 24)).cell 0 rfl
      have c_a1 := (B_a.out.next (.cells #[.int .u32 0, .int .u32 0] 24)).cell 1 rfl
      have c_n0 := (B_n.out.next (.cells #[.int .u32 0, .int .u32 0] 24)).cell 0 rfl
      have c_n1 := (B_n.out.next (.cells #[.int .u32 0, .int .u32 0] 24)).cell 1 rfl
      have c_r0 := (Blk.new w2 [.int .u32 0, .int .u32 0] 24).cell 0 rfl
      have c_r1 := (Blk.new w2 [.int .u32 0, .int .u32 0] 24).cell 1 rfl
      go_wp2_with fail
      refine (M1.out _).mono ?_
      rintro e w3 ⟨rfl, hb⟩
      clear c_a0 c_a1 c_n0 c_n1 c_r0 c_r1
      have b_a : Blk w3 w.heap.size [.int .u32 (a0 : Int), .int .u32 (a1 : Int)] := (B_a.out.next (.cells #[.int .u32 0, .int .u32 0] 24)).on hb
      have b_n : Blk w3 w1.heap.size [.int .u32 (a0 : Int), .int .u32 ((a1 : Int) + 1)] := (B_n.out.next (.cells #[.int .u32 0, .int .u32 0] 24)).on hb
      have b_r : Blk w3 w2.heap.size [.int .u32 0, .int .u32 0] := (Blk.new w2 [.int .u32 0, .int .u32 0] 24).on hb
      have h' := bel_on ((h.out).alloc (h.out).size _) hb
      clear hb h B_a B_n
      have B_a := Lib.hid b_a
      have B_n := Lib.hid b_n
      have B_r := Lib.hid b_r
      have h := Lib.hid h'
      clear h' b_a b_n b_r
      have c_a0 := B_a.out.cell 0 rfl
      have c_a1 := B_a.out.cell 1 rfl
      have c_n0 := B_n.out.cell 0 rfl
      have c_n1 := B_n.out.cell 1 rfl
      have c_r0 := B_r.out.cell 0 rfl
      have c_r1 := B_r.out.cell 1 rfl
      go_wp2_with fail
      refine (AW.out _).mono ?_
      rintro e w4 ⟨rfl, hb⟩
      clear c_a0 c_a1 c_n0 c_n1 c_r0 c_r1
      have b_a : Blk w4 w.heap.size [.int .u32 (a0 : Int), .int .u32 (a1 : Int)] := B_a.out.on hb
      have b_n : Blk w4 w1.heap.size [.int .u32 (a0 : Int), .int .u32 ((a1 : Int) + 1)] := B_n.out.on hb
      have b_r : Blk w4 w2.heap.size [.int .u32 0, .int .u32 0] := B_r.out.on hb
      have h' := bel_on h.out hb
      clear hb h B_a B_n B_r
      have B_a := Lib.hid b_a
      have B_n := Lib.hid b_n
      have B_r := Lib.hid b_r
      have h := Lib.hid h'
      clear h' b_a b_n b_r
      go_wp2_with fail
      go_ret
      exact ⟨rfl, h.out⟩
    · have NX : Hid (Gives Try.prog 6 #[(.agg #[.int .u32 (a0 : Int), .int .u32 (a1 : Int)] : Value)] (.tuple #[(.agg #[.int .u32 0, .int .u32 0] : Value), .int .i64 11])) := Lib.hid (next_wrap (a0 : Int) (a1 : Int) (by omega))
      have RB : Hid (Gives Try.prog 7 #[(.agg #[.int .u32 (a0 : Int), .int .u32 (a1 : Int)] : Value)] (.tuple #[(.agg #[.int .u32 ((a0 : Int) + 1), .int .u32 0] : Value), .int .i64 0])) := Lib.hid (reboot_ok (a0 : Int) (a1 : Int) (by omega) (by omega))
      have M2 : Hid (Gives Try.prog 5 #[(.agg #[.int .u32 ((a0 : Int) + 1), .int .u32 0] : Value), (.agg #[.int .u32 (a0 : Int), .int .u32 (a1 : Int)] : Value)] (.bool true)) := Lib.hid fun w => (show newerF ((a0 : Int) + 1) 0 (a0 : Int) (a1 : Int) = true by unfold newerF; split <;> (apply decide_eq_true; omega)) ▸ newer_any _ _ _ _ w
      have AW : Hid (Gives Try.prog 8 #[] (.bool true)) := Lib.hid eawake_any
      clear hM hR ha0 ha1
      have c_a0 := B_a.out.cell 0 rfl
      have c_a1 := B_a.out.cell 1 rfl
      go_wp2_with fail
      refine (NX.out _).mono ?_
      rintro e w1 ⟨rfl, hb⟩
      clear c_a0 c_a1
      have b_a : Blk w1 w.heap.size [.int .u32 (a0 : Int), .int .u32 (a1 : Int)] := B_a.out.on hb
      have h' := bel_on h.out hb
      clear hb h B_a
      have B_a := Lib.hid b_a
      have h := Lib.hid h'
      clear h' b_a
      have c_a0 := (B_a.out.next (.cells #[.int .u32 0, .int .u32 0] 24)).cell 0 rfl
      have c_a1 := (B_a.out.next (.cells #[.int .u32 0, .int .u32 0] 24)).cell 1 rfl
      go_wp2_with fail
      refine (RB.out _).mono ?_
      rintro e w2 ⟨rfl, hb⟩
      clear c_a0 c_a1
      have b_a : Blk w2 w.heap.size [.int .u32 (a0 : Int), .int .u32 (a1 : Int)] := (B_a.out.next (.cells #[.int .u32 0, .int .u32 0] 24)).on hb
      have b_n : Blk w2 w1.heap.size [.int .u32 0, .int .u32 0] := (Blk.new w1 [.int .u32 0, .int .u32 0] 24).on hb
      have h' := bel_on ((h.out).alloc (h.out).size _) hb
      clear hb h B_a
      have B_a := Lib.hid b_a
      have B_n := Lib.hid b_n
      have h := Lib.hid h'
      clear h' b_a b_n
      have c_a0 := (B_a.out.next (.cells #[.int .u32 ((a0 : Int) + 1), .int .u32 0] 24)).cell 0 rfl
      have c_a1 := (B_a.out.next (.cells #[.int .u32 ((a0 : Int) + 1), .int .u32 0] 24)).cell 1 rfl
      have c_n0 := (B_n.out.next (.cells #[.int .u32 ((a0 : Int) + 1), .int .u32 0] 24)).cell 0 rfl
      have c_n1 := (B_n.out.next (.cells #[.int .u32 ((a0 : Int) + 1), .int .u32 0] 24)).cell 1 rfl
      have c_r0 := (Blk.new w2 [.int .u32 ((a0 : Int) + 1), .int .u32 0] 24).cell 0 rfl
      have c_r1 := (Blk.new w2 [.int .u32 ((a0 : Int) + 1), .int .u32 0] 24).cell 1 rfl
      go_wp2_with fail
      refine (M2.out _).mono ?_
      rintro e w3 ⟨rfl, hb⟩
      clear c_a0 c_a1 c_n0 c_n1 c_r0 c_r1
      have b_a : Blk w3 w.heap.size [.int .u32 (a0 : Int), .int .u32 (a1 : Int)] := (B_a.out.next (.cells #[.int .u32 ((a0 : Int) + 1), .int .u32 0] 24)).on hb
      have b_n : Blk w3 w1.heap.size [.int .u32 0, .int .u32 0] := (B_n.out.next (.cells #[.int .u32 ((a0 : Int) + 1), .int .u32 0] 24)).on hb
      have b_r : Blk w3 w2.heap.size [.int .u32 ((a0 : Int) + 1), .int .u32 0] := (Blk.new w2 [.int .u32 ((a0 : Int) + 1), .int .u32 0] 24).on hb
      have h' := bel_on ((h.out).alloc (h.out).size _) hb
      clear hb h B_a B_n
      have B_a := Lib.hid b_a
      have B_n := Lib.hid b_n
      have B_r := Lib.hid b_r
      have h := Lib.hid h'
      clear h' b_a b_n b_r
      have c_a0 := B_a.out.cell 0 rfl
      have c_a1 := B_a.out.cell 1 rfl
      have c_n0 := B_n.out.cell 0 rfl
      have c_n1 := B_n.out.cell 1 rfl
      have c_r0 := B_r.out.cell 0 rfl
      have c_r1 := B_r.out.cell 1 rfl
      go_wp2_with fail
      refine (AW.out _).mono ?_
      rintro e w4 ⟨rfl, hb⟩
      clear c_a0 c_a1 c_n0 c_n1 c_r0 c_r1
      have b_a : Blk w4 w.heap.size [.int .u32 (a0 : Int), .int .u32 (a1 : Int)] := B_a.out.on hb
      have b_n : Blk w4 w1.heap.size [.int .u32 0, .int .u32 0] := B_n.out.on hb
      have b_r : Blk w4 w2.heap.size [.int .u32 ((a0 : Int) + 1), .int .u32 0] := B_r.out.on hb
      have h' := bel_on h.out hb
      clear hb h B_a B_n B_r
      have B_a := Lib.hid b_a
      have B_n := Lib.hid b_n
      have B_r := Lib.hid b_r
      have h := Lib.hid h'
      clear h' b_a b_n b_r
      go_wp2_with fail
      go_ret
      exact ⟨rfl, h.out⟩
    · have NX : Hid (Gives Try.prog 6 #[(.agg #[.int .u32 (a0 : Int), .int .u32 (a1 : Int)] : Value)] (.tuple #[(.agg #[.int .u32 0, .int .u32 0] : Value), .int .i64 11])) := Lib.hid (next_wrap (a0 : Int) (a1 : Int) (by omega))
      have RB : Hid (Gives Try.prog 7 #[(.agg #[.int .u32 (a0 : Int), .int .u32 (a1 : Int)] : Value)] (.tuple #[(.agg #[.int .u32 0, .int .u32 0] : Value), .int .i64 11])) := Lib.hid (reboot_wrap (a0 : Int) (a1 : Int) (by omega))
      have AW : Hid (Gives Try.prog 8 #[] (.bool true)) := Lib.hid eawake_any
      clear hM hR ha0 ha1
      have c_a0 := B_a.out.cell 0 rfl
      have c_a1 := B_a.out.cell 1 rfl
      go_wp2_with fail
      refine (NX.out _).mono ?_
      rintro e w1 ⟨rfl, hb⟩
      clear c_a0 c_a1
      have b_a : Blk w1 w.heap.size [.int .u32 (a0 : Int), .int .u32 (a1 : Int)] := B_a.out.on hb
      have h' := bel_on h.out hb
      clear hb h B_a
      have B_a := Lib.hid b_a
      have h := Lib.hid h'
      clear h' b_a
      have c_a0 := (B_a.out.next (.cells #[.int .u32 0, .int .u32 0] 24)).cell 0 rfl
      have c_a1 := (B_a.out.next (.cells #[.int .u32 0, .int .u32 0] 24)).cell 1 rfl
      go_wp2_with fail
      refine (RB.out _).mono ?_
      rintro e w2 ⟨rfl, hb⟩
      clear c_a0 c_a1
      have b_a : Blk w2 w.heap.size [.int .u32 (a0 : Int), .int .u32 (a1 : Int)] := (B_a.out.next (.cells #[.int .u32 0, .int .u32 0] 24)).on hb
      have b_n : Blk w2 w1.heap.size [.int .u32 0, .int .u32 0] := (Blk.new w1 [.int .u32 0, .int .u32 0] 24).on hb
      have h' := bel_on ((h.out).alloc (h.out).size _) hb
      clear hb h B_a
      have B_a := Lib.hid b_a
      have B_n := Lib.hid b_n
      have h := Lib.hid h'
      clear h' b_a b_n
      have c_a0 := (B_a.out.next (.cells #[.int .u32 0, .int .u32 0] 24)).cell 0 rfl
      have c_a1 := (B_a.out.next (.cells #[.int .u32 0, .int .u32 0] 24)).cell 1 rfl
      have c_n0 := (B_n.out.next (.cells #[.int .u32 0, .int .u32 0] 24)).cell 0 rfl
      have c_n1 := (B_n.out.next (.cells #[.int .u32 0, .int .u32 0] 24)).cell 1 rfl
      have c_r0 := (Blk.new w2 [.int .u32 0, .int .u32 0] 24).cell 0 rfl
      have c_r1 := (Blk.new w2 [.int .u32 0, .int .u32 0] 24).cell 1 rfl
      go_wp2_with fail
      refine (AW.out _).mono ?_
      rintro e w3 ⟨rfl, hb⟩
      clear c_a0 c_a1 c_n0 c_n1 c_r0 c_r1
      have b_a : Blk w3 w.heap.size [.int .u32 (a0 : Int), .int .u32 (a1 : Int)] := (B_a.out.next (.cells #[.int .u32 0, .int .u32 0] 24)).on hb
      have b_n : Blk w3 w1.heap.size [.int .u32 0, .int .u32 0] := (B_n.out.next (.cells #[.int .u32 0, .int .u32 0] 24)).on hb
      have b_r : Blk w3 w2.heap.size [.int .u32 0, .int .u32 0] := (Blk.new w2 [.int .u32 0, .int .u32 0] 24).on hb
      have h' := bel_on ((h.out).alloc (h.out).size _) hb
      clear hb h B_a B_n
      have B_a := Lib.hid b_a
      have B_n := Lib.hid b_n
      have B_r := Lib.hid b_r
      have h := Lib.hid h'
      clear h' b_a b_n b_r
      go_wp2_with fail
      go_ret
      exact ⟨rfl, h.out⟩

set_option maxRecDepth 100000 in
theorem lifted (os : Os) (started : os.Started) (H : Type) (enc : TypeId × Value → H) :
    ReturnsInHanded {} Try.checked os 3 .any (Rows.epochOrderSpec.pre6 enc Try.prog Try.f3 Rows.epochOrderRow.domain false) (Rows.epochOrderSpec.post enc Try.prog Try.f3 false true false false) := by
  refine returnsInHanded_of_change (C := Try.checked) own started (by kernel_rfl) Try.func3
    (ChangeSpec.witness6 (enc := enc) (C := Try.checked) false ⟨#[], #[.agg #[.int .u32 0, .int .u32 0], .agg #[.int .u32 0, .int .u32 0], .agg #[.int .u32 0, .int .u32 0]], []⟩ 8 (by kernel_rfl) (by kernel_rfl) (by kernel_rfl) (by kernel_rfl)) ?_
  intro W base args ds gs before hval0 hW hcnd _
  have hval : ∀ (j : Nat) t v, Try.f3.params[j]? = some t → args[j]? = some v → Value.okWide Try.prog W .any base t v := hval0
  have hW' := hW
  obtain ⟨p, q, hA0, hV, rfl, hfz, hnd⟩ := hW
  have hA : DataW.TrodAll enc Try.prog W 0 (fun _ => true) true Try.f3.params.toList args.toList ds p := hA0
  rw [Try.params3] at hA hval
  obtain ⟨v0, vs0, d0, ds0, p0, q0, hargs, rfl, rfl, h0, r0⟩ := trodAll_cons hA
  obtain ⟨v1, vs1, d1, ds1, p1, q1, rfl, rfl, rfl, h1, r1⟩ := trodAll_cons r0
  obtain ⟨v2, vs2, d2, ds2, p2, q2, rfl, rfl, rfl, h2, r2⟩ := trodAll_cons r1
  obtain ⟨rfl, rfl, rfl⟩ := trodAll_nil r2
  obtain rfl : args = #[v0, v1, v2] := by cases args; simp_all
  obtain ⟨rfl, rfl⟩ := trodVars_none hV
  have k0 := h0
  have lt0 : ∀ x ∈ p0, x.block < W.heap.size := by obtain ⟨m, hm⟩ := k0; exact DataW.trod_lt m _ _ _ hm
  have k1 := h1
  have lt1 : ∀ x ∈ p1, x.block < W.heap.size := by obtain ⟨m, hm⟩ := k1; exact DataW.trod_lt m _ _ _ hm
  have k2 := h2
  have lt2 : ∀ x ∈ p2, x.block < W.heap.size := by obtain ⟨m, hm⟩ := k2; exact DataW.trod_lt m _ _ _ hm
  obtain ⟨a0, a1, rfl, ha0, ha1⟩ := open_epoch Try.underlying24 Try.underlying22 Try.underlying22 rfl rfl (by kernel_rfl) (by kernel_rfl) (by kernel_rfl) (hval 0 24 v0 rfl rfl) h0
  obtain ⟨b0, b1, rfl, hb0, hb1⟩ := open_epoch Try.underlying24 Try.underlying22 Try.underlying22 rfl rfl (by kernel_rfl) (by kernel_rfl) (by kernel_rfl) (hval 1 24 v1 rfl rfl) h1
  obtain ⟨c0, c1, rfl, hc0, hc1⟩ := open_epoch Try.underlying24 Try.underlying22 Try.underlying22 rfl rfl (by kernel_rfl) (by kernel_rfl) (by kernel_rfl) (hval 2 24 v2 rfl rfl) h2
  clear hA0 hval0
  refine (walk a0 a1 b0 b1 c0 c1 ha0 ha1 W).mono fun e W' ⟨he, bel⟩ => ?_
  subst he
  exact ⟨_, rfl, _, _, _, [], _, [], hW', trodAll_mk1 (shut_bool Try.underlying4 _),
    (trodAll_cons_mk (Below.trod laidOut (by kernel_rfl) (of_decide_eq_true (by kernel_rfl)) k0 bel lt0)
    (trodAll_cons_mk (Below.trod laidOut (by kernel_rfl) (of_decide_eq_true (by kernel_rfl)) k1 bel lt1)
    (trodAll_cons_mk (Below.trod laidOut (by kernel_rfl) (of_decide_eq_true (by kernel_rfl)) k2 bel lt2)
    trodAll_mk0))), rfl, bel.frame _, fun h => by cases h⟩

theorem proved : Rows.EpochOrderSaid :=
  OpenClaim.holds_of_wide 3 Try.f3 rfl rfl rfl rfl rfl rfl rfl ⟨rfl, rfl, rfl, rfl, rfl⟩ rfl rfl rfl rfl rfl (by kernel_rfl) Try.func3 (by kernel_rfl)
    (of_decide_eq_true (by kernel_rfl)) (by unfold Func.isWrapper; first | (rw [if_pos (by decide +kernel)]; kernel_rfl) | (rw [if_neg (by decide +kernel)]; exact ⟨rfl, rfl⟩))
    (fun os started H enc _ => lifted os started H enc)
end Go.Proofs.Ytkpobcffkjoilaa.epochOrder
