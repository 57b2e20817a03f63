/- Contracts of package epoch, part C: Same. -/
import Derived.Test.YtkpobcffkjoilaaEpochA
import Derived.Test.YtkpobcffkjoilaaQuiet
namespace Go.Proofs.Ytkpobcffkjoilaa
open Go.RowKit Go.Sort

theorem same_eq (a b c d : Int) (w : World) :
    Calls Try.prog 13 #[(.agg #[.int .u32 a, .int .u32 b, .int .u32 c, .int .u32 d] : Value), (.agg #[.int .u32 c, .int .u32 d, .int .u32 a, .int .u32 b] : Value)] w fun e w' => e = .returned (.bool (!(a == 0 && b == 0) && !(c == 0 && d == 0))) ∧ Below w.heap.size w w' := by
  obtain ⟨r1, hr1⟩ : ∃ r, (a == 0 && b == 0) = r := ⟨_, rfl⟩
  obtain ⟨r2, hr2⟩ : ∃ r, (c == 0 && d == 0) = r := ⟨_, rfl⟩
  rw [hr1, hr2]
  have N1 : Hid (Gives Try.prog 11 #[(.agg #[.int .u32 a, .int .u32 b] : Value)] (.bool r1)) := hr1 ▸ Lib.hid (none_any a b)
  have N2 : Hid (Gives Try.prog 11 #[(.agg #[.int .u32 c, .int .u32 d] : Value)] (.bool r2)) := hr2 ▸ Lib.hid (none_any c d)
  have S1 : Hid (Gives Try.prog 12 #[(.agg #[.int .u32 c, .int .u32 d, .int .u32 a, .int .u32 b] : Value)] (.agg #[.int .u32 a, .int .u32 b, .int .u32 c, .int .u32 d] : Value)) := Lib.hid (swap_any c d a b)
  clear hr1 hr2
  have HB : Hid (Below w.heap.size w ((w.alloc (.cells #[.int .u32 a, .int .u32 b, .int .u32 c, .int .u32 d] 32)).alloc (.cells #[.int .u32 c, .int .u32 d, .int .u32 a, .int .u32 b] 32))) :=
    Lib.hid (((Below.refl _ _).alloc (Nat.le_refl _) _).alloc (by simp) _)
  have p := (Blk.new w [.int .u32 a, .int .u32 b, .int .u32 c, .int .u32 d] 32).next (.cells #[.int .u32 c, .int .u32 d, .int .u32 a, .int .u32 b] 32)
  have q := Blk.new (w.alloc (.cells #[.int .u32 a, .int .u32 b, .int .u32 c, .int .u32 d] 32)) [.int .u32 c, .int .u32 d, .int .u32 a, .int .u32 b] 32
  simp only [World.size_alloc] at q
  have p0 := cell_regrown (p.cell 0 rfl)
  have p1 := cell_regrown (p.cell 1 rfl)
  have p2 := cell_regrown (p.cell 2 rfl)
  have p3 := cell_regrown (p.cell 3 rfl)
  have q0 := cell_regrown (q.cell 0 rfl)
  have q1 := cell_regrown (q.cell 1 rfl)
  have q2 := cell_regrown (q.cell 2 rfl)
  have q3 := cell_regrown (q.cell 3 rfl)
  clear p q
  rcases r1 with _ | _
  · go_enter Try.func13, Try.ntmps13
    go_upto_region 1 with fail
    refine wp_region_quiet_below (by kernel_rfl) (by kernel_rfl) ?_
    repeat (first | go_big_quiet_step (first | with_reducible exact S1.out.at _ _ _ | with_reducible exact N1.out.at _ _ _ | with_reducible exact N2.out.at _ _ _) | quiet_step (first | with_reducible exact S1.out.at _ _ _ | with_reducible exact N1.out.at _ _ _ | with_reducible exact N2.out.at _ _ _))
    refine wpQuiet_nil ?_
    intro _ hw'
    obtain ⟨⟨dq, osq⟩, hw''⟩ := hw'
    subst hw''
    go_wp2
    go_ret
    exact ⟨rfl, bel_on HB.out (below_regrown _ dq osq)⟩
  · go_enter Try.func13, Try.ntmps13
    go_upto_region 1 with fail
    refine wp_region_quiet_below (by kernel_rfl) (by kernel_rfl) ?_
    repeat (first | go_big_quiet_step (first | with_reducible exact S1.out.at _ _ _ | with_reducible exact N1.out.at _ _ _ | with_reducible exact N2.out.at _ _ _) | quiet_step (first | with_reducible exact S1.out.at _ _ _ | with_reducible exact N1.out.at _ _ _ | with_reducible exact N2.out.at _ _ _))
    refine wpQuiet_nil ?_
    intro _ hw'
    obtain ⟨⟨dq, osq⟩, hw''⟩ := hw'
    subst hw''
    go_wp2
    go_ret
    exact ⟨rfl, bel_on HB.out (below_regrown _ dq osq)⟩

theorem same_ne (a b c d a' b' c' d' : Int) (h : ¬ (a = c' ∧ b = d' ∧ c = a' ∧ d = b')) (w : World) :
    Calls Try.prog 13 #[(.agg #[.int .u32 a, .int .u32 b, .int .u32 c, .int .u32 d] : Value), (.agg #[.int .u32 a', .int .u32 b', .int .u32 c', .int .u32 d'] : Value)] w fun e w' => e = .returned (.bool false) ∧ Below w.heap.size w w' := by
  have S1 : Hid (Gives Try.prog 12 #[(.agg #[.int .u32 a', .int .u32 b', .int .u32 c', .int .u32 d'] : Value)] (.agg #[.int .u32 c', .int .u32 d', .int .u32 a', .int .u32 b'] : Value)) := Lib.hid (swap_any a' b' c' d')
  have HB : Hid (Below w.heap.size w ((w.alloc (.cells #[.int .u32 a, .int .u32 b, .int .u32 c, .int .u32 d] 32)).alloc (.cells #[.int .u32 a', .int .u32 b', .int .u32 c', .int .u32 d'] 32))) :=
    Lib.hid (((Below.refl _ _).alloc (Nat.le_refl _) _).alloc (by simp) _)
  have p := (Blk.new w [.int .u32 a, .int .u32 b, .int .u32 c, .int .u32 d] 32).next (.cells #[.int .u32 a', .int .u32 b', .int .u32 c', .int .u32 d'] 32)
  have q := Blk.new (w.alloc (.cells #[.int .u32 a, .int .u32 b, .int .u32 c, .int .u32 d] 32)) [.int .u32 a', .int .u32 b', .int .u32 c', .int .u32 d'] 32
  simp only [World.size_alloc] at q
  have p0 := cell_regrown (p.cell 0 rfl)
  have p1 := cell_regrown (p.cell 1 rfl)
  have p2 := cell_regrown (p.cell 2 rfl)
  have p3 := cell_regrown (p.cell 3 rfl)
  have q0 := cell_regrown (q.cell 0 rfl)
  have q1 := cell_regrown (q.cell 1 rfl)
  have q2 := cell_regrown (q.cell 2 rfl)
  have q3 := cell_regrown (q.cell 3 rfl)
  clear p q
  by_cases h1 : a = c'
  · subst h1
    by_cases h2 : b = d'
    · subst h2
      by_cases h3 : c = a'
      · subst h3
        have h4 : ¬ d = b' := fun e => h ⟨rfl, rfl, rfl, e⟩
        clear h
        go_enter Try.func13, Try.ntmps13
        go_upto_region 1 with fail
        refine wp_region_quiet_below (by kernel_rfl) (by kernel_rfl) ?_
        repeat (first | go_big_quiet_step (first | with_reducible exact S1.out.at _ _ _) | quiet_step (first | with_reducible exact S1.out.at _ _ _))
        refine wpQuiet_nil ?_
        intro _ hw'
        obtain ⟨⟨dq, osq⟩, hw''⟩ := hw'
        subst hw''
        go_wp2
        go_ret
        exact ⟨rfl, bel_on HB.out (below_regrown _ dq osq)⟩
      · clear h
        go_enter Try.func13, Try.ntmps13
        go_upto_region 1 with fail
        refine wp_region_quiet_below (by kernel_rfl) (by kernel_rfl) ?_
        repeat (first | go_big_quiet_step (first | with_reducible exact S1.out.at _ _ _) | quiet_step (first | with_reducible exact S1.out.at _ _ _))
        refine wpQuiet_nil ?_
        intro _ hw'
        obtain ⟨⟨dq, osq⟩, hw''⟩ := hw'
        subst hw''
        go_wp2
        go_ret
        exact ⟨rfl, bel_on HB.out (below_regrown _ dq osq)⟩
    · clear h
      go_enter Try.func13, Try.ntmps13
      go_upto_region 1 with fail
      refine wp_region_quiet_below (by kernel_rfl) (by kernel_rfl) ?_
      repeat (first | go_big_quiet_step (first | with_reducible exact S1.out.at _ _ _) | quiet_step (first | with_reducible exact S1.out.at _ _ _))
      refine wpQuiet_nil ?_
      intro _ hw'
      obtain ⟨⟨dq, osq⟩, hw''⟩ := hw'
      subst hw''
      go_wp2
      go_ret
      exact ⟨rfl, bel_on HB.out (below_regrown _ dq osq)⟩
  · clear h
    go_enter Try.func13, Try.ntmps13
    go_upto_region 1 with fail
    refine wp_region_quiet_below (by kernel_rfl) (by kernel_rfl) ?_
    repeat (first | go_big_quiet_step (first | with_reducible exact S1.out.at _ _ _) | quiet_step (first | with_reducible exact S1.out.at _ _ _))
    refine wpQuiet_nil ?_
    intro _ hw'
    obtain ⟨⟨dq, osq⟩, hw''⟩ := hw'
    subst hw''
    go_wp2
    go_ret
    exact ⟨rfl, bel_on HB.out (below_regrown _ dq osq)⟩
end Go.Proofs.Ytkpobcffkjoilaa
