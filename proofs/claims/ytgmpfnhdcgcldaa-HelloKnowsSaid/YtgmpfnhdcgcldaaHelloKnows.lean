/- HelloKnows: for all two hellos and every epoch HelloKnows answers true and leaves its arguments as they were. No condition. -/
import Derived.Test.YtgmpfnhdcgcldaaRows
import Derived.Test.YtgmpfnhdcgcldaaHelloF
import Derived.Test.YtgmpfnhdcgcldaaHelloOpen
import Derived.ProofKit
import Derived.OpenShut
import Derived.ShutString
import Derived.ChangeOld
import Derived.Carry
namespace Go.Proofs.Ytgmpfnhdcgcldaa.helloKnows
open Go.Sort Go.ChangeShapes Go.WideShapes Go.ChangeAt Go.RowKit
open Go.ChangeMaps (open_string shut_string)

theorem own : ownKnob Try.prog.godebug = none := by kernel_rfl
theorem laidOut : laidOutB Try.prog = true := by kernel_rfl

set_option maxRecDepth 100000 in
set_option maxHeartbeats 2000000 in
theorem walk (af : Int) (a0 a1 a2 a3 : Nat) (bf : Int) (b0 b1 b2 b3 : Nat) (m0 m1 : Nat) (w : World) :
    Calls Try.prog 5 #[(.agg #[.int .i64 af, .int .u32 (a0 : Int), .int .u32 (a1 : Int), .int .u32 (a2 : Int), .int .u32 (a3 : Int)] : Value), (.agg #[.int .i64 bf, .int .u32 (b0 : Int), .int .u32 (b1 : Int), .int .u32 (b2 : Int), .int .u32 (b3 : Int)] : Value), (.agg #[.int .u32 (m0 : Int), .int .u32 (m1 : Int)] : Value)] w fun e w' => e = .returned (.bool true) ∧ Below w.heap.size w w' := by
  obtain ⟨k, hk⟩ : ∃ k, knowsF a2 a3 m0 m1 = k := ⟨_, rfl⟩
  obtain ⟨z, hz⟩ : ∃ z, ((a2 : Int) == 0 && (a3 : Int) == 0) = z := ⟨_, rfl⟩
  obtain ⟨g, hg⟩ : ∃ g, answersF af a0 a1 a2 a3 bf b0 b1 b2 b3 = g := ⟨_, rfl⟩
  have KY : Hid (Gives Try.prog 13 #[(.agg #[.int .i64 af, .int .u32 (a0 : Int), .int .u32 (a1 : Int), .int .u32 (a2 : Int), .int .u32 (a3 : Int)] : Value), (.agg #[.int .u32 (m0 : Int), .int .u32 (m1 : Int)] : Value)] (.int .i64 k)) := hk ▸ Lib.hid (knows_any af a0 a1 a2 a3 m0 m1)
  have KZ : Hid (Gives Try.prog 14 #[(.agg #[.int .i64 af, .int .u32 (a0 : Int), .int .u32 (a1 : Int), .int .u32 (a2 : Int), .int .u32 (a3 : Int)] : Value), (.agg #[.int .u32 (m0 : Int), .int .u32 (m1 : Int)] : Value)] (.int .i64 k)) := hk ▸ Lib.hid (rknows_any af a0 a1 a2 a3 m0 m1)
  have GY : Hid (Gives Try.prog 15 #[(.agg #[.int .i64 af, .int .u32 (a0 : Int), .int .u32 (a1 : Int), .int .u32 (a2 : Int), .int .u32 (a3 : Int)] : Value), (.agg #[.int .i64 bf, .int .u32 (b0 : Int), .int .u32 (b1 : Int), .int .u32 (b2 : Int), .int .u32 (b3 : Int)] : Value)] (.bool g)) := hg ▸ Lib.hid (answers_any af a0 a1 a2 a3 bf b0 b1 b2 b3)
  have GZ : Hid (Gives Try.prog 16 #[(.agg #[.int .i64 af, .int .u32 (a0 : Int), .int .u32 (a1 : Int), .int .u32 (a2 : Int), .int .u32 (a3 : Int)] : Value), (.agg #[.int .i64 bf, .int .u32 (b0 : Int), .int .u32 (b1 : Int), .int .u32 (b2 : Int), .int .u32 (b3 : Int)] : Value)] (.bool g)) := hg ▸ Lib.hid (ranswers_any af a0 a1 a2 a3 bf b0 b1 b2 b3)
  have NO : Hid (Gives Try.prog 17 #[(.agg #[.int .u32 (a2 : Int), .int .u32 (a3 : Int)] : Value)] (.bool z)) := hz ▸ Lib.hid (none_any a2 a3)
  have AW : Hid (Gives Try.prog 6 #[] (.bool true)) := Lib.hid hawake_any
  obtain ⟨k1, k2, k3⟩ := knows_fits (a2 : Int) a3 m0 m1
  rw [hk] at k1 k2 k3
  rw [hz] at k3
  have HG := Lib.hid (fun h : g = true => answers_knows (hg.trans h))
  clear hk hz hg
  rcases z with _ | _
  · rcases g with _ | _
    · clear HG
      go_enter Try.func5, Try.ntmps5
      have h := Lib.hid (Below.refl w.heap.size w)
      go_wp2_with fail
      refine (KY.out _).mono ?_
      rintro e w1 ⟨rfl, hb⟩
      have b_a : Blk w1 w.heap.size [.int .i64 af, .int .u32 (a0 : Int), .int .u32 (a1 : Int), .int .u32 (a2 : Int), .int .u32 (a3 : Int)] := (((Blk.new w [.int .i64 af, .int .u32 (a0 : Int), .int .u32 (a1 : Int), .int .u32 (a2 : Int), .int .u32 (a3 : Int)] 28).next (.cells #[.int .i64 bf, .int .u32 (b0 : Int), .int .u32 (b1 : Int), .int .u32 (b2 : Int), .int .u32 (b3 : Int)] 28)).next (.cells #[.int .u32 (m0 : Int), .int .u32 (m1 : Int)] 24)).on hb
      have b_b : Blk w1 (w.heap.size + 1) [.int .i64 bf, .int .u32 (b0 : Int), .int .u32 (b1 : Int), .int .u32 (b2 : Int), .int .u32 (b3 : Int)] := ((Blk.newAt (b := (w.heap.size + 1)) (w := (World.alloc w (.cells #[.int .i64 af, .int .u32 (a0 : Int), .int .u32 (a1 : Int), .int .u32 (a2 : Int), .int .u32 (a3 : Int)] 28))) (by simp only [World.size_alloc]) [.int .i64 bf, .int .u32 (b0 : Int), .int .u32 (b1 : Int), .int .u32 (b2 : Int), .int .u32 (b3 : Int)] 28).next (.cells #[.int .u32 (m0 : Int), .int .u32 (m1 : Int)] 24)).on hb
      have b_m : Blk w1 (w.heap.size + 2) [.int .u32 (m0 : Int), .int .u32 (m1 : Int)] := (Blk.newAt (b := (w.heap.size + 2)) (w := (World.alloc (World.alloc w (.cells #[.int .i64 af, .int .u32 (a0 : Int), .int .u32 (a1 : Int), .int .u32 (a2 : Int), .int .u32 (a3 : Int)] 28)) (.cells #[.int .i64 bf, .int .u32 (b0 : Int), .int .u32 (b1 : Int), .int .u32 (b2 : Int), .int .u32 (b3 : Int)] 28))) (by simp only [World.size_alloc]) [.int .u32 (m0 : Int), .int .u32 (m1 : Int)] 24).on hb
      have h' := bel_on ((((((h.out).alloc (h.out).size _)).alloc (((h.out).alloc (h.out).size _)).size _)).alloc (((((h.out).alloc (h.out).size _)).alloc (((h.out).alloc (h.out).size _)).size _)).size _) hb
      clear hb h
      have B_a := Lib.hid b_a
      have B_b := Lib.hid b_b
      have B_m := Lib.hid b_m
      have h := Lib.hid h'
      clear h' b_a b_b b_m
      go_upto_region 2 with fail
      have c_a0 := cell_regrown (B_a.out.cell 0 rfl)
      have c_a1 := cell_regrown (B_a.out.cell 1 rfl)
      have c_a2 := cell_regrown (B_a.out.cell 2 rfl)
      have c_a3 := cell_regrown (B_a.out.cell 3 rfl)
      have c_a4 := cell_regrown (B_a.out.cell 4 rfl)
      have c_b0 := cell_regrown (B_b.out.cell 0 rfl)
      have c_b1 := cell_regrown (B_b.out.cell 1 rfl)
      have c_b2 := cell_regrown (B_b.out.cell 2 rfl)
      have c_b3 := cell_regrown (B_b.out.cell 3 rfl)
      have c_b4 := cell_regrown (B_b.out.cell 4 rfl)
      have c_m0 := cell_regrown (B_m.out.cell 0 rfl)
      have c_m1 := cell_regrown (B_m.out.cell 1 rfl)
      refine wp_region_quiet_below (by kernel_rfl) (by kernel_rfl) ?_
      repeat (first | go_big_quiet_step (first | with_reducible exact KZ.out.at _ _ _ | with_reducible exact GY.out.at _ _ _ | with_reducible exact GZ.out.at _ _ _ | with_reducible exact NO.out.at _ _ _) | quiet_step (first | with_reducible exact KZ.out.at _ _ _ | with_reducible exact GY.out.at _ _ _ | with_reducible exact GZ.out.at _ _ _ | with_reducible exact NO.out.at _ _ _))
      refine wpQuiet_nil ?_
      intro _ hw'
      obtain ⟨⟨dq, osq⟩, hw''⟩ := hw'
      subst hw''
      have hb : Below w1.heap.size w1 (grow (redrawn w1 dq) osq) := below_regrown _ dq osq
      clear c_a0 c_a1 c_a2 c_a3 c_a4 c_b0 c_b1 c_b2 c_b3 c_b4 c_m0 c_m1
      have h' := bel_on h.out hb
      have b_a : Blk (grow (redrawn w1 dq) osq) w.heap.size [.int .i64 af, .int .u32 (a0 : Int), .int .u32 (a1 : Int), .int .u32 (a2 : Int), .int .u32 (a3 : Int)] := B_a.out.on hb
      have b_b : Blk (grow (redrawn w1 dq) osq) (w.heap.size + 1) [.int .i64 bf, .int .u32 (b0 : Int), .int .u32 (b1 : Int), .int .u32 (b2 : Int), .int .u32 (b3 : Int)] := B_b.out.on hb
      obtain ⟨w2, hw2⟩ : ∃ w2, (grow (redrawn w1 dq) osq) = w2 := ⟨_, rfl⟩
      rw [hw2] at h' b_a b_b ⊢
      clear hb h hw2 B_a B_b B_m
      have B_a := Lib.hid b_a
      have B_b := Lib.hid b_b
      have h := Lib.hid h'
      clear h' b_a b_b
      have c_a0 := B_a.out.cell 0 rfl
      have c_a1 := B_a.out.cell 1 rfl
      have c_a2 := B_a.out.cell 2 rfl
      have c_a3 := B_a.out.cell 3 rfl
      have c_a4 := B_a.out.cell 4 rfl
      have c_b0 := B_b.out.cell 0 rfl
      have c_b1 := B_b.out.cell 1 rfl
      have c_b2 := B_b.out.cell 2 rfl
      have c_b3 := B_b.out.cell 3 rfl
      have c_b4 := B_b.out.cell 4 rfl
      go_wp2_with fail
      refine (GY.out _).mono ?_
      rintro e w3 ⟨rfl, hb⟩
      clear c_a0 c_a1 c_a2 c_a3 c_a4 c_b0 c_b1 c_b2 c_b3 c_b4
      have b_a : Blk w3 w.heap.size [.int .i64 af, .int .u32 (a0 : Int), .int .u32 (a1 : Int), .int .u32 (a2 : Int), .int .u32 (a3 : Int)] := B_a.out.on hb
      have b_b : Blk w3 (w.heap.size + 1) [.int .i64 bf, .int .u32 (b0 : Int), .int .u32 (b1 : Int), .int .u32 (b2 : Int), .int .u32 (b3 : Int)] := B_b.out.on hb
      have h' := bel_on h.out hb
      clear hb h B_a B_b
      have B_a := Lib.hid b_a
      have B_b := Lib.hid b_b
      have h := Lib.hid h'
      clear h' b_a b_b
      go_wp2_with fail
      refine (AW.out _).mono ?_
      rintro e w4 ⟨rfl, hb⟩
      have b_a : Blk w4 w.heap.size [.int .i64 af, .int .u32 (a0 : Int), .int .u32 (a1 : Int), .int .u32 (a2 : Int), .int .u32 (a3 : Int)] := B_a.out.on hb
      have b_b : Blk w4 (w.heap.size + 1) [.int .i64 bf, .int .u32 (b0 : Int), .int .u32 (b1 : Int), .int .u32 (b2 : Int), .int .u32 (b3 : Int)] := B_b.out.on hb
      have h' := bel_on h.out hb
      clear hb h B_a B_b
      have B_a := Lib.hid b_a
      have B_b := Lib.hid b_b
      have h := Lib.hid h'
      clear h' b_a b_b
      go_wp2_with fail
      go_ret
      exact ⟨rfl, h.out⟩
    · obtain ⟨hr, hn, h3⟩ := HG.out rfl
      have KB : Hid (Gives Try.prog 13 #[(.agg #[.int .i64 bf, .int .u32 (b0 : Int), .int .u32 (b1 : Int), .int .u32 (b2 : Int), .int .u32 (b3 : Int)] : Value), (.agg #[.int .u32 (a0 : Int), .int .u32 (a1 : Int)] : Value)] (.int .i64 3)) := Lib.hid (fun w => by have := knows_any bf b0 b1 b2 b3 a0 a1 w; rw [h3] at this; exact this)
      have RA : Hid (Gives Try.prog 11 #[(.agg #[.int .i64 af, .int .u32 (a0 : Int), .int .u32 (a1 : Int), .int .u32 (a2 : Int), .int .u32 (a3 : Int)] : Value)] (.bool true)) := Lib.hid (fun w => by have := hright_any af a0 a1 a2 a3 w; rw [hr] at this; exact this)
      clear HG hr h3
      go_enter Try.func5, Try.ntmps5
      have h := Lib.hid (Below.refl w.heap.size w)
      go_wp2_with fail
      refine (KY.out _).mono ?_
      rintro e w1 ⟨rfl, hb⟩
      have b_a : Blk w1 w.heap.size [.int .i64 af, .int .u32 (a0 : Int), .int .u32 (a1 : Int), .int .u32 (a2 : Int), .int .u32 (a3 : Int)] := (((Blk.new w [.int .i64 af, .int .u32 (a0 : Int), .int .u32 (a1 : Int), .int .u32 (a2 : Int), .int .u32 (a3 : Int)] 28).next (.cells #[.int .i64 bf, .int .u32 (b0 : Int), .int .u32 (b1 : Int), .int .u32 (b2 : Int), .int .u32 (b3 : Int)] 28)).next (.cells #[.int .u32 (m0 : Int), .int .u32 (m1 : Int)] 24)).on hb
      have b_b : Blk w1 (w.heap.size + 1) [.int .i64 bf, .int .u32 (b0 : Int), .int .u32 (b1 : Int), .int .u32 (b2 : Int), .int .u32 (b3 : Int)] := ((Blk.newAt (b := (w.heap.size + 1)) (w := (World.alloc w (.cells #[.int .i64 af, .int .u32 (a0 : Int), .int .u32 (a1 : Int), .int .u32 (a2 : Int), .int .u32 (a3 : Int)] 28))) (by simp only [World.size_alloc]) [.int .i64 bf, .int .u32 (b0 : Int), .int .u32 (b1 : Int), .int .u32 (b2 : Int), .int .u32 (b3 : Int)] 28).next (.cells #[.int .u32 (m0 : Int), .int .u32 (m1 : Int)] 24)).on hb
      have b_m : Blk w1 (w.heap.size + 2) [.int .u32 (m0 : Int), .int .u32 (m1 : Int)] := (Blk.newAt (b := (w.heap.size + 2)) (w := (World.alloc (World.alloc w (.cells #[.int .i64 af, .int .u32 (a0 : Int), .int .u32 (a1 : Int), .int .u32 (a2 : Int), .int .u32 (a3 : Int)] 28)) (.cells #[.int .i64 bf, .int .u32 (b0 : Int), .int .u32 (b1 : Int), .int .u32 (b2 : Int), .int .u32 (b3 : Int)] 28))) (by simp only [World.size_alloc]) [.int .u32 (m0 : Int), .int .u32 (m1 : Int)] 24).on hb
      have h' := bel_on ((((((h.out).alloc (h.out).size _)).alloc (((h.out).alloc (h.out).size _)).size _)).alloc (((((h.out).alloc (h.out).size _)).alloc (((h.out).alloc (h.out).size _)).size _)).size _) hb
      clear hb h
      have B_a := Lib.hid b_a
      have B_b := Lib.hid b_b
      have B_m := Lib.hid b_m
      have h := Lib.hid h'
      clear h' b_a b_b b_m
      go_upto_region 2 with fail
      have c_a0 := cell_regrown (B_a.out.cell 0 rfl)
      have c_a1 := cell_regrown (B_a.out.cell 1 rfl)
      have c_a2 := cell_regrown (B_a.out.cell 2 rfl)
      have c_a3 := cell_regrown (B_a.out.cell 3 rfl)
      have c_a4 := cell_regrown (B_a.out.cell 4 rfl)
      have c_b0 := cell_regrown (B_b.out.cell 0 rfl)
      have c_b1 := cell_regrown (B_b.out.cell 1 rfl)
      have c_b2 := cell_regrown (B_b.out.cell 2 rfl)
      have c_b3 := cell_regrown (B_b.out.cell 3 rfl)
      have c_b4 := cell_regrown (B_b.out.cell 4 rfl)
      have c_m0 := cell_regrown (B_m.out.cell 0 rfl)
      have c_m1 := cell_regrown (B_m.out.cell 1 rfl)
      refine wp_region_quiet_below (by kernel_rfl) (by kernel_rfl) ?_
      repeat (first | go_big_quiet_step (first | with_reducible exact KZ.out.at _ _ _ | with_reducible exact GY.out.at _ _ _ | with_reducible exact GZ.out.at _ _ _ | with_reducible exact NO.out.at _ _ _) | quiet_step (first | with_reducible exact KZ.out.at _ _ _ | with_reducible exact GY.out.at _ _ _ | with_reducible exact GZ.out.at _ _ _ | with_reducible exact NO.out.at _ _ _))
      refine wpQuiet_nil ?_
      intro _ hw'
      obtain ⟨⟨dq, osq⟩, hw''⟩ := hw'
      subst hw''
      have hb : Below w1.heap.size w1 (grow (redrawn w1 dq) osq) := below_regrown _ dq osq
      clear c_a0 c_a1 c_a2 c_a3 c_a4 c_b0 c_b1 c_b2 c_b3 c_b4 c_m0 c_m1
      have h' := bel_on h.out hb
      have b_a : Blk (grow (redrawn w1 dq) osq) w.heap.size [.int .i64 af, .int .u32 (a0 : Int), .int .u32 (a1 : Int), .int .u32 (a2 : Int), .int .u32 (a3 : Int)] := B_a.out.on hb
      have b_b : Blk (grow (redrawn w1 dq) osq) (w.heap.size + 1) [.int .i64 bf, .int .u32 (b0 : Int), .int .u32 (b1 : Int), .int .u32 (b2 : Int), .int .u32 (b3 : Int)] := B_b.out.on hb
      obtain ⟨w2, hw2⟩ : ∃ w2, (grow (redrawn w1 dq) osq) = w2 := ⟨_, rfl⟩
      rw [hw2] at h' b_a b_b ⊢
      clear hb h hw2 B_a B_b B_m
      have B_a := Lib.hid b_a
      have B_b := Lib.hid b_b
      have h := Lib.hid h'
      clear h' b_a b_b
      have c_a0 := B_a.out.cell 0 rfl
      have c_a1 := B_a.out.cell 1 rfl
      have c_a2 := B_a.out.cell 2 rfl
      have c_a3 := B_a.out.cell 3 rfl
      have c_a4 := B_a.out.cell 4 rfl
      have c_b0 := B_b.out.cell 0 rfl
      have c_b1 := B_b.out.cell 1 rfl
      have c_b2 := B_b.out.cell 2 rfl
      have c_b3 := B_b.out.cell 3 rfl
      have c_b4 := B_b.out.cell 4 rfl
      go_wp2_with fail
      refine (GY.out _).mono ?_
      rintro e w3 ⟨rfl, hb⟩
      clear c_a0 c_a1 c_a2 c_a3 c_a4 c_b0 c_b1 c_b2 c_b3 c_b4
      have b_a : Blk w3 w.heap.size [.int .i64 af, .int .u32 (a0 : Int), .int .u32 (a1 : Int), .int .u32 (a2 : Int), .int .u32 (a3 : Int)] := B_a.out.on hb
      have b_b : Blk w3 (w.heap.size + 1) [.int .i64 bf, .int .u32 (b0 : Int), .int .u32 (b1 : Int), .int .u32 (b2 : Int), .int .u32 (b3 : Int)] := B_b.out.on hb
      have h' := bel_on h.out hb
      clear hb h B_a B_b
      have B_a := Lib.hid b_a
      have B_b := Lib.hid b_b
      have h := Lib.hid h'
      clear h' b_a b_b
      have c_b0 := B_b.out.cell 0 rfl
      have c_b1 := B_b.out.cell 1 rfl
      have c_b2 := B_b.out.cell 2 rfl
      have c_b3 := B_b.out.cell 3 rfl
      have c_b4 := B_b.out.cell 4 rfl
      have c_a1 := B_a.out.cell 1 rfl
      have c_a2 := B_a.out.cell 2 rfl
      go_wp2_with fail
      refine (KB.out _).mono ?_
      rintro e w4 ⟨rfl, hb⟩
      clear c_b0 c_b1 c_b2 c_b3 c_b4 c_a1 c_a2
      have b_a : Blk w4 w.heap.size [.int .i64 af, .int .u32 (a0 : Int), .int .u32 (a1 : Int), .int .u32 (a2 : Int), .int .u32 (a3 : Int)] := B_a.out.on hb
      have b_b : Blk w4 (w.heap.size + 1) [.int .i64 bf, .int .u32 (b0 : Int), .int .u32 (b1 : Int), .int .u32 (b2 : Int), .int .u32 (b3 : Int)] := B_b.out.on hb
      have h' := bel_on h.out hb
      clear hb h B_a B_b
      have B_a := Lib.hid b_a
      have B_b := Lib.hid b_b
      have h := Lib.hid h'
      clear h' b_a b_b
      have c_a0 := B_a.out.cell 0 rfl
      have c_a1 := B_a.out.cell 1 rfl
      have c_a2 := B_a.out.cell 2 rfl
      have c_a3 := B_a.out.cell 3 rfl
      have c_a4 := B_a.out.cell 4 rfl
      have c_b0 := B_b.out.cell 0 rfl
      go_wp2_with fail
      refine (RA.out _).mono ?_
      rintro e w5 ⟨rfl, hb⟩
      clear c_a0 c_a1 c_a2 c_a3 c_a4 c_b0
      have b_a : Blk w5 w.heap.size [.int .i64 af, .int .u32 (a0 : Int), .int .u32 (a1 : Int), .int .u32 (a2 : Int), .int .u32 (a3 : Int)] := B_a.out.on hb
      have b_b : Blk w5 (w.heap.size + 1) [.int .i64 bf, .int .u32 (b0 : Int), .int .u32 (b1 : Int), .int .u32 (b2 : Int), .int .u32 (b3 : Int)] := B_b.out.on hb
      have h' := bel_on h.out hb
      clear hb h B_a B_b
      have B_a := Lib.hid b_a
      have B_b := Lib.hid b_b
      have h := Lib.hid h'
      clear h' b_a b_b
      go_wp2_with fail
      refine (AW.out _).mono ?_
      rintro e w6 ⟨rfl, hb⟩
      have b_a : Blk w6 w.heap.size [.int .i64 af, .int .u32 (a0 : Int), .int .u32 (a1 : Int), .int .u32 (a2 : Int), .int .u32 (a3 : Int)] := B_a.out.on hb
      have b_b : Blk w6 (w.heap.size + 1) [.int .i64 bf, .int .u32 (b0 : Int), .int .u32 (b1 : Int), .int .u32 (b2 : Int), .int .u32 (b3 : Int)] := B_b.out.on hb
      have h' := bel_on h.out hb
      clear hb h B_a B_b
      have B_a := Lib.hid b_a
      have B_b := Lib.hid b_b
      have h := Lib.hid h'
      clear h' b_a b_b
      go_wp2_with fail
      go_ret
      exact ⟨rfl, h.out⟩
  · rcases g with _ | _
    · clear HG
      go_enter Try.func5, Try.ntmps5
      have h := Lib.hid (Below.refl w.heap.size w)
      go_wp2_with fail
      refine (KY.out _).mono ?_
      rintro e w1 ⟨rfl, hb⟩
      have b_a : Blk w1 w.heap.size [.int .i64 af, .int .u32 (a0 : Int), .int .u32 (a1 : Int), .int .u32 (a2 : Int), .int .u32 (a3 : Int)] := (((Blk.new w [.int .i64 af, .int .u32 (a0 : Int), .int .u32 (a1 : Int), .int .u32 (a2 : Int), .int .u32 (a3 : Int)] 28).next (.cells #[.int .i64 bf, .int .u32 (b0 : Int), .int .u32 (b1 : Int), .int .u32 (b2 : Int), .int .u32 (b3 : Int)] 28)).next (.cells #[.int .u32 (m0 : Int), .int .u32 (m1 : Int)] 24)).on hb
      have b_b : Blk w1 (w.heap.size + 1) [.int .i64 bf, .int .u32 (b0 : Int), .int .u32 (b1 : Int), .int .u32 (b2 : Int), .int .u32 (b3 : Int)] := ((Blk.newAt (b := (w.heap.size + 1)) (w := (World.alloc w (.cells #[.int .i64 af, .int .u32 (a0 : Int), .int .u32 (a1 : Int), .int .u32 (a2 : Int), .int .u32 (a3 : Int)] 28))) (by simp only [World.size_alloc]) [.int .i64 bf, .int .u32 (b0 : Int), .int .u32 (b1 : Int), .int .u32 (b2 : Int), .int .u32 (b3 : Int)] 28).next (.cells #[.int .u32 (m0 : Int), .int .u32 (m1 : Int)] 24)).on hb
      have b_m : Blk w1 (w.heap.size + 2) [.int .u32 (m0 : Int), .int .u32 (m1 : Int)] := (Blk.newAt (b := (w.heap.size + 2)) (w := (World.alloc (World.alloc w (.cells #[.int .i64 af, .int .u32 (a0 : Int), .int .u32 (a1 : Int), .int .u32 (a2 : Int), .int .u32 (a3 : Int)] 28)) (.cells #[.int .i64 bf, .int .u32 (b0 : Int), .int .u32 (b1 : Int), .int .u32 (b2 : Int), .int .u32 (b3 : Int)] 28))) (by simp only [World.size_alloc]) [.int .u32 (m0 : Int), .int .u32 (m1 : Int)] 24).on hb
      have h' := bel_on ((((((h.out).alloc (h.out).size _)).alloc (((h.out).alloc (h.out).size _)).size _)).alloc (((((h.out).alloc (h.out).size _)).alloc (((h.out).alloc (h.out).size _)).size _)).size _) hb
      clear hb h
      have B_a := Lib.hid b_a
      have B_b := Lib.hid b_b
      have B_m := Lib.hid b_m
      have h := Lib.hid h'
      clear h' b_a b_b b_m
      go_upto_region 2 with fail
      have c_a0 := cell_regrown (B_a.out.cell 0 rfl)
      have c_a1 := cell_regrown (B_a.out.cell 1 rfl)
      have c_a2 := cell_regrown (B_a.out.cell 2 rfl)
      have c_a3 := cell_regrown (B_a.out.cell 3 rfl)
      have c_a4 := cell_regrown (B_a.out.cell 4 rfl)
      have c_b0 := cell_regrown (B_b.out.cell 0 rfl)
      have c_b1 := cell_regrown (B_b.out.cell 1 rfl)
      have c_b2 := cell_regrown (B_b.out.cell 2 rfl)
      have c_b3 := cell_regrown (B_b.out.cell 3 rfl)
      have c_b4 := cell_regrown (B_b.out.cell 4 rfl)
      have c_m0 := cell_regrown (B_m.out.cell 0 rfl)
      have c_m1 := cell_regrown (B_m.out.cell 1 rfl)
      refine wp_region_quiet_below (by kernel_rfl) (by kernel_rfl) ?_
      repeat (first | go_big_quiet_step (first | with_reducible exact KZ.out.at _ _ _ | with_reducible exact GY.out.at _ _ _ | with_reducible exact GZ.out.at _ _ _ | with_reducible exact NO.out.at _ _ _) | quiet_step (first | with_reducible exact KZ.out.at _ _ _ | with_reducible exact GY.out.at _ _ _ | with_reducible exact GZ.out.at _ _ _ | with_reducible exact NO.out.at _ _ _))
      refine wpQuiet_nil ?_
      intro _ hw'
      obtain ⟨⟨dq, osq⟩, hw''⟩ := hw'
      subst hw''
      have hb : Below w1.heap.size w1 (grow (redrawn w1 dq) osq) := below_regrown _ dq osq
      clear c_a0 c_a1 c_a2 c_a3 c_a4 c_b0 c_b1 c_b2 c_b3 c_b4 c_m0 c_m1
      have h' := bel_on h.out hb
      have b_a : Blk (grow (redrawn w1 dq) osq) w.heap.size [.int .i64 af, .int .u32 (a0 : Int), .int .u32 (a1 : Int), .int .u32 (a2 : Int), .int .u32 (a3 : Int)] := B_a.out.on hb
      have b_b : Blk (grow (redrawn w1 dq) osq) (w.heap.size + 1) [.int .i64 bf, .int .u32 (b0 : Int), .int .u32 (b1 : Int), .int .u32 (b2 : Int), .int .u32 (b3 : Int)] := B_b.out.on hb
      obtain ⟨w2, hw2⟩ : ∃ w2, (grow (redrawn w1 dq) osq) = w2 := ⟨_, rfl⟩
      rw [hw2] at h' b_a b_b ⊢
      clear hb h hw2 B_a B_b B_m
      have B_a := Lib.hid b_a
      have B_b := Lib.hid b_b
      have h := Lib.hid h'
      clear h' b_a b_b
      have c_a0 := B_a.out.cell 0 rfl
      have c_a1 := B_a.out.cell 1 rfl
      have c_a2 := B_a.out.cell 2 rfl
      have c_a3 := B_a.out.cell 3 rfl
      have c_a4 := B_a.out.cell 4 rfl
      have c_b0 := B_b.out.cell 0 rfl
      have c_b1 := B_b.out.cell 1 rfl
      have c_b2 := B_b.out.cell 2 rfl
      have c_b3 := B_b.out.cell 3 rfl
      have c_b4 := B_b.out.cell 4 rfl
      go_wp2_with fail
      refine (GY.out _).mono ?_
      rintro e w3 ⟨rfl, hb⟩
      clear c_a0 c_a1 c_a2 c_a3 c_a4 c_b0 c_b1 c_b2 c_b3 c_b4
      have b_a : Blk w3 w.heap.size [.int .i64 af, .int .u32 (a0 : Int), .int .u32 (a1 : Int), .int .u32 (a2 : Int), .int .u32 (a3 : Int)] := B_a.out.on hb
      have b_b : Blk w3 (w.heap.size + 1) [.int .i64 bf, .int .u32 (b0 : Int), .int .u32 (b1 : Int), .int .u32 (b2 : Int), .int .u32 (b3 : Int)] := B_b.out.on hb
      have h' := bel_on h.out hb
      clear hb h B_a B_b
      have B_a := Lib.hid b_a
      have B_b := Lib.hid b_b
      have h := Lib.hid h'
      clear h' b_a b_b
      go_wp2_with fail
      refine (AW.out _).mono ?_
      rintro e w4 ⟨rfl, hb⟩
      have b_a : Blk w4 w.heap.size [.int .i64 af, .int .u32 (a0 : Int), .int .u32 (a1 : Int), .int .u32 (a2 : Int), .int .u32 (a3 : Int)] := B_a.out.on hb
      have b_b : Blk w4 (w.heap.size + 1) [.int .i64 bf, .int .u32 (b0 : Int), .int .u32 (b1 : Int), .int .u32 (b2 : Int), .int .u32 (b3 : Int)] := B_b.out.on hb
      have h' := bel_on h.out hb
      clear hb h B_a B_b
      have B_a := Lib.hid b_a
      have B_b := Lib.hid b_b
      have h := Lib.hid h'
      clear h' b_a b_b
      go_wp2_with fail
      go_ret
      exact ⟨rfl, h.out⟩
    · obtain ⟨hr, hn, h3⟩ := HG.out rfl
      have KB : Hid (Gives Try.prog 13 #[(.agg #[.int .i64 bf, .int .u32 (b0 : Int), .int .u32 (b1 : Int), .int .u32 (b2 : Int), .int .u32 (b3 : Int)] : Value), (.agg #[.int .u32 (a0 : Int), .int .u32 (a1 : Int)] : Value)] (.int .i64 3)) := Lib.hid (fun w => by have := knows_any bf b0 b1 b2 b3 a0 a1 w; rw [h3] at this; exact this)
      have RA : Hid (Gives Try.prog 11 #[(.agg #[.int .i64 af, .int .u32 (a0 : Int), .int .u32 (a1 : Int), .int .u32 (a2 : Int), .int .u32 (a3 : Int)] : Value)] (.bool true)) := Lib.hid (fun w => by have := hright_any af a0 a1 a2 a3 w; rw [hr] at this; exact this)
      clear HG hr h3
      go_enter Try.func5, Try.ntmps5
      have h := Lib.hid (Below.refl w.heap.size w)
      go_wp2_with fail
      refine (KY.out _).mono ?_
      rintro e w1 ⟨rfl, hb⟩
      have b_a : Blk w1 w.heap.size [.int .i64 af, .int .u32 (a0 : Int), .int .u32 (a1 : Int), .int .u32 (a2 : Int), .int .u32 (a3 : Int)] := (((Blk.new w [.int .i64 af, .int .u32 (a0 : Int), .int .u32 (a1 : Int), .int .u32 (a2 : Int), .int .u32 (a3 : Int)] 28).next (.cells #[.int .i64 bf, .int .u32 (b0 : Int), .int .u32 (b1 : Int), .int .u32 (b2 : Int), .int .u32 (b3 : Int)] 28)).next (.cells #[.int .u32 (m0 : Int), .int .u32 (m1 : Int)] 24)).on hb
      have b_b : Blk w1 (w.heap.size + 1) [.int .i64 bf, .int .u32 (b0 : Int), .int .u32 (b1 : Int), .int .u32 (b2 : Int), .int .u32 (b3 : Int)] := ((Blk.newAt (b := (w.heap.size + 1)) (w := (World.alloc w (.cells #[.int .i64 af, .int .u32 (a0 : Int), .int .u32 (a1 : Int), .int .u32 (a2 : Int), .int .u32 (a3 : Int)] 28))) (by simp only [World.size_alloc]) [.int .i64 bf, .int .u32 (b0 : Int), .int .u32 (b1 : Int), .int .u32 (b2 : Int), .int .u32 (b3 : Int)] 28).next (.cells #[.int .u32 (m0 : Int), .int .u32 (m1 : Int)] 24)).on hb
      have b_m : Blk w1 (w.heap.size + 2) [.int .u32 (m0 : Int), .int .u32 (m1 : Int)] := (Blk.newAt (b := (w.heap.size + 2)) (w := (World.alloc (World.alloc w (.cells #[.int .i64 af, .int .u32 (a0 : Int), .int .u32 (a1 : Int), .int .u32 (a2 : Int), .int .u32 (a3 : Int)] 28)) (.cells #[.int .i64 bf, .int .u32 (b0 : Int), .int .u32 (b1 : Int), .int .u32 (b2 : Int), .int .u32 (b3 : Int)] 28))) (by simp only [World.size_alloc]) [.int .u32 (m0 : Int), .int .u32 (m1 : Int)] 24).on hb
      have h' := bel_on ((((((h.out).alloc (h.out).size _)).alloc (((h.out).alloc (h.out).size _)).size _)).alloc (((((h.out).alloc (h.out).size _)).alloc (((h.out).alloc (h.out).size _)).size _)).size _) hb
      clear hb h
      have B_a := Lib.hid b_a
      have B_b := Lib.hid b_b
      have B_m := Lib.hid b_m
      have h := Lib.hid h'
      clear h' b_a b_b b_m
      go_upto_region 2 with fail
      have c_a0 := cell_regrown (B_a.out.cell 0 rfl)
      have c_a1 := cell_regrown (B_a.out.cell 1 rfl)
      have c_a2 := cell_regrown (B_a.out.cell 2 rfl)
      have c_a3 := cell_regrown (B_a.out.cell 3 rfl)
      have c_a4 := cell_regrown (B_a.out.cell 4 rfl)
      have c_b0 := cell_regrown (B_b.out.cell 0 rfl)
      have c_b1 := cell_regrown (B_b.out.cell 1 rfl)
      have c_b2 := cell_regrown (B_b.out.cell 2 rfl)
      have c_b3 := cell_regrown (B_b.out.cell 3 rfl)
      have c_b4 := cell_regrown (B_b.out.cell 4 rfl)
      have c_m0 := cell_regrown (B_m.out.cell 0 rfl)
      have c_m1 := cell_regrown (B_m.out.cell 1 rfl)
      refine wp_region_quiet_below (by kernel_rfl) (by kernel_rfl) ?_
      repeat (first | go_big_quiet_step (first | with_reducible exact KZ.out.at _ _ _ | with_reducible exact GY.out.at _ _ _ | with_reducible exact GZ.out.at _ _ _ | with_reducible exact NO.out.at _ _ _) | quiet_step (first | with_reducible exact KZ.out.at _ _ _ | with_reducible exact GY.out.at _ _ _ | with_reducible exact GZ.out.at _ _ _ | with_reducible exact NO.out.at _ _ _))
      refine wpQuiet_nil ?_
      intro _ hw'
      obtain ⟨⟨dq, osq⟩, hw''⟩ := hw'
      subst hw''
      have hb : Below w1.heap.size w1 (grow (redrawn w1 dq) osq) := below_regrown _ dq osq
      clear c_a0 c_a1 c_a2 c_a3 c_a4 c_b0 c_b1 c_b2 c_b3 c_b4 c_m0 c_m1
      have h' := bel_on h.out hb
      have b_a : Blk (grow (redrawn w1 dq) osq) w.heap.size [.int .i64 af, .int .u32 (a0 : Int), .int .u32 (a1 : Int), .int .u32 (a2 : Int), .int .u32 (a3 : Int)] := B_a.out.on hb
      have b_b : Blk (grow (redrawn w1 dq) osq) (w.heap.size + 1) [.int .i64 bf, .int .u32 (b0 : Int), .int .u32 (b1 : Int), .int .u32 (b2 : Int), .int .u32 (b3 : Int)] := B_b.out.on hb
      obtain ⟨w2, hw2⟩ : ∃ w2, (grow (redrawn w1 dq) osq) = w2 := ⟨_, rfl⟩
      rw [hw2] at h' b_a b_b ⊢
      clear hb h hw2 B_a B_b B_m
      have B_a := Lib.hid b_a
      have B_b := Lib.hid b_b
      have h := Lib.hid h'
      clear h' b_a b_b
      have c_a0 := B_a.out.cell 0 rfl
      have c_a1 := B_a.out.cell 1 rfl
      have c_a2 := B_a.out.cell 2 rfl
      have c_a3 := B_a.out.cell 3 rfl
      have c_a4 := B_a.out.cell 4 rfl
      have c_b0 := B_b.out.cell 0 rfl
      have c_b1 := B_b.out.cell 1 rfl
      have c_b2 := B_b.out.cell 2 rfl
      have c_b3 := B_b.out.cell 3 rfl
      have c_b4 := B_b.out.cell 4 rfl
      go_wp2_with fail
      refine (GY.out _).mono ?_
      rintro e w3 ⟨rfl, hb⟩
      clear c_a0 c_a1 c_a2 c_a3 c_a4 c_b0 c_b1 c_b2 c_b3 c_b4
      have b_a : Blk w3 w.heap.size [.int .i64 af, .int .u32 (a0 : Int), .int .u32 (a1 : Int), .int .u32 (a2 : Int), .int .u32 (a3 : Int)] := B_a.out.on hb
      have b_b : Blk w3 (w.heap.size + 1) [.int .i64 bf, .int .u32 (b0 : Int), .int .u32 (b1 : Int), .int .u32 (b2 : Int), .int .u32 (b3 : Int)] := B_b.out.on hb
      have h' := bel_on h.out hb
      clear hb h B_a B_b
      have B_a := Lib.hid b_a
      have B_b := Lib.hid b_b
      have h := Lib.hid h'
      clear h' b_a b_b
      have c_b0 := B_b.out.cell 0 rfl
      have c_b1 := B_b.out.cell 1 rfl
      have c_b2 := B_b.out.cell 2 rfl
      have c_b3 := B_b.out.cell 3 rfl
      have c_b4 := B_b.out.cell 4 rfl
      have c_a1 := B_a.out.cell 1 rfl
      have c_a2 := B_a.out.cell 2 rfl
      go_wp2_with fail
      refine (KB.out _).mono ?_
      rintro e w4 ⟨rfl, hb⟩
      clear c_b0 c_b1 c_b2 c_b3 c_b4 c_a1 c_a2
      have b_a : Blk w4 w.heap.size [.int .i64 af, .int .u32 (a0 : Int), .int .u32 (a1 : Int), .int .u32 (a2 : Int), .int .u32 (a3 : Int)] := B_a.out.on hb
      have b_b : Blk w4 (w.heap.size + 1) [.int .i64 bf, .int .u32 (b0 : Int), .int .u32 (b1 : Int), .int .u32 (b2 : Int), .int .u32 (b3 : Int)] := B_b.out.on hb
      have h' := bel_on h.out hb
      clear hb h B_a B_b
      have B_a := Lib.hid b_a
      have B_b := Lib.hid b_b
      have h := Lib.hid h'
      clear h' b_a b_b
      have c_a0 := B_a.out.cell 0 rfl
      have c_a1 := B_a.out.cell 1 rfl
      have c_a2 := B_a.out.cell 2 rfl
      have c_a3 := B_a.out.cell 3 rfl
      have c_a4 := B_a.out.cell 4 rfl
      have c_b0 := B_b.out.cell 0 rfl
      go_wp2_with fail
      refine (RA.out _).mono ?_
      rintro e w5 ⟨rfl, hb⟩
      clear c_a0 c_a1 c_a2 c_a3 c_a4 c_b0
      have b_a : Blk w5 w.heap.size [.int .i64 af, .int .u32 (a0 : Int), .int .u32 (a1 : Int), .int .u32 (a2 : Int), .int .u32 (a3 : Int)] := B_a.out.on hb
      have b_b : Blk w5 (w.heap.size + 1) [.int .i64 bf, .int .u32 (b0 : Int), .int .u32 (b1 : Int), .int .u32 (b2 : Int), .int .u32 (b3 : Int)] := B_b.out.on hb
      have h' := bel_on h.out hb
      clear hb h B_a B_b
      have B_a := Lib.hid b_a
      have B_b := Lib.hid b_b
      have h := Lib.hid h'
      clear h' b_a b_b
      go_wp2_with fail
      refine (AW.out _).mono ?_
      rintro e w6 ⟨rfl, hb⟩
      have b_a : Blk w6 w.heap.size [.int .i64 af, .int .u32 (a0 : Int), .int .u32 (a1 : Int), .int .u32 (a2 : Int), .int .u32 (a3 : Int)] := B_a.out.on hb
      have b_b : Blk w6 (w.heap.size + 1) [.int .i64 bf, .int .u32 (b0 : Int), .int .u32 (b1 : Int), .int .u32 (b2 : Int), .int .u32 (b3 : Int)] := B_b.out.on hb
      have h' := bel_on h.out hb
      clear hb h B_a B_b
      have B_a := Lib.hid b_a
      have B_b := Lib.hid b_b
      have h := Lib.hid h'
      clear h' b_a b_b
      go_wp2_with fail
      go_ret
      exact ⟨rfl, h.out⟩


set_option maxRecDepth 100000 in
theorem lifted (os : Os) (started : os.Started) (H : Type) (enc : TypeId × Value → H) :
    ReturnsInHanded {} Try.checked os 5 .any (Rows.helloKnowsSpec.pre6 enc Try.prog Try.f5 Rows.helloKnowsRow.domain false) (Rows.helloKnowsSpec.post enc Try.prog Try.f5 false true false false) := by
  refine returnsInHanded_of_change (C := Try.checked) own started (by kernel_rfl) Try.func5
    (ChangeSpec.witness6 (enc := enc) (C := Try.checked) false ⟨#[], #[.agg #[.int .i64 0, .int .u32 0, .int .u32 0, .int .u32 0, .int .u32 0], .agg #[.int .i64 0, .int .u32 0, .int .u32 0, .int .u32 0, .int .u32 0], .agg #[.int .u32 0, .int .u32 0]], []⟩ 8 (by kernel_rfl) (by kernel_rfl) (by kernel_rfl) (by kernel_rfl)) ?_
  intro W base args ds gs before hval0 hW hcnd _
  have hval : ∀ (j : Nat) t v, Try.f5.params[j]? = some t → args[j]? = some v → Value.okWide Try.prog W .any base t v := hval0
  have hW' := hW
  obtain ⟨p, q, hA0, hV, rfl, hfz, hnd⟩ := hW
  have hA : DataW.TrodAll enc Try.prog W 0 (fun _ => true) true Try.f5.params.toList args.toList ds p := hA0
  rw [Try.params5] at hA hval
  obtain ⟨v0, vs0, d0, ds0, p0, q0, hargs, rfl, rfl, h0, r0⟩ := trodAll_cons hA
  obtain ⟨v1, vs1, d1, ds1, p1, q1, rfl, rfl, rfl, h1, r1⟩ := trodAll_cons r0
  obtain ⟨v2, vs2, d2, ds2, p2, q2, rfl, rfl, rfl, h2, r2⟩ := trodAll_cons r1
  obtain ⟨rfl, rfl, rfl⟩ := trodAll_nil r2
  obtain rfl : args = #[v0, v1, v2] := by cases args; simp_all
  obtain ⟨rfl, rfl⟩ := trodVars_none hV
  have k0 := h0
  have lt0 : ∀ x ∈ p0, x.block < W.heap.size := by obtain ⟨m, hm⟩ := k0; exact DataW.trod_lt m _ _ _ hm
  have k1 := h1
  have lt1 : ∀ x ∈ p1, x.block < W.heap.size := by obtain ⟨m, hm⟩ := k1; exact DataW.trod_lt m _ _ _ hm
  have k2 := h2
  have lt2 : ∀ x ∈ p2, x.block < W.heap.size := by obtain ⟨m, hm⟩ := k2; exact DataW.trod_lt m _ _ _ hm
  obtain ⟨af, a0, a1, a2, a3, rfl, hba, ha0, ha1, ha2, ha3⟩ := open_hello Try.underlying28 Try.underlying3 Try.underlying26 Try.underlying24 rfl Try.underlying22 Try.underlying22 rfl rfl (by kernel_rfl) (by kernel_rfl) (by kernel_rfl) rfl rfl (by kernel_rfl) rfl rfl (by kernel_rfl) (by kernel_rfl) (hval 0 28 v0 rfl rfl) h0
  obtain ⟨bf, b0, b1, b2, b3, rfl, hbb, hb0, hb1, hb2, hb3⟩ := open_hello Try.underlying28 Try.underlying3 Try.underlying26 Try.underlying24 rfl Try.underlying22 Try.underlying22 rfl rfl (by kernel_rfl) (by kernel_rfl) (by kernel_rfl) rfl rfl (by kernel_rfl) rfl rfl (by kernel_rfl) (by kernel_rfl) (hval 1 28 v1 rfl rfl) h1
  obtain ⟨m0, m1, rfl, hm0, hm1⟩ := open_epoch Try.underlying24 Try.underlying22 Try.underlying22 rfl rfl (by kernel_rfl) (by kernel_rfl) (by kernel_rfl) (hval 2 24 v2 rfl rfl) h2
  clear hA0 hval0
  refine (walk af a0 a1 a2 a3 bf b0 b1 b2 b3 m0 m1 W).mono fun e W' ⟨he, bel⟩ => ?_
  subst he
  exact ⟨_, rfl, _, _, _, [], _, [], hW', trodAll_mk1 (shut_bool Try.underlying4 _),
    (trodAll_cons_mk (Below.trod laidOut (by kernel_rfl) (of_decide_eq_true (by kernel_rfl)) k0 bel lt0)
    (trodAll_cons_mk (Below.trod laidOut (by kernel_rfl) (of_decide_eq_true (by kernel_rfl)) k1 bel lt1)
    (trodAll_cons_mk (Below.trod laidOut (by kernel_rfl) (of_decide_eq_true (by kernel_rfl)) k2 bel lt2)
    trodAll_mk0))), rfl, bel.frame _, fun h => by cases h⟩

theorem proved : Rows.HelloKnowsSaid :=
  OpenClaim.holds_of_wide 5 Try.f5 rfl rfl rfl rfl rfl rfl rfl ⟨rfl, rfl, rfl, rfl, rfl⟩ rfl rfl rfl rfl rfl (by kernel_rfl) Try.func5 (by kernel_rfl)
    (of_decide_eq_true (by kernel_rfl)) (by unfold Func.isWrapper; first | (rw [if_pos (by decide +kernel)]; kernel_rfl) | (rw [if_neg (by decide +kernel)]; exact ⟨rfl, rfl⟩))
    (fun os started H enc _ => lifted os started H enc)
end Go.Proofs.Ytgmpfnhdcgcldaa.helloKnows
