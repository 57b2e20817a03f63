/- Contracts of package acks, part K: Both. -/
import Derived.Test.YtaamlmahhkoleaaDoorAcksJ
namespace Go.Proofs.YtaamlmahhkoleaaDoor
open Go.RowKit Go.Sort

theorem cell_set_other {w : World} {p a : Addr} {u v : Value} (h : w.cell? a = some v) (hp : a.block ≠ p.block) : (w.setCell p u).cell? a = some v := by
  rw [← h]
  unfold World.cell?
  rw [heap_setCell_other w p a.block u hp]

set_option maxRecDepth 100000 in
set_option maxHeartbeats 4000000 in
theorem both_up (f a b c d n s f' a' b' c' d' n' s' : Int) (w : World) (ht : Tab w) (hn : n < 9223372036854775808) (hn' : n' < 9223372036854775808) (h : n < n') :
    Calls Tryd.prog 10 #[(.agg #[.int .i64 f, .int .u32 a, .int .u32 b, .int .u32 c, .int .u32 d, .int .i64 n, .int .i64 s] : Value), (.agg #[.int .i64 f', .int .u32 a', .int .u32 b', .int .u32 c', .int .u32 d', .int .i64 n', .int .i64 s'] : Value)] w fun e w' =>
      e = .returned (.agg #[.int .i64 f', .int .u32 a', .int .u32 b', .int .u32 c', .int .u32 d', .int .i64 n', .int .i64 (AcksF.ofN n' (AcksF.nearL n' fun q => AcksF.hasB n s q || AcksF.hasB n' s' q) : Int)] : Value) ∧ Below w.heap.size w w' := by
  have d1 : decide (n < n') = true := decide_eq_true h
  have kA : Blk (World.alloc (World.alloc (World.alloc (World.alloc w (.cells #[.int .i64 f, .int .u32 a, .int .u32 b, .int .u32 c, .int .u32 d, .int .i64 n, .int .i64 s] 30)) (.cells #[.int .i64 f', .int .u32 a', .int .u32 b', .int .u32 c', .int .u32 d', .int .i64 n', .int .i64 s'] 30)) (.cells #[.int .i64 0, .int .u32 0, .int .u32 0, .int .u32 0, .int .u32 0, .int .i64 0, .int .i64 0] 30)) (.cells #[.int .i64 f', .int .u32 a', .int .u32 b', .int .u32 c', .int .u32 d', .int .i64 n', .int .i64 s'] 30)) w.heap.size [.int .i64 f, .int .u32 a, .int .u32 b, .int .u32 c, .int .u32 d, .int .i64 n, .int .i64 s] := ((((Blk.new w [.int .i64 f, .int .u32 a, .int .u32 b, .int .u32 c, .int .u32 d, .int .i64 n, .int .i64 s] 30).next _).next _).next _)
  have kB : Blk (World.alloc (World.alloc (World.alloc (World.alloc w (.cells #[.int .i64 f, .int .u32 a, .int .u32 b, .int .u32 c, .int .u32 d, .int .i64 n, .int .i64 s] 30)) (.cells #[.int .i64 f', .int .u32 a', .int .u32 b', .int .u32 c', .int .u32 d', .int .i64 n', .int .i64 s'] 30)) (.cells #[.int .i64 0, .int .u32 0, .int .u32 0, .int .u32 0, .int .u32 0, .int .i64 0, .int .i64 0] 30)) (.cells #[.int .i64 f', .int .u32 a', .int .u32 b', .int .u32 c', .int .u32 d', .int .i64 n', .int .i64 s'] 30)) (w.heap.size + 1) [.int .i64 f', .int .u32 a', .int .u32 b', .int .u32 c', .int .u32 d', .int .i64 n', .int .i64 s'] := (((Blk.newAt (by simp only [World.size_alloc]) [.int .i64 f', .int .u32 a', .int .u32 b', .int .u32 c', .int .u32 d', .int .i64 n', .int .i64 s'] 30).next _).next _)
  have kR : Blk (World.alloc (World.alloc (World.alloc (World.alloc w (.cells #[.int .i64 f, .int .u32 a, .int .u32 b, .int .u32 c, .int .u32 d, .int .i64 n, .int .i64 s] 30)) (.cells #[.int .i64 f', .int .u32 a', .int .u32 b', .int .u32 c', .int .u32 d', .int .i64 n', .int .i64 s'] 30)) (.cells #[.int .i64 0, .int .u32 0, .int .u32 0, .int .u32 0, .int .u32 0, .int .i64 0, .int .i64 0] 30)) (.cells #[.int .i64 f', .int .u32 a', .int .u32 b', .int .u32 c', .int .u32 d', .int .i64 n', .int .i64 s'] 30)) (w.heap.size + 1 + 1) [.int .i64 0, .int .u32 0, .int .u32 0, .int .u32 0, .int .u32 0, .int .i64 0, .int .i64 0] := ((Blk.newAt (by simp only [World.size_alloc]) [.int .i64 0, .int .u32 0, .int .u32 0, .int .u32 0, .int .u32 0, .int .i64 0, .int .i64 0] 30).next _)
  have kX : Blk (World.alloc (World.alloc (World.alloc (World.alloc w (.cells #[.int .i64 f, .int .u32 a, .int .u32 b, .int .u32 c, .int .u32 d, .int .i64 n, .int .i64 s] 30)) (.cells #[.int .i64 f', .int .u32 a', .int .u32 b', .int .u32 c', .int .u32 d', .int .i64 n', .int .i64 s'] 30)) (.cells #[.int .i64 0, .int .u32 0, .int .u32 0, .int .u32 0, .int .u32 0, .int .i64 0, .int .i64 0] 30)) (.cells #[.int .i64 f', .int .u32 a', .int .u32 b', .int .u32 c', .int .u32 d', .int .i64 n', .int .i64 s'] 30)) (w.heap.size + 1 + 1 + 1) [.int .i64 f', .int .u32 a', .int .u32 b', .int .u32 c', .int .u32 d', .int .i64 n', .int .i64 s'] := Blk.newAt (by simp only [World.size_alloc]) [.int .i64 f', .int .u32 a', .int .u32 b', .int .u32 c', .int .u32 d', .int .i64 n', .int .i64 s'] 30
  have hb : Below w.heap.size w (World.alloc (World.alloc (World.alloc (World.alloc w (.cells #[.int .i64 f, .int .u32 a, .int .u32 b, .int .u32 c, .int .u32 d, .int .i64 n, .int .i64 s] 30)) (.cells #[.int .i64 f', .int .u32 a', .int .u32 b', .int .u32 c', .int .u32 d', .int .i64 n', .int .i64 s'] 30)) (.cells #[.int .i64 0, .int .u32 0, .int .u32 0, .int .u32 0, .int .u32 0, .int .i64 0, .int .i64 0] 30)) (.cells #[.int .i64 f', .int .u32 a', .int .u32 b', .int .u32 c', .int .u32 d', .int .i64 n', .int .i64 s'] 30)) := ((((Below.refl _ _).alloc (Nat.le_refl _) _).alloc (by simp only [World.size_alloc]; omega) _).alloc (by simp only [World.size_alloc]; omega) _).alloc (by simp only [World.size_alloc]; omega) _
  have T := Lib.hid ht
  have N := Lib.hid hn
  have N' := Lib.hid hn'
  clear ht hn hn' h
  go_enter Tryd.func10, Tryd.ntmps10
  go_upto_region 4 with fail
  obtain ⟨w1, hw1⟩ : ∃ w1, (World.alloc (World.alloc (World.alloc (World.alloc w (.cells #[.int .i64 f, .int .u32 a, .int .u32 b, .int .u32 c, .int .u32 d, .int .i64 n, .int .i64 s] 30)) (.cells #[.int .i64 f', .int .u32 a', .int .u32 b', .int .u32 c', .int .u32 d', .int .i64 n', .int .i64 s'] 30)) (.cells #[.int .i64 0, .int .u32 0, .int .u32 0, .int .u32 0, .int .u32 0, .int .i64 0, .int .i64 0] 30)) (.cells #[.int .i64 f', .int .u32 a', .int .u32 b', .int .u32 c', .int .u32 d', .int .i64 n', .int .i64 s'] 30)) = w1 := ⟨_, rfl⟩
  rw [hw1] at kA kB kR kX hb ⊢
  clear hw1 d1
  have HB := Lib.hid hb
  have KA := Lib.hid kA
  have KB := Lib.hid kB
  have KR := Lib.hid kR
  have KX := Lib.hid kX
  have c0 := kA.cell 0 rfl
  have c1 := kA.cell 1 rfl
  have c2 := kA.cell 2 rfl
  have c3 := kA.cell 3 rfl
  have c4 := kA.cell 4 rfl
  have c5 := kA.cell 5 rfl
  have c6 := kA.cell 6 rfl
  have e0 := kB.cell 0 rfl
  have e1 := kB.cell 1 rfl
  have e2 := kB.cell 2 rfl
  have e3 := kB.cell 3 rfl
  have e4 := kB.cell 4 rfl
  have e5 := kB.cell 5 rfl
  have e6 := kB.cell 6 rfl
  have x5 := kX.cell 5 rfl
  clear hb kA kB kR kX
  go_region_held3 (fun w' => w'.cell? ⟨w.heap.size, 0, none⟩ = some (.int .i64 f) ∧ w'.cell? ⟨w.heap.size, 1, none⟩ = some (.int .u32 a) ∧ w'.cell? ⟨w.heap.size, 2, none⟩ = some (.int .u32 b) ∧ w'.cell? ⟨w.heap.size, 3, none⟩ = some (.int .u32 c) ∧ w'.cell? ⟨w.heap.size, 4, none⟩ = some (.int .u32 d) ∧ w'.cell? ⟨w.heap.size, 5, none⟩ = some (.int .i64 n) ∧ w'.cell? ⟨w.heap.size, 6, none⟩ = some (.int .i64 s) ∧ w'.cell? ⟨w.heap.size + 1, 0, none⟩ = some (.int .i64 f') ∧ w'.cell? ⟨w.heap.size + 1, 1, none⟩ = some (.int .u32 a') ∧ w'.cell? ⟨w.heap.size + 1, 2, none⟩ = some (.int .u32 b') ∧ w'.cell? ⟨w.heap.size + 1, 3, none⟩ = some (.int .u32 c') ∧ w'.cell? ⟨w.heap.size + 1, 4, none⟩ = some (.int .u32 d') ∧ w'.cell? ⟨w.heap.size + 1, 5, none⟩ = some (.int .i64 n') ∧ w'.cell? ⟨w.heap.size + 1, 6, none⟩ = some (.int .i64 s') ∧ w'.cell? ⟨w.heap.size + 1 + 1 + 1, 5, none⟩ = some (.int .i64 n') ∧ Below w.heap.size w w')
    (first | (refine ⟨?_, ?_, ?_, ?_, ?_, ?_, ?_, ?_, ?_, ?_, ?_, ?_, ?_, ?_, ?_, ?_⟩ <;> (first | assumption | exact (Below.refl _ _).drew | exact HB.out | exact HB.out.drew | exact (HB.out.alloc HB.out.size _).drew | exact HBW.out.setCell (by show w.heap.size ≤ w.heap.size + 1 + 1 + 1; omega) _ | exact cell_set_other (cell_later (w := w1) hw2 (by assumption)) (by first | (dsimp only; omega) | omega) | exact (KX2.out.set 6 _).cell 5 rfl | exact cell_later (w := w1) (by assumption) (by assumption) | go_keep)) | (first | assumption | exact (Below.refl _ _).drew | exact HB.out | exact HB.out.drew | exact (HB.out.alloc HB.out.size _).drew | exact HBW.out.setCell (by show w.heap.size ≤ w.heap.size + 1 + 1 + 1; omega) _ | exact cell_set_other (cell_later (w := w1) hw2 (by assumption)) (by first | (dsimp only; omega) | omega) | exact (KX2.out.set 6 _).cell 5 rfl | exact cell_later (w := w1) (by assumption) (by assumption) | go_keep))
    (first | (go_at_call 21; refine (near_any _ _ _ _ (anyof_two f a b c d n s f' a' b' c' d' n' s' _ _ ((T.out.on HB.out).on (((Below.refl _ _).alloc (Nat.le_refl _) _).drew)) (Blk.new w1 _ _) N.out N'.out)).mono ?_; rintro e w2 ⟨v, rfl, hown, hbel⟩; obtain ⟨ra, rc, rfl⟩ := row_slice hown; have hw2 : Below w1.heap.size w1 w2 := bel_on (((Below.refl _ _).alloc (Nat.le_refl _) _).drew) hbel; have hbw2 := bel_on HB.out hw2; have HBW := Lib.hid hbw2; have kX2 := KX.out.on hw2; have x6 := kX2.cell 6 rfl; have t6 := kX2.thaw 6; have KX2 := Lib.hid kX2; clear hbel kX2) | (go_at_call 8; refine (of_any _ _ _ _ _ (T.out.on (by assumption)) (IntAt.own (by assumption) (AcksF.nearL_bound _ _)) (Nat.le_trans (AcksF.nearL_length _ _) (by omega)) N'.out).mono ?_; rintro e w3 ⟨rfl, rfl⟩))
  obtain ⟨m, hm⟩ : ∃ m, (AcksF.ofN n' (AcksF.nearL n' fun q => AcksF.hasB n s q || AcksF.hasB n' s' q) : Int) = m := ⟨_, rfl⟩
  rw [hm]
  have HM := Lib.hid hm
  have kX3 : Blk (w2.setCell ⟨w.heap.size + 1 + 1 + 1, 6, none⟩ (.int .i64 m)) (w.heap.size + 1 + 1 + 1) [.int .i64 f', .int .u32 a', .int .u32 b', .int .u32 c', .int .u32 d', .int .i64 n', .int .i64 m] := KX2.out.set 6 (.int .i64 m)
  have kR3 : Blk (w2.setCell ⟨w.heap.size + 1 + 1 + 1, 6, none⟩ (.int .i64 m)) (w.heap.size + 1 + 1) [.int .i64 0, .int .u32 0, .int .u32 0, .int .u32 0, .int .u32 0, .int .i64 0, .int .i64 0] := (KR.out.on hw2).other _ _ (by show w.heap.size + 1 + 1 ≠ w.heap.size + 1 + 1 + 1; omega)
  have hb3 : Below w.heap.size w (w2.setCell ⟨w.heap.size + 1 + 1 + 1, 6, none⟩ (.int .i64 m)) := HBW.out.setCell (by show w.heap.size ≤ w.heap.size + 1 + 1 + 1; omega) _
  obtain ⟨w3, hw3⟩ : ∃ w3, w2.setCell ⟨w.heap.size + 1 + 1 + 1, 6, none⟩ (.int .i64 m) = w3 := ⟨_, rfl⟩
  rw [hw3] at kX3 kR3 hb3 ⊢
  clear hw3 hm hown x6 t6 x5 c0 e0 c1 e1 c2 e2 c3 e3 c4 e4 c5 e5 c6 e6
  have x0 := kX3.cell 0 rfl
  have x1 := kX3.cell 1 rfl
  have x2 := kX3.cell 2 rfl
  have x3 := kX3.cell 3 rfl
  have x4 := kX3.cell 4 rfl
  have x5 := kX3.cell 5 rfl
  have x6 := kX3.cell 6 rfl
  have r0 := kR3.cell 0 rfl
  have r1 := kR3.cell 1 rfl
  have r2 := kR3.cell 2 rfl
  have r3 := kR3.cell 3 rfl
  have r4 := kR3.cell 4 rfl
  have r5 := kR3.cell 5 rfl
  have r6 := kR3.cell 6 rfl
  have t0 := kR3.thaw 0
  have t1 := kR3.thaw 1
  have t2 := kR3.thaw 2
  have t3 := kR3.thaw 3
  have t4 := kR3.thaw 4
  have t5 := kR3.thaw 5
  have t6 := kR3.thaw 6
  have K := Lib.hid (((((((kR3.set 0 (.int .i64 f')).set 1 (.int .u32 a')).set 2 (.int .u32 b')).set 3 (.int .u32 c')).set 4 (.int .u32 d')).set 5 (.int .i64 n')).set 6 (.int .i64 m))
  have H3 := Lib.hid hb3
  have hlo := kR3.lt
  clear kX3 kR3 hb3
  go_wp2_with fail
  clear r0 r1 r2 r3 r4 r5 r6
  have k := K.out
  have r0 := k.cell 0 rfl
  have r1 := k.cell 1 rfl
  have r2 := k.cell 2 rfl
  have r3 := k.cell 3 rfl
  have r4 := k.cell 4 rfl
  have r5 := k.cell 5 rfl
  have r6 := k.cell 6 rfl
  rw [HM.out]
  refine bodyPost_ret (v := (.agg #[.int .i64 f', .int .u32 a', .int .u32 b', .int .u32 c', .int .u32 d', .int .i64 n', .int .i64 m] : Value)) (by simp [results, Tryd.results10, go_sem, r0, r1, r2, r3, r4, r5, r6]) rfl ⟨rfl, ?_⟩
  exact (((((((H3.out.setCell (by show w.heap.size ≤ w.heap.size + 1 + 1; omega) _).setCell (by show w.heap.size ≤ w.heap.size + 1 + 1; omega) _).setCell (by show w.heap.size ≤ w.heap.size + 1 + 1; omega) _).setCell (by show w.heap.size ≤ w.heap.size + 1 + 1; omega) _).setCell (by show w.heap.size ≤ w.heap.size + 1 + 1; omega) _).setCell (by show w.heap.size ≤ w.heap.size + 1 + 1; omega) _).setCell (by show w.heap.size ≤ w.heap.size + 1 + 1; omega) _)

set_option maxRecDepth 100000 in
set_option maxHeartbeats 4000000 in
theorem both_same (f a b c d n s f' a' b' c' d' n' s' : Int) (w : World) (ht : Tab w) (hn : n < 9223372036854775808) (hn' : n' < 9223372036854775808) (h : ¬ n < n') :
    Calls Tryd.prog 10 #[(.agg #[.int .i64 f, .int .u32 a, .int .u32 b, .int .u32 c, .int .u32 d, .int .i64 n, .int .i64 s] : Value), (.agg #[.int .i64 f', .int .u32 a', .int .u32 b', .int .u32 c', .int .u32 d', .int .i64 n', .int .i64 s'] : Value)] w fun e w' =>
      e = .returned (.agg #[.int .i64 f, .int .u32 a, .int .u32 b, .int .u32 c, .int .u32 d, .int .i64 n, .int .i64 (AcksF.ofN n (AcksF.nearL n fun q => AcksF.hasB n s q || AcksF.hasB n' s' q) : Int)] : Value) ∧ Below w.heap.size w w' := by
  have d1 : decide (n < n') = false := decide_eq_false h
  have kA : Blk (World.alloc (World.alloc (World.alloc (World.alloc w (.cells #[.int .i64 f, .int .u32 a, .int .u32 b, .int .u32 c, .int .u32 d, .int .i64 n, .int .i64 s] 30)) (.cells #[.int .i64 f', .int .u32 a', .int .u32 b', .int .u32 c', .int .u32 d', .int .i64 n', .int .i64 s'] 30)) (.cells #[.int .i64 0, .int .u32 0, .int .u32 0, .int .u32 0, .int .u32 0, .int .i64 0, .int .i64 0] 30)) (.cells #[.int .i64 f, .int .u32 a, .int .u32 b, .int .u32 c, .int .u32 d, .int .i64 n, .int .i64 s] 30)) w.heap.size [.int .i64 f, .int .u32 a, .int .u32 b, .int .u32 c, .int .u32 d, .int .i64 n, .int .i64 s] := ((((Blk.new w [.int .i64 f, .int .u32 a, .int .u32 b, .int .u32 c, .int .u32 d, .int .i64 n, .int .i64 s] 30).next _).next _).next _)
  have kB : Blk (World.alloc (World.alloc (World.alloc (World.alloc w (.cells #[.int .i64 f, .int .u32 a, .int .u32 b, .int .u32 c, .int .u32 d, .int .i64 n, .int .i64 s] 30)) (.cells #[.int .i64 f', .int .u32 a', .int .u32 b', .int .u32 c', .int .u32 d', .int .i64 n', .int .i64 s'] 30)) (.cells #[.int .i64 0, .int .u32 0, .int .u32 0, .int .u32 0, .int .u32 0, .int .i64 0, .int .i64 0] 30)) (.cells #[.int .i64 f, .int .u32 a, .int .u32 b, .int .u32 c, .int .u32 d, .int .i64 n, .int .i64 s] 30)) (w.heap.size + 1) [.int .i64 f', .int .u32 a', .int .u32 b', .int .u32 c', .int .u32 d', .int .i64 n', .int .i64 s'] := (((Blk.newAt (by simp only [World.size_alloc]) [.int .i64 f', .int .u32 a', .int .u32 b', .int .u32 c', .int .u32 d', .int .i64 n', .int .i64 s'] 30).next _).next _)
  have kR : Blk (World.alloc (World.alloc (World.alloc (World.alloc w (.cells #[.int .i64 f, .int .u32 a, .int .u32 b, .int .u32 c, .int .u32 d, .int .i64 n, .int .i64 s] 30)) (.cells #[.int .i64 f', .int .u32 a', .int .u32 b', .int .u32 c', .int .u32 d', .int .i64 n', .int .i64 s'] 30)) (.cells #[.int .i64 0, .int .u32 0, .int .u32 0, .int .u32 0, .int .u32 0, .int .i64 0, .int .i64 0] 30)) (.cells #[.int .i64 f, .int .u32 a, .int .u32 b, .int .u32 c, .int .u32 d, .int .i64 n, .int .i64 s] 30)) (w.heap.size + 1 + 1) [.int .i64 0, .int .u32 0, .int .u32 0, .int .u32 0, .int .u32 0, .int .i64 0, .int .i64 0] := ((Blk.newAt (by simp only [World.size_alloc]) [.int .i64 0, .int .u32 0, .int .u32 0, .int .u32 0, .int .u32 0, .int .i64 0, .int .i64 0] 30).next _)
  have kX : Blk (World.alloc (World.alloc (World.alloc (World.alloc w (.cells #[.int .i64 f, .int .u32 a, .int .u32 b, .int .u32 c, .int .u32 d, .int .i64 n, .int .i64 s] 30)) (.cells #[.int .i64 f', .int .u32 a', .int .u32 b', .int .u32 c', .int .u32 d', .int .i64 n', .int .i64 s'] 30)) (.cells #[.int .i64 0, .int .u32 0, .int .u32 0, .int .u32 0, .int .u32 0, .int .i64 0, .int .i64 0] 30)) (.cells #[.int .i64 f, .int .u32 a, .int .u32 b, .int .u32 c, .int .u32 d, .int .i64 n, .int .i64 s] 30)) (w.heap.size + 1 + 1 + 1) [.int .i64 f, .int .u32 a, .int .u32 b, .int .u32 c, .int .u32 d, .int .i64 n, .int .i64 s] := Blk.newAt (by simp only [World.size_alloc]) [.int .i64 f, .int .u32 a, .int .u32 b, .int .u32 c, .int .u32 d, .int .i64 n, .int .i64 s] 30
  have hb : Below w.heap.size w (World.alloc (World.alloc (World.alloc (World.alloc w (.cells #[.int .i64 f, .int .u32 a, .int .u32 b, .int .u32 c, .int .u32 d, .int .i64 n, .int .i64 s] 30)) (.cells #[.int .i64 f', .int .u32 a', .int .u32 b', .int .u32 c', .int .u32 d', .int .i64 n', .int .i64 s'] 30)) (.cells #[.int .i64 0, .int .u32 0, .int .u32 0, .int .u32 0, .int .u32 0, .int .i64 0, .int .i64 0] 30)) (.cells #[.int .i64 f, .int .u32 a, .int .u32 b, .int .u32 c, .int .u32 d, .int .i64 n, .int .i64 s] 30)) := ((((Below.refl _ _).alloc (Nat.le_refl _) _).alloc (by simp only [World.size_alloc]; omega) _).alloc (by simp only [World.size_alloc]; omega) _).alloc (by simp only [World.size_alloc]; omega) _
  have T := Lib.hid ht
  have N := Lib.hid hn
  have N' := Lib.hid hn'
  clear ht hn hn' h
  go_enter Tryd.func10, Tryd.ntmps10
  go_upto_region 4 with fail
  obtain ⟨w1, hw1⟩ : ∃ w1, (World.alloc (World.alloc (World.alloc (World.alloc w (.cells #[.int .i64 f, .int .u32 a, .int .u32 b, .int .u32 c, .int .u32 d, .int .i64 n, .int .i64 s] 30)) (.cells #[.int .i64 f', .int .u32 a', .int .u32 b', .int .u32 c', .int .u32 d', .int .i64 n', .int .i64 s'] 30)) (.cells #[.int .i64 0, .int .u32 0, .int .u32 0, .int .u32 0, .int .u32 0, .int .i64 0, .int .i64 0] 30)) (.cells #[.int .i64 f, .int .u32 a, .int .u32 b, .int .u32 c, .int .u32 d, .int .i64 n, .int .i64 s] 30)) = w1 := ⟨_, rfl⟩
  rw [hw1] at kA kB kR kX hb ⊢
  clear hw1 d1
  have HB := Lib.hid hb
  have KA := Lib.hid kA
  have KB := Lib.hid kB
  have KR := Lib.hid kR
  have KX := Lib.hid kX
  have c0 := kA.cell 0 rfl
  have c1 := kA.cell 1 rfl
  have c2 := kA.cell 2 rfl
  have c3 := kA.cell 3 rfl
  have c4 := kA.cell 4 rfl
  have c5 := kA.cell 5 rfl
  have c6 := kA.cell 6 rfl
  have e0 := kB.cell 0 rfl
  have e1 := kB.cell 1 rfl
  have e2 := kB.cell 2 rfl
  have e3 := kB.cell 3 rfl
  have e4 := kB.cell 4 rfl
  have e5 := kB.cell 5 rfl
  have e6 := kB.cell 6 rfl
  have x5 := kX.cell 5 rfl
  clear hb kA kB kR kX
  go_region_held3 (fun w' => w'.cell? ⟨w.heap.size, 0, none⟩ = some (.int .i64 f) ∧ w'.cell? ⟨w.heap.size, 1, none⟩ = some (.int .u32 a) ∧ w'.cell? ⟨w.heap.size, 2, none⟩ = some (.int .u32 b) ∧ w'.cell? ⟨w.heap.size, 3, none⟩ = some (.int .u32 c) ∧ w'.cell? ⟨w.heap.size, 4, none⟩ = some (.int .u32 d) ∧ w'.cell? ⟨w.heap.size, 5, none⟩ = some (.int .i64 n) ∧ w'.cell? ⟨w.heap.size, 6, none⟩ = some (.int .i64 s) ∧ w'.cell? ⟨w.heap.size + 1, 0, none⟩ = some (.int .i64 f') ∧ w'.cell? ⟨w.heap.size + 1, 1, none⟩ = some (.int .u32 a') ∧ w'.cell? ⟨w.heap.size + 1, 2, none⟩ = some (.int .u32 b') ∧ w'.cell? ⟨w.heap.size + 1, 3, none⟩ = some (.int .u32 c') ∧ w'.cell? ⟨w.heap.size + 1, 4, none⟩ = some (.int .u32 d') ∧ w'.cell? ⟨w.heap.size + 1, 5, none⟩ = some (.int .i64 n') ∧ w'.cell? ⟨w.heap.size + 1, 6, none⟩ = some (.int .i64 s') ∧ w'.cell? ⟨w.heap.size + 1 + 1 + 1, 5, none⟩ = some (.int .i64 n) ∧ Below w.heap.size w w')
    (first | (refine ⟨?_, ?_, ?_, ?_, ?_, ?_, ?_, ?_, ?_, ?_, ?_, ?_, ?_, ?_, ?_, ?_⟩ <;> (first | assumption | exact (Below.refl _ _).drew | exact HB.out | exact HB.out.drew | exact (HB.out.alloc HB.out.size _).drew | exact HBW.out.setCell (by show w.heap.size ≤ w.heap.size + 1 + 1 + 1; omega) _ | exact cell_set_other (cell_later (w := w1) hw2 (by assumption)) (by first | (dsimp only; omega) | omega) | exact (KX2.out.set 6 _).cell 5 rfl | exact cell_later (w := w1) (by assumption) (by assumption) | go_keep)) | (first | assumption | exact (Below.refl _ _).drew | exact HB.out | exact HB.out.drew | exact (HB.out.alloc HB.out.size _).drew | exact HBW.out.setCell (by show w.heap.size ≤ w.heap.size + 1 + 1 + 1; omega) _ | exact cell_set_other (cell_later (w := w1) hw2 (by assumption)) (by first | (dsimp only; omega) | omega) | exact (KX2.out.set 6 _).cell 5 rfl | exact cell_later (w := w1) (by assumption) (by assumption) | go_keep))
    (first | (go_at_call 21; refine (near_any _ _ _ _ (anyof_two f a b c d n s f' a' b' c' d' n' s' _ _ ((T.out.on HB.out).on (((Below.refl _ _).alloc (Nat.le_refl _) _).drew)) (Blk.new w1 _ _) N.out N'.out)).mono ?_; rintro e w2 ⟨v, rfl, hown, hbel⟩; obtain ⟨ra, rc, rfl⟩ := row_slice hown; have hw2 : Below w1.heap.size w1 w2 := bel_on (((Below.refl _ _).alloc (Nat.le_refl _) _).drew) hbel; have hbw2 := bel_on HB.out hw2; have HBW := Lib.hid hbw2; have kX2 := KX.out.on hw2; have x6 := kX2.cell 6 rfl; have t6 := kX2.thaw 6; have KX2 := Lib.hid kX2; clear hbel kX2) | (go_at_call 8; refine (of_any _ _ _ _ _ (T.out.on (by assumption)) (IntAt.own (by assumption) (AcksF.nearL_bound _ _)) (Nat.le_trans (AcksF.nearL_length _ _) (by omega)) N.out).mono ?_; rintro e w3 ⟨rfl, rfl⟩))
  obtain ⟨m, hm⟩ : ∃ m, (AcksF.ofN n (AcksF.nearL n fun q => AcksF.hasB n s q || AcksF.hasB n' s' q) : Int) = m := ⟨_, rfl⟩
  rw [hm]
  have HM := Lib.hid hm
  have kX3 : Blk (w2.setCell ⟨w.heap.size + 1 + 1 + 1, 6, none⟩ (.int .i64 m)) (w.heap.size + 1 + 1 + 1) [.int .i64 f, .int .u32 a, .int .u32 b, .int .u32 c, .int .u32 d, .int .i64 n, .int .i64 m] := KX2.out.set 6 (.int .i64 m)
  have kR3 : Blk (w2.setCell ⟨w.heap.size + 1 + 1 + 1, 6, none⟩ (.int .i64 m)) (w.heap.size + 1 + 1) [.int .i64 0, .int .u32 0, .int .u32 0, .int .u32 0, .int .u32 0, .int .i64 0, .int .i64 0] := (KR.out.on hw2).other _ _ (by show w.heap.size + 1 + 1 ≠ w.heap.size + 1 + 1 + 1; omega)
  have hb3 : Below w.heap.size w (w2.setCell ⟨w.heap.size + 1 + 1 + 1, 6, none⟩ (.int .i64 m)) := HBW.out.setCell (by show w.heap.size ≤ w.heap.size + 1 + 1 + 1; omega) _
  obtain ⟨w3, hw3⟩ : ∃ w3, w2.setCell ⟨w.heap.size + 1 + 1 + 1, 6, none⟩ (.int .i64 m) = w3 := ⟨_, rfl⟩
  rw [hw3] at kX3 kR3 hb3 ⊢
  clear hw3 hm hown x6 t6 x5 c0 e0 c1 e1 c2 e2 c3 e3 c4 e4 c5 e5 c6 e6
  have x0 := kX3.cell 0 rfl
  have x1 := kX3.cell 1 rfl
  have x2 := kX3.cell 2 rfl
  have x3 := kX3.cell 3 rfl
  have x4 := kX3.cell 4 rfl
  have x5 := kX3.cell 5 rfl
  have x6 := kX3.cell 6 rfl
  have r0 := kR3.cell 0 rfl
  have r1 := kR3.cell 1 rfl
  have r2 := kR3.cell 2 rfl
  have r3 := kR3.cell 3 rfl
  have r4 := kR3.cell 4 rfl
  have r5 := kR3.cell 5 rfl
  have r6 := kR3.cell 6 rfl
  have t0 := kR3.thaw 0
  have t1 := kR3.thaw 1
  have t2 := kR3.thaw 2
  have t3 := kR3.thaw 3
  have t4 := kR3.thaw 4
  have t5 := kR3.thaw 5
  have t6 := kR3.thaw 6
  have K := Lib.hid (((((((kR3.set 0 (.int .i64 f)).set 1 (.int .u32 a)).set 2 (.int .u32 b)).set 3 (.int .u32 c)).set 4 (.int .u32 d)).set 5 (.int .i64 n)).set 6 (.int .i64 m))
  have H3 := Lib.hid hb3
  have hlo := kR3.lt
  clear kX3 kR3 hb3
  go_wp2_with fail
  clear r0 r1 r2 r3 r4 r5 r6
  have k := K.out
  have r0 := k.cell 0 rfl
  have r1 := k.cell 1 rfl
  have r2 := k.cell 2 rfl
  have r3 := k.cell 3 rfl
  have r4 := k.cell 4 rfl
  have r5 := k.cell 5 rfl
  have r6 := k.cell 6 rfl
  rw [HM.out]
  refine bodyPost_ret (v := (.agg #[.int .i64 f, .int .u32 a, .int .u32 b, .int .u32 c, .int .u32 d, .int .i64 n, .int .i64 m] : Value)) (by simp [results, Tryd.results10, go_sem, r0, r1, r2, r3, r4, r5, r6]) rfl ⟨rfl, ?_⟩
  exact (((((((H3.out.setCell (by show w.heap.size ≤ w.heap.size + 1 + 1; omega) _).setCell (by show w.heap.size ≤ w.heap.size + 1 + 1; omega) _).setCell (by show w.heap.size ≤ w.heap.size + 1 + 1; omega) _).setCell (by show w.heap.size ≤ w.heap.size + 1 + 1; omega) _).setCell (by show w.heap.size ≤ w.heap.size + 1 + 1; omega) _).setCell (by show w.heap.size ≤ w.heap.size + 1 + 1; omega) _).setCell (by show w.heap.size ≤ w.heap.size + 1 + 1; omega) _)
end Go.Proofs.YtaamlmahhkoleaaDoor
