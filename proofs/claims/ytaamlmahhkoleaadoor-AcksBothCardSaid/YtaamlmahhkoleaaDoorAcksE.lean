/- Contracts of package acks, part E: Read. -/
import Derived.Test.YtaamlmahhkoleaaDoorAcksD
namespace Go.Proofs.YtaamlmahhkoleaaDoor
open Go.RowKit Go.Sort

theorem take_gives (l : List UInt8) (j : Nat) (hj : j ≤ 8) (h : j ≤ l.length) (hs : l.length ≤ maxLen) :
    Gives Tryd.prog 15 #[.string (str l), .int .i64 (j : Int)] (.tuple #[.int .u64 (PackF.valL (l.take j) : Int), .string (str (l.drop j)), .int .i64 0]) := by
  intro w
  have e := takeV_ok (str l) j (by omega) (by rw [str_size]; omega)
  rw [str_drop, str_list] at e
  have hc := take_any (str l) j w (by rw [str_size]; exact hs)
  rw [str_list, e] at hc
  exact hc.mono fun _ _ ⟨h1, n, h2⟩ => ⟨h1, h2 ▸ below_drewN (Below.refl _ _) n⟩

/-- The parts of an ack's twenty bytes. -/
def ackF (l : List UInt8) : Nat := PackF.valL (l.take 1)
def ackN (l : List UInt8) : Nat := PackF.valL ((l.drop 17).take 2)
def ackS (l : List UInt8) : Nat := PackF.valL ((l.drop 19).take 1)
theorem val_lt1 (l : List UInt8) : PackF.valL (l.take 1) < 256 := by
  have h := PackF.valL_lt (l.take 1)
  have h1 : (l.take 1).length ≤ 1 := by rw [List.length_take]; omega
  have hp : 256 ^ (l.take 1).length ≤ 256 ^ 1 := Nat.pow_le_pow_right (by omega) h1
  omega
theorem ackF_lt (l : List UInt8) : ackF l < 256 := val_lt1 l
theorem ackS_lt (l : List UInt8) : ackS l < 256 := val_lt1 _
theorem ackN_lt (l : List UInt8) : ackN l < 65536 := by
  have h := PackF.valL_lt ((l.drop 17).take 2)
  have h1 : ((l.drop 17).take 2).length ≤ 2 := by rw [List.length_take]; omega
  have hp : 256 ^ ((l.drop 17).take 2).length ≤ 256 ^ 2 := Nat.pow_le_pow_right (by omega) h1
  unfold ackN; omega

theorem aread_short (l : List UInt8) (h : l.length < 20) : Gives Tryd.prog 6 #[.string (str l)] (.tuple #[(.agg #[.int .i64 0, .int .u32 0, .int .u32 0, .int .u32 0, .int .u32 0, .int .i64 0, .int .i64 0] : Value), .int .i64 2]) := by
  intro w
  have hz := str_size l
  have h20 : decide (((str l).size : Int) < 20) = true := decide_eq_true (by omega)
  clear hz h
  go_enter Tryd.func6, Tryd.ntmps6
  go_wp2
  refine bodyPost_ret (v := .tuple #[(.agg #[.int .i64 0, .int .u32 0, .int .u32 0, .int .u32 0, .int .u32 0, .int .i64 0, .int .i64 0] : Value), .int .i64 2]) (by simp [results, Tryd.results6, go_sem]) rfl ⟨rfl, ?_⟩
  exact (Below.refl _ _).alloc (Nat.le_refl _) _

set_option maxRecDepth 100000 in
set_option maxHeartbeats 1000000 in
theorem aread_more (l l1 l2 l3 r : List UInt8) (f a b c d n s : Nat) (h : 20 ≤ l.length) (T1 : Hid (Gives Tryd.prog 15 #[.string (str l), .int .i64 1] (.tuple #[.int .u64 (f : Int), .string (str l1), .int .i64 0]))) (RD : Hid (Gives Tryd.prog 16 #[.string (str l1)] (.tuple #[(.agg #[.int .u32 (a : Int), .int .u32 (b : Int), .int .u32 (c : Int), .int .u32 (d : Int)] : Value), .string (str l2), .int .i64 0])))
    (T2 : Hid (Gives Tryd.prog 15 #[.string (str l2), .int .i64 2] (.tuple #[.int .u64 (n : Int), .string (str l3), .int .i64 0]))) (T3 : Hid (Gives Tryd.prog 15 #[.string (str l3), .int .i64 1] (.tuple #[.int .u64 (s : Int), .string (str r), .int .i64 0])))
    (hr : r ≠ []) :
    Gives Tryd.prog 6 #[.string (str l)] (.tuple #[(.agg #[.int .i64 0, .int .u32 0, .int .u32 0, .int .u32 0, .int .u32 0, .int .i64 0, .int .i64 0] : Value), .int .i64 3]) := by
  intro w
  have h20 : decide (((str l).size : Int) < 20) = false := decide_eq_false (by have := str_size l; omega)
  have he : (!(str r).toList.isEmpty) = true := by rw [Lib.toList_data, str_list]; simpa using hr
  clear hr
  clear h
  go_enter Tryd.func6, Tryd.ntmps6
  have h := Lib.hid (Below.refl w.heap.size w)
  go_wp2_with fail
  refine (T1.out _).mono ?_
  rintro e w1 ⟨rfl, hb⟩
  have b_o : Blk w1 w.heap.size [.int .i64 0, .int .u32 0, .int .u32 0, .int .u32 0, .int .u32 0, .int .i64 0, .int .i64 0] := (Blk.new w [.int .i64 0, .int .u32 0, .int .u32 0, .int .u32 0, .int .u32 0, .int .i64 0, .int .i64 0] 30).on hb
  have h' := bel_on ((h.out).alloc (h.out).size _) hb
  clear hb h
  have B_o := Lib.hid b_o
  have h := Lib.hid h'
  clear h' b_o
  go_wp2_with fail
  refine (RD.out _).mono ?_
  rintro e w2 ⟨rfl, hb⟩
  have b_o : Blk w2 w.heap.size [.int .i64 0, .int .u32 0, .int .u32 0, .int .u32 0, .int .u32 0, .int .i64 0, .int .i64 0] := B_o.out.on hb
  have h' := bel_on h.out hb
  clear hb h B_o
  have B_o := Lib.hid b_o
  have h := Lib.hid h'
  clear h' b_o
  go_wp2_with fail
  refine (T2.out _).mono ?_
  rintro e w3 ⟨rfl, hb⟩
  have b_o : Blk w3 w.heap.size [.int .i64 0, .int .u32 0, .int .u32 0, .int .u32 0, .int .u32 0, .int .i64 0, .int .i64 0] := (B_o.out.next (.cells #[.int .u32 (a : Int), .int .u32 (b : Int), .int .u32 (c : Int), .int .u32 (d : Int)] 28)).on hb
  have b_p : Blk w3 w2.heap.size [.int .u32 (a : Int), .int .u32 (b : Int), .int .u32 (c : Int), .int .u32 (d : Int)] := (Blk.new w2 [.int .u32 (a : Int), .int .u32 (b : Int), .int .u32 (c : Int), .int .u32 (d : Int)] 28).on hb
  have h' := bel_on ((h.out).alloc (h.out).size _) hb
  clear hb h B_o
  have B_o := Lib.hid b_o
  have B_p := Lib.hid b_p
  have h := Lib.hid h'
  clear h' b_o b_p
  go_wp2_with fail
  refine (T3.out _).mono ?_
  rintro e w4 ⟨rfl, hb⟩
  have b_o : Blk w4 w.heap.size [.int .i64 0, .int .u32 0, .int .u32 0, .int .u32 0, .int .u32 0, .int .i64 0, .int .i64 0] := B_o.out.on hb
  have b_p : Blk w4 w2.heap.size [.int .u32 (a : Int), .int .u32 (b : Int), .int .u32 (c : Int), .int .u32 (d : Int)] := B_p.out.on hb
  have h' := bel_on h.out hb
  clear hb h B_o B_p
  have B_o := Lib.hid b_o
  have B_p := Lib.hid b_p
  have h := Lib.hid h'
  clear h' b_o b_p
  have c_o0 := B_o.out.cell 0 rfl
  have c_o1 := B_o.out.cell 1 rfl
  have c_o2 := B_o.out.cell 2 rfl
  have c_o3 := B_o.out.cell 3 rfl
  have c_o4 := B_o.out.cell 4 rfl
  have c_o5 := B_o.out.cell 5 rfl
  have c_o6 := B_o.out.cell 6 rfl
  have t0 := B_o.out.thaw 0
  have t1 := B_o.out.thaw 1
  have t2 := B_o.out.thaw 2
  have t3 := B_o.out.thaw 3
  have t4 := B_o.out.thaw 4
  have t5 := B_o.out.thaw 5
  have t6 := B_o.out.thaw 6
  have K := Lib.hid (((((((B_o.out.set 0 (.int .i64 0)).set 1 (.int .u32 0)).set 2 (.int .u32 0)).set 3 (.int .u32 0)).set 4 (.int .u32 0)).set 5 (.int .i64 0)).set 6 (.int .i64 0))
  have hlo := B_o.out.lt
  clear B_o B_p
  go_wp2_with fail
  have k := K.out
  have r0 := k.cell 0 rfl
  have r1 := k.cell 1 rfl
  have r2 := k.cell 2 rfl
  have r3 := k.cell 3 rfl
  have r4 := k.cell 4 rfl
  have r5 := k.cell 5 rfl
  have r6 := k.cell 6 rfl
  refine bodyPost_ret (v := (.tuple #[(.agg #[.int .i64 0, .int .u32 0, .int .u32 0, .int .u32 0, .int .u32 0, .int .i64 0, .int .i64 0] : Value), .int .i64 3])) (by simp [results, Tryd.results6, go_sem, r0, r1, r2, r3, r4, r5, r6]) rfl ⟨rfl, ?_⟩
  exact (((((((h.out.setCell (Nat.le_refl _) _).setCell (Nat.le_refl _) _).setCell (Nat.le_refl _) _).setCell (Nat.le_refl _) _).setCell (Nat.le_refl _) _).setCell (Nat.le_refl _) _).setCell (Nat.le_refl _) _)

set_option maxRecDepth 100000 in
set_option maxHeartbeats 1000000 in
theorem aread_bad (l l1 l2 l3 r : List UInt8) (f a b c d n s : Nat) (h : 20 ≤ l.length) (T1 : Hid (Gives Tryd.prog 15 #[.string (str l), .int .i64 1] (.tuple #[.int .u64 (f : Int), .string (str l1), .int .i64 0]))) (RD : Hid (Gives Tryd.prog 16 #[.string (str l1)] (.tuple #[(.agg #[.int .u32 (a : Int), .int .u32 (b : Int), .int .u32 (c : Int), .int .u32 (d : Int)] : Value), .string (str l2), .int .i64 0])))
    (T2 : Hid (Gives Tryd.prog 15 #[.string (str l2), .int .i64 2] (.tuple #[.int .u64 (n : Int), .string (str l3), .int .i64 0]))) (T3 : Hid (Gives Tryd.prog 15 #[.string (str l3), .int .i64 1] (.tuple #[.int .u64 (s : Int), .string (str r), .int .i64 0])))
    (hf : f < 256) (hr : r = []) (hg : nodeF (f : Int) = false) :
    Gives Tryd.prog 6 #[.string (str l)] (.tuple #[(.agg #[.int .i64 0, .int .u32 0, .int .u32 0, .int .u32 0, .int .u32 0, .int .i64 0, .int .i64 0] : Value), .int .i64 3]) := by
  intro w
  have h20 : decide (((str l).size : Int) < 20) = false := decide_eq_false (by have := str_size l; omega)
  have he : (!(str r).toList.isEmpty) = false := by rw [Lib.toList_data, str_list, hr]; rfl
  clear hr
  have e1 : wrap64 (f : Int) = (f : Int) := IntWalk.wrap64_in _ (by omega)
  have N := Lib.hid (nright_any (f : Int))
  rw [hg] at N
  clear hg hf
  clear h
  go_enter Tryd.func6, Tryd.ntmps6
  have h := Lib.hid (Below.refl w.heap.size w)
  go_wp2_with fail
  refine (T1.out _).mono ?_
  rintro e w1 ⟨rfl, hb⟩
  have b_o : Blk w1 w.heap.size [.int .i64 0, .int .u32 0, .int .u32 0, .int .u32 0, .int .u32 0, .int .i64 0, .int .i64 0] := (Blk.new w [.int .i64 0, .int .u32 0, .int .u32 0, .int .u32 0, .int .u32 0, .int .i64 0, .int .i64 0] 30).on hb
  have h' := bel_on ((h.out).alloc (h.out).size _) hb
  clear hb h
  have B_o := Lib.hid b_o
  have h := Lib.hid h'
  clear h' b_o
  go_wp2_with fail
  refine (RD.out _).mono ?_
  rintro e w2 ⟨rfl, hb⟩
  have b_o : Blk w2 w.heap.size [.int .i64 0, .int .u32 0, .int .u32 0, .int .u32 0, .int .u32 0, .int .i64 0, .int .i64 0] := B_o.out.on hb
  have h' := bel_on h.out hb
  clear hb h B_o
  have B_o := Lib.hid b_o
  have h := Lib.hid h'
  clear h' b_o
  go_wp2_with fail
  refine (T2.out _).mono ?_
  rintro e w3 ⟨rfl, hb⟩
  have b_o : Blk w3 w.heap.size [.int .i64 0, .int .u32 0, .int .u32 0, .int .u32 0, .int .u32 0, .int .i64 0, .int .i64 0] := (B_o.out.next (.cells #[.int .u32 (a : Int), .int .u32 (b : Int), .int .u32 (c : Int), .int .u32 (d : Int)] 28)).on hb
  have b_p : Blk w3 w2.heap.size [.int .u32 (a : Int), .int .u32 (b : Int), .int .u32 (c : Int), .int .u32 (d : Int)] := (Blk.new w2 [.int .u32 (a : Int), .int .u32 (b : Int), .int .u32 (c : Int), .int .u32 (d : Int)] 28).on hb
  have h' := bel_on ((h.out).alloc (h.out).size _) hb
  clear hb h B_o
  have B_o := Lib.hid b_o
  have B_p := Lib.hid b_p
  have h := Lib.hid h'
  clear h' b_o b_p
  go_wp2_with fail
  refine (T3.out _).mono ?_
  rintro e w4 ⟨rfl, hb⟩
  have b_o : Blk w4 w.heap.size [.int .i64 0, .int .u32 0, .int .u32 0, .int .u32 0, .int .u32 0, .int .i64 0, .int .i64 0] := B_o.out.on hb
  have b_p : Blk w4 w2.heap.size [.int .u32 (a : Int), .int .u32 (b : Int), .int .u32 (c : Int), .int .u32 (d : Int)] := B_p.out.on hb
  have h' := bel_on h.out hb
  clear hb h B_o B_p
  have B_o := Lib.hid b_o
  have B_p := Lib.hid b_p
  have h := Lib.hid h'
  clear h' b_o b_p
  go_wp2_with fail
  refine (N.out _).mono ?_
  rintro e w5 ⟨rfl, hb⟩
  have b_o : Blk w5 w.heap.size [.int .i64 0, .int .u32 0, .int .u32 0, .int .u32 0, .int .u32 0, .int .i64 0, .int .i64 0] := B_o.out.on hb
  have b_p : Blk w5 w2.heap.size [.int .u32 (a : Int), .int .u32 (b : Int), .int .u32 (c : Int), .int .u32 (d : Int)] := B_p.out.on hb
  have h' := bel_on h.out hb
  clear hb h B_o B_p
  have B_o := Lib.hid b_o
  have B_p := Lib.hid b_p
  have h := Lib.hid h'
  clear h' b_o b_p
  have c_o0 := B_o.out.cell 0 rfl
  have c_o1 := B_o.out.cell 1 rfl
  have c_o2 := B_o.out.cell 2 rfl
  have c_o3 := B_o.out.cell 3 rfl
  have c_o4 := B_o.out.cell 4 rfl
  have c_o5 := B_o.out.cell 5 rfl
  have c_o6 := B_o.out.cell 6 rfl
  have t0 := B_o.out.thaw 0
  have t1 := B_o.out.thaw 1
  have t2 := B_o.out.thaw 2
  have t3 := B_o.out.thaw 3
  have t4 := B_o.out.thaw 4
  have t5 := B_o.out.thaw 5
  have t6 := B_o.out.thaw 6
  have K := Lib.hid (((((((B_o.out.set 0 (.int .i64 0)).set 1 (.int .u32 0)).set 2 (.int .u32 0)).set 3 (.int .u32 0)).set 4 (.int .u32 0)).set 5 (.int .i64 0)).set 6 (.int .i64 0))
  have hlo := B_o.out.lt
  clear B_o B_p
  go_wp2_with fail
  have k := K.out
  have r0 := k.cell 0 rfl
  have r1 := k.cell 1 rfl
  have r2 := k.cell 2 rfl
  have r3 := k.cell 3 rfl
  have r4 := k.cell 4 rfl
  have r5 := k.cell 5 rfl
  have r6 := k.cell 6 rfl
  refine bodyPost_ret (v := (.tuple #[(.agg #[.int .i64 0, .int .u32 0, .int .u32 0, .int .u32 0, .int .u32 0, .int .i64 0, .int .i64 0] : Value), .int .i64 3])) (by simp [results, Tryd.results6, go_sem, r0, r1, r2, r3, r4, r5, r6]) rfl ⟨rfl, ?_⟩
  exact (((((((h.out.setCell (Nat.le_refl _) _).setCell (Nat.le_refl _) _).setCell (Nat.le_refl _) _).setCell (Nat.le_refl _) _).setCell (Nat.le_refl _) _).setCell (Nat.le_refl _) _).setCell (Nat.le_refl _) _)

set_option maxRecDepth 100000 in
set_option maxHeartbeats 1000000 in
theorem aread_good (l l1 l2 l3 r : List UInt8) (f a b c d n s : Nat) (h : 20 ≤ l.length) (T1 : Hid (Gives Tryd.prog 15 #[.string (str l), .int .i64 1] (.tuple #[.int .u64 (f : Int), .string (str l1), .int .i64 0]))) (RD : Hid (Gives Tryd.prog 16 #[.string (str l1)] (.tuple #[(.agg #[.int .u32 (a : Int), .int .u32 (b : Int), .int .u32 (c : Int), .int .u32 (d : Int)] : Value), .string (str l2), .int .i64 0])))
    (T2 : Hid (Gives Tryd.prog 15 #[.string (str l2), .int .i64 2] (.tuple #[.int .u64 (n : Int), .string (str l3), .int .i64 0]))) (T3 : Hid (Gives Tryd.prog 15 #[.string (str l3), .int .i64 1] (.tuple #[.int .u64 (s : Int), .string (str r), .int .i64 0])))
    (hf : f < 256) (hn : n < 65536) (hs : s < 256) (hr : r = []) (hg : nodeF (f : Int) = true) :
    Gives Tryd.prog 6 #[.string (str l)] (.tuple #[(.agg #[.int .i64 (f : Int), .int .u32 (a : Int), .int .u32 (b : Int), .int .u32 (c : Int), .int .u32 (d : Int), .int .i64 (n : Int), .int .i64 (s : Int)] : Value), .int .i64 0]) := by
  intro w
  have h20 : decide (((str l).size : Int) < 20) = false := decide_eq_false (by have := str_size l; omega)
  have he : (!(str r).toList.isEmpty) = false := by rw [Lib.toList_data, str_list, hr]; rfl
  clear hr
  have e1 : wrap64 (f : Int) = (f : Int) := IntWalk.wrap64_in _ (by omega)
  have e2 : wrap64 (n : Int) = (n : Int) := IntWalk.wrap64_in _ (by omega)
  have e3 : wrap64 (s : Int) = (s : Int) := IntWalk.wrap64_in _ (by omega)
  have N := Lib.hid (nright_any (f : Int))
  rw [hg] at N
  clear hg hf hn hs
  clear h
  go_enter Tryd.func6, Tryd.ntmps6
  have h := Lib.hid (Below.refl w.heap.size w)
  go_wp2_with fail
  refine (T1.out _).mono ?_
  rintro e w1 ⟨rfl, hb⟩
  have b_o : Blk w1 w.heap.size [.int .i64 0, .int .u32 0, .int .u32 0, .int .u32 0, .int .u32 0, .int .i64 0, .int .i64 0] := (Blk.new w [.int .i64 0, .int .u32 0, .int .u32 0, .int .u32 0, .int .u32 0, .int .i64 0, .int .i64 0] 30).on hb
  have h' := bel_on ((h.out).alloc (h.out).size _) hb
  clear hb h
  have B_o := Lib.hid b_o
  have h := Lib.hid h'
  clear h' b_o
  go_wp2_with fail
  refine (RD.out _).mono ?_
  rintro e w2 ⟨rfl, hb⟩
  have b_o : Blk w2 w.heap.size [.int .i64 0, .int .u32 0, .int .u32 0, .int .u32 0, .int .u32 0, .int .i64 0, .int .i64 0] := B_o.out.on hb
  have h' := bel_on h.out hb
  clear hb h B_o
  have B_o := Lib.hid b_o
  have h := Lib.hid h'
  clear h' b_o
  go_wp2_with fail
  refine (T2.out _).mono ?_
  rintro e w3 ⟨rfl, hb⟩
  have b_o : Blk w3 w.heap.size [.int .i64 0, .int .u32 0, .int .u32 0, .int .u32 0, .int .u32 0, .int .i64 0, .int .i64 0] := (B_o.out.next (.cells #[.int .u32 (a : Int), .int .u32 (b : Int), .int .u32 (c : Int), .int .u32 (d : Int)] 28)).on hb
  have b_p : Blk w3 w2.heap.size [.int .u32 (a : Int), .int .u32 (b : Int), .int .u32 (c : Int), .int .u32 (d : Int)] := (Blk.new w2 [.int .u32 (a : Int), .int .u32 (b : Int), .int .u32 (c : Int), .int .u32 (d : Int)] 28).on hb
  have h' := bel_on ((h.out).alloc (h.out).size _) hb
  clear hb h B_o
  have B_o := Lib.hid b_o
  have B_p := Lib.hid b_p
  have h := Lib.hid h'
  clear h' b_o b_p
  go_wp2_with fail
  refine (T3.out _).mono ?_
  rintro e w4 ⟨rfl, hb⟩
  have b_o : Blk w4 w.heap.size [.int .i64 0, .int .u32 0, .int .u32 0, .int .u32 0, .int .u32 0, .int .i64 0, .int .i64 0] := B_o.out.on hb
  have b_p : Blk w4 w2.heap.size [.int .u32 (a : Int), .int .u32 (b : Int), .int .u32 (c : Int), .int .u32 (d : Int)] := B_p.out.on hb
  have h' := bel_on h.out hb
  clear hb h B_o B_p
  have B_o := Lib.hid b_o
  have B_p := Lib.hid b_p
  have h := Lib.hid h'
  clear h' b_o b_p
  go_wp2_with fail
  refine (N.out _).mono ?_
  rintro e w5 ⟨rfl, hb⟩
  have b_o : Blk w5 w.heap.size [.int .i64 0, .int .u32 0, .int .u32 0, .int .u32 0, .int .u32 0, .int .i64 0, .int .i64 0] := B_o.out.on hb
  have b_p : Blk w5 w2.heap.size [.int .u32 (a : Int), .int .u32 (b : Int), .int .u32 (c : Int), .int .u32 (d : Int)] := B_p.out.on hb
  have h' := bel_on h.out hb
  clear hb h B_o B_p
  have B_o := Lib.hid b_o
  have B_p := Lib.hid b_p
  have h := Lib.hid h'
  clear h' b_o b_p
  have c_o0 := B_o.out.cell 0 rfl
  have c_o1 := B_o.out.cell 1 rfl
  have c_o2 := B_o.out.cell 2 rfl
  have c_o3 := B_o.out.cell 3 rfl
  have c_o4 := B_o.out.cell 4 rfl
  have c_o5 := B_o.out.cell 5 rfl
  have c_o6 := B_o.out.cell 6 rfl
  have c_p0 := B_p.out.cell 0 rfl
  have c_p1 := B_p.out.cell 1 rfl
  have c_p2 := B_p.out.cell 2 rfl
  have c_p3 := B_p.out.cell 3 rfl
  have t0 := B_o.out.thaw 0
  have t1 := B_o.out.thaw 1
  have t2 := B_o.out.thaw 2
  have t3 := B_o.out.thaw 3
  have t4 := B_o.out.thaw 4
  have t5 := B_o.out.thaw 5
  have t6 := B_o.out.thaw 6
  have K := Lib.hid (((((((B_o.out.set 0 (.int .i64 (f : Int))).set 1 (.int .u32 (a : Int))).set 2 (.int .u32 (b : Int))).set 3 (.int .u32 (c : Int))).set 4 (.int .u32 (d : Int))).set 5 (.int .i64 (n : Int))).set 6 (.int .i64 (s : Int)))
  have hlo := B_o.out.lt
  clear B_o B_p
  go_wp2_with fail
  have k := K.out
  have r0 := k.cell 0 rfl
  have r1 := k.cell 1 rfl
  have r2 := k.cell 2 rfl
  have r3 := k.cell 3 rfl
  have r4 := k.cell 4 rfl
  have r5 := k.cell 5 rfl
  have r6 := k.cell 6 rfl
  refine bodyPost_ret (v := (.tuple #[(.agg #[.int .i64 (f : Int), .int .u32 (a : Int), .int .u32 (b : Int), .int .u32 (c : Int), .int .u32 (d : Int), .int .i64 (n : Int), .int .i64 (s : Int)] : Value), .int .i64 0])) (by simp [results, Tryd.results6, go_sem, r0, r1, r2, r3, r4, r5, r6]) rfl ⟨rfl, ?_⟩
  exact (((((((h.out.setCell (Nat.le_refl _) _).setCell (Nat.le_refl _) _).setCell (Nat.le_refl _) _).setCell (Nat.le_refl _) _).setCell (Nat.le_refl _) _).setCell (Nat.le_refl _) _).setCell (Nat.le_refl _) _)

/-- What Read needs of an ack's bytes. -/
theorem parts (l : List UInt8) (h : 20 ≤ l.length) (hs : l.length ≤ maxLen) :
    Gives Tryd.prog 15 #[.string (str l), .int .i64 1] (.tuple #[.int .u64 (ackF l : Int), .string (str (l.drop 1)), .int .i64 0]) ∧
    Gives Tryd.prog 16 #[.string (str (l.drop 1))] (.tuple #[(.agg #[.int .u32 (boot (l.drop 1) : Int), .int .u32 (local' (l.drop 1) : Int), .int .u32 (boot (l.drop 9) : Int), .int .u32 (local' (l.drop 9) : Int)] : Value), .string (str (l.drop 17)), .int .i64 0]) ∧
    Gives Tryd.prog 15 #[.string (str (l.drop 17)), .int .i64 2] (.tuple #[.int .u64 (ackN l : Int), .string (str (l.drop 19)), .int .i64 0]) ∧
    Gives Tryd.prog 15 #[.string (str (l.drop 19)), .int .i64 1] (.tuple #[.int .u64 (ackS l : Int), .string (str (l.drop 20)), .int .i64 0]) := by
  refine ⟨take_gives l 1 (by omega) (by omega) hs, ?_, ?_, ?_⟩
  · have e := read_ok (l.drop 1) (by rw [List.length_drop]; omega) (by rw [List.length_drop]; omega)
    rw [List.drop_drop, List.drop_drop] at e
    exact e
  · have e := take_gives (l.drop 17) 2 (by omega) (by rw [List.length_drop]; omega) (by rw [List.length_drop]; omega)
    rw [List.drop_drop] at e
    exact e
  · have e := take_gives (l.drop 19) 1 (by omega) (by rw [List.length_drop]; omega) (by rw [List.length_drop]; omega)
    rw [List.drop_drop] at e
    exact e

/-- Read, whole: it reads twenty bytes of a node. -/
theorem aread_wrong (l : List UInt8) (hs : l.length ≤ maxLen) (h20 : 20 ≤ l.length) (h : ¬ (l.length = 20 ∧ ackF l < 16)) :
    Gives Tryd.prog 6 #[.string (str l)] (.tuple #[(.agg #[.int .i64 0, .int .u32 0, .int .u32 0, .int .u32 0, .int .u32 0, .int .i64 0, .int .i64 0] : Value), .int .i64 3]) := by
  obtain ⟨p1, p2, p3, p4⟩ := parts l h20 hs
  by_cases hr : l.drop 20 = []
  · have hl : l.length = 20 := by have := congrArg List.length hr; rw [List.length_drop] at this; simp at this; omega
    exact aread_bad l _ _ _ _ _ _ _ _ _ _ _ h20 (Lib.hid p1) (Lib.hid p2) (Lib.hid p3) (Lib.hid p4) (ackF_lt l) hr (by
      unfold nodeF; rw [decide_eq_false (show ¬ (ackF l : Int) < 16 by omega), Bool.and_false])
  · exact aread_more l _ _ _ _ _ _ _ _ _ _ _ h20 (Lib.hid p1) (Lib.hid p2) (Lib.hid p3) (Lib.hid p4) hr
theorem aread_no (l : List UInt8) (hs : l.length ≤ maxLen) (h : ¬ (l.length = 20 ∧ ackF l < 16)) :
    ∃ x : Int, x ≠ 0 ∧ Gives Tryd.prog 6 #[.string (str l)] (.tuple #[(.agg #[.int .i64 0, .int .u32 0, .int .u32 0, .int .u32 0, .int .u32 0, .int .i64 0, .int .i64 0] : Value), .int .i64 x]) := by
  by_cases h20 : l.length < 20
  · exact ⟨2, by omega, aread_short l h20⟩
  · exact ⟨3, by omega, aread_wrong l hs (by omega) h⟩
theorem aread_yes (l : List UInt8) (h : l.length = 20) (hf : ackF l < 16) :
    Gives Tryd.prog 6 #[.string (str l)] (.tuple #[(.agg #[.int .i64 (ackF l : Int), .int .u32 (boot (l.drop 1) : Int), .int .u32 (local' (l.drop 1) : Int), .int .u32 (boot (l.drop 9) : Int), .int .u32 (local' (l.drop 9) : Int), .int .i64 (ackN l : Int), .int .i64 (ackS l : Int)] : Value), .int .i64 0]) := by
  obtain ⟨p1, p2, p3, p4⟩ := parts l (by omega) (by unfold maxLen; omega)
  exact aread_good l _ _ _ _ _ _ _ _ _ _ _ (by omega) (Lib.hid p1) (Lib.hid p2) (Lib.hid p3) (Lib.hid p4) (ackF_lt l) (ackN_lt l) (ackS_lt l) (by rw [← h, List.drop_length]) (by
    unfold nodeF; rw [decide_eq_true (show (0 : Int) ≤ (ackF l : Int) by omega), decide_eq_true (show (ackF l : Int) < 16 by omega)]; rfl)
end Go.Proofs.YtaamlmahhkoleaaDoor
