/- Contracts of package parcel, part C: readHead, Read. -/
import Derived.Test.YtdpcpjloacifpaaParcB
import Derived.Test.YtdpcpjloacifpaaPUnblob
namespace Go.Proofs.Ytdpcpjloacifpaa
open Go.RowKit Go.Sort

theorem ptake_gives (l : List UInt8) (j : Nat) (hj : j ≤ 8) (h : j ≤ l.length) (hs : l.length ≤ maxLen) :
    Gives Try.prog 24 #[.string (str l), .int .i64 (j : Int)] (.tuple #[.int .u64 (PackF.valL (l.take j) : Int), .string (str (l.drop j)), .int .i64 0]) := by
  intro w
  have e := takeV_ok (str l) j (by omega) (by rw [str_size]; omega)
  rw [str_drop, str_list] at e
  have hc := take_any (str l) j w (by rw [str_size]; exact hs)
  rw [str_list, e] at hc
  exact hc.mono fun _ _ ⟨h1, n, h2⟩ => ⟨h1, h2 ▸ below_drewN (Below.refl _ _) n⟩

set_option maxRecDepth 100000 in
set_option maxHeartbeats 1000000 in
theorem rhead_any (l l1 l2 l3 l4 : List UInt8) (f a b c d g q r t : Nat) (T1 : Hid (Gives Try.prog 24 #[.string (str l), .int .i64 1] (.tuple #[.int .u64 (f : Int), .string (str l1), .int .i64 0]))) (RD : Hid (Gives Try.prog 25 #[.string (str l1)] (.tuple #[(.agg #[.int .u32 (a : Int), .int .u32 (b : Int), .int .u32 (c : Int), .int .u32 (d : Int)] : Value), .string (str l2), .int .i64 0])))
    (T2 : Hid (Gives Try.prog 24 #[.string (str l2), .int .i64 1] (.tuple #[.int .u64 (g : Int), .string (str l3), .int .i64 0]))) (T3 : Hid (Gives Try.prog 24 #[.string (str l3), .int .i64 1] (.tuple #[.int .u64 (t : Int), .string (str l4), .int .i64 0]))) (hf : f < 256) (hg : g < 256) (ht : t < 256) (hq : g / 16 = q) (hr : g % 16 = r) :
    Gives Try.prog 19 #[.string (str l)] (.agg #[.int .i64 (f : Int), .int .u32 (a : Int), .int .u32 (b : Int), .int .u32 (c : Int), .int .u32 (d : Int), .int .i64 (q : Int), .int .i64 (r : Int), .int .i64 (t : Int), .string ⟨#[]⟩] : Value) := by
  intro w
  have e1 : wrap64 (f : Int) = (f : Int) := IntWalk.wrap64_in _ (by omega)
  have e2 : wrap64 (g : Int) = (g : Int) := IntWalk.wrap64_in _ (by omega)
  have e3 : wrap64 (t : Int) = (t : Int) := IntWalk.wrap64_in _ (by omega)
  have d1 : wrap64 ((g : Int) / 16) = (q : Int) := by rw [IntWalk.wrap64_in _ (by omega)]; omega
  have d2 : (g : Int) % 16 = (r : Int) := by omega
  clear hf hg ht hq hr
  go_enter Try.func19, Try.ntmps19
  have h := Lib.hid (Below.refl w.heap.size w)
  go_wp2_with fail
  refine (T1.out _).mono ?_
  rintro e w1 ⟨rfl, hb⟩
  have b_o : Blk w1 w.heap.size [.int .i64 0, .int .u32 0, .int .u32 0, .int .u32 0, .int .u32 0, .int .i64 0, .int .i64 0, .int .i64 0, .string ⟨#[]⟩] := (Blk.new w [.int .i64 0, .int .u32 0, .int .u32 0, .int .u32 0, .int .u32 0, .int .i64 0, .int .i64 0, .int .i64 0, .string ⟨#[]⟩] 28).on hb
  have h' := bel_on ((h.out).alloc (h.out).size _) hb
  clear hb h
  have B_o := Lib.hid b_o
  have h := Lib.hid h'
  clear h' b_o
  go_wp2_with fail
  refine (RD.out _).mono ?_
  rintro e w2 ⟨rfl, hb⟩
  have b_o : Blk w2 w.heap.size [.int .i64 0, .int .u32 0, .int .u32 0, .int .u32 0, .int .u32 0, .int .i64 0, .int .i64 0, .int .i64 0, .string ⟨#[]⟩] := B_o.out.on hb
  have h' := bel_on h.out hb
  clear hb h B_o
  have B_o := Lib.hid b_o
  have h := Lib.hid h'
  clear h' b_o
  go_wp2_with fail
  refine (T2.out _).mono ?_
  rintro e w3 ⟨rfl, hb⟩
  have b_o : Blk w3 w.heap.size [.int .i64 0, .int .u32 0, .int .u32 0, .int .u32 0, .int .u32 0, .int .i64 0, .int .i64 0, .int .i64 0, .string ⟨#[]⟩] := (B_o.out.next (.cells #[.int .u32 (a : Int), .int .u32 (b : Int), .int .u32 (c : Int), .int .u32 (d : Int)] 26)).on hb
  have b_p : Blk w3 w2.heap.size [.int .u32 (a : Int), .int .u32 (b : Int), .int .u32 (c : Int), .int .u32 (d : Int)] := (Blk.new w2 [.int .u32 (a : Int), .int .u32 (b : Int), .int .u32 (c : Int), .int .u32 (d : Int)] 26).on hb
  have h' := bel_on ((h.out).alloc (h.out).size _) hb
  clear hb h B_o
  have B_o := Lib.hid b_o
  have B_p := Lib.hid b_p
  have h := Lib.hid h'
  clear h' b_o b_p
  go_wp2_with fail
  refine (T3.out _).mono ?_
  rintro e w4 ⟨rfl, hb⟩
  have b_o : Blk w4 w.heap.size [.int .i64 0, .int .u32 0, .int .u32 0, .int .u32 0, .int .u32 0, .int .i64 0, .int .i64 0, .int .i64 0, .string ⟨#[]⟩] := B_o.out.on hb
  have b_p : Blk w4 w2.heap.size [.int .u32 (a : Int), .int .u32 (b : Int), .int .u32 (c : Int), .int .u32 (d : Int)] := B_p.out.on hb
  have h' := bel_on h.out hb
  clear hb h B_o B_p
  have B_o := Lib.hid b_o
  have B_p := Lib.hid b_p
  have h := Lib.hid h'
  clear h' b_o b_p
  have c_o0 := B_o.out.cell 0 rfl
  have c_o1 := B_o.out.cell 1 rfl
  have c_o2 := B_o.out.cell 2 rfl
  have c_o3 := B_o.out.cell 3 rfl
  have c_o4 := B_o.out.cell 4 rfl
  have c_o5 := B_o.out.cell 5 rfl
  have c_o6 := B_o.out.cell 6 rfl
  have c_o7 := B_o.out.cell 7 rfl
  have c_o8 := B_o.out.cell 8 rfl
  have c_p0 := B_p.out.cell 0 rfl
  have c_p1 := B_p.out.cell 1 rfl
  have c_p2 := B_p.out.cell 2 rfl
  have c_p3 := B_p.out.cell 3 rfl
  have t0 := B_o.out.thaw 0
  have t1 := B_o.out.thaw 1
  have t2 := B_o.out.thaw 2
  have t3 := B_o.out.thaw 3
  have t4 := B_o.out.thaw 4
  have t5 := B_o.out.thaw 5
  have t6 := B_o.out.thaw 6
  have t7 := B_o.out.thaw 7
  have t8 := B_o.out.thaw 8
  have K := Lib.hid (((((((((B_o.out.set 0 (.int .i64 (f : Int))).set 1 (.int .u32 (a : Int))).set 2 (.int .u32 (b : Int))).set 3 (.int .u32 (c : Int))).set 4 (.int .u32 (d : Int))).set 5 (.int .i64 (q : Int))).set 6 (.int .i64 (r : Int))).set 7 (.int .i64 (t : Int))).set 8 (.string ⟨#[]⟩))
  have hlo := B_o.out.lt
  clear B_o B_p
  go_wp2_with fail
  have k := K.out
  have r0 := k.cell 0 rfl
  have r1 := k.cell 1 rfl
  have r2 := k.cell 2 rfl
  have r3 := k.cell 3 rfl
  have r4 := k.cell 4 rfl
  have r5 := k.cell 5 rfl
  have r6 := k.cell 6 rfl
  have r7 := k.cell 7 rfl
  have r8 := k.cell 8 rfl
  refine bodyPost_ret (v := (.agg #[.int .i64 (f : Int), .int .u32 (a : Int), .int .u32 (b : Int), .int .u32 (c : Int), .int .u32 (d : Int), .int .i64 (q : Int), .int .i64 (r : Int), .int .i64 (t : Int), .string ⟨#[]⟩] : Value)) (by simp [results, Try.results19, go_sem, r0, r1, r2, r3, r4, r5, r6, r7, r8]) rfl ⟨rfl, ?_⟩
  exact (((((((((h.out.setCell (Nat.le_refl _) _).setCell (Nat.le_refl _) _).setCell (Nat.le_refl _) _).setCell (Nat.le_refl _) _).setCell (Nat.le_refl _) _).setCell (Nat.le_refl _) _).setCell (Nat.le_refl _) _).setCell (Nat.le_refl _) _).setCell (Nat.le_refl _) _)

theorem pread_less (s : ByteArray) (h : s.size < 20) : Gives Try.prog 7 #[.string s] (.tuple #[(.agg #[.int .i64 0, .int .u32 0, .int .u32 0, .int .u32 0, .int .u32 0, .int .i64 0, .int .i64 0, .int .i64 0, .string ⟨#[]⟩] : Value), .int .i64 2]) := by
  intro w
  have h20 : decide ((s.size : Int) < 20) = true := decide_eq_true (by omega)
  clear h
  go_enter Try.func7, Try.ntmps7
  go_wp2
  refine bodyPost_ret (v := .tuple #[(.agg #[.int .i64 0, .int .u32 0, .int .u32 0, .int .u32 0, .int .u32 0, .int .i64 0, .int .i64 0, .int .i64 0, .string ⟨#[]⟩] : Value), .int .i64 2]) (by simp [results, Try.results7, go_sem]) rfl ⟨rfl, ?_⟩
  exact (Below.refl _ _).alloc (Nat.le_refl _) _

set_option maxRecDepth 100000 in
set_option maxHeartbeats 2000000 in
theorem pread_short (s u : ByteArray) (h : 20 ≤ s.size) (hu : s.extract 19 s.size = u) (UB : Hid (Gives Try.prog 18 #[.string u] (.tuple #[.string ⟨#[]⟩, .string ⟨#[]⟩, .int .i64 2]))) :
    Gives Try.prog 7 #[.string s] (.tuple #[(.agg #[.int .i64 0, .int .u32 0, .int .u32 0, .int .u32 0, .int .u32 0, .int .i64 0, .int .i64 0, .int .i64 0, .string ⟨#[]⟩] : Value), .int .i64 2]) := by
  intro w
  have h20 : decide ((s.size : Int) < 20) = false := decide_eq_false (by omega)
  have h19 : (19 : Int) ≤ (s.size : Int) := by omega
  clear h
  go_enter Try.func7, Try.ntmps7
  have h := Lib.hid (Below.refl w.heap.size w)
  go_wp2_with fail
  refine (UB.out _).mono ?_
  rintro e w1 ⟨rfl, hb⟩
  have b_o : Blk w1 w.heap.size [.int .i64 0, .int .u32 0, .int .u32 0, .int .u32 0, .int .u32 0, .int .i64 0, .int .i64 0, .int .i64 0, .string ⟨#[]⟩] := (Blk.new w [.int .i64 0, .int .u32 0, .int .u32 0, .int .u32 0, .int .u32 0, .int .i64 0, .int .i64 0, .int .i64 0, .string ⟨#[]⟩] 28).on hb
  have h' := bel_on ((h.out).alloc (h.out).size _) hb
  clear hb h
  have B_o := Lib.hid b_o
  have h := Lib.hid h'
  clear h' b_o
  have c_o0 := B_o.out.cell 0 rfl
  have c_o1 := B_o.out.cell 1 rfl
  have c_o2 := B_o.out.cell 2 rfl
  have c_o3 := B_o.out.cell 3 rfl
  have c_o4 := B_o.out.cell 4 rfl
  have c_o5 := B_o.out.cell 5 rfl
  have c_o6 := B_o.out.cell 6 rfl
  have c_o7 := B_o.out.cell 7 rfl
  have c_o8 := B_o.out.cell 8 rfl
  have t0 := B_o.out.thaw 0
  have t1 := B_o.out.thaw 1
  have t2 := B_o.out.thaw 2
  have t3 := B_o.out.thaw 3
  have t4 := B_o.out.thaw 4
  have t5 := B_o.out.thaw 5
  have t6 := B_o.out.thaw 6
  have t7 := B_o.out.thaw 7
  have t8 := B_o.out.thaw 8
  have K := Lib.hid (((((((((B_o.out.set 0 (.int .i64 0)).set 1 (.int .u32 0)).set 2 (.int .u32 0)).set 3 (.int .u32 0)).set 4 (.int .u32 0)).set 5 (.int .i64 0)).set 6 (.int .i64 0)).set 7 (.int .i64 0)).set 8 (.string ⟨#[]⟩))
  have hlo := B_o.out.lt
  clear B_o
  go_wp2_with fail
  have k := K.out
  have r0 := k.cell 0 rfl
  have r1 := k.cell 1 rfl
  have r2 := k.cell 2 rfl
  have r3 := k.cell 3 rfl
  have r4 := k.cell 4 rfl
  have r5 := k.cell 5 rfl
  have r6 := k.cell 6 rfl
  have r7 := k.cell 7 rfl
  have r8 := k.cell 8 rfl
  refine bodyPost_ret (v := (.tuple #[(.agg #[.int .i64 0, .int .u32 0, .int .u32 0, .int .u32 0, .int .u32 0, .int .i64 0, .int .i64 0, .int .i64 0, .string ⟨#[]⟩] : Value), .int .i64 2])) (by simp [results, Try.results7, go_sem, r0, r1, r2, r3, r4, r5, r6, r7, r8]) rfl ⟨rfl, ?_⟩
  exact (((((((((h.out.setCell (Nat.le_refl _) _).setCell (Nat.le_refl _) _).setCell (Nat.le_refl _) _).setCell (Nat.le_refl _) _).setCell (Nat.le_refl _) _).setCell (Nat.le_refl _) _).setCell (Nat.le_refl _) _).setCell (Nat.le_refl _) _).setCell (Nat.le_refl _) _)

set_option maxRecDepth 100000 in
set_option maxHeartbeats 2000000 in
theorem pread_more (s u : ByteArray) (h : 20 ≤ s.size) (hu : s.extract 19 s.size = u) (f a b c d q r t : Nat) (x y : ByteArray) (UB : Hid (Gives Try.prog 18 #[.string u] (.tuple #[.string x, .string y, .int .i64 0]))) (RH : Hid (Gives Try.prog 19 #[.string s] (.agg #[.int .i64 (f : Int), .int .u32 (a : Int), .int .u32 (b : Int), .int .u32 (c : Int), .int .u32 (d : Int), .int .i64 (q : Int), .int .i64 (r : Int), .int .i64 (t : Int), .string ⟨#[]⟩] : Value))) (hy : (!y.toList.isEmpty) = true) :
    Gives Try.prog 7 #[.string s] (.tuple #[(.agg #[.int .i64 0, .int .u32 0, .int .u32 0, .int .u32 0, .int .u32 0, .int .i64 0, .int .i64 0, .int .i64 0, .string ⟨#[]⟩] : Value), .int .i64 3]) := by
  intro w
  have h20 : decide ((s.size : Int) < 20) = false := decide_eq_false (by omega)
  have h19 : (19 : Int) ≤ (s.size : Int) := by omega
  clear h
  go_enter Try.func7, Try.ntmps7
  have h := Lib.hid (Below.refl w.heap.size w)
  go_wp2_with fail
  refine (UB.out _).mono ?_
  rintro e w1 ⟨rfl, hb⟩
  have b_o : Blk w1 w.heap.size [.int .i64 0, .int .u32 0, .int .u32 0, .int .u32 0, .int .u32 0, .int .i64 0, .int .i64 0, .int .i64 0, .string ⟨#[]⟩] := (Blk.new w [.int .i64 0, .int .u32 0, .int .u32 0, .int .u32 0, .int .u32 0, .int .i64 0, .int .i64 0, .int .i64 0, .string ⟨#[]⟩] 28).on hb
  have h' := bel_on ((h.out).alloc (h.out).size _) hb
  clear hb h
  have B_o := Lib.hid b_o
  have h := Lib.hid h'
  clear h' b_o
  go_wp2_with fail
  refine (RH.out _).mono ?_
  rintro e w2 ⟨rfl, hb⟩
  have b_o : Blk w2 w.heap.size [.int .i64 0, .int .u32 0, .int .u32 0, .int .u32 0, .int .u32 0, .int .i64 0, .int .i64 0, .int .i64 0, .string ⟨#[]⟩] := B_o.out.on hb
  have h' := bel_on h.out hb
  clear hb h B_o
  have B_o := Lib.hid b_o
  have h := Lib.hid h'
  clear h' b_o
  have c_o0 := B_o.out.cell 0 rfl
  have c_o1 := B_o.out.cell 1 rfl
  have c_o2 := B_o.out.cell 2 rfl
  have c_o3 := B_o.out.cell 3 rfl
  have c_o4 := B_o.out.cell 4 rfl
  have c_o5 := B_o.out.cell 5 rfl
  have c_o6 := B_o.out.cell 6 rfl
  have c_o7 := B_o.out.cell 7 rfl
  have c_o8 := B_o.out.cell 8 rfl
  have t0 := B_o.out.thaw 0
  have t1 := B_o.out.thaw 1
  have t2 := B_o.out.thaw 2
  have t3 := B_o.out.thaw 3
  have t4 := B_o.out.thaw 4
  have t5 := B_o.out.thaw 5
  have t6 := B_o.out.thaw 6
  have t7 := B_o.out.thaw 7
  have t8 := B_o.out.thaw 8
  have K := Lib.hid (((((((((B_o.out.set 0 (.int .i64 0)).set 1 (.int .u32 0)).set 2 (.int .u32 0)).set 3 (.int .u32 0)).set 4 (.int .u32 0)).set 5 (.int .i64 0)).set 6 (.int .i64 0)).set 7 (.int .i64 0)).set 8 (.string ⟨#[]⟩))
  have hlo := B_o.out.lt
  clear B_o
  go_wp2_with fail
  have k := K.out.next (.cells #[.int .i64 (f : Int), .int .u32 (a : Int), .int .u32 (b : Int), .int .u32 (c : Int), .int .u32 (d : Int), .int .i64 (q : Int), .int .i64 (r : Int), .int .i64 (t : Int), .string x] 28)
  have r0 := k.cell 0 rfl
  have r1 := k.cell 1 rfl
  have r2 := k.cell 2 rfl
  have r3 := k.cell 3 rfl
  have r4 := k.cell 4 rfl
  have r5 := k.cell 5 rfl
  have r6 := k.cell 6 rfl
  have r7 := k.cell 7 rfl
  have r8 := k.cell 8 rfl
  refine bodyPost_ret (v := (.tuple #[(.agg #[.int .i64 0, .int .u32 0, .int .u32 0, .int .u32 0, .int .u32 0, .int .i64 0, .int .i64 0, .int .i64 0, .string ⟨#[]⟩] : Value), .int .i64 3])) (by simp [results, Try.results7, go_sem, r0, r1, r2, r3, r4, r5, r6, r7, r8]) rfl ⟨rfl, ?_⟩
  exact (((((((((h.out.setCell (Nat.le_refl _) _).setCell (Nat.le_refl _) _).setCell (Nat.le_refl _) _).setCell (Nat.le_refl _) _).setCell (Nat.le_refl _) _).setCell (Nat.le_refl _) _).setCell (Nat.le_refl _) _).setCell (Nat.le_refl _) _).setCell (Nat.le_refl _) _).alloc (by simpa using Nat.le_of_lt hlo) _

set_option maxRecDepth 100000 in
set_option maxHeartbeats 2000000 in
theorem pread_wrong (s u : ByteArray) (h : 20 ≤ s.size) (hu : s.extract 19 s.size = u) (f a b c d q r t : Nat) (x y : ByteArray) (UB : Hid (Gives Try.prog 18 #[.string u] (.tuple #[.string x, .string y, .int .i64 0]))) (RH : Hid (Gives Try.prog 19 #[.string s] (.agg #[.int .i64 (f : Int), .int .u32 (a : Int), .int .u32 (b : Int), .int .u32 (c : Int), .int .u32 (d : Int), .int .i64 (q : Int), .int .i64 (r : Int), .int .i64 (t : Int), .string ⟨#[]⟩] : Value))) (hy : (!y.toList.isEmpty) = false) (RT : Hid (Gives Try.prog 14 #[(.agg #[.int .i64 (f : Int), .int .u32 (a : Int), .int .u32 (b : Int), .int .u32 (c : Int), .int .u32 (d : Int), .int .i64 (q : Int), .int .i64 (r : Int), .int .i64 (t : Int), .string x] : Value)] (.bool false))) :
    Gives Try.prog 7 #[.string s] (.tuple #[(.agg #[.int .i64 0, .int .u32 0, .int .u32 0, .int .u32 0, .int .u32 0, .int .i64 0, .int .i64 0, .int .i64 0, .string ⟨#[]⟩] : Value), .int .i64 3]) := by
  intro w
  have h20 : decide ((s.size : Int) < 20) = false := decide_eq_false (by omega)
  have h19 : (19 : Int) ≤ (s.size : Int) := by omega
  clear h
  go_enter Try.func7, Try.ntmps7
  have h := Lib.hid (Below.refl w.heap.size w)
  go_wp2_with fail
  refine (UB.out _).mono ?_
  rintro e w1 ⟨rfl, hb⟩
  have b_o : Blk w1 w.heap.size [.int .i64 0, .int .u32 0, .int .u32 0, .int .u32 0, .int .u32 0, .int .i64 0, .int .i64 0, .int .i64 0, .string ⟨#[]⟩] := (Blk.new w [.int .i64 0, .int .u32 0, .int .u32 0, .int .u32 0, .int .u32 0, .int .i64 0, .int .i64 0, .int .i64 0, .string ⟨#[]⟩] 28).on hb
  have h' := bel_on ((h.out).alloc (h.out).size _) hb
  clear hb h
  have B_o := Lib.hid b_o
  have h := Lib.hid h'
  clear h' b_o
  go_wp2_with fail
  refine (RH.out _).mono ?_
  rintro e w2 ⟨rfl, hb⟩
  have b_o : Blk w2 w.heap.size [.int .i64 0, .int .u32 0, .int .u32 0, .int .u32 0, .int .u32 0, .int .i64 0, .int .i64 0, .int .i64 0, .string ⟨#[]⟩] := B_o.out.on hb
  have h' := bel_on h.out hb
  clear hb h B_o
  have B_o := Lib.hid b_o
  have h := Lib.hid h'
  clear h' b_o
  go_wp2_with fail
  refine (RT.out _).mono ?_
  rintro e w3 ⟨rfl, hb⟩
  have b_o : Blk w3 w.heap.size [.int .i64 0, .int .u32 0, .int .u32 0, .int .u32 0, .int .u32 0, .int .i64 0, .int .i64 0, .int .i64 0, .string ⟨#[]⟩] := (B_o.out.next (.cells #[.int .i64 (f : Int), .int .u32 (a : Int), .int .u32 (b : Int), .int .u32 (c : Int), .int .u32 (d : Int), .int .i64 (q : Int), .int .i64 (r : Int), .int .i64 (t : Int), .string x] 28)).on hb
  have b_p : Blk w3 w2.heap.size [.int .i64 (f : Int), .int .u32 (a : Int), .int .u32 (b : Int), .int .u32 (c : Int), .int .u32 (d : Int), .int .i64 (q : Int), .int .i64 (r : Int), .int .i64 (t : Int), .string x] := (Blk.new w2 [.int .i64 (f : Int), .int .u32 (a : Int), .int .u32 (b : Int), .int .u32 (c : Int), .int .u32 (d : Int), .int .i64 (q : Int), .int .i64 (r : Int), .int .i64 (t : Int), .string x] 28).on hb
  have h' := bel_on ((h.out).alloc (h.out).size _) hb
  clear hb h B_o
  have B_o := Lib.hid b_o
  have B_p := Lib.hid b_p
  have h := Lib.hid h'
  clear h' b_o b_p
  have c_o0 := B_o.out.cell 0 rfl
  have c_o1 := B_o.out.cell 1 rfl
  have c_o2 := B_o.out.cell 2 rfl
  have c_o3 := B_o.out.cell 3 rfl
  have c_o4 := B_o.out.cell 4 rfl
  have c_o5 := B_o.out.cell 5 rfl
  have c_o6 := B_o.out.cell 6 rfl
  have c_o7 := B_o.out.cell 7 rfl
  have c_o8 := B_o.out.cell 8 rfl
  have t0 := B_o.out.thaw 0
  have t1 := B_o.out.thaw 1
  have t2 := B_o.out.thaw 2
  have t3 := B_o.out.thaw 3
  have t4 := B_o.out.thaw 4
  have t5 := B_o.out.thaw 5
  have t6 := B_o.out.thaw 6
  have t7 := B_o.out.thaw 7
  have t8 := B_o.out.thaw 8
  have K := Lib.hid (((((((((B_o.out.set 0 (.int .i64 0)).set 1 (.int .u32 0)).set 2 (.int .u32 0)).set 3 (.int .u32 0)).set 4 (.int .u32 0)).set 5 (.int .i64 0)).set 6 (.int .i64 0)).set 7 (.int .i64 0)).set 8 (.string ⟨#[]⟩))
  have hlo := B_o.out.lt
  clear B_o B_p
  go_wp2_with fail
  have k := K.out
  have r0 := k.cell 0 rfl
  have r1 := k.cell 1 rfl
  have r2 := k.cell 2 rfl
  have r3 := k.cell 3 rfl
  have r4 := k.cell 4 rfl
  have r5 := k.cell 5 rfl
  have r6 := k.cell 6 rfl
  have r7 := k.cell 7 rfl
  have r8 := k.cell 8 rfl
  refine bodyPost_ret (v := (.tuple #[(.agg #[.int .i64 0, .int .u32 0, .int .u32 0, .int .u32 0, .int .u32 0, .int .i64 0, .int .i64 0, .int .i64 0, .string ⟨#[]⟩] : Value), .int .i64 3])) (by simp [results, Try.results7, go_sem, r0, r1, r2, r3, r4, r5, r6, r7, r8]) rfl ⟨rfl, ?_⟩
  exact (((((((((h.out.setCell (Nat.le_refl _) _).setCell (Nat.le_refl _) _).setCell (Nat.le_refl _) _).setCell (Nat.le_refl _) _).setCell (Nat.le_refl _) _).setCell (Nat.le_refl _) _).setCell (Nat.le_refl _) _).setCell (Nat.le_refl _) _).setCell (Nat.le_refl _) _)

set_option maxRecDepth 100000 in
set_option maxHeartbeats 2000000 in
theorem pread_good (s u : ByteArray) (h : 20 ≤ s.size) (hu : s.extract 19 s.size = u) (f a b c d q r t : Nat) (x y : ByteArray) (UB : Hid (Gives Try.prog 18 #[.string u] (.tuple #[.string x, .string y, .int .i64 0]))) (RH : Hid (Gives Try.prog 19 #[.string s] (.agg #[.int .i64 (f : Int), .int .u32 (a : Int), .int .u32 (b : Int), .int .u32 (c : Int), .int .u32 (d : Int), .int .i64 (q : Int), .int .i64 (r : Int), .int .i64 (t : Int), .string ⟨#[]⟩] : Value))) (hy : (!y.toList.isEmpty) = false) (RT : Hid (Gives Try.prog 14 #[(.agg #[.int .i64 (f : Int), .int .u32 (a : Int), .int .u32 (b : Int), .int .u32 (c : Int), .int .u32 (d : Int), .int .i64 (q : Int), .int .i64 (r : Int), .int .i64 (t : Int), .string x] : Value)] (.bool true))) :
    Gives Try.prog 7 #[.string s] (.tuple #[(.agg #[.int .i64 (f : Int), .int .u32 (a : Int), .int .u32 (b : Int), .int .u32 (c : Int), .int .u32 (d : Int), .int .i64 (q : Int), .int .i64 (r : Int), .int .i64 (t : Int), .string x] : Value), .int .i64 0]) := by
  intro w
  have h20 : decide ((s.size : Int) < 20) = false := decide_eq_false (by omega)
  have h19 : (19 : Int) ≤ (s.size : Int) := by omega
  clear h
  go_enter Try.func7, Try.ntmps7
  have h := Lib.hid (Below.refl w.heap.size w)
  go_wp2_with fail
  refine (UB.out _).mono ?_
  rintro e w1 ⟨rfl, hb⟩
  have b_o : Blk w1 w.heap.size [.int .i64 0, .int .u32 0, .int .u32 0, .int .u32 0, .int .u32 0, .int .i64 0, .int .i64 0, .int .i64 0, .string ⟨#[]⟩] := (Blk.new w [.int .i64 0, .int .u32 0, .int .u32 0, .int .u32 0, .int .u32 0, .int .i64 0, .int .i64 0, .int .i64 0, .string ⟨#[]⟩] 28).on hb
  have h' := bel_on ((h.out).alloc (h.out).size _) hb
  clear hb h
  have B_o := Lib.hid b_o
  have h := Lib.hid h'
  clear h' b_o
  go_wp2_with fail
  refine (RH.out _).mono ?_
  rintro e w2 ⟨rfl, hb⟩
  have b_o : Blk w2 w.heap.size [.int .i64 0, .int .u32 0, .int .u32 0, .int .u32 0, .int .u32 0, .int .i64 0, .int .i64 0, .int .i64 0, .string ⟨#[]⟩] := B_o.out.on hb
  have h' := bel_on h.out hb
  clear hb h B_o
  have B_o := Lib.hid b_o
  have h := Lib.hid h'
  clear h' b_o
  go_wp2_with fail
  refine (RT.out _).mono ?_
  rintro e w3 ⟨rfl, hb⟩
  have b_o : Blk w3 w.heap.size [.int .i64 0, .int .u32 0, .int .u32 0, .int .u32 0, .int .u32 0, .int .i64 0, .int .i64 0, .int .i64 0, .string ⟨#[]⟩] := (B_o.out.next (.cells #[.int .i64 (f : Int), .int .u32 (a : Int), .int .u32 (b : Int), .int .u32 (c : Int), .int .u32 (d : Int), .int .i64 (q : Int), .int .i64 (r : Int), .int .i64 (t : Int), .string x] 28)).on hb
  have b_p : Blk w3 w2.heap.size [.int .i64 (f : Int), .int .u32 (a : Int), .int .u32 (b : Int), .int .u32 (c : Int), .int .u32 (d : Int), .int .i64 (q : Int), .int .i64 (r : Int), .int .i64 (t : Int), .string x] := (Blk.new w2 [.int .i64 (f : Int), .int .u32 (a : Int), .int .u32 (b : Int), .int .u32 (c : Int), .int .u32 (d : Int), .int .i64 (q : Int), .int .i64 (r : Int), .int .i64 (t : Int), .string x] 28).on hb
  have h' := bel_on ((h.out).alloc (h.out).size _) hb
  clear hb h B_o
  have B_o := Lib.hid b_o
  have B_p := Lib.hid b_p
  have h := Lib.hid h'
  clear h' b_o b_p
  have c_o0 := B_o.out.cell 0 rfl
  have c_o1 := B_o.out.cell 1 rfl
  have c_o2 := B_o.out.cell 2 rfl
  have c_o3 := B_o.out.cell 3 rfl
  have c_o4 := B_o.out.cell 4 rfl
  have c_o5 := B_o.out.cell 5 rfl
  have c_o6 := B_o.out.cell 6 rfl
  have c_o7 := B_o.out.cell 7 rfl
  have c_o8 := B_o.out.cell 8 rfl
  have c_p0 := B_p.out.cell 0 rfl
  have c_p1 := B_p.out.cell 1 rfl
  have c_p2 := B_p.out.cell 2 rfl
  have c_p3 := B_p.out.cell 3 rfl
  have c_p4 := B_p.out.cell 4 rfl
  have c_p5 := B_p.out.cell 5 rfl
  have c_p6 := B_p.out.cell 6 rfl
  have c_p7 := B_p.out.cell 7 rfl
  have c_p8 := B_p.out.cell 8 rfl
  have t0 := B_o.out.thaw 0
  have t1 := B_o.out.thaw 1
  have t2 := B_o.out.thaw 2
  have t3 := B_o.out.thaw 3
  have t4 := B_o.out.thaw 4
  have t5 := B_o.out.thaw 5
  have t6 := B_o.out.thaw 6
  have t7 := B_o.out.thaw 7
  have t8 := B_o.out.thaw 8
  have K := Lib.hid (((((((((B_o.out.set 0 (.int .i64 (f : Int))).set 1 (.int .u32 (a : Int))).set 2 (.int .u32 (b : Int))).set 3 (.int .u32 (c : Int))).set 4 (.int .u32 (d : Int))).set 5 (.int .i64 (q : Int))).set 6 (.int .i64 (r : Int))).set 7 (.int .i64 (t : Int))).set 8 (.string x))
  have hlo := B_o.out.lt
  clear B_o B_p
  go_wp2_with fail
  have k := K.out
  have r0 := k.cell 0 rfl
  have r1 := k.cell 1 rfl
  have r2 := k.cell 2 rfl
  have r3 := k.cell 3 rfl
  have r4 := k.cell 4 rfl
  have r5 := k.cell 5 rfl
  have r6 := k.cell 6 rfl
  have r7 := k.cell 7 rfl
  have r8 := k.cell 8 rfl
  refine bodyPost_ret (v := (.tuple #[(.agg #[.int .i64 (f : Int), .int .u32 (a : Int), .int .u32 (b : Int), .int .u32 (c : Int), .int .u32 (d : Int), .int .i64 (q : Int), .int .i64 (r : Int), .int .i64 (t : Int), .string x] : Value), .int .i64 0])) (by simp [results, Try.results7, go_sem, r0, r1, r2, r3, r4, r5, r6, r7, r8]) rfl ⟨rfl, ?_⟩
  exact (((((((((h.out.setCell (Nat.le_refl _) _).setCell (Nat.le_refl _) _).setCell (Nat.le_refl _) _).setCell (Nat.le_refl _) _).setCell (Nat.le_refl _) _).setCell (Nat.le_refl _) _).setCell (Nat.le_refl _) _).setCell (Nat.le_refl _) _).setCell (Nat.le_refl _) _)
end Go.Proofs.Ytdpcpjloacifpaa
