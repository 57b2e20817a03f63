/- Contracts of package hello, part E: the document's own Read. -/
import Derived.Test.YtgmpfnhdcgcldaaHelloD
namespace Go.Proofs.Ytgmpfnhdcgcldaa
open Go.RowKit Go.Sort

theorem rtake_one (c0 : UInt8) (l : List UInt8) (hs : l.length + 1 ≤ maxLen) : Gives Try.prog 23 #[.string (str (c0 :: l)), .int .i64 1] (.tuple #[.int .u64 (c0.toNat : Int), .string (str l), .int .i64 0]) := fun w => by
  have hz := str_size (c0 :: l)
  rw [List.length_cons] at hz
  have e := takeV_ok (str (c0 :: l)) 1 (by omega) (by omega)
  rw [str_drop, str_list] at e
  have e1 : PackF.valL ((c0 :: l).take 1) = c0.toNat := by simp [PackF.valL]
  rw [e1] at e
  refine (rtake_any (str (c0 :: l)) 1 w (by rw [hz]; exact hs)).mono ?_
  rintro x w1 ⟨rfl, n, rfl⟩
  rw [str_list]
  exact ⟨congrArg _ e, below_drewN (Below.refl _ _) n⟩
theorem rtake_none (w : World) : Calls Try.prog 23 #[.string (str []), .int .i64 1] w fun e w' => e = .returned (.tuple #[.int .u64 0, .string ⟨#[]⟩, .int .i64 2]) ∧ Below w.heap.size w w' := by
  have e := takeV_short [] 1 (by omega) (by simp)
  refine (rtake_any (str []) 1 w (by rw [str_size]; unfold maxLen; simp)).mono ?_
  rintro x w1 ⟨rfl, n, rfl⟩
  rw [str_list]
  exact ⟨congrArg _ e, below_drewN (Below.refl _ _) n⟩
theorem rest_0 {r : List UInt8} (h : r = []) : Gives Try.prog 25 #[.string (str r)] (.int .i64 0) := fun w => by
  refine (rrest_any (str r) w).mono ?_
  rintro x w1 ⟨rfl, rfl⟩
  rw [str_list]
  exact ⟨by unfold rrestN; rw [if_pos h], Below.refl _ _⟩
theorem rest_3 {r : List UInt8} (h : ¬ r = []) : Gives Try.prog 25 #[.string (str r)] (.int .i64 3) := fun w => by
  refine (rrest_any (str r) w).mono ?_
  rintro x w1 ⟨rfl, rfl⟩
  rw [str_list]
  exact ⟨by unfold rrestN; rw [if_neg h], Below.refl _ _⟩

theorem rhread_none (w : World) :
    Calls Try.prog 10 #[.string (str [])] w fun e w' => e = .returned (readV []) ∧ Below w.heap.size w w' := by
  rw [readV_short (by simp)]
  go_enter Try.func10, Try.ntmps10
  have h := Lib.hid (Below.refl w.heap.size w)
  go_wp2_with fail
  refine (rtake_none _).mono ?_
  rintro e w1 ⟨rfl, hb⟩
  have b_o : Blk w1 w.heap.size [.int .i64 0, .int .u32 0, .int .u32 0, .int .u32 0, .int .u32 0] := (Blk.new w [.int .i64 0, .int .u32 0, .int .u32 0, .int .u32 0, .int .u32 0] 28).on hb
  have h' := bel_on ((h.out).alloc (h.out).size _) hb
  clear hb h
  have B_o := Lib.hid b_o
  have h := Lib.hid h'
  clear h' b_o
  have c_o0 := B_o.out.cell 0 rfl
  have c_o1 := B_o.out.cell 1 rfl
  have c_o2 := B_o.out.cell 2 rfl
  have c_o3 := B_o.out.cell 3 rfl
  have c_o4 := B_o.out.cell 4 rfl
  have t0 := B_o.out.thaw 0
  have t1 := B_o.out.thaw 1
  have t2 := B_o.out.thaw 2
  have t3 := B_o.out.thaw 3
  have t4 := B_o.out.thaw 4
  have K := Lib.hid (((((B_o.out.set 0 (.int .i64 0)).set 1 (.int .u32 0)).set 2 (.int .u32 0)).set 3 (.int .u32 0)).set 4 (.int .u32 0))
  clear B_o
  go_wp2_with fail
  have k := K.out
  have r0 := k.cell 0 rfl
  have r1 := k.cell 1 rfl
  have r2 := k.cell 2 rfl
  have r3 := k.cell 3 rfl
  have r4 := k.cell 4 rfl
  refine bodyPost_ret (v := .tuple #[(.agg #[.int .i64 0, .int .u32 0, .int .u32 0, .int .u32 0, .int .u32 0] : Value), .int .i64 2]) (by simp [results, Try.results10, go_sem, r0, r1, r2, r3, r4]) rfl ⟨rfl, ?_⟩
  exact ((((h.out.setCell (Nat.le_refl _) _).setCell (Nat.le_refl _) _).setCell (Nat.le_refl _) _).setCell (Nat.le_refl _) _).setCell (Nat.le_refl _) _

set_option maxHeartbeats 1000000 in
theorem rhread_short (c0 : UInt8) (l : List UInt8) (h : l.length < 16) (w : World) :
    Calls Try.prog 10 #[.string (str (c0 :: l))] w fun e w' => e = .returned (readV (c0 :: l)) ∧ Below w.heap.size w w' := by
  rw [readV_short (by rw [List.length_cons]; omega)]
  have TK := Lib.hid (rtake_one c0 l (by unfold maxLen; omega))
  have RD := Lib.hid (rread_short l h)
  clear h
  go_enter Try.func10, Try.ntmps10
  have h := Lib.hid (Below.refl w.heap.size w)
  go_wp2_with fail
  refine (TK.out _).mono ?_
  rintro e w1 ⟨rfl, hb⟩
  have b_o : Blk w1 w.heap.size [.int .i64 0, .int .u32 0, .int .u32 0, .int .u32 0, .int .u32 0] := (Blk.new w [.int .i64 0, .int .u32 0, .int .u32 0, .int .u32 0, .int .u32 0] 28).on hb
  have h' := bel_on ((h.out).alloc (h.out).size _) hb
  clear hb h
  have B_o := Lib.hid b_o
  have h := Lib.hid h'
  clear h' b_o
  go_wp2_with fail
  refine (RD.out _).mono ?_
  rintro e w2 ⟨rfl, hb⟩
  have b_o : Blk w2 w.heap.size [.int .i64 0, .int .u32 0, .int .u32 0, .int .u32 0, .int .u32 0] := B_o.out.on hb
  have h' := bel_on h.out hb
  clear hb h B_o
  have B_o := Lib.hid b_o
  have h := Lib.hid h'
  clear h' b_o
  have b_o := B_o.out.next (.cells #[.int .u32 0, .int .u32 0, .int .u32 0, .int .u32 0] 26)
  have hb := h.out.alloc h.out.size (.cells #[.int .u32 0, .int .u32 0, .int .u32 0, .int .u32 0] 26)
  go_upto_region 5 with fail
  obtain ⟨w3, hw3⟩ : ∃ w3, World.alloc w2 (.cells #[.int .u32 0, .int .u32 0, .int .u32 0, .int .u32 0] 26) = w3 := ⟨_, rfl⟩
  rw [hw3] at b_o hb ⊢
  clear B_o h hw3
  have B_o := Lib.hid b_o
  have h := Lib.hid hb
  clear b_o hb
  have c_o0 := B_o.out.cell 0 rfl
  have c_o1 := B_o.out.cell 1 rfl
  have c_o2 := B_o.out.cell 2 rfl
  have c_o3 := B_o.out.cell 3 rfl
  have c_o4 := B_o.out.cell 4 rfl
  have t0 := B_o.out.thaw 0
  have t1 := B_o.out.thaw 1
  have t2 := B_o.out.thaw 2
  have t3 := B_o.out.thaw 3
  have t4 := B_o.out.thaw 4
  have K := Lib.hid (((((B_o.out.set 0 (.int .i64 0)).set 1 (.int .u32 0)).set 2 (.int .u32 0)).set 3 (.int .u32 0)).set 4 (.int .u32 0))
  clear B_o
  go_wp2_with fail
  have k := K.out
  have r0 := k.cell 0 rfl
  have r1 := k.cell 1 rfl
  have r2 := k.cell 2 rfl
  have r3 := k.cell 3 rfl
  have r4 := k.cell 4 rfl
  refine bodyPost_ret (v := .tuple #[(.agg #[.int .i64 0, .int .u32 0, .int .u32 0, .int .u32 0, .int .u32 0] : Value), .int .i64 2]) (by simp [results, Try.results10, go_sem, r0, r1, r2, r3, r4]) rfl ⟨rfl, ?_⟩
  exact ((((h.out.setCell (Nat.le_refl _) _).setCell (Nat.le_refl _) _).setCell (Nat.le_refl _) _).setCell (Nat.le_refl _) _).setCell (Nat.le_refl _) _

set_option maxRecDepth 100000 in
set_option maxHeartbeats 1000000 in
theorem rhread_long (c0 : UInt8) (l : List UInt8) (h : 16 ≤ l.length) (hs : l.length + 1 ≤ maxLen) (w : World) :
    Calls Try.prog 10 #[.string (str (c0 :: l))] w fun e w' => e = .returned (readV (c0 :: l)) ∧ Below w.heap.size w w' := by
  obtain ⟨a, ea⟩ : ∃ a, boot l = a := ⟨_, rfl⟩
  obtain ⟨b, eb⟩ : ∃ a, local' l = a := ⟨_, rfl⟩
  obtain ⟨c, ec⟩ : ∃ a, boot (l.drop 8) = a := ⟨_, rfl⟩
  obtain ⟨d, ed⟩ : ∃ a, local' (l.drop 8) = a := ⟨_, rfl⟩
  obtain ⟨r, er⟩ : ∃ r, l.drop 16 = r := ⟨_, rfl⟩
  obtain ⟨g, eg⟩ : ∃ g, rightF (c0.toNat : Int) (a : Int) (b : Int) = g := ⟨_, rfl⟩
  have hfr : hfrom (c0 :: l) = c0.toNat := by simp [hfrom, PackF.valL]
  have HW : Hid ((g = false ∨ r ≠ []) → readV (c0 :: l) = .tuple #[(.agg #[.int .i64 0, .int .u32 0, .int .u32 0, .int .u32 0, .int .u32 0] : Value), .int .i64 3]) := Lib.hid fun hw => by
    refine readV_wrong (by rw [List.length_cons]; omega) ?_
    rw [hfr]
    show rightF (c0.toNat : Int) (boot l : Int) (local' l : Int) = false ∨ l.drop 16 ≠ []
    rw [ea, eb, er, eg]; exact hw
  have HG : Hid (g = true → r = [] → readV (c0 :: l) = .tuple #[(.agg #[.int .i64 (c0.toNat : Int), .int .u32 (a : Int), .int .u32 (b : Int), .int .u32 (c : Int), .int .u32 (d : Int)] : Value), .int .i64 0]) := Lib.hid fun h1 h2 => by
    have e := readV_good (l := c0 :: l) (by rw [List.length_cons]; omega) (by rw [hfr]; show rightF (c0.toNat : Int) (boot l : Int) (local' l : Int) = true; rw [ea, eb, eg, h1]) (by show l.drop 16 = []; rw [er, h2])
    rw [hfr] at e
    have e2 : boot ((c0 :: l).drop 9) = c := ec
    have e3 : local' ((c0 :: l).drop 9) = d := ed
    have e4 : boot ((c0 :: l).drop 1) = a := ea
    have e5 : local' ((c0 :: l).drop 1) = b := eb
    rw [e2, e3, e4, e5] at e
    exact e
  have RD : Hid (Gives Try.prog 24 #[.string (str l)] (.tuple #[(.agg #[.int .u32 (a : Int), .int .u32 (b : Int), .int .u32 (c : Int), .int .u32 (d : Int)] : Value), .string (str r), .int .i64 0])) := Lib.hid (by
    have e := rread_ok l h (by omega)
    rw [ea, eb, ec, ed, er] at e; exact e)
  have R : Hid (Gives Try.prog 12 #[(.agg #[.int .i64 (c0.toNat : Int), .int .u32 (a : Int), .int .u32 (b : Int), .int .u32 (c : Int), .int .u32 (d : Int)] : Value)] (.bool g)) := Lib.hid (by
    have e := rhright_any (c0.toNat : Int) (a : Int) (b : Int) (c : Int) (d : Int)
    rw [eg] at e; exact e)
  have TK := Lib.hid (rtake_one c0 l hs)
  have hw64 : wrap64 (c0.toNat : Int) = (c0.toNat : Int) := IntWalk.wrap64_in _ (by have := c0.toNat_lt; omega)
  clear ea eb ec ed er eg hfr hs h
  rcases g with _ | _
  · have HV := Lib.hid (HW.out (.inl rfl))
    clear HW HG
    rw [HV.out]
    go_enter Try.func10, Try.ntmps10
    have h := Lib.hid (Below.refl w.heap.size w)
    go_wp2_with fail
    refine (TK.out _).mono ?_
    rintro e w1 ⟨rfl, hb⟩
    have b_o : Blk w1 w.heap.size [.int .i64 0, .int .u32 0, .int .u32 0, .int .u32 0, .int .u32 0] := (Blk.new w [.int .i64 0, .int .u32 0, .int .u32 0, .int .u32 0, .int .u32 0] 28).on hb
    have h' := bel_on ((h.out).alloc (h.out).size _) hb
    clear hb h
    have B_o := Lib.hid b_o
    have h := Lib.hid h'
    clear h' b_o
    go_wp2_with fail
    refine (RD.out _).mono ?_
    rintro e w2 ⟨rfl, hb⟩
    have b_o : Blk w2 w.heap.size [.int .i64 0, .int .u32 0, .int .u32 0, .int .u32 0, .int .u32 0] := B_o.out.on hb
    have h' := bel_on h.out hb
    clear hb h B_o
    have B_o := Lib.hid b_o
    have h := Lib.hid h'
    clear h' b_o
    go_wp2_with fail
    refine (R.out _).mono ?_
    rintro e w3 ⟨rfl, hb⟩
    have b_o : Blk w3 w.heap.size [.int .i64 0, .int .u32 0, .int .u32 0, .int .u32 0, .int .u32 0] := ((B_o.out.next (.cells #[.int .u32 (a : Int), .int .u32 (b : Int), .int .u32 (c : Int), .int .u32 (d : Int)] 26)).next (.cells #[.int .i64 (c0.toNat : Int), .int .u32 (a : Int), .int .u32 (b : Int), .int .u32 (c : Int), .int .u32 (d : Int)] 28)).on hb
    have b_p : Blk w3 w2.heap.size [.int .u32 (a : Int), .int .u32 (b : Int), .int .u32 (c : Int), .int .u32 (d : Int)] := ((Blk.new w2 [.int .u32 (a : Int), .int .u32 (b : Int), .int .u32 (c : Int), .int .u32 (d : Int)] 26).next (.cells #[.int .i64 (c0.toNat : Int), .int .u32 (a : Int), .int .u32 (b : Int), .int .u32 (c : Int), .int .u32 (d : Int)] 28)).on hb
    have b_q : Blk w3 (w2.heap.size + 1) [.int .i64 (c0.toNat : Int), .int .u32 (a : Int), .int .u32 (b : Int), .int .u32 (c : Int), .int .u32 (d : Int)] := (Blk.newAt (b := (w2.heap.size + 1)) (w := (World.alloc w2 (.cells #[.int .u32 (a : Int), .int .u32 (b : Int), .int .u32 (c : Int), .int .u32 (d : Int)] 26))) (by simp only [World.size_alloc]) [.int .i64 (c0.toNat : Int), .int .u32 (a : Int), .int .u32 (b : Int), .int .u32 (c : Int), .int .u32 (d : Int)] 28).on hb
    have h' := bel_on ((((h.out).alloc (h.out).size _)).alloc (((h.out).alloc (h.out).size _)).size _) hb
    clear hb h B_o
    have B_o := Lib.hid b_o
    have B_p := Lib.hid b_p
    have B_q := Lib.hid b_q
    have h := Lib.hid h'
    clear h' b_o b_p b_q
    clear B_p
    have c_o0 := B_o.out.cell 0 rfl
    have c_o1 := B_o.out.cell 1 rfl
    have c_o2 := B_o.out.cell 2 rfl
    have c_o3 := B_o.out.cell 3 rfl
    have c_o4 := B_o.out.cell 4 rfl
    have t0 := B_o.out.thaw 0
    have t1 := B_o.out.thaw 1
    have t2 := B_o.out.thaw 2
    have t3 := B_o.out.thaw 3
    have t4 := B_o.out.thaw 4
    have K := Lib.hid (((((B_o.out.set 0 (.int .i64 0)).set 1 (.int .u32 0)).set 2 (.int .u32 0)).set 3 (.int .u32 0)).set 4 (.int .u32 0))
    have hlo := B_o.out.lt
    clear B_o B_q
    go_wp2_with fail
    have k := K.out
    have r0 := k.cell 0 rfl
    have r1 := k.cell 1 rfl
    have r2 := k.cell 2 rfl
    have r3 := k.cell 3 rfl
    have r4 := k.cell 4 rfl
    refine bodyPost_ret (v := .tuple #[(.agg #[.int .i64 0, .int .u32 0, .int .u32 0, .int .u32 0, .int .u32 0] : Value), .int .i64 3]) (by simp [results, Try.results10, go_sem, r0, r1, r2, r3, r4]) rfl ⟨rfl, ?_⟩
    exact ((((h.out.setCell (Nat.le_refl _) _).setCell (Nat.le_refl _) _).setCell (Nat.le_refl _) _).setCell (Nat.le_refl _) _).setCell (Nat.le_refl _) _
  · by_cases hr : r = []
    · have HV := Lib.hid (HG.out rfl hr)
      have RS : Hid (Gives Try.prog 25 #[.string (str r)] (.int .i64 0)) := Lib.hid (rest_0 hr)
      clear HW HG hr
      rw [HV.out]
      go_enter Try.func10, Try.ntmps10
      have h := Lib.hid (Below.refl w.heap.size w)
      go_wp2_with fail
      refine (TK.out _).mono ?_
      rintro e w1 ⟨rfl, hb⟩
      have b_o : Blk w1 w.heap.size [.int .i64 0, .int .u32 0, .int .u32 0, .int .u32 0, .int .u32 0] := (Blk.new w [.int .i64 0, .int .u32 0, .int .u32 0, .int .u32 0, .int .u32 0] 28).on hb
      have h' := bel_on ((h.out).alloc (h.out).size _) hb
      clear hb h
      have B_o := Lib.hid b_o
      have h := Lib.hid h'
      clear h' b_o
      go_wp2_with fail
      refine (RD.out _).mono ?_
      rintro e w2 ⟨rfl, hb⟩
      have b_o : Blk w2 w.heap.size [.int .i64 0, .int .u32 0, .int .u32 0, .int .u32 0, .int .u32 0] := B_o.out.on hb
      have h' := bel_on h.out hb
      clear hb h B_o
      have B_o := Lib.hid b_o
      have h := Lib.hid h'
      clear h' b_o
      go_wp2_with fail
      refine (R.out _).mono ?_
      rintro e w3 ⟨rfl, hb⟩
      have b_o : Blk w3 w.heap.size [.int .i64 0, .int .u32 0, .int .u32 0, .int .u32 0, .int .u32 0] := ((B_o.out.next (.cells #[.int .u32 (a : Int), .int .u32 (b : Int), .int .u32 (c : Int), .int .u32 (d : Int)] 26)).next (.cells #[.int .i64 (c0.toNat : Int), .int .u32 (a : Int), .int .u32 (b : Int), .int .u32 (c : Int), .int .u32 (d : Int)] 28)).on hb
      have b_p : Blk w3 w2.heap.size [.int .u32 (a : Int), .int .u32 (b : Int), .int .u32 (c : Int), .int .u32 (d : Int)] := ((Blk.new w2 [.int .u32 (a : Int), .int .u32 (b : Int), .int .u32 (c : Int), .int .u32 (d : Int)] 26).next (.cells #[.int .i64 (c0.toNat : Int), .int .u32 (a : Int), .int .u32 (b : Int), .int .u32 (c : Int), .int .u32 (d : Int)] 28)).on hb
      have b_q : Blk w3 (w2.heap.size + 1) [.int .i64 (c0.toNat : Int), .int .u32 (a : Int), .int .u32 (b : Int), .int .u32 (c : Int), .int .u32 (d : Int)] := (Blk.newAt (b := (w2.heap.size + 1)) (w := (World.alloc w2 (.cells #[.int .u32 (a : Int), .int .u32 (b : Int), .int .u32 (c : Int), .int .u32 (d : Int)] 26))) (by simp only [World.size_alloc]) [.int .i64 (c0.toNat : Int), .int .u32 (a : Int), .int .u32 (b : Int), .int .u32 (c : Int), .int .u32 (d : Int)] 28).on hb
      have h' := bel_on ((((h.out).alloc (h.out).size _)).alloc (((h.out).alloc (h.out).size _)).size _) hb
      clear hb h B_o
      have B_o := Lib.hid b_o
      have B_p := Lib.hid b_p
      have B_q := Lib.hid b_q
      have h := Lib.hid h'
      clear h' b_o b_p b_q
      go_wp2_with fail
      refine (RS.out _).mono ?_
      rintro e w4 ⟨rfl, hb⟩
      have b_o : Blk w4 w.heap.size [.int .i64 0, .int .u32 0, .int .u32 0, .int .u32 0, .int .u32 0] := B_o.out.on hb
      have b_p : Blk w4 w2.heap.size [.int .u32 (a : Int), .int .u32 (b : Int), .int .u32 (c : Int), .int .u32 (d : Int)] := B_p.out.on hb
      have b_q : Blk w4 (w2.heap.size + 1) [.int .i64 (c0.toNat : Int), .int .u32 (a : Int), .int .u32 (b : Int), .int .u32 (c : Int), .int .u32 (d : Int)] := B_q.out.on hb
      have h' := bel_on h.out hb
      clear hb h B_o B_p B_q
      have B_o := Lib.hid b_o
      have B_p := Lib.hid b_p
      have B_q := Lib.hid b_q
      have h := Lib.hid h'
      clear h' b_o b_p b_q
      clear B_p
      have c_q0 := B_q.out.cell 0 rfl
      have c_q1 := B_q.out.cell 1 rfl
      have c_q2 := B_q.out.cell 2 rfl
      have c_q3 := B_q.out.cell 3 rfl
      have c_q4 := B_q.out.cell 4 rfl
      have c_o0 := B_o.out.cell 0 rfl
      have c_o1 := B_o.out.cell 1 rfl
      have c_o2 := B_o.out.cell 2 rfl
      have c_o3 := B_o.out.cell 3 rfl
      have c_o4 := B_o.out.cell 4 rfl
      have t0 := B_o.out.thaw 0
      have t1 := B_o.out.thaw 1
      have t2 := B_o.out.thaw 2
      have t3 := B_o.out.thaw 3
      have t4 := B_o.out.thaw 4
      have K := Lib.hid (((((B_o.out.set 0 (.int .i64 (c0.toNat : Int))).set 1 (.int .u32 (a : Int))).set 2 (.int .u32 (b : Int))).set 3 (.int .u32 (c : Int))).set 4 (.int .u32 (d : Int)))
      have hlo := B_o.out.lt
      clear B_o B_q
      go_wp2_with fail
      have k := K.out
      have r0 := k.cell 0 rfl
      have r1 := k.cell 1 rfl
      have r2 := k.cell 2 rfl
      have r3 := k.cell 3 rfl
      have r4 := k.cell 4 rfl
      refine bodyPost_ret (v := .tuple #[(.agg #[.int .i64 (c0.toNat : Int), .int .u32 (a : Int), .int .u32 (b : Int), .int .u32 (c : Int), .int .u32 (d : Int)] : Value), .int .i64 0]) (by simp [results, Try.results10, go_sem, r0, r1, r2, r3, r4]) rfl ⟨rfl, ?_⟩
      exact ((((h.out.setCell (Nat.le_refl _) _).setCell (Nat.le_refl _) _).setCell (Nat.le_refl _) _).setCell (Nat.le_refl _) _).setCell (Nat.le_refl _) _
    · have HV := Lib.hid (HW.out (.inr hr))
      have RS : Hid (Gives Try.prog 25 #[.string (str r)] (.int .i64 3)) := Lib.hid (rest_3 hr)
      clear HW HG hr
      rw [HV.out]
      go_enter Try.func10, Try.ntmps10
      have h := Lib.hid (Below.refl w.heap.size w)
      go_wp2_with fail
      refine (TK.out _).mono ?_
      rintro e w1 ⟨rfl, hb⟩
      have b_o : Blk w1 w.heap.size [.int .i64 0, .int .u32 0, .int .u32 0, .int .u32 0, .int .u32 0] := (Blk.new w [.int .i64 0, .int .u32 0, .int .u32 0, .int .u32 0, .int .u32 0] 28).on hb
      have h' := bel_on ((h.out).alloc (h.out).size _) hb
      clear hb h
      have B_o := Lib.hid b_o
      have h := Lib.hid h'
      clear h' b_o
      go_wp2_with fail
      refine (RD.out _).mono ?_
      rintro e w2 ⟨rfl, hb⟩
      have b_o : Blk w2 w.heap.size [.int .i64 0, .int .u32 0, .int .u32 0, .int .u32 0, .int .u32 0] := B_o.out.on hb
      have h' := bel_on h.out hb
      clear hb h B_o
      have B_o := Lib.hid b_o
      have h := Lib.hid h'
      clear h' b_o
      go_wp2_with fail
      refine (R.out _).mono ?_
      rintro e w3 ⟨rfl, hb⟩
      have b_o : Blk w3 w.heap.size [.int .i64 0, .int .u32 0, .int .u32 0, .int .u32 0, .int .u32 0] := ((B_o.out.next (.cells #[.int .u32 (a : Int), .int .u32 (b : Int), .int .u32 (c : Int), .int .u32 (d : Int)] 26)).next (.cells #[.int .i64 (c0.toNat : Int), .int .u32 (a : Int), .int .u32 (b : Int), .int .u32 (c : Int), .int .u32 (d : Int)] 28)).on hb
      have b_p : Blk w3 w2.heap.size [.int .u32 (a : Int), .int .u32 (b : Int), .int .u32 (c : Int), .int .u32 (d : Int)] := ((Blk.new w2 [.int .u32 (a : Int), .int .u32 (b : Int), .int .u32 (c : Int), .int .u32 (d : Int)] 26).next (.cells #[.int .i64 (c0.toNat : Int), .int .u32 (a : Int), .int .u32 (b : Int), .int .u32 (c : Int), .int .u32 (d : Int)] 28)).on hb
      have b_q : Blk w3 (w2.heap.size + 1) [.int .i64 (c0.toNat : Int), .int .u32 (a : Int), .int .u32 (b : Int), .int .u32 (c : Int), .int .u32 (d : Int)] := (Blk.newAt (b := (w2.heap.size + 1)) (w := (World.alloc w2 (.cells #[.int .u32 (a : Int), .int .u32 (b : Int), .int .u32 (c : Int), .int .u32 (d : Int)] 26))) (by simp only [World.size_alloc]) [.int .i64 (c0.toNat : Int), .int .u32 (a : Int), .int .u32 (b : Int), .int .u32 (c : Int), .int .u32 (d : Int)] 28).on hb
      have h' := bel_on ((((h.out).alloc (h.out).size _)).alloc (((h.out).alloc (h.out).size _)).size _) hb
      clear hb h B_o
      have B_o := Lib.hid b_o
      have B_p := Lib.hid b_p
      have B_q := Lib.hid b_q
      have h := Lib.hid h'
      clear h' b_o b_p b_q
      go_wp2_with fail
      refine (RS.out _).mono ?_
      rintro e w4 ⟨rfl, hb⟩
      have b_o : Blk w4 w.heap.size [.int .i64 0, .int .u32 0, .int .u32 0, .int .u32 0, .int .u32 0] := B_o.out.on hb
      have b_p : Blk w4 w2.heap.size [.int .u32 (a : Int), .int .u32 (b : Int), .int .u32 (c : Int), .int .u32 (d : Int)] := B_p.out.on hb
      have b_q : Blk w4 (w2.heap.size + 1) [.int .i64 (c0.toNat : Int), .int .u32 (a : Int), .int .u32 (b : Int), .int .u32 (c : Int), .int .u32 (d : Int)] := B_q.out.on hb
      have h' := bel_on h.out hb
      clear hb h B_o B_p B_q
      have B_o := Lib.hid b_o
      have B_p := Lib.hid b_p
      have B_q := Lib.hid b_q
      have h := Lib.hid h'
      clear h' b_o b_p b_q
      clear B_p
      have c_o0 := B_o.out.cell 0 rfl
      have c_o1 := B_o.out.cell 1 rfl
      have c_o2 := B_o.out.cell 2 rfl
      have c_o3 := B_o.out.cell 3 rfl
      have c_o4 := B_o.out.cell 4 rfl
      have t0 := B_o.out.thaw 0
      have t1 := B_o.out.thaw 1
      have t2 := B_o.out.thaw 2
      have t3 := B_o.out.thaw 3
      have t4 := B_o.out.thaw 4
      have K := Lib.hid (((((B_o.out.set 0 (.int .i64 0)).set 1 (.int .u32 0)).set 2 (.int .u32 0)).set 3 (.int .u32 0)).set 4 (.int .u32 0))
      have hlo := B_o.out.lt
      clear B_o B_q
      go_wp2_with fail
      have k := K.out
      have r0 := k.cell 0 rfl
      have r1 := k.cell 1 rfl
      have r2 := k.cell 2 rfl
      have r3 := k.cell 3 rfl
      have r4 := k.cell 4 rfl
      refine bodyPost_ret (v := .tuple #[(.agg #[.int .i64 0, .int .u32 0, .int .u32 0, .int .u32 0, .int .u32 0] : Value), .int .i64 3]) (by simp [results, Try.results10, go_sem, r0, r1, r2, r3, r4]) rfl ⟨rfl, ?_⟩
      exact ((((h.out.setCell (Nat.le_refl _) _).setCell (Nat.le_refl _) _).setCell (Nat.le_refl _) _).setCell (Nat.le_refl _) _).setCell (Nat.le_refl _) _

/-- Read, of any text. -/
theorem hread_any (l : List UInt8) (hs : l.length ≤ maxLen) (w : World) : Calls Try.prog 9 #[.string (str l)] w fun e w' => e = .returned (readV l) ∧ Below w.heap.size w w' := by
  by_cases h : l.length < 17
  · exact hread_short l h w
  · match l, h, hs with
    | [], h, _ => simp at h
    | c0 :: l, h, hs => exact hread_long c0 l (by rw [List.length_cons] at h; omega) (by rw [List.length_cons] at hs; omega) w
theorem rhread_any (l : List UInt8) (hs : l.length ≤ maxLen) (w : World) : Calls Try.prog 10 #[.string (str l)] w fun e w' => e = .returned (readV l) ∧ Below w.heap.size w w' := by
  match l, hs with
  | [], _ => exact rhread_none w
  | c0 :: l, hs =>
    rw [List.length_cons] at hs
    by_cases h : l.length < 16
    · exact rhread_short c0 l h w
    · exact rhread_long c0 l (by omega) (by omega) w
end Go.Proofs.Ytgmpfnhdcgcldaa
