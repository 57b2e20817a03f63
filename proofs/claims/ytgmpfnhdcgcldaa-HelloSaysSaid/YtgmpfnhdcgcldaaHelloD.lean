/- Contracts of package hello, part D: Read of seventeen bytes or more. -/
import Derived.Test.YtgmpfnhdcgcldaaHelloC
namespace Go.Proofs.Ytgmpfnhdcgcldaa
open Go.RowKit Go.Sort

set_option maxRecDepth 100000 in
set_option maxHeartbeats 1000000 in
theorem hread_long (c0 : UInt8) (l : List UInt8) (h : 16 ≤ l.length) (hs : l.length + 1 ≤ maxLen) (w : World) :
    Calls Try.prog 9 #[.string (str (c0 :: l))] w fun e w' => e = .returned (readV (c0 :: l)) ∧ Below w.heap.size w w' := by
  obtain ⟨a, ea⟩ : ∃ a, boot l = a := ⟨_, rfl⟩
  obtain ⟨b, eb⟩ : ∃ a, local' l = a := ⟨_, rfl⟩
  obtain ⟨c, ec⟩ : ∃ a, boot (l.drop 8) = a := ⟨_, rfl⟩
  obtain ⟨d, ed⟩ : ∃ a, local' (l.drop 8) = a := ⟨_, rfl⟩
  obtain ⟨r, er⟩ : ∃ r, l.drop 16 = r := ⟨_, rfl⟩
  obtain ⟨g, eg⟩ : ∃ g, rightF (c0.toNat : Int) (a : Int) (b : Int) = g := ⟨_, rfl⟩
  have hfr : hfrom (c0 :: l) = c0.toNat := by simp [hfrom, PackF.valL]
  have HW : Hid ((g = false ∨ r ≠ []) → readV (c0 :: l) = .tuple #[(.agg #[.int .i64 0, .int .u32 0, .int .u32 0, .int .u32 0, .int .u32 0] : Value), .int .i64 3]) := Lib.hid fun hw => by
    refine readV_wrong (by rw [List.length_cons]; omega) ?_
    rw [hfr]
    show rightF (c0.toNat : Int) (boot l : Int) (local' l : Int) = false ∨ l.drop 16 ≠ []
    rw [ea, eb, er, eg]; exact hw
  have HG : Hid (g = true → r = [] → readV (c0 :: l) = .tuple #[(.agg #[.int .i64 (c0.toNat : Int), .int .u32 (a : Int), .int .u32 (b : Int), .int .u32 (c : Int), .int .u32 (d : Int)] : Value), .int .i64 0]) := Lib.hid fun h1 h2 => by
    have e := readV_good (l := c0 :: l) (by rw [List.length_cons]; omega) (by rw [hfr]; show rightF (c0.toNat : Int) (boot l : Int) (local' l : Int) = true; rw [ea, eb, eg, h1]) (by show l.drop 16 = []; rw [er, h2])
    rw [hfr] at e
    have e2 : boot ((c0 :: l).drop 9) = c := ec
    have e3 : local' ((c0 :: l).drop 9) = d := ed
    have e4 : boot ((c0 :: l).drop 1) = a := ea
    have e5 : local' ((c0 :: l).drop 1) = b := eb
    rw [e2, e3, e4, e5] at e
    exact e
  have RD : Hid (Gives Try.prog 22 #[.string (str l)] (.tuple #[(.agg #[.int .u32 (a : Int), .int .u32 (b : Int), .int .u32 (c : Int), .int .u32 (d : Int)] : Value), .string (str r), .int .i64 0])) := Lib.hid (by
    have e := read_ok l h (by omega)
    rw [ea, eb, ec, ed, er] at e; exact e)
  have R : Hid (Gives Try.prog 11 #[(.agg #[.int .i64 (c0.toNat : Int), .int .u32 (a : Int), .int .u32 (b : Int), .int .u32 (c : Int), .int .u32 (d : Int)] : Value)] (.bool g)) := Lib.hid (by
    have e := hright_any (c0.toNat : Int) (a : Int) (b : Int) (c : Int) (d : Int)
    rw [eg] at e; exact e)
  have hz := str_size (c0 :: l)
  rw [List.length_cons] at hz
  have h17 : decide (((str (c0 :: l)).size : Int) < 17) = false := decide_eq_false (by omega)
  have hx : (str (c0 :: l)).extract 1 (str (c0 :: l)).size = str l := by rw [str_drop, str_list]; rfl
  have h1 : 1 ≤ (str (c0 :: l)).size := by omega
  have h0 : 0 < (str (c0 :: l)).size := by omega
  have hw64 : wrap64 (c0.toNat : Int) = (c0.toNat : Int) := IntWalk.wrap64_in _ (by have := c0.toNat_lt; omega)
  have hi : ∀ h : 0 < (str (c0 :: l)).size, (str (c0 :: l))[0]'h = c0 := fun _ => rfl
  clear ea eb ec ed er eg hfr hs h hz
  rcases g with _ | _
  · have HV := Lib.hid (HW.out (.inl rfl))
    clear HW HG
    rw [HV.out]
    go_enter Try.func9, Try.ntmps9
    have h := Lib.hid (Below.refl w.heap.size w)
    go_wp2_with fail
    refine (RD.out _).mono ?_
    rintro e w1 ⟨rfl, hb⟩
    have b_o : Blk w1 w.heap.size [.int .i64 0, .int .u32 0, .int .u32 0, .int .u32 0, .int .u32 0] := (Blk.new w [.int .i64 0, .int .u32 0, .int .u32 0, .int .u32 0, .int .u32 0] 28).on hb
    have h' := bel_on ((h.out).alloc (h.out).size _) hb
    clear hb h
    have B_o := Lib.hid b_o
    have h := Lib.hid h'
    clear h' b_o
    go_upto_region 4 with fail
    go_region
    have hb : Below w1.heap.size w1 ((World.alloc (World.alloc w1 (.cells #[.int .u32 (a : Int), .int .u32 (b : Int), .int .u32 (c : Int), .int .u32 (d : Int)] 26)) (.cells #[.int .i64 (c0.toNat : Int), .int .u32 (a : Int), .int .u32 (b : Int), .int .u32 (c : Int), .int .u32 (d : Int)] 28))).drew := (((Below.refl _ _).alloc (Nat.le_refl _) _).alloc (by simp) _).drew
    have b_o : Blk ((World.alloc (World.alloc w1 (.cells #[.int .u32 (a : Int), .int .u32 (b : Int), .int .u32 (c : Int), .int .u32 (d : Int)] 26)) (.cells #[.int .i64 (c0.toNat : Int), .int .u32 (a : Int), .int .u32 (b : Int), .int .u32 (c : Int), .int .u32 (d : Int)] 28))).drew w.heap.size [.int .i64 0, .int .u32 0, .int .u32 0, .int .u32 0, .int .u32 0] := ((B_o.out.next _).next _).drew
    have b_q : Blk ((World.alloc (World.alloc w1 (.cells #[.int .u32 (a : Int), .int .u32 (b : Int), .int .u32 (c : Int), .int .u32 (d : Int)] 26)) (.cells #[.int .i64 (c0.toNat : Int), .int .u32 (a : Int), .int .u32 (b : Int), .int .u32 (c : Int), .int .u32 (d : Int)] 28))).drew (w1.heap.size + 1) [.int .i64 (c0.toNat : Int), .int .u32 (a : Int), .int .u32 (b : Int), .int .u32 (c : Int), .int .u32 (d : Int)] := (Blk.newAt (by simp only [World.size_alloc]) [.int .i64 (c0.toNat : Int), .int .u32 (a : Int), .int .u32 (b : Int), .int .u32 (c : Int), .int .u32 (d : Int)] 28).drew
    obtain ⟨w2, hw2⟩ : ∃ w2, ((World.alloc (World.alloc w1 (.cells #[.int .u32 (a : Int), .int .u32 (b : Int), .int .u32 (c : Int), .int .u32 (d : Int)] 26)) (.cells #[.int .i64 (c0.toNat : Int), .int .u32 (a : Int), .int .u32 (b : Int), .int .u32 (c : Int), .int .u32 (d : Int)] 28))).drew = w2 := ⟨_, rfl⟩
    rw [hw2] at hb b_o b_q ⊢
    have h' := bel_on h.out hb
    clear hb h hw2 B_o
    have B_o := Lib.hid b_o
    have B_q := Lib.hid b_q
    have h := Lib.hid h'
    clear h' b_o b_q
    have c_q0 := B_q.out.cell 0 rfl
    have c_q1 := B_q.out.cell 1 rfl
    have c_q2 := B_q.out.cell 2 rfl
    have c_q3 := B_q.out.cell 3 rfl
    have c_q4 := B_q.out.cell 4 rfl
    go_wp2_with fail
    refine (R.out _).mono ?_
    rintro e w3 ⟨rfl, hb⟩
    clear c_q0 c_q1 c_q2 c_q3 c_q4
    have b_o : Blk w3 w.heap.size [.int .i64 0, .int .u32 0, .int .u32 0, .int .u32 0, .int .u32 0] := B_o.out.on hb
    have b_q : Blk w3 (w1.heap.size + 1) [.int .i64 (c0.toNat : Int), .int .u32 (a : Int), .int .u32 (b : Int), .int .u32 (c : Int), .int .u32 (d : Int)] := B_q.out.on hb
    have h' := bel_on h.out hb
    clear hb h B_o B_q
    have B_o := Lib.hid b_o
    have B_q := Lib.hid b_q
    have h := Lib.hid h'
    clear h' b_o b_q
    have c_o0 := B_o.out.cell 0 rfl
    have c_o1 := B_o.out.cell 1 rfl
    have c_o2 := B_o.out.cell 2 rfl
    have c_o3 := B_o.out.cell 3 rfl
    have c_o4 := B_o.out.cell 4 rfl
    have t0 := B_o.out.thaw 0
    have t1 := B_o.out.thaw 1
    have t2 := B_o.out.thaw 2
    have t3 := B_o.out.thaw 3
    have t4 := B_o.out.thaw 4
    have K := Lib.hid (((((B_o.out.set 0 (.int .i64 0)).set 1 (.int .u32 0)).set 2 (.int .u32 0)).set 3 (.int .u32 0)).set 4 (.int .u32 0))
    have hlo := B_o.out.lt
    clear B_o B_q
    go_wp2_with fail
    have k := K.out
    have r0 := k.cell 0 rfl
    have r1 := k.cell 1 rfl
    have r2 := k.cell 2 rfl
    have r3 := k.cell 3 rfl
    have r4 := k.cell 4 rfl
    refine bodyPost_ret (v := .tuple #[(.agg #[.int .i64 0, .int .u32 0, .int .u32 0, .int .u32 0, .int .u32 0] : Value), .int .i64 3]) (by simp [results, Try.results9, go_sem, r0, r1, r2, r3, r4]) rfl ⟨rfl, ?_⟩
    exact ((((h.out.setCell (Nat.le_refl _) _).setCell (Nat.le_refl _) _).setCell (Nat.le_refl _) _).setCell (Nat.le_refl _) _).setCell (Nat.le_refl _) _
  · by_cases hr : r = []
    · have HV := Lib.hid (HG.out rfl hr)
      have he : (!(str r).toList.isEmpty) = false := by rw [Lib.toList_data, str_list, hr]; rfl
      clear HW HG hr
      rw [HV.out]
      go_enter Try.func9, Try.ntmps9
      have h := Lib.hid (Below.refl w.heap.size w)
      go_wp2_with fail
      refine (RD.out _).mono ?_
      rintro e w1 ⟨rfl, hb⟩
      have b_o : Blk w1 w.heap.size [.int .i64 0, .int .u32 0, .int .u32 0, .int .u32 0, .int .u32 0] := (Blk.new w [.int .i64 0, .int .u32 0, .int .u32 0, .int .u32 0, .int .u32 0] 28).on hb
      have h' := bel_on ((h.out).alloc (h.out).size _) hb
      clear hb h
      have B_o := Lib.hid b_o
      have h := Lib.hid h'
      clear h' b_o
      go_upto_region 4 with fail
      go_region
      have hb : Below w1.heap.size w1 ((World.alloc (World.alloc w1 (.cells #[.int .u32 (a : Int), .int .u32 (b : Int), .int .u32 (c : Int), .int .u32 (d : Int)] 26)) (.cells #[.int .i64 (c0.toNat : Int), .int .u32 (a : Int), .int .u32 (b : Int), .int .u32 (c : Int), .int .u32 (d : Int)] 28))).drew := (((Below.refl _ _).alloc (Nat.le_refl _) _).alloc (by simp) _).drew
      have b_o : Blk ((World.alloc (World.alloc w1 (.cells #[.int .u32 (a : Int), .int .u32 (b : Int), .int .u32 (c : Int), .int .u32 (d : Int)] 26)) (.cells #[.int .i64 (c0.toNat : Int), .int .u32 (a : Int), .int .u32 (b : Int), .int .u32 (c : Int), .int .u32 (d : Int)] 28))).drew w.heap.size [.int .i64 0, .int .u32 0, .int .u32 0, .int .u32 0, .int .u32 0] := ((B_o.out.next _).next _).drew
      have b_q : Blk ((World.alloc (World.alloc w1 (.cells #[.int .u32 (a : Int), .int .u32 (b : Int), .int .u32 (c : Int), .int .u32 (d : Int)] 26)) (.cells #[.int .i64 (c0.toNat : Int), .int .u32 (a : Int), .int .u32 (b : Int), .int .u32 (c : Int), .int .u32 (d : Int)] 28))).drew (w1.heap.size + 1) [.int .i64 (c0.toNat : Int), .int .u32 (a : Int), .int .u32 (b : Int), .int .u32 (c : Int), .int .u32 (d : Int)] := (Blk.newAt (by simp only [World.size_alloc]) [.int .i64 (c0.toNat : Int), .int .u32 (a : Int), .int .u32 (b : Int), .int .u32 (c : Int), .int .u32 (d : Int)] 28).drew
      obtain ⟨w2, hw2⟩ : ∃ w2, ((World.alloc (World.alloc w1 (.cells #[.int .u32 (a : Int), .int .u32 (b : Int), .int .u32 (c : Int), .int .u32 (d : Int)] 26)) (.cells #[.int .i64 (c0.toNat : Int), .int .u32 (a : Int), .int .u32 (b : Int), .int .u32 (c : Int), .int .u32 (d : Int)] 28))).drew = w2 := ⟨_, rfl⟩
      rw [hw2] at hb b_o b_q ⊢
      have h' := bel_on h.out hb
      clear hb h hw2 B_o
      have B_o := Lib.hid b_o
      have B_q := Lib.hid b_q
      have h := Lib.hid h'
      clear h' b_o b_q
      have c_q0 := B_q.out.cell 0 rfl
      have c_q1 := B_q.out.cell 1 rfl
      have c_q2 := B_q.out.cell 2 rfl
      have c_q3 := B_q.out.cell 3 rfl
      have c_q4 := B_q.out.cell 4 rfl
      go_wp2_with fail
      refine (R.out _).mono ?_
      rintro e w3 ⟨rfl, hb⟩
      clear c_q0 c_q1 c_q2 c_q3 c_q4
      have b_o : Blk w3 w.heap.size [.int .i64 0, .int .u32 0, .int .u32 0, .int .u32 0, .int .u32 0] := B_o.out.on hb
      have b_q : Blk w3 (w1.heap.size + 1) [.int .i64 (c0.toNat : Int), .int .u32 (a : Int), .int .u32 (b : Int), .int .u32 (c : Int), .int .u32 (d : Int)] := B_q.out.on hb
      have h' := bel_on h.out hb
      clear hb h B_o B_q
      have B_o := Lib.hid b_o
      have B_q := Lib.hid b_q
      have h := Lib.hid h'
      clear h' b_o b_q
      have c_q0 := B_q.out.cell 0 rfl
      have c_q1 := B_q.out.cell 1 rfl
      have c_q2 := B_q.out.cell 2 rfl
      have c_q3 := B_q.out.cell 3 rfl
      have c_q4 := B_q.out.cell 4 rfl
      have c_o0 := B_o.out.cell 0 rfl
      have c_o1 := B_o.out.cell 1 rfl
      have c_o2 := B_o.out.cell 2 rfl
      have c_o3 := B_o.out.cell 3 rfl
      have c_o4 := B_o.out.cell 4 rfl
      have t0 := B_o.out.thaw 0
      have t1 := B_o.out.thaw 1
      have t2 := B_o.out.thaw 2
      have t3 := B_o.out.thaw 3
      have t4 := B_o.out.thaw 4
      have K := Lib.hid (((((B_o.out.set 0 (.int .i64 (c0.toNat : Int))).set 1 (.int .u32 (a : Int))).set 2 (.int .u32 (b : Int))).set 3 (.int .u32 (c : Int))).set 4 (.int .u32 (d : Int)))
      have hlo := B_o.out.lt
      clear B_o B_q
      go_wp2_with fail
      have k := K.out
      have r0 := k.cell 0 rfl
      have r1 := k.cell 1 rfl
      have r2 := k.cell 2 rfl
      have r3 := k.cell 3 rfl
      have r4 := k.cell 4 rfl
      refine bodyPost_ret (v := .tuple #[(.agg #[.int .i64 (c0.toNat : Int), .int .u32 (a : Int), .int .u32 (b : Int), .int .u32 (c : Int), .int .u32 (d : Int)] : Value), .int .i64 0]) (by simp [results, Try.results9, go_sem, r0, r1, r2, r3, r4]) rfl ⟨rfl, ?_⟩
      exact ((((h.out.setCell (Nat.le_refl _) _).setCell (Nat.le_refl _) _).setCell (Nat.le_refl _) _).setCell (Nat.le_refl _) _).setCell (Nat.le_refl _) _
    · have HV := Lib.hid (HW.out (.inr hr))
      have he : (!(str r).toList.isEmpty) = true := by rw [Lib.toList_data, str_list]; simpa using hr
      clear HW HG hr
      rw [HV.out]
      go_enter Try.func9, Try.ntmps9
      have h := Lib.hid (Below.refl w.heap.size w)
      go_wp2_with fail
      refine (RD.out _).mono ?_
      rintro e w1 ⟨rfl, hb⟩
      have b_o : Blk w1 w.heap.size [.int .i64 0, .int .u32 0, .int .u32 0, .int .u32 0, .int .u32 0] := (Blk.new w [.int .i64 0, .int .u32 0, .int .u32 0, .int .u32 0, .int .u32 0] 28).on hb
      have h' := bel_on ((h.out).alloc (h.out).size _) hb
      clear hb h
      have B_o := Lib.hid b_o
      have h := Lib.hid h'
      clear h' b_o
      go_upto_region 4 with fail
      go_region
      have hb : Below w1.heap.size w1 ((World.alloc (World.alloc w1 (.cells #[.int .u32 (a : Int), .int .u32 (b : Int), .int .u32 (c : Int), .int .u32 (d : Int)] 26)) (.cells #[.int .i64 (c0.toNat : Int), .int .u32 (a : Int), .int .u32 (b : Int), .int .u32 (c : Int), .int .u32 (d : Int)] 28))).drew := (((Below.refl _ _).alloc (Nat.le_refl _) _).alloc (by simp) _).drew
      have b_o : Blk ((World.alloc (World.alloc w1 (.cells #[.int .u32 (a : Int), .int .u32 (b : Int), .int .u32 (c : Int), .int .u32 (d : Int)] 26)) (.cells #[.int .i64 (c0.toNat : Int), .int .u32 (a : Int), .int .u32 (b : Int), .int .u32 (c : Int), .int .u32 (d : Int)] 28))).drew w.heap.size [.int .i64 0, .int .u32 0, .int .u32 0, .int .u32 0, .int .u32 0] := ((B_o.out.next _).next _).drew
      have b_q : Blk ((World.alloc (World.alloc w1 (.cells #[.int .u32 (a : Int), .int .u32 (b : Int), .int .u32 (c : Int), .int .u32 (d : Int)] 26)) (.cells #[.int .i64 (c0.toNat : Int), .int .u32 (a : Int), .int .u32 (b : Int), .int .u32 (c : Int), .int .u32 (d : Int)] 28))).drew (w1.heap.size + 1) [.int .i64 (c0.toNat : Int), .int .u32 (a : Int), .int .u32 (b : Int), .int .u32 (c : Int), .int .u32 (d : Int)] := (Blk.newAt (by simp only [World.size_alloc]) [.int .i64 (c0.toNat : Int), .int .u32 (a : Int), .int .u32 (b : Int), .int .u32 (c : Int), .int .u32 (d : Int)] 28).drew
      obtain ⟨w2, hw2⟩ : ∃ w2, ((World.alloc (World.alloc w1 (.cells #[.int .u32 (a : Int), .int .u32 (b : Int), .int .u32 (c : Int), .int .u32 (d : Int)] 26)) (.cells #[.int .i64 (c0.toNat : Int), .int .u32 (a : Int), .int .u32 (b : Int), .int .u32 (c : Int), .int .u32 (d : Int)] 28))).drew = w2 := ⟨_, rfl⟩
      rw [hw2] at hb b_o b_q ⊢
      have h' := bel_on h.out hb
      clear hb h hw2 B_o
      have B_o := Lib.hid b_o
      have B_q := Lib.hid b_q
      have h := Lib.hid h'
      clear h' b_o b_q
      have c_q0 := B_q.out.cell 0 rfl
      have c_q1 := B_q.out.cell 1 rfl
      have c_q2 := B_q.out.cell 2 rfl
      have c_q3 := B_q.out.cell 3 rfl
      have c_q4 := B_q.out.cell 4 rfl
      go_wp2_with fail
      refine (R.out _).mono ?_
      rintro e w3 ⟨rfl, hb⟩
      clear c_q0 c_q1 c_q2 c_q3 c_q4
      have b_o : Blk w3 w.heap.size [.int .i64 0, .int .u32 0, .int .u32 0, .int .u32 0, .int .u32 0] := B_o.out.on hb
      have b_q : Blk w3 (w1.heap.size + 1) [.int .i64 (c0.toNat : Int), .int .u32 (a : Int), .int .u32 (b : Int), .int .u32 (c : Int), .int .u32 (d : Int)] := B_q.out.on hb
      have h' := bel_on h.out hb
      clear hb h B_o B_q
      have B_o := Lib.hid b_o
      have B_q := Lib.hid b_q
      have h := Lib.hid h'
      clear h' b_o b_q
      have c_o0 := B_o.out.cell 0 rfl
      have c_o1 := B_o.out.cell 1 rfl
      have c_o2 := B_o.out.cell 2 rfl
      have c_o3 := B_o.out.cell 3 rfl
      have c_o4 := B_o.out.cell 4 rfl
      have t0 := B_o.out.thaw 0
      have t1 := B_o.out.thaw 1
      have t2 := B_o.out.thaw 2
      have t3 := B_o.out.thaw 3
      have t4 := B_o.out.thaw 4
      have K := Lib.hid (((((B_o.out.set 0 (.int .i64 0)).set 1 (.int .u32 0)).set 2 (.int .u32 0)).set 3 (.int .u32 0)).set 4 (.int .u32 0))
      have hlo := B_o.out.lt
      clear B_o B_q
      go_wp2_with fail
      have k := K.out
      have r0 := k.cell 0 rfl
      have r1 := k.cell 1 rfl
      have r2 := k.cell 2 rfl
      have r3 := k.cell 3 rfl
      have r4 := k.cell 4 rfl
      refine bodyPost_ret (v := .tuple #[(.agg #[.int .i64 0, .int .u32 0, .int .u32 0, .int .u32 0, .int .u32 0] : Value), .int .i64 3]) (by simp [results, Try.results9, go_sem, r0, r1, r2, r3, r4]) rfl ⟨rfl, ?_⟩
      exact ((((h.out.setCell (Nat.le_refl _) _).setCell (Nat.le_refl _) _).setCell (Nat.le_refl _) _).setCell (Nat.le_refl _) _).setCell (Nat.le_refl _) _
end Go.Proofs.Ytgmpfnhdcgcldaa
