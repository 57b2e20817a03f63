/- Contracts of package hello, part K: Knows, and the document's own. -/
import Derived.Test.YtgmpfnhdcgcldaaHelloR
namespace Go.Proofs.Ytgmpfnhdcgcldaa
open Go.RowKit

/-- What a hello knows. -/
def knowsF (c d m n : Int) : Int := if (c == 0 && d == 0) = true then 0 else if (c == m && d == n) = true then 3 else if newerF m n c d = true then 1 else 2
theorem knows_0 {c d m n : Int} (h : (c == 0 && d == 0) = true) : knowsF c d m n = 0 := by unfold knowsF; rw [if_pos h]
theorem knows_3 {c d m n : Int} {p q : Bool} (h : (c == 0 && d == 0) = false) (hp : (c == m) = p) (hq : (d == n) = q) (e : (p && q) = true) : knowsF c d m n = 3 := by
  unfold knowsF; rw [h, hp, hq, e, if_neg (by decide), if_pos rfl]
theorem knows_n {c d m n : Int} {p q r : Bool} (h : (c == 0 && d == 0) = false) (hp : (c == m) = p) (hq : (d == n) = q) (hr : newerF m n c d = r) (e : (p && q) = false) : knowsF c d m n = if r then 1 else 2 := by
  unfold knowsF; rw [h, hp, hq, e, hr, if_neg (by decide), if_neg (by decide)]

set_option maxHeartbeats 1000000 in
theorem knows_any (f a b c d m n : Int) (w : World) : Calls Try.prog 13 #[(.agg #[.int .i64 f, .int .u32 a, .int .u32 b, .int .u32 c, .int .u32 d] : Value), (.agg #[.int .u32 m, .int .u32 n] : Value)] w fun e w' => e = .returned (.int .i64 (knowsF c d m n)) ∧ Below w.heap.size w w' := by
  obtain ⟨z, hz⟩ : ∃ z, (c == 0 && d == 0) = z := ⟨_, rfl⟩
  obtain ⟨p, hp⟩ : ∃ z, (c == m) = z := ⟨_, rfl⟩
  obtain ⟨q, hq⟩ : ∃ z, (d == n) = z := ⟨_, rfl⟩
  obtain ⟨r, hr⟩ : ∃ z, newerF m n c d = z := ⟨_, rfl⟩
  have N := Lib.hid (none_any c d)
  have NW := Lib.hid (newer_any m n c d)
  rw [hz] at N
  rw [hr] at NW
  rcases z with _ | _
  · rcases p with _ | _
    · rcases r with _ | _
      · have HV := Lib.hid (knows_n hz hp hq hr (Bool.false_and _))
        clear hz hr
        go_enter Try.func13, Try.ntmps13
        have h := Lib.hid (Below.refl w.heap.size w)
        go_wp2_with fail
        refine (N.out _).mono ?_
        rintro e w1 ⟨rfl, hb⟩
        have b_h : Blk w1 w.heap.size [.int .i64 f, .int .u32 a, .int .u32 b, .int .u32 c, .int .u32 d] := (((Blk.new w [.int .i64 f, .int .u32 a, .int .u32 b, .int .u32 c, .int .u32 d] 28).next (.cells #[.int .u32 m, .int .u32 n] 24)).next (.cells #[.int .u32 c, .int .u32 d] 24)).on hb
        have b_m : Blk w1 (w.heap.size + 1) [.int .u32 m, .int .u32 n] := ((Blk.newAt (b := (w.heap.size + 1)) (w := (World.alloc w (.cells #[.int .i64 f, .int .u32 a, .int .u32 b, .int .u32 c, .int .u32 d] 28))) (by simp only [World.size_alloc]) [.int .u32 m, .int .u32 n] 24).next (.cells #[.int .u32 c, .int .u32 d] 24)).on hb
        have b_k : Blk w1 (w.heap.size + 2) [.int .u32 c, .int .u32 d] := (Blk.newAt (b := (w.heap.size + 2)) (w := (World.alloc (World.alloc w (.cells #[.int .i64 f, .int .u32 a, .int .u32 b, .int .u32 c, .int .u32 d] 28)) (.cells #[.int .u32 m, .int .u32 n] 24))) (by simp only [World.size_alloc]) [.int .u32 c, .int .u32 d] 24).on hb
        have h' := bel_on ((((((h.out).alloc (h.out).size _)).alloc (((h.out).alloc (h.out).size _)).size _)).alloc (((((h.out).alloc (h.out).size _)).alloc (((h.out).alloc (h.out).size _)).size _)).size _) hb
        clear hb h
        have B_h := Lib.hid b_h
        have B_m := Lib.hid b_m
        have B_k := Lib.hid b_k
        have h := Lib.hid h'
        clear h' b_h b_m b_k
        have c_m0 := B_m.out.cell 0 rfl
        have c_m1 := B_m.out.cell 1 rfl
        have c_k0 := B_k.out.cell 0 rfl
        have c_k1 := B_k.out.cell 1 rfl
        go_wp2_with fail
        refine (NW.out _).mono ?_
        rintro e w2 ⟨rfl, hb⟩
        clear c_m0 c_m1 c_k0 c_k1
        have b_h : Blk w2 w.heap.size [.int .i64 f, .int .u32 a, .int .u32 b, .int .u32 c, .int .u32 d] := B_h.out.on hb
        have b_m : Blk w2 (w.heap.size + 1) [.int .u32 m, .int .u32 n] := B_m.out.on hb
        have b_k : Blk w2 (w.heap.size + 2) [.int .u32 c, .int .u32 d] := B_k.out.on hb
        have h' := bel_on h.out hb
        clear hb h B_h B_m B_k
        have B_h := Lib.hid b_h
        have B_m := Lib.hid b_m
        have B_k := Lib.hid b_k
        have h := Lib.hid h'
        clear h' b_h b_m b_k
        go_wp2_with fail
        go_ret
        exact ⟨by rw [HV.out]; rfl, h.out⟩
      · have HV := Lib.hid (knows_n hz hp hq hr (Bool.false_and _))
        clear hz hr
        go_enter Try.func13, Try.ntmps13
        have h := Lib.hid (Below.refl w.heap.size w)
        go_wp2_with fail
        refine (N.out _).mono ?_
        rintro e w1 ⟨rfl, hb⟩
        have b_h : Blk w1 w.heap.size [.int .i64 f, .int .u32 a, .int .u32 b, .int .u32 c, .int .u32 d] := (((Blk.new w [.int .i64 f, .int .u32 a, .int .u32 b, .int .u32 c, .int .u32 d] 28).next (.cells #[.int .u32 m, .int .u32 n] 24)).next (.cells #[.int .u32 c, .int .u32 d] 24)).on hb
        have b_m : Blk w1 (w.heap.size + 1) [.int .u32 m, .int .u32 n] := ((Blk.newAt (b := (w.heap.size + 1)) (w := (World.alloc w (.cells #[.int .i64 f, .int .u32 a, .int .u32 b, .int .u32 c, .int .u32 d] 28))) (by simp only [World.size_alloc]) [.int .u32 m, .int .u32 n] 24).next (.cells #[.int .u32 c, .int .u32 d] 24)).on hb
        have b_k : Blk w1 (w.heap.size + 2) [.int .u32 c, .int .u32 d] := (Blk.newAt (b := (w.heap.size + 2)) (w := (World.alloc (World.alloc w (.cells #[.int .i64 f, .int .u32 a, .int .u32 b, .int .u32 c, .int .u32 d] 28)) (.cells #[.int .u32 m, .int .u32 n] 24))) (by simp only [World.size_alloc]) [.int .u32 c, .int .u32 d] 24).on hb
        have h' := bel_on ((((((h.out).alloc (h.out).size _)).alloc (((h.out).alloc (h.out).size _)).size _)).alloc (((((h.out).alloc (h.out).size _)).alloc (((h.out).alloc (h.out).size _)).size _)).size _) hb
        clear hb h
        have B_h := Lib.hid b_h
        have B_m := Lib.hid b_m
        have B_k := Lib.hid b_k
        have h := Lib.hid h'
        clear h' b_h b_m b_k
        have c_m0 := B_m.out.cell 0 rfl
        have c_m1 := B_m.out.cell 1 rfl
        have c_k0 := B_k.out.cell 0 rfl
        have c_k1 := B_k.out.cell 1 rfl
        go_wp2_with fail
        refine (NW.out _).mono ?_
        rintro e w2 ⟨rfl, hb⟩
        clear c_m0 c_m1 c_k0 c_k1
        have b_h : Blk w2 w.heap.size [.int .i64 f, .int .u32 a, .int .u32 b, .int .u32 c, .int .u32 d] := B_h.out.on hb
        have b_m : Blk w2 (w.heap.size + 1) [.int .u32 m, .int .u32 n] := B_m.out.on hb
        have b_k : Blk w2 (w.heap.size + 2) [.int .u32 c, .int .u32 d] := B_k.out.on hb
        have h' := bel_on h.out hb
        clear hb h B_h B_m B_k
        have B_h := Lib.hid b_h
        have B_m := Lib.hid b_m
        have B_k := Lib.hid b_k
        have h := Lib.hid h'
        clear h' b_h b_m b_k
        go_wp2_with fail
        go_ret
        exact ⟨by rw [HV.out]; rfl, h.out⟩
    · rcases q with _ | _
      · rcases r with _ | _
        · have HV := Lib.hid (knows_n hz hp hq hr rfl)
          clear hz hr
          go_enter Try.func13, Try.ntmps13
          have h := Lib.hid (Below.refl w.heap.size w)
          go_wp2_with fail
          refine (N.out _).mono ?_
          rintro e w1 ⟨rfl, hb⟩
          have b_h : Blk w1 w.heap.size [.int .i64 f, .int .u32 a, .int .u32 b, .int .u32 c, .int .u32 d] := (((Blk.new w [.int .i64 f, .int .u32 a, .int .u32 b, .int .u32 c, .int .u32 d] 28).next (.cells #[.int .u32 m, .int .u32 n] 24)).next (.cells #[.int .u32 c, .int .u32 d] 24)).on hb
          have b_m : Blk w1 (w.heap.size + 1) [.int .u32 m, .int .u32 n] := ((Blk.newAt (b := (w.heap.size + 1)) (w := (World.alloc w (.cells #[.int .i64 f, .int .u32 a, .int .u32 b, .int .u32 c, .int .u32 d] 28))) (by simp only [World.size_alloc]) [.int .u32 m, .int .u32 n] 24).next (.cells #[.int .u32 c, .int .u32 d] 24)).on hb
          have b_k : Blk w1 (w.heap.size + 2) [.int .u32 c, .int .u32 d] := (Blk.newAt (b := (w.heap.size + 2)) (w := (World.alloc (World.alloc w (.cells #[.int .i64 f, .int .u32 a, .int .u32 b, .int .u32 c, .int .u32 d] 28)) (.cells #[.int .u32 m, .int .u32 n] 24))) (by simp only [World.size_alloc]) [.int .u32 c, .int .u32 d] 24).on hb
          have h' := bel_on ((((((h.out).alloc (h.out).size _)).alloc (((h.out).alloc (h.out).size _)).size _)).alloc (((((h.out).alloc (h.out).size _)).alloc (((h.out).alloc (h.out).size _)).size _)).size _) hb
          clear hb h
          have B_h := Lib.hid b_h
          have B_m := Lib.hid b_m
          have B_k := Lib.hid b_k
          have h := Lib.hid h'
          clear h' b_h b_m b_k
          have c_m0 := B_m.out.cell 0 rfl
          have c_m1 := B_m.out.cell 1 rfl
          have c_k0 := B_k.out.cell 0 rfl
          have c_k1 := B_k.out.cell 1 rfl
          go_wp2_with fail
          refine (NW.out _).mono ?_
          rintro e w2 ⟨rfl, hb⟩
          clear c_m0 c_m1 c_k0 c_k1
          have b_h : Blk w2 w.heap.size [.int .i64 f, .int .u32 a, .int .u32 b, .int .u32 c, .int .u32 d] := B_h.out.on hb
          have b_m : Blk w2 (w.heap.size + 1) [.int .u32 m, .int .u32 n] := B_m.out.on hb
          have b_k : Blk w2 (w.heap.size + 2) [.int .u32 c, .int .u32 d] := B_k.out.on hb
          have h' := bel_on h.out hb
          clear hb h B_h B_m B_k
          have B_h := Lib.hid b_h
          have B_m := Lib.hid b_m
          have B_k := Lib.hid b_k
          have h := Lib.hid h'
          clear h' b_h b_m b_k
          go_wp2_with fail
          go_ret
          exact ⟨by rw [HV.out]; rfl, h.out⟩
        · have HV := Lib.hid (knows_n hz hp hq hr rfl)
          clear hz hr
          go_enter Try.func13, Try.ntmps13
          have h := Lib.hid (Below.refl w.heap.size w)
          go_wp2_with fail
          refine (N.out _).mono ?_
          rintro e w1 ⟨rfl, hb⟩
          have b_h : Blk w1 w.heap.size [.int .i64 f, .int .u32 a, .int .u32 b, .int .u32 c, .int .u32 d] := (((Blk.new w [.int .i64 f, .int .u32 a, .int .u32 b, .int .u32 c, .int .u32 d] 28).next (.cells #[.int .u32 m, .int .u32 n] 24)).next (.cells #[.int .u32 c, .int .u32 d] 24)).on hb
          have b_m : Blk w1 (w.heap.size + 1) [.int .u32 m, .int .u32 n] := ((Blk.newAt (b := (w.heap.size + 1)) (w := (World.alloc w (.cells #[.int .i64 f, .int .u32 a, .int .u32 b, .int .u32 c, .int .u32 d] 28))) (by simp only [World.size_alloc]) [.int .u32 m, .int .u32 n] 24).next (.cells #[.int .u32 c, .int .u32 d] 24)).on hb
          have b_k : Blk w1 (w.heap.size + 2) [.int .u32 c, .int .u32 d] := (Blk.newAt (b := (w.heap.size + 2)) (w := (World.alloc (World.alloc w (.cells #[.int .i64 f, .int .u32 a, .int .u32 b, .int .u32 c, .int .u32 d] 28)) (.cells #[.int .u32 m, .int .u32 n] 24))) (by simp only [World.size_alloc]) [.int .u32 c, .int .u32 d] 24).on hb
          have h' := bel_on ((((((h.out).alloc (h.out).size _)).alloc (((h.out).alloc (h.out).size _)).size _)).alloc (((((h.out).alloc (h.out).size _)).alloc (((h.out).alloc (h.out).size _)).size _)).size _) hb
          clear hb h
          have B_h := Lib.hid b_h
          have B_m := Lib.hid b_m
          have B_k := Lib.hid b_k
          have h := Lib.hid h'
          clear h' b_h b_m b_k
          have c_m0 := B_m.out.cell 0 rfl
          have c_m1 := B_m.out.cell 1 rfl
          have c_k0 := B_k.out.cell 0 rfl
          have c_k1 := B_k.out.cell 1 rfl
          go_wp2_with fail
          refine (NW.out _).mono ?_
          rintro e w2 ⟨rfl, hb⟩
          clear c_m0 c_m1 c_k0 c_k1
          have b_h : Blk w2 w.heap.size [.int .i64 f, .int .u32 a, .int .u32 b, .int .u32 c, .int .u32 d] := B_h.out.on hb
          have b_m : Blk w2 (w.heap.size + 1) [.int .u32 m, .int .u32 n] := B_m.out.on hb
          have b_k : Blk w2 (w.heap.size + 2) [.int .u32 c, .int .u32 d] := B_k.out.on hb
          have h' := bel_on h.out hb
          clear hb h B_h B_m B_k
          have B_h := Lib.hid b_h
          have B_m := Lib.hid b_m
          have B_k := Lib.hid b_k
          have h := Lib.hid h'
          clear h' b_h b_m b_k
          go_wp2_with fail
          go_ret
          exact ⟨by rw [HV.out]; rfl, h.out⟩
      · have HV := Lib.hid (knows_3 (m := m) (n := n) hz hp hq rfl)
        clear hz hr
        go_enter Try.func13, Try.ntmps13
        have h := Lib.hid (Below.refl w.heap.size w)
        go_wp2_with fail
        refine (N.out _).mono ?_
        rintro e w1 ⟨rfl, hb⟩
        have b_h : Blk w1 w.heap.size [.int .i64 f, .int .u32 a, .int .u32 b, .int .u32 c, .int .u32 d] := (((Blk.new w [.int .i64 f, .int .u32 a, .int .u32 b, .int .u32 c, .int .u32 d] 28).next (.cells #[.int .u32 m, .int .u32 n] 24)).next (.cells #[.int .u32 c, .int .u32 d] 24)).on hb
        have b_m : Blk w1 (w.heap.size + 1) [.int .u32 m, .int .u32 n] := ((Blk.newAt (b := (w.heap.size + 1)) (w := (World.alloc w (.cells #[.int .i64 f, .int .u32 a, .int .u32 b, .int .u32 c, .int .u32 d] 28))) (by simp only [World.size_alloc]) [.int .u32 m, .int .u32 n] 24).next (.cells #[.int .u32 c, .int .u32 d] 24)).on hb
        have b_k : Blk w1 (w.heap.size + 2) [.int .u32 c, .int .u32 d] := (Blk.newAt (b := (w.heap.size + 2)) (w := (World.alloc (World.alloc w (.cells #[.int .i64 f, .int .u32 a, .int .u32 b, .int .u32 c, .int .u32 d] 28)) (.cells #[.int .u32 m, .int .u32 n] 24))) (by simp only [World.size_alloc]) [.int .u32 c, .int .u32 d] 24).on hb
        have h' := bel_on ((((((h.out).alloc (h.out).size _)).alloc (((h.out).alloc (h.out).size _)).size _)).alloc (((((h.out).alloc (h.out).size _)).alloc (((h.out).alloc (h.out).size _)).size _)).size _) hb
        clear hb h
        have B_h := Lib.hid b_h
        have B_m := Lib.hid b_m
        have B_k := Lib.hid b_k
        have h := Lib.hid h'
        clear h' b_h b_m b_k
        have c_m0 := B_m.out.cell 0 rfl
        have c_m1 := B_m.out.cell 1 rfl
        have c_k0 := B_k.out.cell 0 rfl
        have c_k1 := B_k.out.cell 1 rfl
        go_wp2_with fail
        go_ret
        exact ⟨by rw [HV.out]; rfl, h.out⟩
  · have HV := Lib.hid (knows_0 (m := m) (n := n) hz)
    clear hz hr hp hq
    go_enter Try.func13, Try.ntmps13
    have h := Lib.hid (Below.refl w.heap.size w)
    go_wp2_with fail
    refine (N.out _).mono ?_
    rintro e w1 ⟨rfl, hb⟩
    have b_h : Blk w1 w.heap.size [.int .i64 f, .int .u32 a, .int .u32 b, .int .u32 c, .int .u32 d] := (((Blk.new w [.int .i64 f, .int .u32 a, .int .u32 b, .int .u32 c, .int .u32 d] 28).next (.cells #[.int .u32 m, .int .u32 n] 24)).next (.cells #[.int .u32 c, .int .u32 d] 24)).on hb
    have b_m : Blk w1 (w.heap.size + 1) [.int .u32 m, .int .u32 n] := ((Blk.newAt (b := (w.heap.size + 1)) (w := (World.alloc w (.cells #[.int .i64 f, .int .u32 a, .int .u32 b, .int .u32 c, .int .u32 d] 28))) (by simp only [World.size_alloc]) [.int .u32 m, .int .u32 n] 24).next (.cells #[.int .u32 c, .int .u32 d] 24)).on hb
    have b_k : Blk w1 (w.heap.size + 2) [.int .u32 c, .int .u32 d] := (Blk.newAt (b := (w.heap.size + 2)) (w := (World.alloc (World.alloc w (.cells #[.int .i64 f, .int .u32 a, .int .u32 b, .int .u32 c, .int .u32 d] 28)) (.cells #[.int .u32 m, .int .u32 n] 24))) (by simp only [World.size_alloc]) [.int .u32 c, .int .u32 d] 24).on hb
    have h' := bel_on ((((((h.out).alloc (h.out).size _)).alloc (((h.out).alloc (h.out).size _)).size _)).alloc (((((h.out).alloc (h.out).size _)).alloc (((h.out).alloc (h.out).size _)).size _)).size _) hb
    clear hb h
    have B_h := Lib.hid b_h
    have B_m := Lib.hid b_m
    have B_k := Lib.hid b_k
    have h := Lib.hid h'
    clear h' b_h b_m b_k
    go_wp2_with fail
    go_ret
    exact ⟨by rw [HV.out]; rfl, h.out⟩

set_option maxHeartbeats 1000000 in
theorem rknows_any (f a b c d m n : Int) (w : World) : Calls Try.prog 14 #[(.agg #[.int .i64 f, .int .u32 a, .int .u32 b, .int .u32 c, .int .u32 d] : Value), (.agg #[.int .u32 m, .int .u32 n] : Value)] w fun e w' => e = .returned (.int .i64 (knowsF c d m n)) ∧ Below w.heap.size w w' := by
  obtain ⟨z, hz⟩ : ∃ z, (c == 0 && d == 0) = z := ⟨_, rfl⟩
  obtain ⟨p, hp⟩ : ∃ z, (c == m) = z := ⟨_, rfl⟩
  obtain ⟨q, hq⟩ : ∃ z, (d == n) = z := ⟨_, rfl⟩
  obtain ⟨r, hr⟩ : ∃ z, newerF m n c d = z := ⟨_, rfl⟩
  have N := Lib.hid (rnone_any c d)
  have NW := Lib.hid (rnewer_any m n c d)
  rw [hz] at N
  rw [hr] at NW
  rcases z with _ | _
  · rcases p with _ | _
    · rcases r with _ | _
      · have HV := Lib.hid (knows_n hz hp hq hr (Bool.false_and _))
        clear hz hr
        go_enter Try.func14, Try.ntmps14
        have h := Lib.hid (Below.refl w.heap.size w)
        go_wp2_with fail
        refine (N.out _).mono ?_
        rintro e w1 ⟨rfl, hb⟩
        have b_h : Blk w1 w.heap.size [.int .i64 f, .int .u32 a, .int .u32 b, .int .u32 c, .int .u32 d] := ((Blk.new w [.int .i64 f, .int .u32 a, .int .u32 b, .int .u32 c, .int .u32 d] 28).next (.cells #[.int .u32 m, .int .u32 n] 24)).on hb
        have b_m : Blk w1 (w.heap.size + 1) [.int .u32 m, .int .u32 n] := (Blk.newAt (b := (w.heap.size + 1)) (w := (World.alloc w (.cells #[.int .i64 f, .int .u32 a, .int .u32 b, .int .u32 c, .int .u32 d] 28))) (by simp only [World.size_alloc]) [.int .u32 m, .int .u32 n] 24).on hb
        have h' := bel_on ((((h.out).alloc (h.out).size _)).alloc (((h.out).alloc (h.out).size _)).size _) hb
        clear hb h
        have B_h := Lib.hid b_h
        have B_m := Lib.hid b_m
        have h := Lib.hid h'
        clear h' b_h b_m
        have c_m0 := B_m.out.cell 0 rfl
        have c_m1 := B_m.out.cell 1 rfl
        have c_h3 := B_h.out.cell 3 rfl
        have c_h4 := B_h.out.cell 4 rfl
        go_wp2_with fail
        refine (NW.out _).mono ?_
        rintro e w2 ⟨rfl, hb⟩
        clear c_m0 c_m1 c_h3 c_h4
        have b_h : Blk w2 w.heap.size [.int .i64 f, .int .u32 a, .int .u32 b, .int .u32 c, .int .u32 d] := B_h.out.on hb
        have b_m : Blk w2 (w.heap.size + 1) [.int .u32 m, .int .u32 n] := B_m.out.on hb
        have h' := bel_on h.out hb
        clear hb h B_h B_m
        have B_h := Lib.hid b_h
        have B_m := Lib.hid b_m
        have h := Lib.hid h'
        clear h' b_h b_m
        go_wp2_with fail
        go_ret
        exact ⟨by rw [HV.out]; rfl, h.out⟩
      · have HV := Lib.hid (knows_n hz hp hq hr (Bool.false_and _))
        clear hz hr
        go_enter Try.func14, Try.ntmps14
        have h := Lib.hid (Below.refl w.heap.size w)
        go_wp2_with fail
        refine (N.out _).mono ?_
        rintro e w1 ⟨rfl, hb⟩
        have b_h : Blk w1 w.heap.size [.int .i64 f, .int .u32 a, .int .u32 b, .int .u32 c, .int .u32 d] := ((Blk.new w [.int .i64 f, .int .u32 a, .int .u32 b, .int .u32 c, .int .u32 d] 28).next (.cells #[.int .u32 m, .int .u32 n] 24)).on hb
        have b_m : Blk w1 (w.heap.size + 1) [.int .u32 m, .int .u32 n] := (Blk.newAt (b := (w.heap.size + 1)) (w := (World.alloc w (.cells #[.int .i64 f, .int .u32 a, .int .u32 b, .int .u32 c, .int .u32 d] 28))) (by simp only [World.size_alloc]) [.int .u32 m, .int .u32 n] 24).on hb
        have h' := bel_on ((((h.out).alloc (h.out).size _)).alloc (((h.out).alloc (h.out).size _)).size _) hb
        clear hb h
        have B_h := Lib.hid b_h
        have B_m := Lib.hid b_m
        have h := Lib.hid h'
        clear h' b_h b_m
        have c_m0 := B_m.out.cell 0 rfl
        have c_m1 := B_m.out.cell 1 rfl
        have c_h3 := B_h.out.cell 3 rfl
        have c_h4 := B_h.out.cell 4 rfl
        go_wp2_with fail
        refine (NW.out _).mono ?_
        rintro e w2 ⟨rfl, hb⟩
        clear c_m0 c_m1 c_h3 c_h4
        have b_h : Blk w2 w.heap.size [.int .i64 f, .int .u32 a, .int .u32 b, .int .u32 c, .int .u32 d] := B_h.out.on hb
        have b_m : Blk w2 (w.heap.size + 1) [.int .u32 m, .int .u32 n] := B_m.out.on hb
        have h' := bel_on h.out hb
        clear hb h B_h B_m
        have B_h := Lib.hid b_h
        have B_m := Lib.hid b_m
        have h := Lib.hid h'
        clear h' b_h b_m
        go_wp2_with fail
        go_ret
        exact ⟨by rw [HV.out]; rfl, h.out⟩
    · rcases q with _ | _
      · rcases r with _ | _
        · have HV := Lib.hid (knows_n hz hp hq hr rfl)
          clear hz hr
          go_enter Try.func14, Try.ntmps14
          have h := Lib.hid (Below.refl w.heap.size w)
          go_wp2_with fail
          refine (N.out _).mono ?_
          rintro e w1 ⟨rfl, hb⟩
          have b_h : Blk w1 w.heap.size [.int .i64 f, .int .u32 a, .int .u32 b, .int .u32 c, .int .u32 d] := ((Blk.new w [.int .i64 f, .int .u32 a, .int .u32 b, .int .u32 c, .int .u32 d] 28).next (.cells #[.int .u32 m, .int .u32 n] 24)).on hb
          have b_m : Blk w1 (w.heap.size + 1) [.int .u32 m, .int .u32 n] := (Blk.newAt (b := (w.heap.size + 1)) (w := (World.alloc w (.cells #[.int .i64 f, .int .u32 a, .int .u32 b, .int .u32 c, .int .u32 d] 28))) (by simp only [World.size_alloc]) [.int .u32 m, .int .u32 n] 24).on hb
          have h' := bel_on ((((h.out).alloc (h.out).size _)).alloc (((h.out).alloc (h.out).size _)).size _) hb
          clear hb h
          have B_h := Lib.hid b_h
          have B_m := Lib.hid b_m
          have h := Lib.hid h'
          clear h' b_h b_m
          have c_m0 := B_m.out.cell 0 rfl
          have c_m1 := B_m.out.cell 1 rfl
          have c_h3 := B_h.out.cell 3 rfl
          have c_h4 := B_h.out.cell 4 rfl
          go_wp2_with fail
          refine (NW.out _).mono ?_
          rintro e w2 ⟨rfl, hb⟩
          clear c_m0 c_m1 c_h3 c_h4
          have b_h : Blk w2 w.heap.size [.int .i64 f, .int .u32 a, .int .u32 b, .int .u32 c, .int .u32 d] := B_h.out.on hb
          have b_m : Blk w2 (w.heap.size + 1) [.int .u32 m, .int .u32 n] := B_m.out.on hb
          have h' := bel_on h.out hb
          clear hb h B_h B_m
          have B_h := Lib.hid b_h
          have B_m := Lib.hid b_m
          have h := Lib.hid h'
          clear h' b_h b_m
          go_wp2_with fail
          go_ret
          exact ⟨by rw [HV.out]; rfl, h.out⟩
        · have HV := Lib.hid (knows_n hz hp hq hr rfl)
          clear hz hr
          go_enter Try.func14, Try.ntmps14
          have h := Lib.hid (Below.refl w.heap.size w)
          go_wp2_with fail
          refine (N.out _).mono ?_
          rintro e w1 ⟨rfl, hb⟩
          have b_h : Blk w1 w.heap.size [.int .i64 f, .int .u32 a, .int .u32 b, .int .u32 c, .int .u32 d] := ((Blk.new w [.int .i64 f, .int .u32 a, .int .u32 b, .int .u32 c, .int .u32 d] 28).next (.cells #[.int .u32 m, .int .u32 n] 24)).on hb
          have b_m : Blk w1 (w.heap.size + 1) [.int .u32 m, .int .u32 n] := (Blk.newAt (b := (w.heap.size + 1)) (w := (World.alloc w (.cells #[.int .i64 f, .int .u32 a, .int .u32 b, .int .u32 c, .int .u32 d] 28))) (by simp only [World.size_alloc]) [.int .u32 m, .int .u32 n] 24).on hb
          have h' := bel_on ((((h.out).alloc (h.out).size _)).alloc (((h.out).alloc (h.out).size _)).size _) hb
          clear hb h
          have B_h := Lib.hid b_h
          have B_m := Lib.hid b_m
          have h := Lib.hid h'
          clear h' b_h b_m
          have c_m0 := B_m.out.cell 0 rfl
          have c_m1 := B_m.out.cell 1 rfl
          have c_h3 := B_h.out.cell 3 rfl
          have c_h4 := B_h.out.cell 4 rfl
          go_wp2_with fail
          refine (NW.out _).mono ?_
          rintro e w2 ⟨rfl, hb⟩
          clear c_m0 c_m1 c_h3 c_h4
          have b_h : Blk w2 w.heap.size [.int .i64 f, .int .u32 a, .int .u32 b, .int .u32 c, .int .u32 d] := B_h.out.on hb
          have b_m : Blk w2 (w.heap.size + 1) [.int .u32 m, .int .u32 n] := B_m.out.on hb
          have h' := bel_on h.out hb
          clear hb h B_h B_m
          have B_h := Lib.hid b_h
          have B_m := Lib.hid b_m
          have h := Lib.hid h'
          clear h' b_h b_m
          go_wp2_with fail
          go_ret
          exact ⟨by rw [HV.out]; rfl, h.out⟩
      · have HV := Lib.hid (knows_3 (m := m) (n := n) hz hp hq rfl)
        clear hz hr
        go_enter Try.func14, Try.ntmps14
        have h := Lib.hid (Below.refl w.heap.size w)
        go_wp2_with fail
        refine (N.out _).mono ?_
        rintro e w1 ⟨rfl, hb⟩
        have b_h : Blk w1 w.heap.size [.int .i64 f, .int .u32 a, .int .u32 b, .int .u32 c, .int .u32 d] := ((Blk.new w [.int .i64 f, .int .u32 a, .int .u32 b, .int .u32 c, .int .u32 d] 28).next (.cells #[.int .u32 m, .int .u32 n] 24)).on hb
        have b_m : Blk w1 (w.heap.size + 1) [.int .u32 m, .int .u32 n] := (Blk.newAt (b := (w.heap.size + 1)) (w := (World.alloc w (.cells #[.int .i64 f, .int .u32 a, .int .u32 b, .int .u32 c, .int .u32 d] 28))) (by simp only [World.size_alloc]) [.int .u32 m, .int .u32 n] 24).on hb
        have h' := bel_on ((((h.out).alloc (h.out).size _)).alloc (((h.out).alloc (h.out).size _)).size _) hb
        clear hb h
        have B_h := Lib.hid b_h
        have B_m := Lib.hid b_m
        have h := Lib.hid h'
        clear h' b_h b_m
        have c_m0 := B_m.out.cell 0 rfl
        have c_m1 := B_m.out.cell 1 rfl
        have c_h3 := B_h.out.cell 3 rfl
        have c_h4 := B_h.out.cell 4 rfl
        go_wp2_with fail
        go_ret
        exact ⟨by rw [HV.out]; rfl, h.out⟩
  · have HV := Lib.hid (knows_0 (m := m) (n := n) hz)
    clear hz hr hp hq
    go_enter Try.func14, Try.ntmps14
    have h := Lib.hid (Below.refl w.heap.size w)
    go_wp2_with fail
    refine (N.out _).mono ?_
    rintro e w1 ⟨rfl, hb⟩
    have b_h : Blk w1 w.heap.size [.int .i64 f, .int .u32 a, .int .u32 b, .int .u32 c, .int .u32 d] := ((Blk.new w [.int .i64 f, .int .u32 a, .int .u32 b, .int .u32 c, .int .u32 d] 28).next (.cells #[.int .u32 m, .int .u32 n] 24)).on hb
    have b_m : Blk w1 (w.heap.size + 1) [.int .u32 m, .int .u32 n] := (Blk.newAt (b := (w.heap.size + 1)) (w := (World.alloc w (.cells #[.int .i64 f, .int .u32 a, .int .u32 b, .int .u32 c, .int .u32 d] 28))) (by simp only [World.size_alloc]) [.int .u32 m, .int .u32 n] 24).on hb
    have h' := bel_on ((((h.out).alloc (h.out).size _)).alloc (((h.out).alloc (h.out).size _)).size _) hb
    clear hb h
    have B_h := Lib.hid b_h
    have B_m := Lib.hid b_m
    have h := Lib.hid h'
    clear h' b_h b_m
    go_wp2_with fail
    go_ret
    exact ⟨by rw [HV.out]; rfl, h.out⟩

end Go.Proofs.Ytgmpfnhdcgcldaa
