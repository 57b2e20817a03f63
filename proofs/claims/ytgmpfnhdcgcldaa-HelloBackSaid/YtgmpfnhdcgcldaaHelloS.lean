/- Contracts of package hello, part S: Answers, and the document's own. -/
import Derived.Test.YtgmpfnhdcgcldaaHelloR
namespace Go.Proofs.Ytgmpfnhdcgcldaa
open Go.RowKit

/-- Whether one hello answers another one. -/
def answersF (f a b c d g x y z u : Int) : Bool := rightF f a b && rightF g x y && !(f == g) && (z == a && u == b) && ((c == 0 && d == 0) || (c == x && d == y))
theorem answers_of {f a b c d g x y z u : Int} {r1 r2 s p q o k l : Bool} (h1 : rightF f a b = r1) (h2 : rightF g x y = r2) (hs : (f == g) = s) (hp : (z == a) = p) (hq : (u == b) = q)
    (ho : (c == 0 && d == 0) = o) (hk : (c == x) = k) (hl : (d == y) = l) : answersF f a b c d g x y z u = (r1 && r2 && !s && (p && q) && (o || (k && l))) := by
  unfold answersF; rw [h1, h2, hs, hp, hq, ho, hk, hl]

set_option maxHeartbeats 1000000 in
theorem answers_any (f a b c d g x y z u : Int) (w : World) : Calls Try.prog 15 #[(.agg #[.int .i64 f, .int .u32 a, .int .u32 b, .int .u32 c, .int .u32 d] : Value), (.agg #[.int .i64 g, .int .u32 x, .int .u32 y, .int .u32 z, .int .u32 u] : Value)] w fun e w' => e = .returned (.bool (answersF f a b c d g x y z u)) ∧ Below w.heap.size w w' := by
  obtain ⟨r1, h1⟩ : ∃ t, rightF f a b = t := ⟨_, rfl⟩
  obtain ⟨r2, h2⟩ : ∃ t, rightF g x y = t := ⟨_, rfl⟩
  obtain ⟨s, hs⟩ : ∃ t, (f == g) = t := ⟨_, rfl⟩
  obtain ⟨p, hp⟩ : ∃ t, (z == a) = t := ⟨_, rfl⟩
  obtain ⟨q, hq⟩ : ∃ t, (u == b) = t := ⟨_, rfl⟩
  obtain ⟨o, ho⟩ : ∃ t, (c == 0 && d == 0) = t := ⟨_, rfl⟩
  obtain ⟨k, hk⟩ : ∃ t, (c == x) = t := ⟨_, rfl⟩
  obtain ⟨l, hl⟩ : ∃ t, (d == y) = t := ⟨_, rfl⟩
  have HV := Lib.hid (answers_of h1 h2 hs hp hq ho hk hl)
  have R1 := Lib.hid (hright_any f a b c d)
  have R2 := Lib.hid (hright_any g x y z u)
  have N := Lib.hid (none_any c d)
  rw [h1] at R1
  rw [h2] at R2
  rw [ho] at N
  clear h1 h2 ho
  rcases r1 with _ | _
  · go_enter Try.func15, Try.ntmps15
    have h := Lib.hid (Below.refl w.heap.size w)
    go_wp2_with fail
    refine (R1.out _).mono ?_
    rintro e w1 ⟨rfl, hb⟩
    have b_a : Blk w1 w.heap.size [.int .i64 f, .int .u32 a, .int .u32 b, .int .u32 c, .int .u32 d] := ((Blk.new w [.int .i64 f, .int .u32 a, .int .u32 b, .int .u32 c, .int .u32 d] 28).next (.cells #[.int .i64 g, .int .u32 x, .int .u32 y, .int .u32 z, .int .u32 u] 28)).on hb
    have b_b : Blk w1 (w.heap.size + 1) [.int .i64 g, .int .u32 x, .int .u32 y, .int .u32 z, .int .u32 u] := (Blk.newAt (b := (w.heap.size + 1)) (w := (World.alloc w (.cells #[.int .i64 f, .int .u32 a, .int .u32 b, .int .u32 c, .int .u32 d] 28))) (by simp only [World.size_alloc]) [.int .i64 g, .int .u32 x, .int .u32 y, .int .u32 z, .int .u32 u] 28).on hb
    have h' := bel_on ((((h.out).alloc (h.out).size _)).alloc (((h.out).alloc (h.out).size _)).size _) hb
    clear hb h
    have B_a := Lib.hid b_a
    have B_b := Lib.hid b_b
    have h := Lib.hid h'
    clear h' b_a b_b
    go_wp2_with fail
    go_ret
    exact ⟨by rw [HV.out]; rfl, h.out⟩
  · rcases r2 with _ | _
    · go_enter Try.func15, Try.ntmps15
      have h := Lib.hid (Below.refl w.heap.size w)
      go_wp2_with fail
      refine (R1.out _).mono ?_
      rintro e w1 ⟨rfl, hb⟩
      have b_a : Blk w1 w.heap.size [.int .i64 f, .int .u32 a, .int .u32 b, .int .u32 c, .int .u32 d] := ((Blk.new w [.int .i64 f, .int .u32 a, .int .u32 b, .int .u32 c, .int .u32 d] 28).next (.cells #[.int .i64 g, .int .u32 x, .int .u32 y, .int .u32 z, .int .u32 u] 28)).on hb
      have b_b : Blk w1 (w.heap.size + 1) [.int .i64 g, .int .u32 x, .int .u32 y, .int .u32 z, .int .u32 u] := (Blk.newAt (b := (w.heap.size + 1)) (w := (World.alloc w (.cells #[.int .i64 f, .int .u32 a, .int .u32 b, .int .u32 c, .int .u32 d] 28))) (by simp only [World.size_alloc]) [.int .i64 g, .int .u32 x, .int .u32 y, .int .u32 z, .int .u32 u] 28).on hb
      have h' := bel_on ((((h.out).alloc (h.out).size _)).alloc (((h.out).alloc (h.out).size _)).size _) hb
      clear hb h
      have B_a := Lib.hid b_a
      have B_b := Lib.hid b_b
      have h := Lib.hid h'
      clear h' b_a b_b
      have c_b0 := B_b.out.cell 0 rfl
      have c_b1 := B_b.out.cell 1 rfl
      have c_b2 := B_b.out.cell 2 rfl
      have c_b3 := B_b.out.cell 3 rfl
      have c_b4 := B_b.out.cell 4 rfl
      go_wp2_with fail
      refine (R2.out _).mono ?_
      rintro e w2 ⟨rfl, hb⟩
      clear c_b0 c_b1 c_b2 c_b3 c_b4
      have b_a : Blk w2 w.heap.size [.int .i64 f, .int .u32 a, .int .u32 b, .int .u32 c, .int .u32 d] := B_a.out.on hb
      have b_b : Blk w2 (w.heap.size + 1) [.int .i64 g, .int .u32 x, .int .u32 y, .int .u32 z, .int .u32 u] := B_b.out.on hb
      have h' := bel_on h.out hb
      clear hb h B_a B_b
      have B_a := Lib.hid b_a
      have B_b := Lib.hid b_b
      have h := Lib.hid h'
      clear h' b_a b_b
      go_wp2_with fail
      go_ret
      exact ⟨by rw [HV.out]; rfl, h.out⟩
    · rcases s with _ | _
      · rcases p with _ | _
        · go_enter Try.func15, Try.ntmps15
          have h := Lib.hid (Below.refl w.heap.size w)
          go_wp2_with fail
          refine (R1.out _).mono ?_
          rintro e w1 ⟨rfl, hb⟩
          have b_a : Blk w1 w.heap.size [.int .i64 f, .int .u32 a, .int .u32 b, .int .u32 c, .int .u32 d] := ((Blk.new w [.int .i64 f, .int .u32 a, .int .u32 b, .int .u32 c, .int .u32 d] 28).next (.cells #[.int .i64 g, .int .u32 x, .int .u32 y, .int .u32 z, .int .u32 u] 28)).on hb
          have b_b : Blk w1 (w.heap.size + 1) [.int .i64 g, .int .u32 x, .int .u32 y, .int .u32 z, .int .u32 u] := (Blk.newAt (b := (w.heap.size + 1)) (w := (World.alloc w (.cells #[.int .i64 f, .int .u32 a, .int .u32 b, .int .u32 c, .int .u32 d] 28))) (by simp only [World.size_alloc]) [.int .i64 g, .int .u32 x, .int .u32 y, .int .u32 z, .int .u32 u] 28).on hb
          have h' := bel_on ((((h.out).alloc (h.out).size _)).alloc (((h.out).alloc (h.out).size _)).size _) hb
          clear hb h
          have B_a := Lib.hid b_a
          have B_b := Lib.hid b_b
          have h := Lib.hid h'
          clear h' b_a b_b
          have c_b0 := B_b.out.cell 0 rfl
          have c_b1 := B_b.out.cell 1 rfl
          have c_b2 := B_b.out.cell 2 rfl
          have c_b3 := B_b.out.cell 3 rfl
          have c_b4 := B_b.out.cell 4 rfl
          go_wp2_with fail
          refine (R2.out _).mono ?_
          rintro e w2 ⟨rfl, hb⟩
          clear c_b0 c_b1 c_b2 c_b3 c_b4
          have b_a : Blk w2 w.heap.size [.int .i64 f, .int .u32 a, .int .u32 b, .int .u32 c, .int .u32 d] := B_a.out.on hb
          have b_b : Blk w2 (w.heap.size + 1) [.int .i64 g, .int .u32 x, .int .u32 y, .int .u32 z, .int .u32 u] := B_b.out.on hb
          have h' := bel_on h.out hb
          clear hb h B_a B_b
          have B_a := Lib.hid b_a
          have B_b := Lib.hid b_b
          have h := Lib.hid h'
          clear h' b_a b_b
          have c_a0 := B_a.out.cell 0 rfl
          have c_b0 := B_b.out.cell 0 rfl
          have c_a3 := B_a.out.cell 3 rfl
          have c_a4 := B_a.out.cell 4 rfl
          have d_b3 := (B_b.out.next (.cells #[.int .u32 c, .int .u32 d] 24)).cell 3 rfl
          have d_b4 := (B_b.out.next (.cells #[.int .u32 c, .int .u32 d] 24)).cell 4 rfl
          have d_a1 := (B_a.out.next (.cells #[.int .u32 c, .int .u32 d] 24)).cell 1 rfl
          have d_a2 := (B_a.out.next (.cells #[.int .u32 c, .int .u32 d] 24)).cell 2 rfl
          have d_k0 := (Blk.new w2 [.int .u32 c, .int .u32 d] 24).cell 0 rfl
          have d_k1 := (Blk.new w2 [.int .u32 c, .int .u32 d] 24).cell 1 rfl
          go_wp2_with fail
          go_ret
          exact ⟨by rw [HV.out]; rfl, ((h.out).alloc (h.out).size _)⟩
        · rcases q with _ | _
          · go_enter Try.func15, Try.ntmps15
            have h := Lib.hid (Below.refl w.heap.size w)
            go_wp2_with fail
            refine (R1.out _).mono ?_
            rintro e w1 ⟨rfl, hb⟩
            have b_a : Blk w1 w.heap.size [.int .i64 f, .int .u32 a, .int .u32 b, .int .u32 c, .int .u32 d] := ((Blk.new w [.int .i64 f, .int .u32 a, .int .u32 b, .int .u32 c, .int .u32 d] 28).next (.cells #[.int .i64 g, .int .u32 x, .int .u32 y, .int .u32 z, .int .u32 u] 28)).on hb
            have b_b : Blk w1 (w.heap.size + 1) [.int .i64 g, .int .u32 x, .int .u32 y, .int .u32 z, .int .u32 u] := (Blk.newAt (b := (w.heap.size + 1)) (w := (World.alloc w (.cells #[.int .i64 f, .int .u32 a, .int .u32 b, .int .u32 c, .int .u32 d] 28))) (by simp only [World.size_alloc]) [.int .i64 g, .int .u32 x, .int .u32 y, .int .u32 z, .int .u32 u] 28).on hb
            have h' := bel_on ((((h.out).alloc (h.out).size _)).alloc (((h.out).alloc (h.out).size _)).size _) hb
            clear hb h
            have B_a := Lib.hid b_a
            have B_b := Lib.hid b_b
            have h := Lib.hid h'
            clear h' b_a b_b
            have c_b0 := B_b.out.cell 0 rfl
            have c_b1 := B_b.out.cell 1 rfl
            have c_b2 := B_b.out.cell 2 rfl
            have c_b3 := B_b.out.cell 3 rfl
            have c_b4 := B_b.out.cell 4 rfl
            go_wp2_with fail
            refine (R2.out _).mono ?_
            rintro e w2 ⟨rfl, hb⟩
            clear c_b0 c_b1 c_b2 c_b3 c_b4
            have b_a : Blk w2 w.heap.size [.int .i64 f, .int .u32 a, .int .u32 b, .int .u32 c, .int .u32 d] := B_a.out.on hb
            have b_b : Blk w2 (w.heap.size + 1) [.int .i64 g, .int .u32 x, .int .u32 y, .int .u32 z, .int .u32 u] := B_b.out.on hb
            have h' := bel_on h.out hb
            clear hb h B_a B_b
            have B_a := Lib.hid b_a
            have B_b := Lib.hid b_b
            have h := Lib.hid h'
            clear h' b_a b_b
            have c_a0 := B_a.out.cell 0 rfl
            have c_b0 := B_b.out.cell 0 rfl
            have c_a3 := B_a.out.cell 3 rfl
            have c_a4 := B_a.out.cell 4 rfl
            have d_b3 := (B_b.out.next (.cells #[.int .u32 c, .int .u32 d] 24)).cell 3 rfl
            have d_b4 := (B_b.out.next (.cells #[.int .u32 c, .int .u32 d] 24)).cell 4 rfl
            have d_a1 := (B_a.out.next (.cells #[.int .u32 c, .int .u32 d] 24)).cell 1 rfl
            have d_a2 := (B_a.out.next (.cells #[.int .u32 c, .int .u32 d] 24)).cell 2 rfl
            have d_k0 := (Blk.new w2 [.int .u32 c, .int .u32 d] 24).cell 0 rfl
            have d_k1 := (Blk.new w2 [.int .u32 c, .int .u32 d] 24).cell 1 rfl
            go_wp2_with fail
            go_ret
            exact ⟨by rw [HV.out]; rfl, ((h.out).alloc (h.out).size _)⟩
          · rcases o with _ | _
            · rcases k with _ | _
              · go_enter Try.func15, Try.ntmps15
                have h := Lib.hid (Below.refl w.heap.size w)
                go_wp2_with fail
                refine (R1.out _).mono ?_
                rintro e w1 ⟨rfl, hb⟩
                have b_a : Blk w1 w.heap.size [.int .i64 f, .int .u32 a, .int .u32 b, .int .u32 c, .int .u32 d] := ((Blk.new w [.int .i64 f, .int .u32 a, .int .u32 b, .int .u32 c, .int .u32 d] 28).next (.cells #[.int .i64 g, .int .u32 x, .int .u32 y, .int .u32 z, .int .u32 u] 28)).on hb
                have b_b : Blk w1 (w.heap.size + 1) [.int .i64 g, .int .u32 x, .int .u32 y, .int .u32 z, .int .u32 u] := (Blk.newAt (b := (w.heap.size + 1)) (w := (World.alloc w (.cells #[.int .i64 f, .int .u32 a, .int .u32 b, .int .u32 c, .int .u32 d] 28))) (by simp only [World.size_alloc]) [.int .i64 g, .int .u32 x, .int .u32 y, .int .u32 z, .int .u32 u] 28).on hb
                have h' := bel_on ((((h.out).alloc (h.out).size _)).alloc (((h.out).alloc (h.out).size _)).size _) hb
                clear hb h
                have B_a := Lib.hid b_a
                have B_b := Lib.hid b_b
                have h := Lib.hid h'
                clear h' b_a b_b
                have c_b0 := B_b.out.cell 0 rfl
                have c_b1 := B_b.out.cell 1 rfl
                have c_b2 := B_b.out.cell 2 rfl
                have c_b3 := B_b.out.cell 3 rfl
                have c_b4 := B_b.out.cell 4 rfl
                go_wp2_with fail
                refine (R2.out _).mono ?_
                rintro e w2 ⟨rfl, hb⟩
                clear c_b0 c_b1 c_b2 c_b3 c_b4
                have b_a : Blk w2 w.heap.size [.int .i64 f, .int .u32 a, .int .u32 b, .int .u32 c, .int .u32 d] := B_a.out.on hb
                have b_b : Blk w2 (w.heap.size + 1) [.int .i64 g, .int .u32 x, .int .u32 y, .int .u32 z, .int .u32 u] := B_b.out.on hb
                have h' := bel_on h.out hb
                clear hb h B_a B_b
                have B_a := Lib.hid b_a
                have B_b := Lib.hid b_b
                have h := Lib.hid h'
                clear h' b_a b_b
                have c_a0 := B_a.out.cell 0 rfl
                have c_b0 := B_b.out.cell 0 rfl
                have c_a3 := B_a.out.cell 3 rfl
                have c_a4 := B_a.out.cell 4 rfl
                have d_b3 := (B_b.out.next (.cells #[.int .u32 c, .int .u32 d] 24)).cell 3 rfl
                have d_b4 := (B_b.out.next (.cells #[.int .u32 c, .int .u32 d] 24)).cell 4 rfl
                have d_a1 := (B_a.out.next (.cells #[.int .u32 c, .int .u32 d] 24)).cell 1 rfl
                have d_a2 := (B_a.out.next (.cells #[.int .u32 c, .int .u32 d] 24)).cell 2 rfl
                have d_k0 := (Blk.new w2 [.int .u32 c, .int .u32 d] 24).cell 0 rfl
                have d_k1 := (Blk.new w2 [.int .u32 c, .int .u32 d] 24).cell 1 rfl
                go_wp2_with fail
                refine (N.out _).mono ?_
                rintro e w3 ⟨rfl, hb⟩
                clear c_a0 c_b0 c_a3 c_a4 d_b3 d_b4 d_a1 d_a2 d_k0 d_k1
                have b_a : Blk w3 w.heap.size [.int .i64 f, .int .u32 a, .int .u32 b, .int .u32 c, .int .u32 d] := (B_a.out.next (.cells #[.int .u32 c, .int .u32 d] 24)).on hb
                have b_b : Blk w3 (w.heap.size + 1) [.int .i64 g, .int .u32 x, .int .u32 y, .int .u32 z, .int .u32 u] := (B_b.out.next (.cells #[.int .u32 c, .int .u32 d] 24)).on hb
                have b_k : Blk w3 w2.heap.size [.int .u32 c, .int .u32 d] := (Blk.new w2 [.int .u32 c, .int .u32 d] 24).on hb
                have h' := bel_on ((h.out).alloc (h.out).size _) hb
                clear hb h B_a B_b
                have B_a := Lib.hid b_a
                have B_b := Lib.hid b_b
                have B_k := Lib.hid b_k
                have h := Lib.hid h'
                clear h' b_a b_b b_k
                have c_k0 := B_k.out.cell 0 rfl
                have c_k1 := B_k.out.cell 1 rfl
                have c_b1 := B_b.out.cell 1 rfl
                have c_b2 := B_b.out.cell 2 rfl
                go_wp2_with fail
                go_ret
                exact ⟨by rw [HV.out]; rfl, h.out⟩
              · rcases l with _ | _
                · go_enter Try.func15, Try.ntmps15
                  have h := Lib.hid (Below.refl w.heap.size w)
                  go_wp2_with fail
                  refine (R1.out _).mono ?_
                  rintro e w1 ⟨rfl, hb⟩
                  have b_a : Blk w1 w.heap.size [.int .i64 f, .int .u32 a, .int .u32 b, .int .u32 c, .int .u32 d] := ((Blk.new w [.int .i64 f, .int .u32 a, .int .u32 b, .int .u32 c, .int .u32 d] 28).next (.cells #[.int .i64 g, .int .u32 x, .int .u32 y, .int .u32 z, .int .u32 u] 28)).on hb
                  have b_b : Blk w1 (w.heap.size + 1) [.int .i64 g, .int .u32 x, .int .u32 y, .int .u32 z, .int .u32 u] := (Blk.newAt (b := (w.heap.size + 1)) (w := (World.alloc w (.cells #[.int .i64 f, .int .u32 a, .int .u32 b, .int .u32 c, .int .u32 d] 28))) (by simp only [World.size_alloc]) [.int .i64 g, .int .u32 x, .int .u32 y, .int .u32 z, .int .u32 u] 28).on hb
                  have h' := bel_on ((((h.out).alloc (h.out).size _)).alloc (((h.out).alloc (h.out).size _)).size _) hb
                  clear hb h
                  have B_a := Lib.hid b_a
                  have B_b := Lib.hid b_b
                  have h := Lib.hid h'
                  clear h' b_a b_b
                  have c_b0 := B_b.out.cell 0 rfl
                  have c_b1 := B_b.out.cell 1 rfl
                  have c_b2 := B_b.out.cell 2 rfl
                  have c_b3 := B_b.out.cell 3 rfl
                  have c_b4 := B_b.out.cell 4 rfl
                  go_wp2_with fail
                  refine (R2.out _).mono ?_
                  rintro e w2 ⟨rfl, hb⟩
                  clear c_b0 c_b1 c_b2 c_b3 c_b4
                  have b_a : Blk w2 w.heap.size [.int .i64 f, .int .u32 a, .int .u32 b, .int .u32 c, .int .u32 d] := B_a.out.on hb
                  have b_b : Blk w2 (w.heap.size + 1) [.int .i64 g, .int .u32 x, .int .u32 y, .int .u32 z, .int .u32 u] := B_b.out.on hb
                  have h' := bel_on h.out hb
                  clear hb h B_a B_b
                  have B_a := Lib.hid b_a
                  have B_b := Lib.hid b_b
                  have h := Lib.hid h'
                  clear h' b_a b_b
                  have c_a0 := B_a.out.cell 0 rfl
                  have c_b0 := B_b.out.cell 0 rfl
                  have c_a3 := B_a.out.cell 3 rfl
                  have c_a4 := B_a.out.cell 4 rfl
                  have d_b3 := (B_b.out.next (.cells #[.int .u32 c, .int .u32 d] 24)).cell 3 rfl
                  have d_b4 := (B_b.out.next (.cells #[.int .u32 c, .int .u32 d] 24)).cell 4 rfl
                  have d_a1 := (B_a.out.next (.cells #[.int .u32 c, .int .u32 d] 24)).cell 1 rfl
                  have d_a2 := (B_a.out.next (.cells #[.int .u32 c, .int .u32 d] 24)).cell 2 rfl
                  have d_k0 := (Blk.new w2 [.int .u32 c, .int .u32 d] 24).cell 0 rfl
                  have d_k1 := (Blk.new w2 [.int .u32 c, .int .u32 d] 24).cell 1 rfl
                  go_wp2_with fail
                  refine (N.out _).mono ?_
                  rintro e w3 ⟨rfl, hb⟩
                  clear c_a0 c_b0 c_a3 c_a4 d_b3 d_b4 d_a1 d_a2 d_k0 d_k1
                  have b_a : Blk w3 w.heap.size [.int .i64 f, .int .u32 a, .int .u32 b, .int .u32 c, .int .u32 d] := (B_a.out.next (.cells #[.int .u32 c, .int .u32 d] 24)).on hb
                  have b_b : Blk w3 (w.heap.size + 1) [.int .i64 g, .int .u32 x, .int .u32 y, .int .u32 z, .int .u32 u] := (B_b.out.next (.cells #[.int .u32 c, .int .u32 d] 24)).on hb
                  have b_k : Blk w3 w2.heap.size [.int .u32 c, .int .u32 d] := (Blk.new w2 [.int .u32 c, .int .u32 d] 24).on hb
                  have h' := bel_on ((h.out).alloc (h.out).size _) hb
                  clear hb h B_a B_b
                  have B_a := Lib.hid b_a
                  have B_b := Lib.hid b_b
                  have B_k := Lib.hid b_k
                  have h := Lib.hid h'
                  clear h' b_a b_b b_k
                  have c_k0 := B_k.out.cell 0 rfl
                  have c_k1 := B_k.out.cell 1 rfl
                  have c_b1 := B_b.out.cell 1 rfl
                  have c_b2 := B_b.out.cell 2 rfl
                  go_wp2_with fail
                  go_ret
                  exact ⟨by rw [HV.out]; rfl, h.out⟩
                · go_enter Try.func15, Try.ntmps15
                  have h := Lib.hid (Below.refl w.heap.size w)
                  go_wp2_with fail
                  refine (R1.out _).mono ?_
                  rintro e w1 ⟨rfl, hb⟩
                  have b_a : Blk w1 w.heap.size [.int .i64 f, .int .u32 a, .int .u32 b, .int .u32 c, .int .u32 d] := ((Blk.new w [.int .i64 f, .int .u32 a, .int .u32 b, .int .u32 c, .int .u32 d] 28).next (.cells #[.int .i64 g, .int .u32 x, .int .u32 y, .int .u32 z, .int .u32 u] 28)).on hb
                  have b_b : Blk w1 (w.heap.size + 1) [.int .i64 g, .int .u32 x, .int .u32 y, .int .u32 z, .int .u32 u] := (Blk.newAt (b := (w.heap.size + 1)) (w := (World.alloc w (.cells #[.int .i64 f, .int .u32 a, .int .u32 b, .int .u32 c, .int .u32 d] 28))) (by simp only [World.size_alloc]) [.int .i64 g, .int .u32 x, .int .u32 y, .int .u32 z, .int .u32 u] 28).on hb
                  have h' := bel_on ((((h.out).alloc (h.out).size _)).alloc (((h.out).alloc (h.out).size _)).size _) hb
                  clear hb h
                  have B_a := Lib.hid b_a
                  have B_b := Lib.hid b_b
                  have h := Lib.hid h'
                  clear h' b_a b_b
                  have c_b0 := B_b.out.cell 0 rfl
                  have c_b1 := B_b.out.cell 1 rfl
                  have c_b2 := B_b.out.cell 2 rfl
                  have c_b3 := B_b.out.cell 3 rfl
                  have c_b4 := B_b.out.cell 4 rfl
                  go_wp2_with fail
                  refine (R2.out _).mono ?_
                  rintro e w2 ⟨rfl, hb⟩
                  clear c_b0 c_b1 c_b2 c_b3 c_b4
                  have b_a : Blk w2 w.heap.size [.int .i64 f, .int .u32 a, .int .u32 b, .int .u32 c, .int .u32 d] := B_a.out.on hb
                  have b_b : Blk w2 (w.heap.size + 1) [.int .i64 g, .int .u32 x, .int .u32 y, .int .u32 z, .int .u32 u] := B_b.out.on hb
                  have h' := bel_on h.out hb
                  clear hb h B_a B_b
                  have B_a := Lib.hid b_a
                  have B_b := Lib.hid b_b
                  have h := Lib.hid h'
                  clear h' b_a b_b
                  have c_a0 := B_a.out.cell 0 rfl
                  have c_b0 := B_b.out.cell 0 rfl
                  have c_a3 := B_a.out.cell 3 rfl
                  have c_a4 := B_a.out.cell 4 rfl
                  have d_b3 := (B_b.out.next (.cells #[.int .u32 c, .int .u32 d] 24)).cell 3 rfl
                  have d_b4 := (B_b.out.next (.cells #[.int .u32 c, .int .u32 d] 24)).cell 4 rfl
                  have d_a1 := (B_a.out.next (.cells #[.int .u32 c, .int .u32 d] 24)).cell 1 rfl
                  have d_a2 := (B_a.out.next (.cells #[.int .u32 c, .int .u32 d] 24)).cell 2 rfl
                  have d_k0 := (Blk.new w2 [.int .u32 c, .int .u32 d] 24).cell 0 rfl
                  have d_k1 := (Blk.new w2 [.int .u32 c, .int .u32 d] 24).cell 1 rfl
                  go_wp2_with fail
                  refine (N.out _).mono ?_
                  rintro e w3 ⟨rfl, hb⟩
                  clear c_a0 c_b0 c_a3 c_a4 d_b3 d_b4 d_a1 d_a2 d_k0 d_k1
                  have b_a : Blk w3 w.heap.size [.int .i64 f, .int .u32 a, .int .u32 b, .int .u32 c, .int .u32 d] := (B_a.out.next (.cells #[.int .u32 c, .int .u32 d] 24)).on hb
                  have b_b : Blk w3 (w.heap.size + 1) [.int .i64 g, .int .u32 x, .int .u32 y, .int .u32 z, .int .u32 u] := (B_b.out.next (.cells #[.int .u32 c, .int .u32 d] 24)).on hb
                  have b_k : Blk w3 w2.heap.size [.int .u32 c, .int .u32 d] := (Blk.new w2 [.int .u32 c, .int .u32 d] 24).on hb
                  have h' := bel_on ((h.out).alloc (h.out).size _) hb
                  clear hb h B_a B_b
                  have B_a := Lib.hid b_a
                  have B_b := Lib.hid b_b
                  have B_k := Lib.hid b_k
                  have h := Lib.hid h'
                  clear h' b_a b_b b_k
                  have c_k0 := B_k.out.cell 0 rfl
                  have c_k1 := B_k.out.cell 1 rfl
                  have c_b1 := B_b.out.cell 1 rfl
                  have c_b2 := B_b.out.cell 2 rfl
                  go_wp2_with fail
                  go_ret
                  exact ⟨by rw [HV.out]; rfl, h.out⟩
            · go_enter Try.func15, Try.ntmps15
              have h := Lib.hid (Below.refl w.heap.size w)
              go_wp2_with fail
              refine (R1.out _).mono ?_
              rintro e w1 ⟨rfl, hb⟩
              have b_a : Blk w1 w.heap.size [.int .i64 f, .int .u32 a, .int .u32 b, .int .u32 c, .int .u32 d] := ((Blk.new w [.int .i64 f, .int .u32 a, .int .u32 b, .int .u32 c, .int .u32 d] 28).next (.cells #[.int .i64 g, .int .u32 x, .int .u32 y, .int .u32 z, .int .u32 u] 28)).on hb
              have b_b : Blk w1 (w.heap.size + 1) [.int .i64 g, .int .u32 x, .int .u32 y, .int .u32 z, .int .u32 u] := (Blk.newAt (b := (w.heap.size + 1)) (w := (World.alloc w (.cells #[.int .i64 f, .int .u32 a, .int .u32 b, .int .u32 c, .int .u32 d] 28))) (by simp only [World.size_alloc]) [.int .i64 g, .int .u32 x, .int .u32 y, .int .u32 z, .int .u32 u] 28).on hb
              have h' := bel_on ((((h.out).alloc (h.out).size _)).alloc (((h.out).alloc (h.out).size _)).size _) hb
              clear hb h
              have B_a := Lib.hid b_a
              have B_b := Lib.hid b_b
              have h := Lib.hid h'
              clear h' b_a b_b
              have c_b0 := B_b.out.cell 0 rfl
              have c_b1 := B_b.out.cell 1 rfl
              have c_b2 := B_b.out.cell 2 rfl
              have c_b3 := B_b.out.cell 3 rfl
              have c_b4 := B_b.out.cell 4 rfl
              go_wp2_with fail
              refine (R2.out _).mono ?_
              rintro e w2 ⟨rfl, hb⟩
              clear c_b0 c_b1 c_b2 c_b3 c_b4
              have b_a : Blk w2 w.heap.size [.int .i64 f, .int .u32 a, .int .u32 b, .int .u32 c, .int .u32 d] := B_a.out.on hb
              have b_b : Blk w2 (w.heap.size + 1) [.int .i64 g, .int .u32 x, .int .u32 y, .int .u32 z, .int .u32 u] := B_b.out.on hb
              have h' := bel_on h.out hb
              clear hb h B_a B_b
              have B_a := Lib.hid b_a
              have B_b := Lib.hid b_b
              have h := Lib.hid h'
              clear h' b_a b_b
              have c_a0 := B_a.out.cell 0 rfl
              have c_b0 := B_b.out.cell 0 rfl
              have c_a3 := B_a.out.cell 3 rfl
              have c_a4 := B_a.out.cell 4 rfl
              have d_b3 := (B_b.out.next (.cells #[.int .u32 c, .int .u32 d] 24)).cell 3 rfl
              have d_b4 := (B_b.out.next (.cells #[.int .u32 c, .int .u32 d] 24)).cell 4 rfl
              have d_a1 := (B_a.out.next (.cells #[.int .u32 c, .int .u32 d] 24)).cell 1 rfl
              have d_a2 := (B_a.out.next (.cells #[.int .u32 c, .int .u32 d] 24)).cell 2 rfl
              have d_k0 := (Blk.new w2 [.int .u32 c, .int .u32 d] 24).cell 0 rfl
              have d_k1 := (Blk.new w2 [.int .u32 c, .int .u32 d] 24).cell 1 rfl
              go_wp2_with fail
              refine (N.out _).mono ?_
              rintro e w3 ⟨rfl, hb⟩
              clear c_a0 c_b0 c_a3 c_a4 d_b3 d_b4 d_a1 d_a2 d_k0 d_k1
              have b_a : Blk w3 w.heap.size [.int .i64 f, .int .u32 a, .int .u32 b, .int .u32 c, .int .u32 d] := (B_a.out.next (.cells #[.int .u32 c, .int .u32 d] 24)).on hb
              have b_b : Blk w3 (w.heap.size + 1) [.int .i64 g, .int .u32 x, .int .u32 y, .int .u32 z, .int .u32 u] := (B_b.out.next (.cells #[.int .u32 c, .int .u32 d] 24)).on hb
              have b_k : Blk w3 w2.heap.size [.int .u32 c, .int .u32 d] := (Blk.new w2 [.int .u32 c, .int .u32 d] 24).on hb
              have h' := bel_on ((h.out).alloc (h.out).size _) hb
              clear hb h B_a B_b
              have B_a := Lib.hid b_a
              have B_b := Lib.hid b_b
              have B_k := Lib.hid b_k
              have h := Lib.hid h'
              clear h' b_a b_b b_k
              go_wp2_with fail
              go_ret
              exact ⟨by rw [HV.out]; rfl, h.out⟩
      · go_enter Try.func15, Try.ntmps15
        have h := Lib.hid (Below.refl w.heap.size w)
        go_wp2_with fail
        refine (R1.out _).mono ?_
        rintro e w1 ⟨rfl, hb⟩
        have b_a : Blk w1 w.heap.size [.int .i64 f, .int .u32 a, .int .u32 b, .int .u32 c, .int .u32 d] := ((Blk.new w [.int .i64 f, .int .u32 a, .int .u32 b, .int .u32 c, .int .u32 d] 28).next (.cells #[.int .i64 g, .int .u32 x, .int .u32 y, .int .u32 z, .int .u32 u] 28)).on hb
        have b_b : Blk w1 (w.heap.size + 1) [.int .i64 g, .int .u32 x, .int .u32 y, .int .u32 z, .int .u32 u] := (Blk.newAt (b := (w.heap.size + 1)) (w := (World.alloc w (.cells #[.int .i64 f, .int .u32 a, .int .u32 b, .int .u32 c, .int .u32 d] 28))) (by simp only [World.size_alloc]) [.int .i64 g, .int .u32 x, .int .u32 y, .int .u32 z, .int .u32 u] 28).on hb
        have h' := bel_on ((((h.out).alloc (h.out).size _)).alloc (((h.out).alloc (h.out).size _)).size _) hb
        clear hb h
        have B_a := Lib.hid b_a
        have B_b := Lib.hid b_b
        have h := Lib.hid h'
        clear h' b_a b_b
        have c_b0 := B_b.out.cell 0 rfl
        have c_b1 := B_b.out.cell 1 rfl
        have c_b2 := B_b.out.cell 2 rfl
        have c_b3 := B_b.out.cell 3 rfl
        have c_b4 := B_b.out.cell 4 rfl
        go_wp2_with fail
        refine (R2.out _).mono ?_
        rintro e w2 ⟨rfl, hb⟩
        clear c_b0 c_b1 c_b2 c_b3 c_b4
        have b_a : Blk w2 w.heap.size [.int .i64 f, .int .u32 a, .int .u32 b, .int .u32 c, .int .u32 d] := B_a.out.on hb
        have b_b : Blk w2 (w.heap.size + 1) [.int .i64 g, .int .u32 x, .int .u32 y, .int .u32 z, .int .u32 u] := B_b.out.on hb
        have h' := bel_on h.out hb
        clear hb h B_a B_b
        have B_a := Lib.hid b_a
        have B_b := Lib.hid b_b
        have h := Lib.hid h'
        clear h' b_a b_b
        have c_a0 := B_a.out.cell 0 rfl
        have c_b0 := B_b.out.cell 0 rfl
        go_wp2_with fail
        go_ret
        exact ⟨by rw [HV.out]; rfl, h.out⟩

set_option maxHeartbeats 1000000 in
theorem ranswers_any (f a b c d g x y z u : Int) (w : World) : Calls Try.prog 16 #[(.agg #[.int .i64 f, .int .u32 a, .int .u32 b, .int .u32 c, .int .u32 d] : Value), (.agg #[.int .i64 g, .int .u32 x, .int .u32 y, .int .u32 z, .int .u32 u] : Value)] w fun e w' => e = .returned (.bool (answersF f a b c d g x y z u)) ∧ Below w.heap.size w w' := by
  obtain ⟨r1, h1⟩ : ∃ t, rightF f a b = t := ⟨_, rfl⟩
  obtain ⟨r2, h2⟩ : ∃ t, rightF g x y = t := ⟨_, rfl⟩
  obtain ⟨s, hs⟩ : ∃ t, (f == g) = t := ⟨_, rfl⟩
  obtain ⟨p, hp⟩ : ∃ t, (z == a) = t := ⟨_, rfl⟩
  obtain ⟨q, hq⟩ : ∃ t, (u == b) = t := ⟨_, rfl⟩
  obtain ⟨o, ho⟩ : ∃ t, (c == 0 && d == 0) = t := ⟨_, rfl⟩
  obtain ⟨k, hk⟩ : ∃ t, (c == x) = t := ⟨_, rfl⟩
  obtain ⟨l, hl⟩ : ∃ t, (d == y) = t := ⟨_, rfl⟩
  have HV := Lib.hid (answers_of h1 h2 hs hp hq ho hk hl)
  have R1 := Lib.hid (rhright_any f a b c d)
  have R2 := Lib.hid (rhright_any g x y z u)
  have N := Lib.hid (rnone_any c d)
  rw [h1] at R1
  rw [h2] at R2
  rw [ho] at N
  clear h1 h2 ho
  rcases r1 with _ | _
  · go_enter Try.func16, Try.ntmps16
    have h := Lib.hid (Below.refl w.heap.size w)
    go_wp2_with fail
    refine (R1.out _).mono ?_
    rintro e w1 ⟨rfl, hb⟩
    have b_a : Blk w1 w.heap.size [.int .i64 f, .int .u32 a, .int .u32 b, .int .u32 c, .int .u32 d] := ((Blk.new w [.int .i64 f, .int .u32 a, .int .u32 b, .int .u32 c, .int .u32 d] 28).next (.cells #[.int .i64 g, .int .u32 x, .int .u32 y, .int .u32 z, .int .u32 u] 28)).on hb
    have b_b : Blk w1 (w.heap.size + 1) [.int .i64 g, .int .u32 x, .int .u32 y, .int .u32 z, .int .u32 u] := (Blk.newAt (b := (w.heap.size + 1)) (w := (World.alloc w (.cells #[.int .i64 f, .int .u32 a, .int .u32 b, .int .u32 c, .int .u32 d] 28))) (by simp only [World.size_alloc]) [.int .i64 g, .int .u32 x, .int .u32 y, .int .u32 z, .int .u32 u] 28).on hb
    have h' := bel_on ((((h.out).alloc (h.out).size _)).alloc (((h.out).alloc (h.out).size _)).size _) hb
    clear hb h
    have B_a := Lib.hid b_a
    have B_b := Lib.hid b_b
    have h := Lib.hid h'
    clear h' b_a b_b
    go_wp2_with fail
    go_ret
    exact ⟨by rw [HV.out]; rfl, h.out⟩
  · rcases r2 with _ | _
    · go_enter Try.func16, Try.ntmps16
      have h := Lib.hid (Below.refl w.heap.size w)
      go_wp2_with fail
      refine (R1.out _).mono ?_
      rintro e w1 ⟨rfl, hb⟩
      have b_a : Blk w1 w.heap.size [.int .i64 f, .int .u32 a, .int .u32 b, .int .u32 c, .int .u32 d] := ((Blk.new w [.int .i64 f, .int .u32 a, .int .u32 b, .int .u32 c, .int .u32 d] 28).next (.cells #[.int .i64 g, .int .u32 x, .int .u32 y, .int .u32 z, .int .u32 u] 28)).on hb
      have b_b : Blk w1 (w.heap.size + 1) [.int .i64 g, .int .u32 x, .int .u32 y, .int .u32 z, .int .u32 u] := (Blk.newAt (b := (w.heap.size + 1)) (w := (World.alloc w (.cells #[.int .i64 f, .int .u32 a, .int .u32 b, .int .u32 c, .int .u32 d] 28))) (by simp only [World.size_alloc]) [.int .i64 g, .int .u32 x, .int .u32 y, .int .u32 z, .int .u32 u] 28).on hb
      have h' := bel_on ((((h.out).alloc (h.out).size _)).alloc (((h.out).alloc (h.out).size _)).size _) hb
      clear hb h
      have B_a := Lib.hid b_a
      have B_b := Lib.hid b_b
      have h := Lib.hid h'
      clear h' b_a b_b
      have c_b0 := B_b.out.cell 0 rfl
      have c_b1 := B_b.out.cell 1 rfl
      have c_b2 := B_b.out.cell 2 rfl
      have c_b3 := B_b.out.cell 3 rfl
      have c_b4 := B_b.out.cell 4 rfl
      go_wp2_with fail
      refine (R2.out _).mono ?_
      rintro e w2 ⟨rfl, hb⟩
      clear c_b0 c_b1 c_b2 c_b3 c_b4
      have b_a : Blk w2 w.heap.size [.int .i64 f, .int .u32 a, .int .u32 b, .int .u32 c, .int .u32 d] := B_a.out.on hb
      have b_b : Blk w2 (w.heap.size + 1) [.int .i64 g, .int .u32 x, .int .u32 y, .int .u32 z, .int .u32 u] := B_b.out.on hb
      have h' := bel_on h.out hb
      clear hb h B_a B_b
      have B_a := Lib.hid b_a
      have B_b := Lib.hid b_b
      have h := Lib.hid h'
      clear h' b_a b_b
      go_wp2_with fail
      go_ret
      exact ⟨by rw [HV.out]; rfl, h.out⟩
    · rcases s with _ | _
      · rcases p with _ | _
        · have hn : (f != g) = true := by unfold bne; rw [hs]; rfl
          go_enter Try.func16, Try.ntmps16
          have h := Lib.hid (Below.refl w.heap.size w)
          go_wp2_with fail
          refine (R1.out _).mono ?_
          rintro e w1 ⟨rfl, hb⟩
          have b_a : Blk w1 w.heap.size [.int .i64 f, .int .u32 a, .int .u32 b, .int .u32 c, .int .u32 d] := ((Blk.new w [.int .i64 f, .int .u32 a, .int .u32 b, .int .u32 c, .int .u32 d] 28).next (.cells #[.int .i64 g, .int .u32 x, .int .u32 y, .int .u32 z, .int .u32 u] 28)).on hb
          have b_b : Blk w1 (w.heap.size + 1) [.int .i64 g, .int .u32 x, .int .u32 y, .int .u32 z, .int .u32 u] := (Blk.newAt (b := (w.heap.size + 1)) (w := (World.alloc w (.cells #[.int .i64 f, .int .u32 a, .int .u32 b, .int .u32 c, .int .u32 d] 28))) (by simp only [World.size_alloc]) [.int .i64 g, .int .u32 x, .int .u32 y, .int .u32 z, .int .u32 u] 28).on hb
          have h' := bel_on ((((h.out).alloc (h.out).size _)).alloc (((h.out).alloc (h.out).size _)).size _) hb
          clear hb h
          have B_a := Lib.hid b_a
          have B_b := Lib.hid b_b
          have h := Lib.hid h'
          clear h' b_a b_b
          have c_b0 := B_b.out.cell 0 rfl
          have c_b1 := B_b.out.cell 1 rfl
          have c_b2 := B_b.out.cell 2 rfl
          have c_b3 := B_b.out.cell 3 rfl
          have c_b4 := B_b.out.cell 4 rfl
          go_wp2_with fail
          refine (R2.out _).mono ?_
          rintro e w2 ⟨rfl, hb⟩
          clear c_b0 c_b1 c_b2 c_b3 c_b4
          have b_a : Blk w2 w.heap.size [.int .i64 f, .int .u32 a, .int .u32 b, .int .u32 c, .int .u32 d] := B_a.out.on hb
          have b_b : Blk w2 (w.heap.size + 1) [.int .i64 g, .int .u32 x, .int .u32 y, .int .u32 z, .int .u32 u] := B_b.out.on hb
          have h' := bel_on h.out hb
          clear hb h B_a B_b
          have B_a := Lib.hid b_a
          have B_b := Lib.hid b_b
          have h := Lib.hid h'
          clear h' b_a b_b
          have c_a0 := B_a.out.cell 0 rfl
          have c_b0 := B_b.out.cell 0 rfl
          have c_a3 := B_a.out.cell 3 rfl
          have c_a4 := B_a.out.cell 4 rfl
          have c_b3 := B_b.out.cell 3 rfl
          have c_b4 := B_b.out.cell 4 rfl
          have c_a1 := B_a.out.cell 1 rfl
          have c_a2 := B_a.out.cell 2 rfl
          go_wp2_with fail
          go_ret
          exact ⟨by rw [HV.out]; rfl, h.out⟩
        · rcases q with _ | _
          · have hn : (f != g) = true := by unfold bne; rw [hs]; rfl
            go_enter Try.func16, Try.ntmps16
            have h := Lib.hid (Below.refl w.heap.size w)
            go_wp2_with fail
            refine (R1.out _).mono ?_
            rintro e w1 ⟨rfl, hb⟩
            have b_a : Blk w1 w.heap.size [.int .i64 f, .int .u32 a, .int .u32 b, .int .u32 c, .int .u32 d] := ((Blk.new w [.int .i64 f, .int .u32 a, .int .u32 b, .int .u32 c, .int .u32 d] 28).next (.cells #[.int .i64 g, .int .u32 x, .int .u32 y, .int .u32 z, .int .u32 u] 28)).on hb
            have b_b : Blk w1 (w.heap.size + 1) [.int .i64 g, .int .u32 x, .int .u32 y, .int .u32 z, .int .u32 u] := (Blk.newAt (b := (w.heap.size + 1)) (w := (World.alloc w (.cells #[.int .i64 f, .int .u32 a, .int .u32 b, .int .u32 c, .int .u32 d] 28))) (by simp only [World.size_alloc]) [.int .i64 g, .int .u32 x, .int .u32 y, .int .u32 z, .int .u32 u] 28).on hb
            have h' := bel_on ((((h.out).alloc (h.out).size _)).alloc (((h.out).alloc (h.out).size _)).size _) hb
            clear hb h
            have B_a := Lib.hid b_a
            have B_b := Lib.hid b_b
            have h := Lib.hid h'
            clear h' b_a b_b
            have c_b0 := B_b.out.cell 0 rfl
            have c_b1 := B_b.out.cell 1 rfl
            have c_b2 := B_b.out.cell 2 rfl
            have c_b3 := B_b.out.cell 3 rfl
            have c_b4 := B_b.out.cell 4 rfl
            go_wp2_with fail
            refine (R2.out _).mono ?_
            rintro e w2 ⟨rfl, hb⟩
            clear c_b0 c_b1 c_b2 c_b3 c_b4
            have b_a : Blk w2 w.heap.size [.int .i64 f, .int .u32 a, .int .u32 b, .int .u32 c, .int .u32 d] := B_a.out.on hb
            have b_b : Blk w2 (w.heap.size + 1) [.int .i64 g, .int .u32 x, .int .u32 y, .int .u32 z, .int .u32 u] := B_b.out.on hb
            have h' := bel_on h.out hb
            clear hb h B_a B_b
            have B_a := Lib.hid b_a
            have B_b := Lib.hid b_b
            have h := Lib.hid h'
            clear h' b_a b_b
            have c_a0 := B_a.out.cell 0 rfl
            have c_b0 := B_b.out.cell 0 rfl
            have c_a3 := B_a.out.cell 3 rfl
            have c_a4 := B_a.out.cell 4 rfl
            have c_b3 := B_b.out.cell 3 rfl
            have c_b4 := B_b.out.cell 4 rfl
            have c_a1 := B_a.out.cell 1 rfl
            have c_a2 := B_a.out.cell 2 rfl
            go_wp2_with fail
            go_ret
            exact ⟨by rw [HV.out]; rfl, h.out⟩
          · rcases o with _ | _
            · rcases k with _ | _
              · have hn : (f != g) = true := by unfold bne; rw [hs]; rfl
                go_enter Try.func16, Try.ntmps16
                have h := Lib.hid (Below.refl w.heap.size w)
                go_wp2_with fail
                refine (R1.out _).mono ?_
                rintro e w1 ⟨rfl, hb⟩
                have b_a : Blk w1 w.heap.size [.int .i64 f, .int .u32 a, .int .u32 b, .int .u32 c, .int .u32 d] := ((Blk.new w [.int .i64 f, .int .u32 a, .int .u32 b, .int .u32 c, .int .u32 d] 28).next (.cells #[.int .i64 g, .int .u32 x, .int .u32 y, .int .u32 z, .int .u32 u] 28)).on hb
                have b_b : Blk w1 (w.heap.size + 1) [.int .i64 g, .int .u32 x, .int .u32 y, .int .u32 z, .int .u32 u] := (Blk.newAt (b := (w.heap.size + 1)) (w := (World.alloc w (.cells #[.int .i64 f, .int .u32 a, .int .u32 b, .int .u32 c, .int .u32 d] 28))) (by simp only [World.size_alloc]) [.int .i64 g, .int .u32 x, .int .u32 y, .int .u32 z, .int .u32 u] 28).on hb
                have h' := bel_on ((((h.out).alloc (h.out).size _)).alloc (((h.out).alloc (h.out).size _)).size _) hb
                clear hb h
                have B_a := Lib.hid b_a
                have B_b := Lib.hid b_b
                have h := Lib.hid h'
                clear h' b_a b_b
                have c_b0 := B_b.out.cell 0 rfl
                have c_b1 := B_b.out.cell 1 rfl
                have c_b2 := B_b.out.cell 2 rfl
                have c_b3 := B_b.out.cell 3 rfl
                have c_b4 := B_b.out.cell 4 rfl
                go_wp2_with fail
                refine (R2.out _).mono ?_
                rintro e w2 ⟨rfl, hb⟩
                clear c_b0 c_b1 c_b2 c_b3 c_b4
                have b_a : Blk w2 w.heap.size [.int .i64 f, .int .u32 a, .int .u32 b, .int .u32 c, .int .u32 d] := B_a.out.on hb
                have b_b : Blk w2 (w.heap.size + 1) [.int .i64 g, .int .u32 x, .int .u32 y, .int .u32 z, .int .u32 u] := B_b.out.on hb
                have h' := bel_on h.out hb
                clear hb h B_a B_b
                have B_a := Lib.hid b_a
                have B_b := Lib.hid b_b
                have h := Lib.hid h'
                clear h' b_a b_b
                have c_a0 := B_a.out.cell 0 rfl
                have c_b0 := B_b.out.cell 0 rfl
                have c_a3 := B_a.out.cell 3 rfl
                have c_a4 := B_a.out.cell 4 rfl
                have c_b3 := B_b.out.cell 3 rfl
                have c_b4 := B_b.out.cell 4 rfl
                have c_a1 := B_a.out.cell 1 rfl
                have c_a2 := B_a.out.cell 2 rfl
                go_wp2_with fail
                refine (N.out _).mono ?_
                rintro e w3 ⟨rfl, hb⟩
                clear c_a0 c_b0 c_a3 c_a4 c_b3 c_b4 c_a1 c_a2
                have b_a : Blk w3 w.heap.size [.int .i64 f, .int .u32 a, .int .u32 b, .int .u32 c, .int .u32 d] := B_a.out.on hb
                have b_b : Blk w3 (w.heap.size + 1) [.int .i64 g, .int .u32 x, .int .u32 y, .int .u32 z, .int .u32 u] := B_b.out.on hb
                have h' := bel_on h.out hb
                clear hb h B_a B_b
                have B_a := Lib.hid b_a
                have B_b := Lib.hid b_b
                have h := Lib.hid h'
                clear h' b_a b_b
                have c_a3 := B_a.out.cell 3 rfl
                have c_a4 := B_a.out.cell 4 rfl
                have c_b1 := B_b.out.cell 1 rfl
                have c_b2 := B_b.out.cell 2 rfl
                go_wp2_with fail
                go_ret
                exact ⟨by rw [HV.out]; rfl, h.out⟩
              · rcases l with _ | _
                · have hn : (f != g) = true := by unfold bne; rw [hs]; rfl
                  go_enter Try.func16, Try.ntmps16
                  have h := Lib.hid (Below.refl w.heap.size w)
                  go_wp2_with fail
                  refine (R1.out _).mono ?_
                  rintro e w1 ⟨rfl, hb⟩
                  have b_a : Blk w1 w.heap.size [.int .i64 f, .int .u32 a, .int .u32 b, .int .u32 c, .int .u32 d] := ((Blk.new w [.int .i64 f, .int .u32 a, .int .u32 b, .int .u32 c, .int .u32 d] 28).next (.cells #[.int .i64 g, .int .u32 x, .int .u32 y, .int .u32 z, .int .u32 u] 28)).on hb
                  have b_b : Blk w1 (w.heap.size + 1) [.int .i64 g, .int .u32 x, .int .u32 y, .int .u32 z, .int .u32 u] := (Blk.newAt (b := (w.heap.size + 1)) (w := (World.alloc w (.cells #[.int .i64 f, .int .u32 a, .int .u32 b, .int .u32 c, .int .u32 d] 28))) (by simp only [World.size_alloc]) [.int .i64 g, .int .u32 x, .int .u32 y, .int .u32 z, .int .u32 u] 28).on hb
                  have h' := bel_on ((((h.out).alloc (h.out).size _)).alloc (((h.out).alloc (h.out).size _)).size _) hb
                  clear hb h
                  have B_a := Lib.hid b_a
                  have B_b := Lib.hid b_b
                  have h := Lib.hid h'
                  clear h' b_a b_b
                  have c_b0 := B_b.out.cell 0 rfl
                  have c_b1 := B_b.out.cell 1 rfl
                  have c_b2 := B_b.out.cell 2 rfl
                  have c_b3 := B_b.out.cell 3 rfl
                  have c_b4 := B_b.out.cell 4 rfl
                  go_wp2_with fail
                  refine (R2.out _).mono ?_
                  rintro e w2 ⟨rfl, hb⟩
                  clear c_b0 c_b1 c_b2 c_b3 c_b4
                  have b_a : Blk w2 w.heap.size [.int .i64 f, .int .u32 a, .int .u32 b, .int .u32 c, .int .u32 d] := B_a.out.on hb
                  have b_b : Blk w2 (w.heap.size + 1) [.int .i64 g, .int .u32 x, .int .u32 y, .int .u32 z, .int .u32 u] := B_b.out.on hb
                  have h' := bel_on h.out hb
                  clear hb h B_a B_b
                  have B_a := Lib.hid b_a
                  have B_b := Lib.hid b_b
                  have h := Lib.hid h'
                  clear h' b_a b_b
                  have c_a0 := B_a.out.cell 0 rfl
                  have c_b0 := B_b.out.cell 0 rfl
                  have c_a3 := B_a.out.cell 3 rfl
                  have c_a4 := B_a.out.cell 4 rfl
                  have c_b3 := B_b.out.cell 3 rfl
                  have c_b4 := B_b.out.cell 4 rfl
                  have c_a1 := B_a.out.cell 1 rfl
                  have c_a2 := B_a.out.cell 2 rfl
                  go_wp2_with fail
                  refine (N.out _).mono ?_
                  rintro e w3 ⟨rfl, hb⟩
                  clear c_a0 c_b0 c_a3 c_a4 c_b3 c_b4 c_a1 c_a2
                  have b_a : Blk w3 w.heap.size [.int .i64 f, .int .u32 a, .int .u32 b, .int .u32 c, .int .u32 d] := B_a.out.on hb
                  have b_b : Blk w3 (w.heap.size + 1) [.int .i64 g, .int .u32 x, .int .u32 y, .int .u32 z, .int .u32 u] := B_b.out.on hb
                  have h' := bel_on h.out hb
                  clear hb h B_a B_b
                  have B_a := Lib.hid b_a
                  have B_b := Lib.hid b_b
                  have h := Lib.hid h'
                  clear h' b_a b_b
                  have c_a3 := B_a.out.cell 3 rfl
                  have c_a4 := B_a.out.cell 4 rfl
                  have c_b1 := B_b.out.cell 1 rfl
                  have c_b2 := B_b.out.cell 2 rfl
                  go_wp2_with fail
                  go_ret
                  exact ⟨by rw [HV.out]; rfl, h.out⟩
                · have hn : (f != g) = true := by unfold bne; rw [hs]; rfl
                  go_enter Try.func16, Try.ntmps16
                  have h := Lib.hid (Below.refl w.heap.size w)
                  go_wp2_with fail
                  refine (R1.out _).mono ?_
                  rintro e w1 ⟨rfl, hb⟩
                  have b_a : Blk w1 w.heap.size [.int .i64 f, .int .u32 a, .int .u32 b, .int .u32 c, .int .u32 d] := ((Blk.new w [.int .i64 f, .int .u32 a, .int .u32 b, .int .u32 c, .int .u32 d] 28).next (.cells #[.int .i64 g, .int .u32 x, .int .u32 y, .int .u32 z, .int .u32 u] 28)).on hb
                  have b_b : Blk w1 (w.heap.size + 1) [.int .i64 g, .int .u32 x, .int .u32 y, .int .u32 z, .int .u32 u] := (Blk.newAt (b := (w.heap.size + 1)) (w := (World.alloc w (.cells #[.int .i64 f, .int .u32 a, .int .u32 b, .int .u32 c, .int .u32 d] 28))) (by simp only [World.size_alloc]) [.int .i64 g, .int .u32 x, .int .u32 y, .int .u32 z, .int .u32 u] 28).on hb
                  have h' := bel_on ((((h.out).alloc (h.out).size _)).alloc (((h.out).alloc (h.out).size _)).size _) hb
                  clear hb h
                  have B_a := Lib.hid b_a
                  have B_b := Lib.hid b_b
                  have h := Lib.hid h'
                  clear h' b_a b_b
                  have c_b0 := B_b.out.cell 0 rfl
                  have c_b1 := B_b.out.cell 1 rfl
                  have c_b2 := B_b.out.cell 2 rfl
                  have c_b3 := B_b.out.cell 3 rfl
                  have c_b4 := B_b.out.cell 4 rfl
                  go_wp2_with fail
                  refine (R2.out _).mono ?_
                  rintro e w2 ⟨rfl, hb⟩
                  clear c_b0 c_b1 c_b2 c_b3 c_b4
                  have b_a : Blk w2 w.heap.size [.int .i64 f, .int .u32 a, .int .u32 b, .int .u32 c, .int .u32 d] := B_a.out.on hb
                  have b_b : Blk w2 (w.heap.size + 1) [.int .i64 g, .int .u32 x, .int .u32 y, .int .u32 z, .int .u32 u] := B_b.out.on hb
                  have h' := bel_on h.out hb
                  clear hb h B_a B_b
                  have B_a := Lib.hid b_a
                  have B_b := Lib.hid b_b
                  have h := Lib.hid h'
                  clear h' b_a b_b
                  have c_a0 := B_a.out.cell 0 rfl
                  have c_b0 := B_b.out.cell 0 rfl
                  have c_a3 := B_a.out.cell 3 rfl
                  have c_a4 := B_a.out.cell 4 rfl
                  have c_b3 := B_b.out.cell 3 rfl
                  have c_b4 := B_b.out.cell 4 rfl
                  have c_a1 := B_a.out.cell 1 rfl
                  have c_a2 := B_a.out.cell 2 rfl
                  go_wp2_with fail
                  refine (N.out _).mono ?_
                  rintro e w3 ⟨rfl, hb⟩
                  clear c_a0 c_b0 c_a3 c_a4 c_b3 c_b4 c_a1 c_a2
                  have b_a : Blk w3 w.heap.size [.int .i64 f, .int .u32 a, .int .u32 b, .int .u32 c, .int .u32 d] := B_a.out.on hb
                  have b_b : Blk w3 (w.heap.size + 1) [.int .i64 g, .int .u32 x, .int .u32 y, .int .u32 z, .int .u32 u] := B_b.out.on hb
                  have h' := bel_on h.out hb
                  clear hb h B_a B_b
                  have B_a := Lib.hid b_a
                  have B_b := Lib.hid b_b
                  have h := Lib.hid h'
                  clear h' b_a b_b
                  have c_a3 := B_a.out.cell 3 rfl
                  have c_a4 := B_a.out.cell 4 rfl
                  have c_b1 := B_b.out.cell 1 rfl
                  have c_b2 := B_b.out.cell 2 rfl
                  go_wp2_with fail
                  go_ret
                  exact ⟨by rw [HV.out]; rfl, h.out⟩
            · have hn : (f != g) = true := by unfold bne; rw [hs]; rfl
              go_enter Try.func16, Try.ntmps16
              have h := Lib.hid (Below.refl w.heap.size w)
              go_wp2_with fail
              refine (R1.out _).mono ?_
              rintro e w1 ⟨rfl, hb⟩
              have b_a : Blk w1 w.heap.size [.int .i64 f, .int .u32 a, .int .u32 b, .int .u32 c, .int .u32 d] := ((Blk.new w [.int .i64 f, .int .u32 a, .int .u32 b, .int .u32 c, .int .u32 d] 28).next (.cells #[.int .i64 g, .int .u32 x, .int .u32 y, .int .u32 z, .int .u32 u] 28)).on hb
              have b_b : Blk w1 (w.heap.size + 1) [.int .i64 g, .int .u32 x, .int .u32 y, .int .u32 z, .int .u32 u] := (Blk.newAt (b := (w.heap.size + 1)) (w := (World.alloc w (.cells #[.int .i64 f, .int .u32 a, .int .u32 b, .int .u32 c, .int .u32 d] 28))) (by simp only [World.size_alloc]) [.int .i64 g, .int .u32 x, .int .u32 y, .int .u32 z, .int .u32 u] 28).on hb
              have h' := bel_on ((((h.out).alloc (h.out).size _)).alloc (((h.out).alloc (h.out).size _)).size _) hb
              clear hb h
              have B_a := Lib.hid b_a
              have B_b := Lib.hid b_b
              have h := Lib.hid h'
              clear h' b_a b_b
              have c_b0 := B_b.out.cell 0 rfl
              have c_b1 := B_b.out.cell 1 rfl
              have c_b2 := B_b.out.cell 2 rfl
              have c_b3 := B_b.out.cell 3 rfl
              have c_b4 := B_b.out.cell 4 rfl
              go_wp2_with fail
              refine (R2.out _).mono ?_
              rintro e w2 ⟨rfl, hb⟩
              clear c_b0 c_b1 c_b2 c_b3 c_b4
              have b_a : Blk w2 w.heap.size [.int .i64 f, .int .u32 a, .int .u32 b, .int .u32 c, .int .u32 d] := B_a.out.on hb
              have b_b : Blk w2 (w.heap.size + 1) [.int .i64 g, .int .u32 x, .int .u32 y, .int .u32 z, .int .u32 u] := B_b.out.on hb
              have h' := bel_on h.out hb
              clear hb h B_a B_b
              have B_a := Lib.hid b_a
              have B_b := Lib.hid b_b
              have h := Lib.hid h'
              clear h' b_a b_b
              have c_a0 := B_a.out.cell 0 rfl
              have c_b0 := B_b.out.cell 0 rfl
              have c_a3 := B_a.out.cell 3 rfl
              have c_a4 := B_a.out.cell 4 rfl
              have c_b3 := B_b.out.cell 3 rfl
              have c_b4 := B_b.out.cell 4 rfl
              have c_a1 := B_a.out.cell 1 rfl
              have c_a2 := B_a.out.cell 2 rfl
              go_wp2_with fail
              refine (N.out _).mono ?_
              rintro e w3 ⟨rfl, hb⟩
              clear c_a0 c_b0 c_a3 c_a4 c_b3 c_b4 c_a1 c_a2
              have b_a : Blk w3 w.heap.size [.int .i64 f, .int .u32 a, .int .u32 b, .int .u32 c, .int .u32 d] := B_a.out.on hb
              have b_b : Blk w3 (w.heap.size + 1) [.int .i64 g, .int .u32 x, .int .u32 y, .int .u32 z, .int .u32 u] := B_b.out.on hb
              have h' := bel_on h.out hb
              clear hb h B_a B_b
              have B_a := Lib.hid b_a
              have B_b := Lib.hid b_b
              have h := Lib.hid h'
              clear h' b_a b_b
              go_wp2_with fail
              go_ret
              exact ⟨by rw [HV.out]; rfl, h.out⟩
      · have hn : (f != g) = false := by unfold bne; rw [hs]; rfl
        go_enter Try.func16, Try.ntmps16
        have h := Lib.hid (Below.refl w.heap.size w)
        go_wp2_with fail
        refine (R1.out _).mono ?_
        rintro e w1 ⟨rfl, hb⟩
        have b_a : Blk w1 w.heap.size [.int .i64 f, .int .u32 a, .int .u32 b, .int .u32 c, .int .u32 d] := ((Blk.new w [.int .i64 f, .int .u32 a, .int .u32 b, .int .u32 c, .int .u32 d] 28).next (.cells #[.int .i64 g, .int .u32 x, .int .u32 y, .int .u32 z, .int .u32 u] 28)).on hb
        have b_b : Blk w1 (w.heap.size + 1) [.int .i64 g, .int .u32 x, .int .u32 y, .int .u32 z, .int .u32 u] := (Blk.newAt (b := (w.heap.size + 1)) (w := (World.alloc w (.cells #[.int .i64 f, .int .u32 a, .int .u32 b, .int .u32 c, .int .u32 d] 28))) (by simp only [World.size_alloc]) [.int .i64 g, .int .u32 x, .int .u32 y, .int .u32 z, .int .u32 u] 28).on hb
        have h' := bel_on ((((h.out).alloc (h.out).size _)).alloc (((h.out).alloc (h.out).size _)).size _) hb
        clear hb h
        have B_a := Lib.hid b_a
        have B_b := Lib.hid b_b
        have h := Lib.hid h'
        clear h' b_a b_b
        have c_b0 := B_b.out.cell 0 rfl
        have c_b1 := B_b.out.cell 1 rfl
        have c_b2 := B_b.out.cell 2 rfl
        have c_b3 := B_b.out.cell 3 rfl
        have c_b4 := B_b.out.cell 4 rfl
        go_wp2_with fail
        refine (R2.out _).mono ?_
        rintro e w2 ⟨rfl, hb⟩
        clear c_b0 c_b1 c_b2 c_b3 c_b4
        have b_a : Blk w2 w.heap.size [.int .i64 f, .int .u32 a, .int .u32 b, .int .u32 c, .int .u32 d] := B_a.out.on hb
        have b_b : Blk w2 (w.heap.size + 1) [.int .i64 g, .int .u32 x, .int .u32 y, .int .u32 z, .int .u32 u] := B_b.out.on hb
        have h' := bel_on h.out hb
        clear hb h B_a B_b
        have B_a := Lib.hid b_a
        have B_b := Lib.hid b_b
        have h := Lib.hid h'
        clear h' b_a b_b
        have c_a0 := B_a.out.cell 0 rfl
        have c_b0 := B_b.out.cell 0 rfl
        go_wp2_with fail
        go_ret
        exact ⟨by rw [HV.out]; rfl, h.out⟩

end Go.Proofs.Ytgmpfnhdcgcldaa
