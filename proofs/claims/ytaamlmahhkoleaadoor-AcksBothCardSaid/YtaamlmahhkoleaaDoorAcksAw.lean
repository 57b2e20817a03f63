/- The example that the statements of package acks ask (awake). -/
import Derived.Test.YtaamlmahhkoleaaDoorAcksE
namespace Go.Proofs.YtaamlmahhkoleaaDoor
open Go.RowKit Go.Sort

theorem ints_blk {w : World} {b : Nat} {x y z : Int} (h : Blk w b [.int .i64 x, .int .i64 y, .int .i64 z]) (hx : -9223372036854775808 ≤ x ∧ x < 9223372036854775808) (hy : -9223372036854775808 ≤ y ∧ y < 9223372036854775808)
    (hz : -9223372036854775808 ≤ z ∧ z < 9223372036854775808) : IntAt w (some ⟨b, 0, none⟩) [x, y, z] := fun i v hi => by
  match i, hi with
  | 0, hi => simp at hi; subst hi; exact ⟨hx, _, rfl, h.cell 0 rfl⟩
  | 1, hi => simp at hi; subst hi; exact ⟨hy, _, rfl, h.cell 1 rfl⟩
  | 2, hi => simp at hi; subst hi; exact ⟨hz, _, rfl, h.cell 2 rfl⟩
  | n + 3, hi => simp at hi
theorem ka1 (w : World) (b : Nat) (ht : Tab w) (hb : Blk w b [.int .i64 7, .int .i64 3, .int .i64 13]) :
    Calls Tryd.prog 8 #[.int .i64 5, .slice (some ⟨b, 0, none⟩) 3 3] w fun e w' => e = .returned (.tuple #[.int .i64 5, .int .i64 4]) ∧ Below w.heap.size w w' := by
  have h := of_any 5 (some ⟨b, 0, none⟩) 3 [7, 3, 13] w ht (ints_blk hb (by omega) (by omega) (by omega)) (by decide) (by omega)
  have e : AcksF.ofN 5 [7, 3, 13] = 4 := by decide
  rw [e] at h
  exact h.mono fun _ _ ⟨h1, h2⟩ => ⟨h1, h2 ▸ Below.refl _ _⟩
theorem ka2 : Gives Tryd.prog 7 #[(.agg #[.int .i64 2, .int .u32 0, .int .u32 0, .int .u32 0, .int .u32 0, .int .i64 5, .int .i64 4] : Value)] (.tuple #[.string ⟨#[2, 0, 0, 0, 0, 0, 0, 0, 0, 0, 0, 0, 0, 0, 0, 0, 0, 0, 5, 4]⟩, .int .i64 0]) := by
  have h := abytes_ok 2 0 0 0 0 5 4 (by decide) (by decide) (by decide) (by decide) (by decide)
  have e : str (ackL 2 0 0 0 0 5 4) = ⟨#[2, 0, 0, 0, 0, 0, 0, 0, 0, 0, 0, 0, 0, 0, 0, 0, 0, 0, 5, 4]⟩ := by decide +kernel
  rw [e] at h
  exact h
theorem ka3 : Gives Tryd.prog 6 #[.string ⟨#[2, 0, 0, 0, 0, 0, 0, 0, 0, 0, 0, 0, 0, 0, 0, 0, 0, 0, 5, 4]⟩] (.tuple #[(.agg #[.int .i64 2, .int .u32 0, .int .u32 0, .int .u32 0, .int .u32 0, .int .i64 5, .int .i64 4] : Value), .int .i64 0]) := by
  have h := aread_yes [2, 0, 0, 0, 0, 0, 0, 0, 0, 0, 0, 0, 0, 0, 0, 0, 0, 0, 5, 4] (by decide) (by decide +kernel)
  have e : ackF [2, 0, 0, 0, 0, 0, 0, 0, 0, 0, 0, 0, 0, 0, 0, 0, 0, 0, 5, 4] = 2 ∧ boot (([2, 0, 0, 0, 0, 0, 0, 0, 0, 0, 0, 0, 0, 0, 0, 0, 0, 0, 5, 4] : List UInt8).drop 1) = 0 ∧ local' (([2, 0, 0, 0, 0, 0, 0, 0, 0, 0, 0, 0, 0, 0, 0, 0, 0, 0, 5, 4] : List UInt8).drop 1) = 0 ∧ boot (([2, 0, 0, 0, 0, 0, 0, 0, 0, 0, 0, 0, 0, 0, 0, 0, 0, 0, 5, 4] : List UInt8).drop 9) = 0 ∧ local' (([2, 0, 0, 0, 0, 0, 0, 0, 0, 0, 0, 0, 0, 0, 0, 0, 0, 0, 5, 4] : List UInt8).drop 9) = 0 ∧ ackN [2, 0, 0, 0, 0, 0, 0, 0, 0, 0, 0, 0, 0, 0, 0, 0, 0, 0, 5, 4] = 5 ∧ ackS [2, 0, 0, 0, 0, 0, 0, 0, 0, 0, 0, 0, 0, 0, 0, 0, 0, 0, 5, 4] = 4 := by decide +kernel
  obtain ⟨e1, e2, e3, e4, e5, e6, e7⟩ := e
  rw [e1, e2, e3, e4, e5, e6, e7] at h
  exact h
theorem ka4 {s : ByteArray} (w : World) (hs : s = str [2, 0, 0, 0, 0, 0, 0, 0, 0, 0, 0, 0, 0, 0, 0, 0, 0, 0, 5, 4, 120]) : Calls Tryd.prog 6 #[.string s] w fun e w' => e = .returned (.tuple #[(.agg #[.int .i64 0, .int .u32 0, .int .u32 0, .int .u32 0, .int .u32 0, .int .i64 0, .int .i64 0] : Value), .int .i64 3]) ∧ Below w.heap.size w w' := by
  subst hs
  exact aread_wrong [2, 0, 0, 0, 0, 0, 0, 0, 0, 0, 0, 0, 0, 0, 0, 0, 0, 0, 5, 4, 120] (by decide) (by decide) (by decide) w
theorem ka5 (w : World) (ht : Tab w) : Calls Tryd.prog 9 #[(.agg #[.int .i64 2, .int .u32 0, .int .u32 0, .int .u32 0, .int .u32 0, .int .i64 5, .int .i64 4] : Value), .int .i64 4] w fun e w' => e = .returned (.bool true) ∧ Below w.heap.size w w' := ahas_any 2 0 0 0 0 5 4 4 (by omega) (by omega) w ht
theorem ka6 (w : World) (ht : Tab w) : Calls Tryd.prog 9 #[(.agg #[.int .i64 2, .int .u32 0, .int .u32 0, .int .u32 0, .int .u32 0, .int .i64 5, .int .i64 4] : Value), .int .i64 5] w fun e w' => e = .returned (.bool false) ∧ Below w.heap.size w w' := ahas_any 2 0 0 0 0 5 4 5 (by omega) (by omega) w ht
theorem ka7 (w : World) (ht : Tab w) : Calls Tryd.prog 9 #[(.agg #[.int .i64 2, .int .u32 0, .int .u32 0, .int .u32 0, .int .u32 0, .int .i64 5, .int .i64 4] : Value), .int .i64 7] w fun e w' => e = .returned (.bool true) ∧ Below w.heap.size w w' := ahas_any 2 0 0 0 0 5 4 7 (by omega) (by omega) w ht
theorem ka8 (w : World) (ht : Tab w) : Calls Tryd.prog 9 #[(.agg #[.int .i64 2, .int .u32 0, .int .u32 0, .int .u32 0, .int .u32 0, .int .i64 5, .int .i64 4] : Value), .int .i64 13] w fun e w' => e = .returned (.bool false) ∧ Below w.heap.size w w' := ahas_any 2 0 0 0 0 5 4 13 (by omega) (by omega) w ht
theorem ka9 (w : World) : Calls Tryd.prog 14 #[(.agg #[.int .i64 2, .int .u32 0, .int .u32 0, .int .u32 0, .int .u32 0, .int .i64 5, .int .i64 4] : Value)] w fun e w' => e = .returned (.bool true) ∧ Below w.heap.size w w' := aright_any 2 0 0 0 0 5 4 w
theorem ka0 (w : World) : Calls Tryd.prog 14 #[(.agg #[.int .i64 0, .int .u32 0, .int .u32 0, .int .u32 0, .int .u32 0, .int .i64 0, .int .i64 256] : Value)] w fun e w' => e = .returned (.bool false) ∧ Below w.heap.size w w' := aright_any 0 0 0 0 0 0 256 w

set_option maxRecDepth 100000 in
set_option maxHeartbeats 1000000 in
theorem aawake_any (w : World) (ht : Tab w) : Calls Tryd.prog 5 #[] w fun e w' => e = .returned (.bool true) ∧ Below w.heap.size w w' := by
  have T := Lib.hid ht
  clear ht
  go_enter Tryd.func5, Tryd.ntmps5
  have h := Lib.hid (Below.refl w.heap.size w)
  go_wp2_with fail
  refine (ka1 _ w.heap.size (T.out.on ((h.out).alloc (h.out).size _)) (Blk.new w [.int .i64 7, .int .i64 3, .int .i64 13] 3)).mono ?_
  rintro e w1 ⟨rfl, hb⟩
  have b_i : Blk w1 w.heap.size [.int .i64 7, .int .i64 3, .int .i64 13] := (Blk.new w [.int .i64 7, .int .i64 3, .int .i64 13] 3).on hb
  have h' := bel_on ((h.out).alloc (h.out).size _) hb
  clear hb h
  have B_i := Lib.hid b_i
  have h := Lib.hid h'
  clear h' b_i
  clear B_i
  go_wp2_with fail
  refine (ka2 _).mono ?_
  rintro e w2 ⟨rfl, hb⟩
  have b_a : Blk w2 w1.heap.size [.int .i64 2, .int .u32 0, .int .u32 0, .int .u32 0, .int .u32 0, .int .i64 5, .int .i64 4] := (Blk.new w1 [.int .i64 2, .int .u32 0, .int .u32 0, .int .u32 0, .int .u32 0, .int .i64 5, .int .i64 4] 30).on hb
  have h' := bel_on ((h.out).alloc (h.out).size _) hb
  clear hb h
  have B_a := Lib.hid b_a
  have h := Lib.hid h'
  clear h' b_a
  go_wp2_with fail
  refine (ka3 _).mono ?_
  rintro e w3 ⟨rfl, hb⟩
  have b_a : Blk w3 w1.heap.size [.int .i64 2, .int .u32 0, .int .u32 0, .int .u32 0, .int .u32 0, .int .i64 5, .int .i64 4] := B_a.out.on hb
  have h' := bel_on h.out hb
  clear hb h B_a
  have B_a := Lib.hid b_a
  have h := Lib.hid h'
  clear h' b_a
  go_wp2_with fail
  refine (ka4 _ (by decide +kernel)).mono ?_
  rintro e w4 ⟨rfl, hb⟩
  have b_a : Blk w4 w1.heap.size [.int .i64 2, .int .u32 0, .int .u32 0, .int .u32 0, .int .u32 0, .int .i64 5, .int .i64 4] := (B_a.out.next (.cells #[.int .i64 2, .int .u32 0, .int .u32 0, .int .u32 0, .int .u32 0, .int .i64 5, .int .i64 4] 30)).on hb
  have b_x : Blk w4 w3.heap.size [.int .i64 2, .int .u32 0, .int .u32 0, .int .u32 0, .int .u32 0, .int .i64 5, .int .i64 4] := (Blk.new w3 [.int .i64 2, .int .u32 0, .int .u32 0, .int .u32 0, .int .u32 0, .int .i64 5, .int .i64 4] 30).on hb
  have h' := bel_on ((h.out).alloc (h.out).size _) hb
  clear hb h B_a
  have B_a := Lib.hid b_a
  have B_x := Lib.hid b_x
  have h := Lib.hid h'
  clear h' b_a b_x
  have c_a0 := (B_a.out.next (.cells #[.int .i64 0, .int .u32 0, .int .u32 0, .int .u32 0, .int .u32 0, .int .i64 0, .int .i64 0] 30)).cell 0 rfl
  have c_a1 := (B_a.out.next (.cells #[.int .i64 0, .int .u32 0, .int .u32 0, .int .u32 0, .int .u32 0, .int .i64 0, .int .i64 0] 30)).cell 1 rfl
  have c_a2 := (B_a.out.next (.cells #[.int .i64 0, .int .u32 0, .int .u32 0, .int .u32 0, .int .u32 0, .int .i64 0, .int .i64 0] 30)).cell 2 rfl
  have c_a3 := (B_a.out.next (.cells #[.int .i64 0, .int .u32 0, .int .u32 0, .int .u32 0, .int .u32 0, .int .i64 0, .int .i64 0] 30)).cell 3 rfl
  have c_a4 := (B_a.out.next (.cells #[.int .i64 0, .int .u32 0, .int .u32 0, .int .u32 0, .int .u32 0, .int .i64 0, .int .i64 0] 30)).cell 4 rfl
  have c_a5 := (B_a.out.next (.cells #[.int .i64 0, .int .u32 0, .int .u32 0, .int .u32 0, .int .u32 0, .int .i64 0, .int .i64 0] 30)).cell 5 rfl
  have c_a6 := (B_a.out.next (.cells #[.int .i64 0, .int .u32 0, .int .u32 0, .int .u32 0, .int .u32 0, .int .i64 0, .int .i64 0] 30)).cell 6 rfl
  have c_x0 := (B_x.out.next (.cells #[.int .i64 0, .int .u32 0, .int .u32 0, .int .u32 0, .int .u32 0, .int .i64 0, .int .i64 0] 30)).cell 0 rfl
  have c_x1 := (B_x.out.next (.cells #[.int .i64 0, .int .u32 0, .int .u32 0, .int .u32 0, .int .u32 0, .int .i64 0, .int .i64 0] 30)).cell 1 rfl
  have c_x2 := (B_x.out.next (.cells #[.int .i64 0, .int .u32 0, .int .u32 0, .int .u32 0, .int .u32 0, .int .i64 0, .int .i64 0] 30)).cell 2 rfl
  have c_x3 := (B_x.out.next (.cells #[.int .i64 0, .int .u32 0, .int .u32 0, .int .u32 0, .int .u32 0, .int .i64 0, .int .i64 0] 30)).cell 3 rfl
  have c_x4 := (B_x.out.next (.cells #[.int .i64 0, .int .u32 0, .int .u32 0, .int .u32 0, .int .u32 0, .int .i64 0, .int .i64 0] 30)).cell 4 rfl
  have c_x5 := (B_x.out.next (.cells #[.int .i64 0, .int .u32 0, .int .u32 0, .int .u32 0, .int .u32 0, .int .i64 0, .int .i64 0] 30)).cell 5 rfl
  have c_x6 := (B_x.out.next (.cells #[.int .i64 0, .int .u32 0, .int .u32 0, .int .u32 0, .int .u32 0, .int .i64 0, .int .i64 0] 30)).cell 6 rfl
  go_wp2_with fail
  refine (ka5 _ (T.out.on ((h.out).alloc (h.out).size _))).mono ?_
  rintro e w5 ⟨rfl, hb⟩
  clear c_a0 c_a1 c_a2 c_a3 c_a4 c_a5 c_a6 c_x0 c_x1 c_x2 c_x3 c_x4 c_x5 c_x6
  have b_a : Blk w5 w1.heap.size [.int .i64 2, .int .u32 0, .int .u32 0, .int .u32 0, .int .u32 0, .int .i64 5, .int .i64 4] := (B_a.out.next (.cells #[.int .i64 0, .int .u32 0, .int .u32 0, .int .u32 0, .int .u32 0, .int .i64 0, .int .i64 0] 30)).on hb
  have b_x : Blk w5 w3.heap.size [.int .i64 2, .int .u32 0, .int .u32 0, .int .u32 0, .int .u32 0, .int .i64 5, .int .i64 4] := (B_x.out.next (.cells #[.int .i64 0, .int .u32 0, .int .u32 0, .int .u32 0, .int .u32 0, .int .i64 0, .int .i64 0] 30)).on hb
  have h' := bel_on ((h.out).alloc (h.out).size _) hb
  clear hb h B_a B_x
  have B_a := Lib.hid b_a
  have B_x := Lib.hid b_x
  have h := Lib.hid h'
  clear h' b_a b_x
  clear B_x
  have c_a0 := B_a.out.cell 0 rfl
  have c_a1 := B_a.out.cell 1 rfl
  have c_a2 := B_a.out.cell 2 rfl
  have c_a3 := B_a.out.cell 3 rfl
  have c_a4 := B_a.out.cell 4 rfl
  have c_a5 := B_a.out.cell 5 rfl
  have c_a6 := B_a.out.cell 6 rfl
  go_wp2_with fail
  refine (ka6 _ (T.out.on h.out)).mono ?_
  rintro e w6 ⟨rfl, hb⟩
  clear c_a0 c_a1 c_a2 c_a3 c_a4 c_a5 c_a6
  have b_a : Blk w6 w1.heap.size [.int .i64 2, .int .u32 0, .int .u32 0, .int .u32 0, .int .u32 0, .int .i64 5, .int .i64 4] := B_a.out.on hb
  have h' := bel_on h.out hb
  clear hb h B_a
  have B_a := Lib.hid b_a
  have h := Lib.hid h'
  clear h' b_a
  have c_a0 := B_a.out.cell 0 rfl
  have c_a1 := B_a.out.cell 1 rfl
  have c_a2 := B_a.out.cell 2 rfl
  have c_a3 := B_a.out.cell 3 rfl
  have c_a4 := B_a.out.cell 4 rfl
  have c_a5 := B_a.out.cell 5 rfl
  have c_a6 := B_a.out.cell 6 rfl
  go_wp2_with fail
  refine (ka7 _ (T.out.on h.out)).mono ?_
  rintro e w7 ⟨rfl, hb⟩
  clear c_a0 c_a1 c_a2 c_a3 c_a4 c_a5 c_a6
  have b_a : Blk w7 w1.heap.size [.int .i64 2, .int .u32 0, .int .u32 0, .int .u32 0, .int .u32 0, .int .i64 5, .int .i64 4] := B_a.out.on hb
  have h' := bel_on h.out hb
  clear hb h B_a
  have B_a := Lib.hid b_a
  have h := Lib.hid h'
  clear h' b_a
  have c_a0 := B_a.out.cell 0 rfl
  have c_a1 := B_a.out.cell 1 rfl
  have c_a2 := B_a.out.cell 2 rfl
  have c_a3 := B_a.out.cell 3 rfl
  have c_a4 := B_a.out.cell 4 rfl
  have c_a5 := B_a.out.cell 5 rfl
  have c_a6 := B_a.out.cell 6 rfl
  go_wp2_with fail
  refine (ka8 _ (T.out.on h.out)).mono ?_
  rintro e w8 ⟨rfl, hb⟩
  clear c_a0 c_a1 c_a2 c_a3 c_a4 c_a5 c_a6
  have b_a : Blk w8 w1.heap.size [.int .i64 2, .int .u32 0, .int .u32 0, .int .u32 0, .int .u32 0, .int .i64 5, .int .i64 4] := B_a.out.on hb
  have h' := bel_on h.out hb
  clear hb h B_a
  have B_a := Lib.hid b_a
  have h := Lib.hid h'
  clear h' b_a
  have c_a0 := B_a.out.cell 0 rfl
  have c_a1 := B_a.out.cell 1 rfl
  have c_a2 := B_a.out.cell 2 rfl
  have c_a3 := B_a.out.cell 3 rfl
  have c_a4 := B_a.out.cell 4 rfl
  have c_a5 := B_a.out.cell 5 rfl
  have c_a6 := B_a.out.cell 6 rfl
  go_wp2_with fail
  refine (ka9 _).mono ?_
  rintro e w9 ⟨rfl, hb⟩
  clear c_a0 c_a1 c_a2 c_a3 c_a4 c_a5 c_a6
  have b_a : Blk w9 w1.heap.size [.int .i64 2, .int .u32 0, .int .u32 0, .int .u32 0, .int .u32 0, .int .i64 5, .int .i64 4] := B_a.out.on hb
  have h' := bel_on h.out hb
  clear hb h B_a
  have B_a := Lib.hid b_a
  have h := Lib.hid h'
  clear h' b_a
  go_wp2_with fail
  refine (ka0 _).mono ?_
  rintro e w10 ⟨rfl, hb⟩
  have b_a : Blk w10 w1.heap.size [.int .i64 2, .int .u32 0, .int .u32 0, .int .u32 0, .int .u32 0, .int .i64 5, .int .i64 4] := B_a.out.on hb
  have h' := bel_on h.out hb
  clear hb h B_a
  have B_a := Lib.hid b_a
  have h := Lib.hid h'
  clear h' b_a
  go_wp2_with fail
  go_ret
  exact ⟨rfl, h.out⟩
end Go.Proofs.YtaamlmahhkoleaaDoor
