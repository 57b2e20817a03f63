/- AcksBoth: for every two acks AcksBoth answers true and leaves its arguments as they were; the table of bits that the package lists reads as the program's text lays it (tied). No other condition. -/
import Derived.Test.YtaamlmahhkoleaaDoorRows
import Derived.Test.YtaamlmahhkoleaaDoorAcksO
import Derived.Test.YtaamlmahhkoleaaDoorAcksAw
import Derived.Test.YtaamlmahhkoleaaDoorAcksOpen
import Derived.ProofKit
import Derived.OpenShut
import Derived.ShutString
import Derived.ChangeOld
import Derived.Carry
import Derived.Test.YtaamlmahhkoleaaDoorAcksLaid
import Derived.Test.YtaamlmahhkoleaaDoorTie
import Derived.Test.YtaamlmahhkoleaaDoorCards
import Derived.SevenTiedAt
import Derived.Stop.Joined
import Derived.LaidMore
namespace Go.Proofs.YtaamlmahhkoleaaDoor.acksBoth
open Go.ChangeShapes Go.WideShapes Go.ChangeAt Go.RowKit
open Go.ChangeMaps (open_string shut_string)

theorem own : ownKnob Tryd.prog.godebug = none := by kernel_rfl
theorem laidOut : laidOutB Tryd.prog = true := by kernel_rfl

set_option maxRecDepth 100000 in
set_option maxHeartbeats 4000000 in
theorem walk (xf : Int) (x0 x1 x2 x3 : Nat) (xn xs yf : Int) (y0 y1 y2 y3 : Nat) (yn ys : Int) (hx : -9223372036854775808 ≤ xn ∧ xn < 9223372036854775808) (hy : -9223372036854775808 ≤ yn ∧ yn < 9223372036854775808) (w : World) (ht : Tab w) :
    Calls Tryd.prog 4 #[(.agg #[.int .i64 xf, .int .u32 (x0 : Int), .int .u32 (x1 : Int), .int .u32 (x2 : Int), .int .u32 (x3 : Int), .int .i64 xn, .int .i64 xs] : Value), (.agg #[.int .i64 yf, .int .u32 (y0 : Int), .int .u32 (y1 : Int), .int .u32 (y2 : Int), .int .u32 (y3 : Int), .int .i64 yn, .int .i64 ys] : Value)] w fun e w' => e = .returned (.bool true) ∧ Below w.heap.size w w' := by
  have T := Lib.hid ht
  clear ht
  obtain ⟨g, p0, p1, p2, p3, k, m, hbo, hrb, hk, hg, hm, hp⟩ := boths xf (x0 : Int) (x1 : Int) (x2 : Int) (x3 : Int) xn xs yf (y0 : Int) (y1 : Int) (y2 : Int) (y3 : Int) yn ys hx hy
  have BO := Lib.hid hbo
  have RB := Lib.hid hrb
  have HK := Lib.hid hk
  have HG := Lib.hid hg
  have HP := Lib.hid hp
  obtain ⟨l, hl, hl8, hlb, hlp, hlr⟩ := near_facts xn (AcksF.hasB xn xs)
  have LB := Lib.hid hlb
  have LP := Lib.hid hlp
  have LR := Lib.hid hlr
  have hto := fun (w : World) (ht : Tab w) => told_any xf (x0 : Int) (x1 : Int) (x2 : Int) (x3 : Int) xn xs w ht hx.2
  have hrt := fun (w : World) => rtold_any xf (x0 : Int) (x1 : Int) (x2 : Int) (x3 : Int) xn xs w
  rw [hl] at hto hrt
  have TO := Lib.hid hto
  have RT := Lib.hid hrt
  clear hbo hrb hk hg hp hl hlb hlp hlr hto hrt
  have hWb : Below w.heap.size w (World.alloc (World.alloc w (.cells #[.int .i64 xf, .int .u32 (x0 : Int), .int .u32 (x1 : Int), .int .u32 (x2 : Int), .int .u32 (x3 : Int), .int .i64 xn, .int .i64 xs] 30)) (.cells #[.int .i64 yf, .int .u32 (y0 : Int), .int .u32 (y1 : Int), .int .u32 (y2 : Int), .int .u32 (y3 : Int), .int .i64 yn, .int .i64 ys] 30)) := ((Below.refl _ _).alloc (Nat.le_refl _) _).alloc (by simp only [World.size_alloc]; omega) _
  have hWa : Blk (World.alloc (World.alloc w (.cells #[.int .i64 xf, .int .u32 (x0 : Int), .int .u32 (x1 : Int), .int .u32 (x2 : Int), .int .u32 (x3 : Int), .int .i64 xn, .int .i64 xs] 30)) (.cells #[.int .i64 yf, .int .u32 (y0 : Int), .int .u32 (y1 : Int), .int .u32 (y2 : Int), .int .u32 (y3 : Int), .int .i64 yn, .int .i64 ys] 30)) w.heap.size [.int .i64 xf, .int .u32 (x0 : Int), .int .u32 (x1 : Int), .int .u32 (x2 : Int), .int .u32 (x3 : Int), .int .i64 xn, .int .i64 xs] := (Blk.new w [.int .i64 xf, .int .u32 (x0 : Int), .int .u32 (x1 : Int), .int .u32 (x2 : Int), .int .u32 (x3 : Int), .int .i64 xn, .int .i64 xs] 30).next _
  have hWy : Blk (World.alloc (World.alloc w (.cells #[.int .i64 xf, .int .u32 (x0 : Int), .int .u32 (x1 : Int), .int .u32 (x2 : Int), .int .u32 (x3 : Int), .int .i64 xn, .int .i64 xs] 30)) (.cells #[.int .i64 yf, .int .u32 (y0 : Int), .int .u32 (y1 : Int), .int .u32 (y2 : Int), .int .u32 (y3 : Int), .int .i64 yn, .int .i64 ys] 30)) (w.heap.size + 1) [.int .i64 yf, .int .u32 (y0 : Int), .int .u32 (y1 : Int), .int .u32 (y2 : Int), .int .u32 (y3 : Int), .int .i64 yn, .int .i64 ys] := Blk.newAt (by simp only [World.size_alloc]) [.int .i64 yf, .int .u32 (y0 : Int), .int .u32 (y1 : Int), .int .u32 (y2 : Int), .int .u32 (y3 : Int), .int .i64 yn, .int .i64 ys] 30
  have HW := Lib.hid hWb
  have KA0 := Lib.hid hWa
  have KB0 := Lib.hid hWy
  clear hWb hWa hWy
  have a0 := (KA0.out.cell 0 rfl)
  have a1 := (KA0.out.cell 1 rfl)
  have a2 := (KA0.out.cell 2 rfl)
  have a3 := (KA0.out.cell 3 rfl)
  have a4 := (KA0.out.cell 4 rfl)
  have a5 := (KA0.out.cell 5 rfl)
  have a6 := (KA0.out.cell 6 rfl)
  have b0 := (KB0.out.cell 0 rfl)
  have b1 := (KB0.out.cell 1 rfl)
  have b2 := (KB0.out.cell 2 rfl)
  have b3 := (KB0.out.cell 3 rfl)
  have b4 := (KB0.out.cell 4 rfl)
  have b5 := (KB0.out.cell 5 rfl)
  have b6 := (KB0.out.cell 6 rfl)
  go_enter Tryd.func4, Tryd.ntmps4
  go_wp2_with fail
  refine (BO.out _ (T.out.on HW.out)).mono ?_
  rintro e w1 ⟨rfl, hb⟩
  have kA := (KA0.out.on hb).next (.cells #[.int .i64 g, .int .u32 p0, .int .u32 p1, .int .u32 p2, .int .u32 p3, .int .i64 k, .int .i64 (m : Int)] 30)
  have kB := (KB0.out.on hb).next (.cells #[.int .i64 g, .int .u32 p0, .int .u32 p1, .int .u32 p2, .int .u32 p3, .int .i64 k, .int .i64 (m : Int)] 30)
  have kC := Blk.new w1 [.int .i64 g, .int .u32 p0, .int .u32 p1, .int .u32 p2, .int .u32 p3, .int .i64 k, .int .i64 (m : Int)] 30
  have h2 := (bel_on HW.out hb).alloc (bel_on HW.out hb).size (.cells #[.int .i64 g, .int .u32 p0, .int .u32 p1, .int .u32 p2, .int .u32 p3, .int .i64 k, .int .i64 (m : Int)] 30)
  have hg1 := (bel_on HW.out hb).size
  clear hb HW KA0 KB0 a0 a1 a2 a3 a4 a5 a6 b0 b1 b2 b3 b4 b5 b6
  go_upto_region 2 with fail
  obtain ⟨w2, hw2⟩ : ∃ w2, World.alloc w1 (.cells #[.int .i64 g, .int .u32 p0, .int .u32 p1, .int .u32 p2, .int .u32 p3, .int .i64 k, .int .i64 (m : Int)] 30) = w2 := ⟨_, rfl⟩
  rw [hw2] at kA kB kC h2 ⊢
  clear hw2
  have KA := Lib.hid kA
  have KB := Lib.hid kB
  have KC := Lib.hid kC
  have H2 := Lib.hid h2
  clear kA kB kC h2
  have a0 := (KA.out.cell 0 rfl)
  have a1 := (KA.out.cell 1 rfl)
  have a2 := (KA.out.cell 2 rfl)
  have a3 := (KA.out.cell 3 rfl)
  have a4 := (KA.out.cell 4 rfl)
  have a5 := (KA.out.cell 5 rfl)
  have a6 := (KA.out.cell 6 rfl)
  go_region_held3 (fun w' => w'.cell? ⟨w.heap.size, 0, none⟩ = some (.int .i64 xf) ∧ w'.cell? ⟨w.heap.size, 1, none⟩ = some (.int .u32 (x0 : Int)) ∧ w'.cell? ⟨w.heap.size, 2, none⟩ = some (.int .u32 (x1 : Int)) ∧ w'.cell? ⟨w.heap.size, 3, none⟩ = some (.int .u32 (x2 : Int)) ∧ w'.cell? ⟨w.heap.size, 4, none⟩ = some (.int .u32 (x3 : Int)) ∧ w'.cell? ⟨w.heap.size, 5, none⟩ = some (.int .i64 xn) ∧ w'.cell? ⟨w.heap.size, 6, none⟩ = some (.int .i64 xs) ∧ Below w.heap.size w w')
    (first | (refine ⟨?_, ?_, ?_, ?_, ?_, ?_, ?_, ?_⟩ <;> (first | assumption | exact H2.out | exact H2.out.drew | exact bel_on H2.out q4 | exact bel_on H2.out q3 | exact cell_later (w := w2) q4 (by assumption) | exact cell_later (w := w2) q3 (by assumption) | go_keep)) | (first | assumption | exact H2.out | exact H2.out.drew | exact bel_on H2.out q4 | exact bel_on H2.out q3 | exact cell_later (w := w2) q4 (by assumption) | exact cell_later (w := w2) q3 (by assumption) | go_keep))
    (first | (go_at_call 11; refine (TO.out _ (T.out.on H2.out.drew)).mono ?_; rintro e w3 ⟨v, rfl, hown3, hb3⟩; obtain ⟨la, lc, rfl⟩ := row_slice hown3; have q3 : Below w2.heap.size w2 w3 := bel_on ((Below.refl _ _).drew) hb3; clear hb3) | (go_at_call 12; refine (RT.out _).mono ?_; rintro e w4 ⟨v, rfl, hown4, hb4⟩; obtain ⟨ma, mc, rfl⟩ := row_slice hown4; have q4 : Below w2.heap.size w2 w4 := bel_on q3 hb4; have hown5 := row_below hown3 hb4; clear hb4))
  have IL := Lib.hid (IntAt.own hown5 LB.out)
  have IM := Lib.hid (IntAt.own hown4 LB.out)
  have H4 := Lib.hid (bel_on H2.out q4)
  have KA4 := Lib.hid (KA.out.on q4)
  have KB4 := Lib.hid (KB.out.on q4)
  have KC4 := Lib.hid (KC.out.on q4)
  clear hown3 hown4 hown5 q4 q3 KA KB KC H2 a0 a1 a2 a3 a4 a5 a6
  obtain ⟨z, hz⟩ : ∃ z, l.length = z := ⟨_, rfl⟩
  rw [hz] at hl8 ⊢
  have HZ := Lib.hid hz
  clear hz
  go_upto_region 3 with fail
  have a0 := cell_regrown (KA4.out.cell 0 rfl)
  have a1 := cell_regrown (KA4.out.cell 1 rfl)
  have a2 := cell_regrown (KA4.out.cell 2 rfl)
  have a3 := cell_regrown (KA4.out.cell 3 rfl)
  have a4 := cell_regrown (KA4.out.cell 4 rfl)
  have a5 := cell_regrown (KA4.out.cell 5 rfl)
  have a6 := cell_regrown (KA4.out.cell 6 rfl)
  have b0 := cell_regrown (KB4.out.cell 0 rfl)
  have b1 := cell_regrown (KB4.out.cell 1 rfl)
  have b2 := cell_regrown (KB4.out.cell 2 rfl)
  have b3 := cell_regrown (KB4.out.cell 3 rfl)
  have b4 := cell_regrown (KB4.out.cell 4 rfl)
  have b5 := cell_regrown (KB4.out.cell 5 rfl)
  have b6 := cell_regrown (KB4.out.cell 6 rfl)
  have c0 := cell_regrown (KC4.out.cell 0 rfl)
  have c1 := cell_regrown (KC4.out.cell 1 rfl)
  have c2 := cell_regrown (KC4.out.cell 2 rfl)
  have c3 := cell_regrown (KC4.out.cell 3 rfl)
  have c4 := cell_regrown (KC4.out.cell 4 rfl)
  have c5 := cell_regrown (KC4.out.cell 5 rfl)
  have c6 := cell_regrown (KC4.out.cell 6 rfl)
  refine wp_region_quiet_below (by kernel_rfl) (by kernel_rfl) ?_
  repeat (first | go_big_quiet_step (first | with_reducible exact RB.out.at _ _ _) | quiet_step (first | with_reducible exact RB.out.at _ _ _))
  refine wpQuiet_nil ?_
  intro _ hw'
  obtain ⟨⟨dq, osq⟩, hw''⟩ := hw'
  subst hw''
  obtain ⟨w5, hw5⟩ : ∃ w5, Go.Sort.grow (redrawn w4 dq) osq = w5 := ⟨_, rfl⟩
  have q5 : Below w4.heap.size w4 w5 := by rw [← hw5]; exact below_regrown _ dq osq
  rw [hw5]
  have H5 := Lib.hid (bel_on H4.out q5)
  have KA := Lib.hid (KA4.out.on q5)
  have KB := Lib.hid (KB4.out.on q5)
  have KC := Lib.hid (KC4.out.on q5)
  have JL := Lib.hid (IL.out.on q5)
  have JM := Lib.hid (IM.out.on q5)
  clear hw5 q5 H4 KA4 KB4 KC4 IL IM RB TO RT BO a0 a1 a2 a3 a4 a5 a6 b0 b1 b2 b3 b4 b5 b6 c0 c1 c2 c3 c4 c5 c6
  go_upto_region 6 with fail
  go_loopw [32] (fun v wr => ∃ i : Nat, v = .int .i64 (i : Int) ∧ i ≤ z ∧ Below w5.heap.size w5 wr) (fun v _ => (z - intOf v).toNat)
  case atStart => exact ⟨0, rfl, by omega, Below.refl _ _⟩
  case round =>
    obtain ⟨i, rfl, hi, hr⟩ := hrel
    have HR := Lib.hid hr
    clear hr
    by_cases h : i < z
    · obtain ⟨x, hxl⟩ : ∃ x, l[i]? = some x := ⟨_, List.getElem?_eq_getElem (by rw [HZ.out]; exact h)⟩
      have hpx := LP.out i x hxl
      obtain ⟨hxb, b1, rfl, e1⟩ := (JL.out.on HR.out) i x hxl
      obtain ⟨_, b2, rfl, e2⟩ := (JM.out.on HR.out) i x hxl
      have HS := Lib.hid (ahas_any xf (x0 : Int) (x1 : Int) (x2 : Int) (x3 : Int) xn xs x hx.2 hxb)
      rw [hpx] at HS
      have TT := Lib.hid (T.out.on (bel_on H5.out HR.out))
      have f1 := cell_regrown e1
      have f2 := cell_regrown e2
      have i0 : (0 : Int) ≤ (i : Int) := by omega
      have i1 : (i : Int) < (z : Int) := by omega
      have k6 := Lib.hid (KA.out.on HR.out)
      have a0 := cell_regrown (k6.out.cell 0 rfl)
      have a1 := cell_regrown (k6.out.cell 1 rfl)
      have a2 := cell_regrown (k6.out.cell 2 rfl)
      have a3 := cell_regrown (k6.out.cell 3 rfl)
      have a4 := cell_regrown (k6.out.cell 4 rfl)
      have a5 := cell_regrown (k6.out.cell 5 rfl)
      have a6 := cell_regrown (k6.out.cell 6 rfl)
      by_cases hi0 : i = 0
      · have d0 : decide (0 < i) = false := decide_eq_false (by omega)
        have d1 : decide ((0 : Int) < (i : Int)) = false := decide_eq_false (by omega)
        clear hi0 hxl hpx hxb e1 e2
        go_upto_region 8 with fail
        refine wp_region_quiet_below (by kernel_rfl) (by kernel_rfl) ?_
        repeat (first | go_big_quiet_step (first | with_reducible exact HS.out.at TT.out _ _) | quiet_step (first | with_reducible exact HS.out.at TT.out _ _))
        refine wpQuiet_nil ?_
        intro _ hw'
        obtain ⟨⟨dq, osq⟩, hw''⟩ := hw'
        subst hw''
        go_wp2_with fail
        go_roundw
        case rel => exact ⟨i + 1, by go_num, by omega, bel_on HR.out (below_regrown _ dq osq)⟩
        case measure => simp [intOf]; omega
      · obtain ⟨t, ht⟩ : ∃ t, i = t + 1 := ⟨i - 1, by omega⟩
        obtain ⟨y, hyl⟩ : ∃ y, l[t]? = some y := ⟨_, List.getElem?_eq_getElem (by rw [HZ.out]; omega)⟩
        have hlt := LR.out t x y hyl (by rw [← ht]; exact hxl)
        obtain ⟨hyb, b3, hb3, e3⟩ := (JL.out.on HR.out) t y hyl
        cases hb3
        have f3 := cell_regrown e3
        have d3 : decide (x ≤ y) = false := decide_eq_false (by omega)
        have d0 : decide (0 < i) = true := decide_eq_true (by omega)
        have d1 : decide ((0 : Int) < (i : Int)) = true := decide_eq_true (by omega)
        have t0 : (0 : Int) ≤ (t : Int) := by omega
        have t1 : (t : Int) < (z : Int) := by omega
        have t2 : wrap64 ((i : Int) - 1) = (t : Int) := by rw [show ((i : Int) - 1) = (t : Int) by omega]; exact IntWalk.wrap64_in _ (by omega)
        have t3 : IntKind.i64.wrap ((i : Int) - 1) = (t : Int) := by rw [show ((i : Int) - 1) = (t : Int) by omega]; exact IntWalk.i64_in _ (by omega)
        have HT := Lib.hid ht
        clear ht hyl hlt hyb e3 hxl hpx hxb e1 e2 hi0
        go_upto_region 8 with fail
        refine wp_region_quiet_below (by kernel_rfl) (by kernel_rfl) ?_
        repeat (first | go_big_quiet_step (first | with_reducible exact HS.out.at TT.out _ _) | quiet_step (first | with_reducible exact HS.out.at TT.out _ _))
        refine wpQuiet_nil ?_
        intro _ hw'
        obtain ⟨⟨dq, osq⟩, hw''⟩ := hw'
        subst hw''
        go_wp2_with fail
        go_roundw
        case rel => exact ⟨i + 1, by go_num, by omega, bel_on HR.out (below_regrown _ dq osq)⟩
        case measure => simp [intOf]; omega
    · obtain rfl : i = z := by omega
      have H6 := Lib.hid (bel_on H5.out HR.out)
      have KA6 := Lib.hid (KA.out.on HR.out)
      have KB6 := Lib.hid (KB.out.on HR.out)
      have KC6 := Lib.hid (KC.out.on HR.out)
      have RA := Lib.hid (aright_any xf (x0 : Int) (x1 : Int) (x2 : Int) (x3 : Int) xn xs)
      have RB := Lib.hid (aright_any yf (y0 : Int) (y1 : Int) (y2 : Int) (y3 : Int) yn ys)
      obtain ⟨ra, hra⟩ : ∃ r, rightA xf xn xs = r := ⟨_, rfl⟩
      obtain ⟨rb, hrb⟩ : ∃ r, rightA yf yn ys = r := ⟨_, rfl⟩
      rw [hra] at RA
      rw [hrb] at RB
      have HRA := Lib.hid hra
      have HRB := Lib.hid hrb
      clear hra hrb H5 HR KA KB KC JL JM LB LP LR HZ
      have a0 := (KA6.out.cell 0 rfl)
      have a1 := (KA6.out.cell 1 rfl)
      have a2 := (KA6.out.cell 2 rfl)
      have a3 := (KA6.out.cell 3 rfl)
      have a4 := (KA6.out.cell 4 rfl)
      have a5 := (KA6.out.cell 5 rfl)
      have a6 := (KA6.out.cell 6 rfl)
      go_wp2_with fail
      refine (RA.out _).mono ?_
      rintro e w7 ⟨rfl, hb⟩
      have H7 := Lib.hid (bel_on H6.out hb)
      have KA7 := Lib.hid (KA6.out.on hb)
      have KB7 := Lib.hid (KB6.out.on hb)
      have KC7 := Lib.hid (KC6.out.on hb)
      clear hb a0 a1 a2 a3 a4 a5 a6
      rcases ra with _ | _
      · go_wp2_with fail
        refine (aawake_any _ (T.out.on H7.out)).mono ?_
        rintro e w9 ⟨rfl, hb⟩
        have H9 := Lib.hid (bel_on H7.out hb)
        clear hb
        go_wp2_with fail
        go_ret
        exact ⟨rfl, H9.out⟩
      · have b0 := (KB7.out.cell 0 rfl)
        have b1 := (KB7.out.cell 1 rfl)
        have b2 := (KB7.out.cell 2 rfl)
        have b3 := (KB7.out.cell 3 rfl)
        have b4 := (KB7.out.cell 4 rfl)
        have b5 := (KB7.out.cell 5 rfl)
        have b6 := (KB7.out.cell 6 rfl)
        go_wp2_with fail
        refine (RB.out _).mono ?_
        rintro e w8 ⟨rfl, hb⟩
        have H8 := Lib.hid (bel_on H7.out hb)
        have KA8 := Lib.hid (KA7.out.on hb)
        have KB8 := Lib.hid (KB7.out.on hb)
        have KC8 := Lib.hid (KC7.out.on hb)
        clear hb b0 b1 b2 b3 b4 b5 b6
        rcases rb with _ | _
        · go_wp2_with fail
          refine (aawake_any _ (T.out.on H8.out)).mono ?_
          rintro e w9 ⟨rfl, hb⟩
          have H9 := Lib.hid (bel_on H8.out hb)
          clear hb
          go_wp2_with fail
          go_ret
          exact ⟨rfl, H9.out⟩
        · have ix := rightA_in HRA.out
          have iy := rightA_in HRB.out
          by_cases hx6 : 60000 < xn
          · have d6 : decide (60000 < xn) = true := decide_eq_true hx6
            have a0 := (KA8.out.cell 0 rfl)
            have a1 := (KA8.out.cell 1 rfl)
            have a2 := (KA8.out.cell 2 rfl)
            have a3 := (KA8.out.cell 3 rfl)
            have a4 := (KA8.out.cell 4 rfl)
            have a5 := (KA8.out.cell 5 rfl)
            have a6 := (KA8.out.cell 6 rfl)
            go_wp2_with fail
            refine (aawake_any _ (T.out.on H8.out)).mono ?_
            rintro e w9 ⟨rfl, hb⟩
            have H9 := Lib.hid (bel_on H8.out hb)
            clear hb a0 a1 a2 a3 a4 a5 a6
            go_wp2_with fail
            go_ret
            exact ⟨rfl, H9.out⟩
          · have d6 : decide (60000 < xn) = false := decide_eq_false hx6
            by_cases hy6 : 60000 < yn
            · have d7 : decide (60000 < yn) = true := decide_eq_true hy6
              have b0 := (KB8.out.cell 0 rfl)
              have b1 := (KB8.out.cell 1 rfl)
              have b2 := (KB8.out.cell 2 rfl)
              have b3 := (KB8.out.cell 3 rfl)
              have b4 := (KB8.out.cell 4 rfl)
              have b5 := (KB8.out.cell 5 rfl)
              have b6 := (KB8.out.cell 6 rfl)
              have a0 := (KA8.out.cell 0 rfl)
              have a1 := (KA8.out.cell 1 rfl)
              have a2 := (KA8.out.cell 2 rfl)
              have a3 := (KA8.out.cell 3 rfl)
              have a4 := (KA8.out.cell 4 rfl)
              have a5 := (KA8.out.cell 5 rfl)
              have a6 := (KA8.out.cell 6 rfl)
              go_wp2_with fail
              refine (aawake_any _ (T.out.on H8.out)).mono ?_
              rintro e w9 ⟨rfl, hb⟩
              have H9 := Lib.hid (bel_on H8.out hb)
              clear hb a0 a1 a2 a3 a4 a5 a6
              go_wp2_with fail
              go_ret
              exact ⟨rfl, H9.out⟩
            · have d7 : decide (60000 < yn) = false := decide_eq_false hy6
              have hk0 : 0 ≤ k ∧ k ≤ 60000 := by have := HK.out; omega
              have HQ := Lib.hid (HP.out hk0.1 hk0.2)
              have hgk : rightA g k (m : Int) = true := rightA_mk (by have := HG.out; omega) (by omega) (by omega)
              have a0 := (KA8.out.cell 0 rfl)
              have a1 := (KA8.out.cell 1 rfl)
              have a2 := (KA8.out.cell 2 rfl)
              have a3 := (KA8.out.cell 3 rfl)
              have a4 := (KA8.out.cell 4 rfl)
              have a5 := (KA8.out.cell 5 rfl)
              have a6 := (KA8.out.cell 6 rfl)
              have b0 := (KB8.out.cell 0 rfl)
              have b1 := (KB8.out.cell 1 rfl)
              have b2 := (KB8.out.cell 2 rfl)
              have b3 := (KB8.out.cell 3 rfl)
              have b4 := (KB8.out.cell 4 rfl)
              have b5 := (KB8.out.cell 5 rfl)
              have b6 := (KB8.out.cell 6 rfl)
              go_upto_region 14 with fail
              clear a0 a1 a2 a3 a4 a5 a6 b0 b1 b2 b3 b4 b5 b6
              go_loopw [89] (fun v wr => ∃ i : Nat, v = .int .i64 (i : Int) ∧ i ≤ 8 ∧ Below w8.heap.size w8 wr) (fun v _ => (8 - intOf v).toNat)
              case atStart => exact ⟨0, rfl, by omega, Below.refl _ _⟩
              case round =>
                obtain ⟨j, rfl, hj, hr⟩ := hrel
                have HR := Lib.hid hr
                have HB := Lib.hid (bel_on H8.out hr)
                clear hr
                have KA9 := Lib.hid (KA8.out.on HR.out)
                have KB9 := Lib.hid (KB8.out.on HR.out)
                have KC9 := Lib.hid (KC8.out.on HR.out)
                by_cases h8 : j < 8
                · have hq := HQ.out (k + (j : Int)) (by omega) (by omega)
                  have SA := Lib.hid (ahas_any xf (x0 : Int) (x1 : Int) (x2 : Int) (x3 : Int) xn xs (k + (j : Int)) (by omega) (by omega))
                  obtain ⟨r1, hr1⟩ : ∃ r, AcksF.hasB xn xs (k + (j : Int)) = r := ⟨_, rfl⟩
                  rw [hr1] at SA hq
                  have SB := Lib.hid (ahas_any yf (y0 : Int) (y1 : Int) (y2 : Int) (y3 : Int) yn ys (k + (j : Int)) (by omega) (by omega))
                  obtain ⟨r2, hr2⟩ : ∃ r, AcksF.hasB yn ys (k + (j : Int)) = r := ⟨_, rfl⟩
                  rw [hr2] at SB hq
                  have SC := Lib.hid (ahas_any g p0 p1 p2 p3 k (m : Int) (k + (j : Int)) (by omega) (by omega))
                  rw [hq] at SC
                  clear hq hr1 hr2
                  have TT := Lib.hid (T.out.on HB.out)
                  have c5 := KC9.out.cell 5 rfl
                  go_upto_region 17 with fail
                  clear c5
                  have a0 := cell_regrown (KA9.out.cell 0 rfl)
                  have a1 := cell_regrown (KA9.out.cell 1 rfl)
                  have a2 := cell_regrown (KA9.out.cell 2 rfl)
                  have a3 := cell_regrown (KA9.out.cell 3 rfl)
                  have a4 := cell_regrown (KA9.out.cell 4 rfl)
                  have a5 := cell_regrown (KA9.out.cell 5 rfl)
                  have a6 := cell_regrown (KA9.out.cell 6 rfl)
                  have b0 := cell_regrown (KB9.out.cell 0 rfl)
                  have b1 := cell_regrown (KB9.out.cell 1 rfl)
                  have b2 := cell_regrown (KB9.out.cell 2 rfl)
                  have b3 := cell_regrown (KB9.out.cell 3 rfl)
                  have b4 := cell_regrown (KB9.out.cell 4 rfl)
                  have b5 := cell_regrown (KB9.out.cell 5 rfl)
                  have b6 := cell_regrown (KB9.out.cell 6 rfl)
                  have c0 := cell_regrown (KC9.out.cell 0 rfl)
                  have c1 := cell_regrown (KC9.out.cell 1 rfl)
                  have c2 := cell_regrown (KC9.out.cell 2 rfl)
                  have c3 := cell_regrown (KC9.out.cell 3 rfl)
                  have c4 := cell_regrown (KC9.out.cell 4 rfl)
                  have c5 := cell_regrown (KC9.out.cell 5 rfl)
                  have c6 := cell_regrown (KC9.out.cell 6 rfl)
                  rcases r1 with _ | _
                  · rcases r2 with _ | _
                    · refine wp_region_quiet_below (by kernel_rfl) (by kernel_rfl) ?_
                      repeat (first | go_big_quiet_step (first | with_reducible exact SC.out.at TT.out _ _ | with_reducible exact SA.out.at TT.out _ _ | with_reducible exact SB.out.at TT.out _ _) | quiet_step (first | with_reducible exact SC.out.at TT.out _ _ | with_reducible exact SA.out.at TT.out _ _ | with_reducible exact SB.out.at TT.out _ _))
                      refine wpQuiet_nil ?_
                      intro _ hw'
                      obtain ⟨⟨dq, osq⟩, hw''⟩ := hw'
                      subst hw''
                      go_wp2_with fail
                      go_roundw
                      case rel => exact ⟨j + 1, by go_num, by omega, bel_on HR.out (below_regrown _ dq osq)⟩
                      case measure => simp [intOf]; omega
                    · refine wp_region_quiet_below (by kernel_rfl) (by kernel_rfl) ?_
                      repeat (first | go_big_quiet_step (first | with_reducible exact SC.out.at TT.out _ _ | with_reducible exact SA.out.at TT.out _ _ | with_reducible exact SB.out.at TT.out _ _) | quiet_step (first | with_reducible exact SC.out.at TT.out _ _ | with_reducible exact SA.out.at TT.out _ _ | with_reducible exact SB.out.at TT.out _ _))
                      refine wpQuiet_nil ?_
                      intro _ hw'
                      obtain ⟨⟨dq, osq⟩, hw''⟩ := hw'
                      subst hw''
                      go_wp2_with fail
                      go_roundw
                      case rel => exact ⟨j + 1, by go_num, by omega, bel_on HR.out (below_regrown _ dq osq)⟩
                      case measure => simp [intOf]; omega
                  · refine wp_region_quiet_below (by kernel_rfl) (by kernel_rfl) ?_
                    repeat (first | go_big_quiet_step (first | with_reducible exact SC.out.at TT.out _ _ | with_reducible exact SA.out.at TT.out _ _ | with_reducible exact SB.out.at TT.out _ _) | quiet_step (first | with_reducible exact SC.out.at TT.out _ _ | with_reducible exact SA.out.at TT.out _ _ | with_reducible exact SB.out.at TT.out _ _))
                    refine wpQuiet_nil ?_
                    intro _ hw'
                    obtain ⟨⟨dq, osq⟩, hw''⟩ := hw'
                    subst hw''
                    go_wp2_with fail
                    go_roundw
                    case rel => exact ⟨j + 1, by go_num, by omega, bel_on HR.out (below_regrown _ dq osq)⟩
                    case measure => simp [intOf]; omega
                · obtain rfl : j = 8 := by omega
                  have RC := Lib.hid (aright_any g p0 p1 p2 p3 k (m : Int))
                  rw [hgk] at RC
                  have a0 := (KA9.out.cell 0 rfl)
                  have a1 := (KA9.out.cell 1 rfl)
                  have a2 := (KA9.out.cell 2 rfl)
                  have a3 := (KA9.out.cell 3 rfl)
                  have a4 := (KA9.out.cell 4 rfl)
                  have a5 := (KA9.out.cell 5 rfl)
                  have a6 := (KA9.out.cell 6 rfl)
                  have b0 := (KB9.out.cell 0 rfl)
                  have b1 := (KB9.out.cell 1 rfl)
                  have b2 := (KB9.out.cell 2 rfl)
                  have b3 := (KB9.out.cell 3 rfl)
                  have b4 := (KB9.out.cell 4 rfl)
                  have b5 := (KB9.out.cell 5 rfl)
                  have b6 := (KB9.out.cell 6 rfl)
                  have c0 := (KC9.out.cell 0 rfl)
                  have c1 := (KC9.out.cell 1 rfl)
                  have c2 := (KC9.out.cell 2 rfl)
                  have c3 := (KC9.out.cell 3 rfl)
                  have c4 := (KC9.out.cell 4 rfl)
                  have c5 := (KC9.out.cell 5 rfl)
                  have c6 := (KC9.out.cell 6 rfl)
                  go_upto_region 20 with fail
                  rcases HK.out with ⟨hlt, hke⟩ | ⟨hlt, hke⟩
                  · have m1 : max xn yn = k := by omega
                    have m2 : decide (xn < yn) = true := decide_eq_true hlt
                    have m3 : (k == yn) = true := by simpa using hke
                    have m4 : decide (yn ≤ xn) = false := decide_eq_false (by omega)
                    have m5 : decide (xn ≤ yn) = true := decide_eq_true (by omega)
                    have m6 : decide (yn < xn) = false := decide_eq_false (by omega)
                    clear hke
                    go_wp2_with fail
                    refine (RC.out _).mono ?_
                    rintro e w10 ⟨rfl, hb⟩
                    have HE := Lib.hid (bel_on HB.out hb)
                    clear hb a0 a1 a2 a3 a4 a5 a6 b0 b1 b2 b3 b4 b5 b6 c0 c1 c2 c3 c4 c5 c6
                    go_wp2_with fail
                    refine (aawake_any _ (T.out.on HE.out)).mono ?_
                    rintro e w11 ⟨rfl, hb⟩
                    have HF := Lib.hid (bel_on HE.out hb)
                    clear hb
                    go_wp2_with fail
                    go_ret
                    exact ⟨rfl, HF.out⟩
                  · have m1 : max xn yn = k := by omega
                    have m2 : decide (xn < yn) = false := decide_eq_false (by omega)
                    have m3 : (k == xn) = true := by simpa using hke
                    have m4 : decide (yn ≤ xn) = true := decide_eq_true (by omega)
                    clear hke
                    go_wp2_with fail
                    refine (RC.out _).mono ?_
                    rintro e w10 ⟨rfl, hb⟩
                    have HE := Lib.hid (bel_on HB.out hb)
                    clear hb a0 a1 a2 a3 a4 a5 a6 b0 b1 b2 b3 b4 b5 b6 c0 c1 c2 c3 c4 c5 c6
                    go_wp2_with fail
                    refine (aawake_any _ (T.out.on HE.out)).mono ?_
                    rintro e w11 ⟨rfl, hb⟩
                    have HF := Lib.hid (bel_on HE.out hb)
                    clear hb
                    go_wp2_with fail
                    go_ret
                    exact ⟨rfl, HF.out⟩

set_option maxRecDepth 100000 in
theorem lifted (os : Os) (started : os.Started) (H : Type) (enc : TypeId × Value → H) :
    ReturnsInHanded {} Tryd.checked os 4 .any (fun w args => (Rows.acksBothSpec.pre enc Tryd.prog Tryd.f4 [] false w args ∧ laidMetH Tryd.prog laidOne w) ∧ sizedMet enc Tryd.prog Tryd.f4 (OpenSpec.ofChange Rows.acksBothSpec) false w args) (Rows.acksBothSpec.post enc Tryd.prog Tryd.f4 false true false false) := by
  refine returnsInHanded_of_change_and (C := Tryd.checked) (X := fun w _ => laidMetH Tryd.prog laidOne w) (fun _ _ _ hh h => h.of_heap hh) own started (by kernel_rfl) Tryd.func4
    (ChangeSpec.witness_shaped (enc := enc) (C := Tryd.checked) (os := os) (X := fun w _ => laidMetH Tryd.prog laidOne w) false (World.doorLaid Tryd.prog 14 os) #[.agg #[.int .i64 0, .int .u32 0, .int .u32 0, .int .u32 0, .int .u32 0, .int .i64 0, .int .i64 0], .agg #[.int .i64 0, .int .u32 0, .int .u32 0, .int .u32 0, .int .u32 0, .int .i64 0, .int .i64 0]] 8 rfl (World.shaped_of_RefB (by kernel_rfl) (by kernel_rfl)) (by kernel_rfl) (by kernel_rfl) (by kernel_rfl) (door_met os _)) ?_
  intro W base args ds gs before hval0 hW _ _ hL _
  have tab := of_laid hL
  have hval : ∀ (j : Nat) t v, Tryd.f4.params[j]? = some t → args[j]? = some v → Value.okWide Tryd.prog W .any base t v := hval0
  have hW' := hW
  obtain ⟨p, q, hA0, hV, rfl, hfz, hnd⟩ := hW
  have hA : DataW.TrodAll enc Tryd.prog W 0 (fun _ => true) true Tryd.f4.params.toList args.toList ds p := hA0
  rw [Tryd.params4] at hA hval
  obtain ⟨v0, vs0, d0, ds0, p0, q0, hargs, rfl, rfl, h0, r0⟩ := trodAll_cons hA
  obtain ⟨v1, vs1, d1, ds1, p1, q1, rfl, rfl, rfl, h1, r1⟩ := trodAll_cons r0
  obtain ⟨rfl, rfl, rfl⟩ := trodAll_nil r1
  obtain rfl : args = #[v0, v1] := by cases args; simp_all
  obtain ⟨rfl, rfl⟩ := trodVars_none hV
  have k0 := h0
  have lt0 : ∀ x ∈ p0, x.block < W.heap.size := by obtain ⟨m, hm⟩ := k0; exact DataW.trod_lt m _ _ _ hm
  have k1 := h1
  have lt1 : ∀ x ∈ p1, x.block < W.heap.size := by obtain ⟨m, hm⟩ := k1; exact DataW.trod_lt m _ _ _ hm
  obtain ⟨xf, x0, x1, x2, x3, xn, xs, rfl, hfx, hpx, hnx, hsx⟩ := open_ack Tryd.underlying30 Tryd.underlying3 rfl rfl Tryd.underlying28 Tryd.underlying26 rfl Tryd.underlying24 Tryd.underlying24 rfl rfl (by kernel_rfl) (by kernel_rfl) (by kernel_rfl) rfl rfl (by kernel_rfl) rfl rfl rfl rfl (by kernel_rfl) (by kernel_rfl) (hval 0 30 v0 rfl rfl) h0
  obtain ⟨yf, y0, y1, y2, y3, yn, ys, rfl, hfy, hpy, hny, hsy⟩ := open_ack Tryd.underlying30 Tryd.underlying3 rfl rfl Tryd.underlying28 Tryd.underlying26 rfl Tryd.underlying24 Tryd.underlying24 rfl rfl (by kernel_rfl) (by kernel_rfl) (by kernel_rfl) rfl rfl (by kernel_rfl) rfl rfl rfl rfl (by kernel_rfl) (by kernel_rfl) (hval 1 30 v1 rfl rfl) h1
  clear hA0 hval0
  refine (walk xf x0 x1 x2 x3 xn xs yf y0 y1 y2 y3 yn ys hnx hny W tab).mono fun e W' ⟨he, bel⟩ => ?_
  subst he
  exact ⟨_, rfl, _, _, _, [], _, [], hW', trodAll_mk1 (shut_bool Tryd.underlying4 _),
    (trodAll_cons_mk (Below.trod laidOut (by kernel_rfl) (of_decide_eq_true (by kernel_rfl)) k0 bel lt0)
    (trodAll_cons_mk (Below.trod laidOut (by kernel_rfl) (of_decide_eq_true (by kernel_rfl)) k1 bel lt1)
    trodAll_mk0)), rfl, bel.frame _, fun h => by cases h⟩

theorem proved : Rows.AcksBothSaid :=
  OpenClaim.holds_of_wide 4 Tryd.f4 rfl rfl rfl rfl rfl rfl rfl ⟨rfl, rfl, rfl, rfl, rfl⟩ rfl rfl rfl rfl rfl (by kernel_rfl) Tryd.func4 (by kernel_rfl)
    (of_decide_eq_true (by kernel_rfl)) (by unfold Func.isWrapper; first | (rw [if_pos (by decide +kernel)]; kernel_rfl) | (rw [if_neg (by decide +kernel)]; exact ⟨rfl, rfl⟩))
    (fun os started H enc _ => lifted os started H enc)

theorem card : Rows.AcksBothCardSaid :=
  Claim7.holds_tied_plain_at .later [] [.data] true Rows.acksBothCard.stood.harness Rows.acksBothCard.stood.looks
    proved (fun _ h => by cases h) (by kernel_rfl) (fun _ h => by cases h) acksBoth_row_tie rfl ⟨rfl, rfl⟩ (by kernel_rfl) rfl
    (fun f fn hf hfn => by
      obtain rfl : f = 4 := Option.some.inj ((show Tryd.prog.funcNamed "fingerpost/fingerpostlaw09.AcksBoth" = some 4 by kernel_rfl).symm.trans hf) |>.symm
      obtain rfl : fn = Tryd.f4 := (Option.some.inj (Tryd.func4.symm.trans hfn)).symm
      exact ⟨by kernel_rfl, fun j t ht => by
        rw [Tryd.params4] at ht
        have hm : t ∈ [30, 30] := by simpa using Array.mem_of_getElem? ht
        have hall : ([30, 30].all fun u => !Tryd.prog.wantsStandIn u) = true := by kernel_rfl
        exact (show Tryd.prog.wantsStandIn t = false by simpa using List.all_eq_true.1 hall t hm)⟩)
    (by kernel_rfl)
end Go.Proofs.YtaamlmahhkoleaaDoor.acksBoth
