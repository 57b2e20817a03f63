/- ParcelBack: for every parcel and every text ParcelBack answers true and leaves its arguments as they were. No condition. -/
import Derived.Test.YtdpcpjloacifpaaRows
import Derived.Test.YtdpcpjloacifpaaParcAw
import Derived.Test.YtdpcpjloacifpaaParcOpen
import Derived.ProofKit
import Derived.OpenShut
import Derived.ShutString
import Derived.ChangeOld
import Derived.Carry
namespace Go.Proofs.Ytdpcpjloacifpaa.parcelBack
open Go.Sort Go.ChangeShapes Go.WideShapes Go.ChangeAt Go.RowKit
open Go.ChangeMaps (open_string shut_string)

theorem own : ownKnob Try.prog.godebug = none := by kernel_rfl
theorem laidOut : laidOutB Try.prog = true := by kernel_rfl

/-- What Bytes answers, and what Read then does. -/
theorem back_both (f s e t : Int) (a b c d : Nat) (x : ByteArray) (hx : x.size ≤ maxLen) (ha : a < 4294967296) (hb : b < 4294967296) (hc : c < 4294967296) (hd : d < 4294967296) :
    ∃ (bs : ByteArray) (er : Int), Gives Try.prog 6 #[(.agg #[.int .i64 f, .int .u32 (a : Int), .int .u32 (b : Int), .int .u32 (c : Int), .int .u32 (d : Int), .int .i64 s, .int .i64 e, .int .i64 t, .string x] : Value)] (.tuple #[.string bs, .int .i64 er]) ∧
      (er ≠ 0 ∨ (er = 0 ∧ (1 ≤ t ∧ t ≤ 64) ∧ Gives Try.prog 7 #[.string bs] (.tuple #[(.agg #[.int .i64 f, .int .u32 (a : Int), .int .u32 (b : Int), .int .u32 (c : Int), .int .u32 (d : Int), .int .i64 s, .int .i64 e, .int .i64 t, .string x] : Value), .int .i64 0]))) := by
  cases h : rightP f s e t x.size with
  | false => exact ⟨_, 1, pbytes_bad _ _ _ _ _ _ _ _ _ hx h, .inl (by omega)⟩
  | true =>
    obtain ⟨hf, hs, he, ht, hz⟩ := rightP_in h
    obtain ⟨f, rfl⟩ := Int.eq_ofNat_of_zero_le hf.1
    obtain ⟨s, rfl⟩ := Int.eq_ofNat_of_zero_le hs.1
    obtain ⟨e, rfl⟩ := Int.eq_ofNat_of_zero_le he.1
    obtain ⟨t, rfl⟩ := Int.eq_ofNat_of_zero_le (show 0 ≤ t by omega)
    exact ⟨_, 0, pbytes_ok f a b c d s e t x h ha hb hc hd, .inr ⟨rfl, ht, pback_write f a b c d s e t x h ha hb hc hd⟩⟩

theorem meas (j : Nat) (h : j < 70) (v : Int) (hv : v = wrap64 ((j : Int) + 1)) : (70 - intOf (.int .i64 v)).toNat < (70 - intOf (.int .i64 (j : Int))).toNat := by
  rw [IntWalk.wrap64_in _ (by omega)] at hv
  subst hv
  simp [intOf]; omega

set_option maxRecDepth 100000 in
set_option maxHeartbeats 4000000 in
theorem walk (f : Int) (a b c d : Nat) (s e t : Int) (x z : ByteArray) (hp : a < 4294967296 ∧ b < 4294967296 ∧ c < 4294967296 ∧ d < 4294967296) (hx : x.size ≤ maxLen) (hz : z.size ≤ maxLen) (w : World) :
    Calls Try.prog 3 #[(.agg #[.int .i64 f, .int .u32 (a : Int), .int .u32 (b : Int), .int .u32 (c : Int), .int .u32 (d : Int), .int .i64 s, .int .i64 e, .int .i64 t, .string x] : Value), .string z] w fun e w' => e = .returned (.bool true) ∧ Below w.heap.size w w' := by
  have HB : Hid (Below w.heap.size w (w.alloc (.cells #[.int .i64 f, .int .u32 (a : Int), .int .u32 (b : Int), .int .u32 (c : Int), .int .u32 (d : Int), .int .i64 s, .int .i64 e, .int .i64 t, .string x] 28))) := Lib.hid ((Below.refl _ _).alloc (Nat.le_refl _) _)
  have AW := Lib.hid pawake_any
  by_cases hb1 : 500 < x.size
  · have g1 : decide ((500 : Int) < (x.size : Int)) = true := decide_eq_true (by omega)
    clear hb1 hx hz hp
    go_enter Try.func3, Try.ntmps3
    go_wp2_with fail
    refine (AW.out _).mono ?_
    rintro e w1 ⟨rfl, hb⟩
    go_wp2_with fail
    go_ret
    exact ⟨rfl, bel_on HB.out hb⟩
  have g1 : decide ((500 : Int) < (x.size : Int)) = false := decide_eq_false (by omega)
  by_cases hb2 : 500 < z.size
  · have g2 : decide ((500 : Int) < (z.size : Int)) = true := decide_eq_true (by omega)
    clear hb1 hb2 hx hz hp
    go_enter Try.func3, Try.ntmps3
    go_wp2_with fail
    refine (AW.out _).mono ?_
    rintro e w1 ⟨rfl, hb⟩
    go_wp2_with fail
    go_ret
    exact ⟨rfl, bel_on HB.out hb⟩
  have g2 : decide ((500 : Int) < (z.size : Int)) = false := decide_eq_false (by omega)
  obtain ⟨bs, er, hB, hO⟩ := back_both f s e t a b c d x hx hp.1 hp.2.1 hp.2.2.1 hp.2.2.2
  obtain ⟨f0, a0, b0, c0, d0, q0, r0, t0, x0, xe, hR, hS⟩ := pback_read z hz
  have BY := Lib.hid hB
  have BO := Lib.hid hO
  have RD := Lib.hid hR
  have RO := Lib.hid hS
  have NE : ∀ w, (binOp .neq 28 (.agg #[.int .i64 f, .int .u32 (a : Int), .int .u32 (b : Int), .int .u32 (c : Int), .int .u32 (d : Int), .int .i64 s, .int .i64 e, .int .i64 t, .string x] : Value) (.agg #[.int .i64 f, .int .u32 (a : Int), .int .u32 (b : Int), .int .u32 (c : Int), .int .u32 (d : Int), .int .i64 s, .int .i64 e, .int .i64 t, .string x] : Value)).run Try.prog w = .ok (.bool false) w := fun w => by
    rw [run_parcel_ne, sameP_refl]; rfl
  clear hB hO hR hS hb1 hb2 hx hz hp HB
  go_enter Try.func3, Try.ntmps3
  have h := Lib.hid (Below.refl w.heap.size w)
  go_wp2_with fail
  refine (BY.out _).mono ?_
  rintro e w1 ⟨rfl, hb⟩
  have b_p : Blk w1 w.heap.size [.int .i64 f, .int .u32 (a : Int), .int .u32 (b : Int), .int .u32 (c : Int), .int .u32 (d : Int), .int .i64 s, .int .i64 e, .int .i64 t, .string x] := (Blk.new w [.int .i64 f, .int .u32 (a : Int), .int .u32 (b : Int), .int .u32 (c : Int), .int .u32 (d : Int), .int .i64 s, .int .i64 e, .int .i64 t, .string x] 28).on hb
  have h' := bel_on ((h.out).alloc (h.out).size _) hb
  clear hb h
  have B_p := Lib.hid b_p
  have h := Lib.hid h'
  clear h' b_p
  go_upto_if 33 with fail
  go_cut [] (fun wx => Below w.heap.size w wx)
  case first =>
    rcases BO.out with hx | ⟨rfl, ht, hR⟩
    · have hx' : (er == 0) = false := by simpa using hx
      clear hx
      go_wp2_with fail
      go_meet
      exact h.out
    · have RB := Lib.hid hR
      clear hR BO
      go_wp2_with fail
      refine (RB.out _).mono ?_
      rintro e w2 ⟨rfl, hb⟩
      have b_p : Blk w2 w.heap.size [.int .i64 f, .int .u32 (a : Int), .int .u32 (b : Int), .int .u32 (c : Int), .int .u32 (d : Int), .int .i64 s, .int .i64 e, .int .i64 t, .string x] := B_p.out.on hb
      have h' := bel_on h.out hb
      clear hb h B_p
      have B_p := Lib.hid b_p
      have h := Lib.hid h'
      clear h' b_p
      have c_p0 := (B_p.out.next (.cells #[.int .i64 f, .int .u32 (a : Int), .int .u32 (b : Int), .int .u32 (c : Int), .int .u32 (d : Int), .int .i64 s, .int .i64 e, .int .i64 t, .string x] 28)).cell 0 rfl
      have c_p1 := (B_p.out.next (.cells #[.int .i64 f, .int .u32 (a : Int), .int .u32 (b : Int), .int .u32 (c : Int), .int .u32 (d : Int), .int .i64 s, .int .i64 e, .int .i64 t, .string x] 28)).cell 1 rfl
      have c_p2 := (B_p.out.next (.cells #[.int .i64 f, .int .u32 (a : Int), .int .u32 (b : Int), .int .u32 (c : Int), .int .u32 (d : Int), .int .i64 s, .int .i64 e, .int .i64 t, .string x] 28)).cell 2 rfl
      have c_p3 := (B_p.out.next (.cells #[.int .i64 f, .int .u32 (a : Int), .int .u32 (b : Int), .int .u32 (c : Int), .int .u32 (d : Int), .int .i64 s, .int .i64 e, .int .i64 t, .string x] 28)).cell 3 rfl
      have c_p4 := (B_p.out.next (.cells #[.int .i64 f, .int .u32 (a : Int), .int .u32 (b : Int), .int .u32 (c : Int), .int .u32 (d : Int), .int .i64 s, .int .i64 e, .int .i64 t, .string x] 28)).cell 4 rfl
      have c_p5 := (B_p.out.next (.cells #[.int .i64 f, .int .u32 (a : Int), .int .u32 (b : Int), .int .u32 (c : Int), .int .u32 (d : Int), .int .i64 s, .int .i64 e, .int .i64 t, .string x] 28)).cell 5 rfl
      have c_p6 := (B_p.out.next (.cells #[.int .i64 f, .int .u32 (a : Int), .int .u32 (b : Int), .int .u32 (c : Int), .int .u32 (d : Int), .int .i64 s, .int .i64 e, .int .i64 t, .string x] 28)).cell 6 rfl
      have c_p7 := (B_p.out.next (.cells #[.int .i64 f, .int .u32 (a : Int), .int .u32 (b : Int), .int .u32 (c : Int), .int .u32 (d : Int), .int .i64 s, .int .i64 e, .int .i64 t, .string x] 28)).cell 7 rfl
      have c_p8 := (B_p.out.next (.cells #[.int .i64 f, .int .u32 (a : Int), .int .u32 (b : Int), .int .u32 (c : Int), .int .u32 (d : Int), .int .i64 s, .int .i64 e, .int .i64 t, .string x] 28)).cell 8 rfl
      go_upto_region 10 with fail
      clear c_p0 c_p1 c_p2 c_p3 c_p4 c_p5 c_p6 c_p7 c_p8
      go_loopw [9, 10] (fun v u wr => ∃ (j : Nat) (g m : Int), 1 ≤ m ∧ m ≤ t - (j : Int) ∧ t - (j : Int) ≤ m ∧ v = .int .i64 (j : Int) ∧ u = .int .i64 (j : Int) ∧ Below w.heap.size w wr ∧ Blk wr w.heap.size [.int .i64 f, .int .u32 (a : Int), .int .u32 (b : Int), .int .u32 (c : Int), .int .u32 (d : Int), .int .i64 s, .int .i64 e, .int .i64 t, .string x] ∧ Blk wr w2.heap.size [.int .i64 g, .int .u32 (a : Int), .int .u32 (b : Int), .int .u32 (c : Int), .int .u32 (d : Int), .int .i64 s, .int .i64 e, .int .i64 m, .string x]) (fun _ u _ => (70 - intOf u).toNat)
      case atStart => exact ⟨0, f, t, by omega, by omega, by omega, rfl, rfl, ((h.out).alloc (h.out).size _), (B_p.out.next (.cells #[.int .i64 f, .int .u32 (a : Int), .int .u32 (b : Int), .int .u32 (c : Int), .int .u32 (d : Int), .int .i64 s, .int .i64 e, .int .i64 t, .string x] 28)), (Blk.new w2 [.int .i64 f, .int .u32 (a : Int), .int .u32 (b : Int), .int .u32 (c : Int), .int .u32 (d : Int), .int .i64 s, .int .i64 e, .int .i64 t, .string x] 28)⟩
      case round =>
        have hne : w.heap.size ≠ w2.heap.size := Nat.ne_of_lt B_p.out.lt
        have hle : w.heap.size ≤ w2.heap.size := Nat.le_of_lt B_p.out.lt
        clear h B_p
        obtain ⟨j, g, m, h1, h2, h3, rfl, rfl, hbl, hbp, hbx⟩ := hrel
        have d1 : decide ((j : Int) < 70) = true := decide_eq_true (by omega)
        have h := Lib.hid hbl
        have B_p := Lib.hid hbp
        have B_x := Lib.hid hbx
        clear hbl hbp hbx
        by_cases hm : 1 < m
        · have HJ : Hid (j < 70) := Lib.hid (by omega)
          have HY := Lib.hid (hop_yes g a b c d s e m x 1 a b c d hm (by omega))
          have e1 : wrap64 ((j : Int) + 1) = (j : Int) + 1 := IntWalk.wrap64_in _ (by omega)
          obtain ⟨k, hk⟩ : ∃ k, m - 1 = k := ⟨_, rfl⟩
          rw [hk] at HY
          have HM := Lib.hid h1
          have HN := Lib.hid h2
          have HO := Lib.hid h3
          have HK := Lib.hid hk
          have HG := Lib.hid hm
          clear h1 h2 h3 hk hm
          have c_x0 := B_x.out.cell 0 rfl
          have c_x1 := B_x.out.cell 1 rfl
          have c_x2 := B_x.out.cell 2 rfl
          have c_x3 := B_x.out.cell 3 rfl
          have c_x4 := B_x.out.cell 4 rfl
          have c_x5 := B_x.out.cell 5 rfl
          have c_x6 := B_x.out.cell 6 rfl
          have c_x7 := B_x.out.cell 7 rfl
          have c_x8 := B_x.out.cell 8 rfl
          have c_p1 := B_p.out.cell 1 rfl
          have c_p2 := B_p.out.cell 2 rfl
          have c_p3 := B_p.out.cell 3 rfl
          have c_p4 := B_p.out.cell 4 rfl
          go_wp2_with fail
          refine (HY.out _).mono ?_
          rintro e w3 ⟨rfl, hb⟩
          clear c_x0 c_x1 c_x2 c_x3 c_x4 c_x5 c_x6 c_x7 c_x8 c_p1 c_p2 c_p3 c_p4
          have b_p : Blk w3 w.heap.size [.int .i64 f, .int .u32 (a : Int), .int .u32 (b : Int), .int .u32 (c : Int), .int .u32 (d : Int), .int .i64 s, .int .i64 e, .int .i64 t, .string x] := B_p.out.on hb
          have b_x : Blk w3 w2.heap.size [.int .i64 g, .int .u32 (a : Int), .int .u32 (b : Int), .int .u32 (c : Int), .int .u32 (d : Int), .int .i64 s, .int .i64 e, .int .i64 m, .string x] := B_x.out.on hb
          have h' := bel_on h.out hb
          clear hb h B_p B_x
          have B_p := Lib.hid b_p
          have B_x := Lib.hid b_x
          have h := Lib.hid h'
          clear h' b_p b_x
          have c_x0 := B_x.out.cell 0 rfl
          have c_x1 := B_x.out.cell 1 rfl
          have c_x2 := B_x.out.cell 2 rfl
          have c_x3 := B_x.out.cell 3 rfl
          have c_x4 := B_x.out.cell 4 rfl
          have c_x5 := B_x.out.cell 5 rfl
          have c_x6 := B_x.out.cell 6 rfl
          have c_x7 := B_x.out.cell 7 rfl
          have c_x8 := B_x.out.cell 8 rfl
          have c_p5 := B_p.out.cell 5 rfl
          have c_p6 := B_p.out.cell 6 rfl
          have c_p8 := B_p.out.cell 8 rfl
          have t0 := B_x.out.thaw 0
          have t1 := B_x.out.thaw 1
          have t2 := B_x.out.thaw 2
          have t3 := B_x.out.thaw 3
          have t4 := B_x.out.thaw 4
          have t5 := B_x.out.thaw 5
          have t6 := B_x.out.thaw 6
          have t7 := B_x.out.thaw 7
          have t8 := B_x.out.thaw 8
          have K := Lib.hid (((((((((B_x.out.set 0 (.int .i64 1)).set 1 (.int .u32 (a : Int))).set 2 (.int .u32 (b : Int))).set 3 (.int .u32 (c : Int))).set 4 (.int .u32 (d : Int))).set 5 (.int .i64 s)).set 6 (.int .i64 e)).set 7 (.int .i64 k)).set 8 (.string x))
          have KP := Lib.hid (((((((((B_p.out.other ⟨w2.heap.size, 0, none⟩ (.int .i64 1) hne).other ⟨w2.heap.size, 1, none⟩ (.int .u32 (a : Int)) hne).other ⟨w2.heap.size, 2, none⟩ (.int .u32 (b : Int)) hne).other ⟨w2.heap.size, 3, none⟩ (.int .u32 (c : Int)) hne).other ⟨w2.heap.size, 4, none⟩ (.int .u32 (d : Int)) hne).other ⟨w2.heap.size, 5, none⟩ (.int .i64 s) hne).other ⟨w2.heap.size, 6, none⟩ (.int .i64 e) hne).other ⟨w2.heap.size, 7, none⟩ (.int .i64 k) hne).other ⟨w2.heap.size, 8, none⟩ (.string x) hne)
          have hlo := B_x.out.lt
          have hlp := B_p.out.lt
          clear B_x B_p
          go_wp2_with fail
          have hsz : w.heap.size ≤ (w3).heap.size := h.out.size
          go_roundw
          case rel => exact ⟨j + 1, 1, k, by have := HG.out; have := HK.out; omega, by have := HN.out; have := HK.out; omega, by have := HO.out; have := HK.out; omega, by go_num, by go_num, (((((((((h.out.setCell hle _).setCell hle _).setCell hle _).setCell hle _).setCell hle _).setCell hle _).setCell hle _).setCell hle _).setCell hle _).alloc (by simpa using hsz) _, KP.out.next _, K.out.next _⟩
          case measure => exact meas j HJ.out _ rfl
        · have HY := Lib.hid (hop_no g a b c d s e m x 1 a b c d (by omega))
          have e9 : t - 1 = (j : Int) := by omega
          clear h1 h2 h3 hm
          have c_x0 := B_x.out.cell 0 rfl
          have c_x1 := B_x.out.cell 1 rfl
          have c_x2 := B_x.out.cell 2 rfl
          have c_x3 := B_x.out.cell 3 rfl
          have c_x4 := B_x.out.cell 4 rfl
          have c_x5 := B_x.out.cell 5 rfl
          have c_x6 := B_x.out.cell 6 rfl
          have c_x7 := B_x.out.cell 7 rfl
          have c_x8 := B_x.out.cell 8 rfl
          have c_p1 := B_p.out.cell 1 rfl
          have c_p2 := B_p.out.cell 2 rfl
          have c_p3 := B_p.out.cell 3 rfl
          have c_p4 := B_p.out.cell 4 rfl
          go_wp2_with fail
          refine (HY.out _).mono ?_
          rintro e w3 ⟨rfl, hb⟩
          clear c_x0 c_x1 c_x2 c_x3 c_x4 c_x5 c_x6 c_x7 c_x8 c_p1 c_p2 c_p3 c_p4
          have b_p : Blk w3 w.heap.size [.int .i64 f, .int .u32 (a : Int), .int .u32 (b : Int), .int .u32 (c : Int), .int .u32 (d : Int), .int .i64 s, .int .i64 e, .int .i64 t, .string x] := B_p.out.on hb
          have b_x : Blk w3 w2.heap.size [.int .i64 g, .int .u32 (a : Int), .int .u32 (b : Int), .int .u32 (c : Int), .int .u32 (d : Int), .int .i64 s, .int .i64 e, .int .i64 m, .string x] := B_x.out.on hb
          have h' := bel_on h.out hb
          clear hb h B_p B_x
          have B_p := Lib.hid b_p
          have B_x := Lib.hid b_x
          have h := Lib.hid h'
          clear h' b_p b_x
          have c_p7 := B_p.out.cell 7 rfl
          have hlp := B_p.out.lt
          go_wp2_with fail
          go_meet
          exact h.out.alloc h.out.size _
  case rest =>
    clear h B_p BO BY NE
    have H := Lib.hid hcut
    clear hcut
    rcases RO.out with hx | ⟨rfl, hB⟩
    · have hx' : (xe == 0) = false := by simpa using hx
      clear hx
      have h := H
      go_wp2_with fail
      refine (RD.out _).mono ?_
      rintro e w11 ⟨rfl, hb⟩
      have h' := bel_on h.out hb
      clear hb h
      have h := Lib.hid h'
      clear h'
      go_wp2_with fail
      refine (AW.out _).mono ?_
      rintro e w12 ⟨rfl, hb⟩
      have b_y : Blk w12 w11.heap.size [.int .i64 (f0 : Int), .int .u32 (a0 : Int), .int .u32 (b0 : Int), .int .u32 (c0 : Int), .int .u32 (d0 : Int), .int .i64 (q0 : Int), .int .i64 (r0 : Int), .int .i64 (t0 : Int), .string x0] := (Blk.new w11 [.int .i64 (f0 : Int), .int .u32 (a0 : Int), .int .u32 (b0 : Int), .int .u32 (c0 : Int), .int .u32 (d0 : Int), .int .i64 (q0 : Int), .int .i64 (r0 : Int), .int .i64 (t0 : Int), .string x0] 28).on hb
      have h' := bel_on ((h.out).alloc (h.out).size _) hb
      clear hb h
      have B_y := Lib.hid b_y
      have h := Lib.hid h'
      clear h' b_y
      go_wp2_with fail
      go_ret
      exact ⟨rfl, h.out⟩
    · have BB := Lib.hid hB
      have zz : (z.toList == z.toList) = true := by simp
      clear hB RO
      have h := H
      go_wp2_with fail
      refine (RD.out _).mono ?_
      rintro e w11 ⟨rfl, hb⟩
      have h' := bel_on h.out hb
      clear hb h
      have h := Lib.hid h'
      clear h'
      have c_y0 := (Blk.new w11 [.int .i64 (f0 : Int), .int .u32 (a0 : Int), .int .u32 (b0 : Int), .int .u32 (c0 : Int), .int .u32 (d0 : Int), .int .i64 (q0 : Int), .int .i64 (r0 : Int), .int .i64 (t0 : Int), .string x0] 28).cell 0 rfl
      have c_y1 := (Blk.new w11 [.int .i64 (f0 : Int), .int .u32 (a0 : Int), .int .u32 (b0 : Int), .int .u32 (c0 : Int), .int .u32 (d0 : Int), .int .i64 (q0 : Int), .int .i64 (r0 : Int), .int .i64 (t0 : Int), .string x0] 28).cell 1 rfl
      have c_y2 := (Blk.new w11 [.int .i64 (f0 : Int), .int .u32 (a0 : Int), .int .u32 (b0 : Int), .int .u32 (c0 : Int), .int .u32 (d0 : Int), .int .i64 (q0 : Int), .int .i64 (r0 : Int), .int .i64 (t0 : Int), .string x0] 28).cell 2 rfl
      have c_y3 := (Blk.new w11 [.int .i64 (f0 : Int), .int .u32 (a0 : Int), .int .u32 (b0 : Int), .int .u32 (c0 : Int), .int .u32 (d0 : Int), .int .i64 (q0 : Int), .int .i64 (r0 : Int), .int .i64 (t0 : Int), .string x0] 28).cell 3 rfl
      have c_y4 := (Blk.new w11 [.int .i64 (f0 : Int), .int .u32 (a0 : Int), .int .u32 (b0 : Int), .int .u32 (c0 : Int), .int .u32 (d0 : Int), .int .i64 (q0 : Int), .int .i64 (r0 : Int), .int .i64 (t0 : Int), .string x0] 28).cell 4 rfl
      have c_y5 := (Blk.new w11 [.int .i64 (f0 : Int), .int .u32 (a0 : Int), .int .u32 (b0 : Int), .int .u32 (c0 : Int), .int .u32 (d0 : Int), .int .i64 (q0 : Int), .int .i64 (r0 : Int), .int .i64 (t0 : Int), .string x0] 28).cell 5 rfl
      have c_y6 := (Blk.new w11 [.int .i64 (f0 : Int), .int .u32 (a0 : Int), .int .u32 (b0 : Int), .int .u32 (c0 : Int), .int .u32 (d0 : Int), .int .i64 (q0 : Int), .int .i64 (r0 : Int), .int .i64 (t0 : Int), .string x0] 28).cell 6 rfl
      have c_y7 := (Blk.new w11 [.int .i64 (f0 : Int), .int .u32 (a0 : Int), .int .u32 (b0 : Int), .int .u32 (c0 : Int), .int .u32 (d0 : Int), .int .i64 (q0 : Int), .int .i64 (r0 : Int), .int .i64 (t0 : Int), .string x0] 28).cell 7 rfl
      have c_y8 := (Blk.new w11 [.int .i64 (f0 : Int), .int .u32 (a0 : Int), .int .u32 (b0 : Int), .int .u32 (c0 : Int), .int .u32 (d0 : Int), .int .i64 (q0 : Int), .int .i64 (r0 : Int), .int .i64 (t0 : Int), .string x0] 28).cell 8 rfl
      go_wp2_with fail
      refine (BB.out _).mono ?_
      rintro e w12 ⟨rfl, hb⟩
      clear c_y0 c_y1 c_y2 c_y3 c_y4 c_y5 c_y6 c_y7 c_y8
      have b_y : Blk w12 w11.heap.size [.int .i64 (f0 : Int), .int .u32 (a0 : Int), .int .u32 (b0 : Int), .int .u32 (c0 : Int), .int .u32 (d0 : Int), .int .i64 (q0 : Int), .int .i64 (r0 : Int), .int .i64 (t0 : Int), .string x0] := (Blk.new w11 [.int .i64 (f0 : Int), .int .u32 (a0 : Int), .int .u32 (b0 : Int), .int .u32 (c0 : Int), .int .u32 (d0 : Int), .int .i64 (q0 : Int), .int .i64 (r0 : Int), .int .i64 (t0 : Int), .string x0] 28).on hb
      have h' := bel_on ((h.out).alloc (h.out).size _) hb
      clear hb h
      have B_y := Lib.hid b_y
      have h := Lib.hid h'
      clear h' b_y
      go_wp2_with fail
      refine (AW.out _).mono ?_
      rintro e w13 ⟨rfl, hb⟩
      have b_y : Blk w13 w11.heap.size [.int .i64 (f0 : Int), .int .u32 (a0 : Int), .int .u32 (b0 : Int), .int .u32 (c0 : Int), .int .u32 (d0 : Int), .int .i64 (q0 : Int), .int .i64 (r0 : Int), .int .i64 (t0 : Int), .string x0] := B_y.out.on hb
      have h' := bel_on h.out hb
      clear hb h B_y
      have B_y := Lib.hid b_y
      have h := Lib.hid h'
      clear h' b_y
      go_wp2_with fail
      go_ret
      exact ⟨rfl, h.out⟩


set_option maxRecDepth 100000 in
theorem lifted (os : Os) (started : os.Started) (H : Type) (enc : TypeId × Value → H) :
    ReturnsInHanded {} Try.checked os 3 .any (Rows.parcelBackSpec.pre6 enc Try.prog Try.f3 Rows.parcelBackRow.domain false) (Rows.parcelBackSpec.post enc Try.prog Try.f3 false true false false) := by
  refine returnsInHanded_of_change (C := Try.checked) own started (by kernel_rfl) Try.func3
    (ChangeSpec.witness6 (enc := enc) (C := Try.checked) false ⟨#[], #[.agg #[.int .i64 0, .int .u32 0, .int .u32 0, .int .u32 0, .int .u32 0, .int .i64 0, .int .i64 0, .int .i64 0, .string ByteArray.empty], .string ByteArray.empty], []⟩ 8 (by kernel_rfl) (by kernel_rfl) (by kernel_rfl) (by kernel_rfl)) ?_
  intro W base args ds gs before hval0 hW hcnd _
  have hval : ∀ (j : Nat) t v, Try.f3.params[j]? = some t → args[j]? = some v → Value.okWide Try.prog W .any base t v := hval0
  have hW' := hW
  obtain ⟨p, q, hA0, hV, rfl, hfz, hnd⟩ := hW
  have hA : DataW.TrodAll enc Try.prog W 0 (fun _ => true) true Try.f3.params.toList args.toList ds p := hA0
  rw [Try.params3] at hA hval
  obtain ⟨v0, vs0, d0, ds0, p0, q0, hargs, rfl, rfl, h0, r0⟩ := trodAll_cons hA
  obtain ⟨v1, vs1, d1, ds1, p1, q1, rfl, rfl, rfl, h1, r1⟩ := trodAll_cons r0
  obtain ⟨rfl, rfl, rfl⟩ := trodAll_nil r1
  obtain rfl : args = #[v0, v1] := by cases args; simp_all
  obtain ⟨rfl, rfl⟩ := trodVars_none hV
  have k0 := h0
  have lt0 : ∀ x ∈ p0, x.block < W.heap.size := by obtain ⟨m, hm⟩ := k0; exact DataW.trod_lt m _ _ _ hm
  have k1 := h1
  have lt1 : ∀ x ∈ p1, x.block < W.heap.size := by obtain ⟨m, hm⟩ := k1; exact DataW.trod_lt m _ _ _ hm
  obtain ⟨yf, y0, y1, y2, y3, ys, ye, yt, yb, rfl, hiy, hpy, hby⟩ := open_parcel (hval 0 28 v0 rfl rfl) h0
  obtain ⟨z, rfl, _, _, hz⟩ := open_string Try.underlying9 (hval 1 9 v1 rfl rfl) h1
  clear hA0 hval0
  refine (walk yf y0 y1 y2 y3 ys ye yt yb z hpy hby (by have := hz; simpa using this) W).mono fun e W' ⟨he, bel⟩ => ?_
  subst he
  exact ⟨_, rfl, _, _, _, [], _, [], hW', trodAll_mk1 (shut_bool Try.underlying4 _),
    (trodAll_cons_mk (Below.trod laidOut (by kernel_rfl) (of_decide_eq_true (by kernel_rfl)) k0 bel lt0)
    (trodAll_cons_mk (Below.trod laidOut (by kernel_rfl) (of_decide_eq_true (by kernel_rfl)) k1 bel lt1)
    trodAll_mk0)), rfl, bel.frame _, fun h => by cases h⟩

theorem proved : Rows.ParcelBackSaid :=
  OpenClaim.holds_of_wide 3 Try.f3 rfl rfl rfl rfl rfl rfl rfl ⟨rfl, rfl, rfl, rfl, rfl⟩ rfl rfl rfl rfl rfl (by kernel_rfl) Try.func3 (by kernel_rfl)
    (of_decide_eq_true (by kernel_rfl)) (by unfold Func.isWrapper; first | (rw [if_pos (by decide +kernel)]; kernel_rfl) | (rw [if_neg (by decide +kernel)]; exact ⟨rfl, rfl⟩))
    (fun os started H enc _ => lifted os started H enc)
end Go.Proofs.Ytdpcpjloacifpaa.parcelBack
