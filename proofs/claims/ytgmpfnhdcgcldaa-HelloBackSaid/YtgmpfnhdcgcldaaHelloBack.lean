/- HelloBack: for every hello and every text HelloBack answers true and leaves its arguments as they were. No condition. -/
import Derived.Test.YtgmpfnhdcgcldaaRows
import Derived.Test.YtgmpfnhdcgcldaaHelloF
import Derived.Test.YtgmpfnhdcgcldaaHelloOpen
import Derived.ProofKit
import Derived.OpenShut
import Derived.ShutString
import Derived.ChangeOld
import Derived.Carry
namespace Go.Proofs.Ytgmpfnhdcgcldaa.helloBack
open Go.Sort Go.ChangeShapes Go.WideShapes Go.ChangeAt Go.RowKit
open Go.ChangeMaps (open_string shut_string)

theorem own : ownKnob Try.prog.godebug = none := by kernel_rfl
theorem laidOut : laidOutB Try.prog = true := by kernel_rfl

set_option maxRecDepth 100000 in
set_option maxHeartbeats 2000000 in
theorem walk (xf : Int) (x0 x1 x2 x3 : Nat) (s : ByteArray) (h0 : x0 < 4294967296) (h1 : x1 < 4294967296) (h2 : x2 < 4294967296) (h3 : x3 < 4294967296) (hs : s.size ≤ maxLen) (w : World) :
    Calls Try.prog 4 #[(.agg #[.int .i64 xf, .int .u32 (x0 : Int), .int .u32 (x1 : Int), .int .u32 (x2 : Int), .int .u32 (x3 : Int)] : Value), .string s] w fun e w' => e = .returned (.bool true) ∧ Below w.heap.size w w' := by
  unfold maxLen at hs
  have HB : Hid (Below w.heap.size w (w.alloc (.cells #[.int .i64 xf, .int .u32 (x0 : Int), .int .u32 (x1 : Int), .int .u32 (x2 : Int), .int .u32 (x3 : Int)] 28))) := Lib.hid ((Below.refl _ _).alloc (Nat.le_refl _) _)
  by_cases hbig : 300 < s.size
  · have ha : decide (300 < (s.size : Int)) = true := decide_eq_true (by omega)
    clear hbig
    go_enter Try.func4, Try.ntmps4
    go_wp2_with fail
    refine (hawake_any _).mono ?_
    rintro e w1 ⟨rfl, hb⟩
    go_wp2_with fail
    go_ret
    exact ⟨rfl, bel_on HB.out hb⟩
  have ha : decide (300 < (s.size : Int)) = false := decide_eq_false (by omega)
  have RY : Hid (Gives Try.prog 9 #[.string s] (readV s.data.toList)) := Lib.hid (fun w => by have := hread_any s.data.toList (by rw [size_list]; unfold maxLen; omega) w; rw [str_of] at this; exact this)
  have AW : Hid (Gives Try.prog 6 #[] (.bool true)) := Lib.hid hawake_any
  unfold readV at RY
  have hok : ∀ b, rdOk s.data.toList = b → (b = false → (rdE s.data.toList == 0) = false) ∧ (b = true → rdE s.data.toList = 0 ∧
      Gives Try.prog 7 #[(.agg #[.int .i64 (rdF s.data.toList : Int), .int .u32 (rdA s.data.toList : Int), .int .u32 (rdB s.data.toList : Int), .int .u32 (rdC s.data.toList : Int), .int .u32 (rdD s.data.toList : Int)] : Value)] (.tuple #[.string s, .int .i64 0]) ∧
      Gives Try.prog 11 #[(.agg #[.int .i64 (rdF s.data.toList : Int), .int .u32 (rdA s.data.toList : Int), .int .u32 (rdB s.data.toList : Int), .int .u32 (rdC s.data.toList : Int), .int .u32 (rdD s.data.toList : Int)] : Value)] (.bool true)) := by
    intro b hb
    refine ⟨fun e => rdE_no (hb.trans e), fun e => ?_⟩
    have e1 := hb.trans e
    obtain ⟨f0, f1, f2, f3⟩ := rd_fits s.data.toList
    have hr := rd_right e1
    refine ⟨(rd_yes e1).2.2.2.2.2, fun w => ?_, fun w => ?_⟩
    · have := hbytes_ok _ _ _ _ _ hr f0 f1 f2 f3 w
      rw [helloL_of e1, str_of] at this; exact this
    · have := hright_any (rdF s.data.toList : Int) (rdA s.data.toList : Int) (rdB s.data.toList : Int) (rdC s.data.toList : Int) (rdD s.data.toList : Int) w
      rw [hr] at this; exact this
  obtain ⟨ok, hok0⟩ : ∃ b, rdOk s.data.toList = b := ⟨_, rfl⟩
  have HOK := Lib.hid (hok ok hok0)
  clear hok hok0
  generalize rdF s.data.toList = rdF at *
  generalize rdA s.data.toList = rdA at *
  generalize rdB s.data.toList = rdB at *
  generalize rdC s.data.toList = rdC at *
  generalize rdD s.data.toList = rdD at *
  generalize rdE s.data.toList = rdE at *
  obtain ⟨rr, hrr⟩ : ∃ b, rightF xf x0 x1 = b := ⟨_, rfl⟩
  rcases rr with _ | _
  · have BY := Lib.hid (hbytes_bad xf x0 x1 x2 x3 hrr)
    clear hrr hs hbig h0 h1 h2 h3 HB
    rcases ok with _ | _
    · have hE := HOK.out.1 rfl
      clear HOK
      go_enter Try.func4, Try.ntmps4
      have h := Lib.hid (Below.refl w.heap.size w)
      have c_p0 := (Blk.new w [.int .i64 xf, .int .u32 (x0 : Int), .int .u32 (x1 : Int), .int .u32 (x2 : Int), .int .u32 (x3 : Int)] 28).cell 0 rfl
      have c_p1 := (Blk.new w [.int .i64 xf, .int .u32 (x0 : Int), .int .u32 (x1 : Int), .int .u32 (x2 : Int), .int .u32 (x3 : Int)] 28).cell 1 rfl
      have c_p2 := (Blk.new w [.int .i64 xf, .int .u32 (x0 : Int), .int .u32 (x1 : Int), .int .u32 (x2 : Int), .int .u32 (x3 : Int)] 28).cell 2 rfl
      have c_p3 := (Blk.new w [.int .i64 xf, .int .u32 (x0 : Int), .int .u32 (x1 : Int), .int .u32 (x2 : Int), .int .u32 (x3 : Int)] 28).cell 3 rfl
      have c_p4 := (Blk.new w [.int .i64 xf, .int .u32 (x0 : Int), .int .u32 (x1 : Int), .int .u32 (x2 : Int), .int .u32 (x3 : Int)] 28).cell 4 rfl
      go_wp2_with fail
      refine (BY.out _).mono ?_
      rintro e w1 ⟨rfl, hb⟩
      clear c_p0 c_p1 c_p2 c_p3 c_p4
      have b_p : Blk w1 w.heap.size [.int .i64 xf, .int .u32 (x0 : Int), .int .u32 (x1 : Int), .int .u32 (x2 : Int), .int .u32 (x3 : Int)] := (Blk.new w [.int .i64 xf, .int .u32 (x0 : Int), .int .u32 (x1 : Int), .int .u32 (x2 : Int), .int .u32 (x3 : Int)] 28).on hb
      have h' := bel_on ((h.out).alloc (h.out).size _) hb
      clear hb h
      have B_p := Lib.hid b_p
      have h := Lib.hid h'
      clear h' b_p
      go_wp2_with fail
      refine (RY.out _).mono ?_
      rintro e w2 ⟨rfl, hb⟩
      have b_p : Blk w2 w.heap.size [.int .i64 xf, .int .u32 (x0 : Int), .int .u32 (x1 : Int), .int .u32 (x2 : Int), .int .u32 (x3 : Int)] := B_p.out.on hb
      have h' := bel_on h.out hb
      clear hb h B_p
      have B_p := Lib.hid b_p
      have h := Lib.hid h'
      clear h' b_p
      go_wp2_with fail
      refine (AW.out _).mono ?_
      rintro e w3 ⟨rfl, hb⟩
      have b_p : Blk w3 w.heap.size [.int .i64 xf, .int .u32 (x0 : Int), .int .u32 (x1 : Int), .int .u32 (x2 : Int), .int .u32 (x3 : Int)] := (B_p.out.next (.cells #[.int .i64 (rdF : Int), .int .u32 (rdA : Int), .int .u32 (rdB : Int), .int .u32 (rdC : Int), .int .u32 (rdD : Int)] 28)).on hb
      have b_y : Blk w3 w2.heap.size [.int .i64 (rdF : Int), .int .u32 (rdA : Int), .int .u32 (rdB : Int), .int .u32 (rdC : Int), .int .u32 (rdD : Int)] := (Blk.new w2 [.int .i64 (rdF : Int), .int .u32 (rdA : Int), .int .u32 (rdB : Int), .int .u32 (rdC : Int), .int .u32 (rdD : Int)] 28).on hb
      have h' := bel_on ((h.out).alloc (h.out).size _) hb
      clear hb h B_p
      have B_p := Lib.hid b_p
      have B_y := Lib.hid b_y
      have h := Lib.hid h'
      clear h' b_p b_y
      go_wp2_with fail
      go_ret
      exact ⟨rfl, h.out⟩
    · obtain ⟨hE, hB, hR⟩ := HOK.out.2 rfl
      subst hE
      have BS := Lib.hid hB
      have RS := Lib.hid hR
      clear HOK hB hR
      go_enter Try.func4, Try.ntmps4
      have h := Lib.hid (Below.refl w.heap.size w)
      have c_p0 := (Blk.new w [.int .i64 xf, .int .u32 (x0 : Int), .int .u32 (x1 : Int), .int .u32 (x2 : Int), .int .u32 (x3 : Int)] 28).cell 0 rfl
      have c_p1 := (Blk.new w [.int .i64 xf, .int .u32 (x0 : Int), .int .u32 (x1 : Int), .int .u32 (x2 : Int), .int .u32 (x3 : Int)] 28).cell 1 rfl
      have c_p2 := (Blk.new w [.int .i64 xf, .int .u32 (x0 : Int), .int .u32 (x1 : Int), .int .u32 (x2 : Int), .int .u32 (x3 : Int)] 28).cell 2 rfl
      have c_p3 := (Blk.new w [.int .i64 xf, .int .u32 (x0 : Int), .int .u32 (x1 : Int), .int .u32 (x2 : Int), .int .u32 (x3 : Int)] 28).cell 3 rfl
      have c_p4 := (Blk.new w [.int .i64 xf, .int .u32 (x0 : Int), .int .u32 (x1 : Int), .int .u32 (x2 : Int), .int .u32 (x3 : Int)] 28).cell 4 rfl
      go_wp2_with fail
      refine (BY.out _).mono ?_
      rintro e w1 ⟨rfl, hb⟩
      clear c_p0 c_p1 c_p2 c_p3 c_p4
      have b_p : Blk w1 w.heap.size [.int .i64 xf, .int .u32 (x0 : Int), .int .u32 (x1 : Int), .int .u32 (x2 : Int), .int .u32 (x3 : Int)] := (Blk.new w [.int .i64 xf, .int .u32 (x0 : Int), .int .u32 (x1 : Int), .int .u32 (x2 : Int), .int .u32 (x3 : Int)] 28).on hb
      have h' := bel_on ((h.out).alloc (h.out).size _) hb
      clear hb h
      have B_p := Lib.hid b_p
      have h := Lib.hid h'
      clear h' b_p
      go_wp2_with fail
      refine (RY.out _).mono ?_
      rintro e w2 ⟨rfl, hb⟩
      have b_p : Blk w2 w.heap.size [.int .i64 xf, .int .u32 (x0 : Int), .int .u32 (x1 : Int), .int .u32 (x2 : Int), .int .u32 (x3 : Int)] := B_p.out.on hb
      have h' := bel_on h.out hb
      clear hb h B_p
      have B_p := Lib.hid b_p
      have h := Lib.hid h'
      clear h' b_p
      have c_y0 := (Blk.new w2 [.int .i64 (rdF : Int), .int .u32 (rdA : Int), .int .u32 (rdB : Int), .int .u32 (rdC : Int), .int .u32 (rdD : Int)] 28).cell 0 rfl
      have c_y1 := (Blk.new w2 [.int .i64 (rdF : Int), .int .u32 (rdA : Int), .int .u32 (rdB : Int), .int .u32 (rdC : Int), .int .u32 (rdD : Int)] 28).cell 1 rfl
      have c_y2 := (Blk.new w2 [.int .i64 (rdF : Int), .int .u32 (rdA : Int), .int .u32 (rdB : Int), .int .u32 (rdC : Int), .int .u32 (rdD : Int)] 28).cell 2 rfl
      have c_y3 := (Blk.new w2 [.int .i64 (rdF : Int), .int .u32 (rdA : Int), .int .u32 (rdB : Int), .int .u32 (rdC : Int), .int .u32 (rdD : Int)] 28).cell 3 rfl
      have c_y4 := (Blk.new w2 [.int .i64 (rdF : Int), .int .u32 (rdA : Int), .int .u32 (rdB : Int), .int .u32 (rdC : Int), .int .u32 (rdD : Int)] 28).cell 4 rfl
      go_wp2_with fail
      refine (BS.out _).mono ?_
      rintro e w3 ⟨rfl, hb⟩
      clear c_y0 c_y1 c_y2 c_y3 c_y4
      have b_p : Blk w3 w.heap.size [.int .i64 xf, .int .u32 (x0 : Int), .int .u32 (x1 : Int), .int .u32 (x2 : Int), .int .u32 (x3 : Int)] := (B_p.out.next (.cells #[.int .i64 (rdF : Int), .int .u32 (rdA : Int), .int .u32 (rdB : Int), .int .u32 (rdC : Int), .int .u32 (rdD : Int)] 28)).on hb
      have b_y : Blk w3 w2.heap.size [.int .i64 (rdF : Int), .int .u32 (rdA : Int), .int .u32 (rdB : Int), .int .u32 (rdC : Int), .int .u32 (rdD : Int)] := (Blk.new w2 [.int .i64 (rdF : Int), .int .u32 (rdA : Int), .int .u32 (rdB : Int), .int .u32 (rdC : Int), .int .u32 (rdD : Int)] 28).on hb
      have h' := bel_on ((h.out).alloc (h.out).size _) hb
      clear hb h B_p
      have B_p := Lib.hid b_p
      have B_y := Lib.hid b_y
      have h := Lib.hid h'
      clear h' b_p b_y
      have c_y0 := B_y.out.cell 0 rfl
      have c_y1 := B_y.out.cell 1 rfl
      have c_y2 := B_y.out.cell 2 rfl
      have c_y3 := B_y.out.cell 3 rfl
      have c_y4 := B_y.out.cell 4 rfl
      go_wp2_with fail
      refine (RS.out _).mono ?_
      rintro e w4 ⟨rfl, hb⟩
      clear c_y0 c_y1 c_y2 c_y3 c_y4
      have b_p : Blk w4 w.heap.size [.int .i64 xf, .int .u32 (x0 : Int), .int .u32 (x1 : Int), .int .u32 (x2 : Int), .int .u32 (x3 : Int)] := B_p.out.on hb
      have b_y : Blk w4 w2.heap.size [.int .i64 (rdF : Int), .int .u32 (rdA : Int), .int .u32 (rdB : Int), .int .u32 (rdC : Int), .int .u32 (rdD : Int)] := B_y.out.on hb
      have h' := bel_on h.out hb
      clear hb h B_p B_y
      have B_p := Lib.hid b_p
      have B_y := Lib.hid b_y
      have h := Lib.hid h'
      clear h' b_p b_y
      go_wp2_with fail
      refine (AW.out _).mono ?_
      rintro e w5 ⟨rfl, hb⟩
      have b_p : Blk w5 w.heap.size [.int .i64 xf, .int .u32 (x0 : Int), .int .u32 (x1 : Int), .int .u32 (x2 : Int), .int .u32 (x3 : Int)] := B_p.out.on hb
      have b_y : Blk w5 w2.heap.size [.int .i64 (rdF : Int), .int .u32 (rdA : Int), .int .u32 (rdB : Int), .int .u32 (rdC : Int), .int .u32 (rdD : Int)] := B_y.out.on hb
      have h' := bel_on h.out hb
      clear hb h B_p B_y
      have B_p := Lib.hid b_p
      have B_y := Lib.hid b_y
      have h := Lib.hid h'
      clear h' b_p b_y
      go_wp2_with fail
      go_ret
      exact ⟨rfl, h.out⟩
  · obtain ⟨xf, rfl⟩ := Int.eq_ofNat_of_zero_le (rightF_in hrr).1.1
    have BY := Lib.hid (hbytes_ok xf x0 x1 x2 x3 hrr h0 h1 h2 h3)
    have RB : Hid (Gives Try.prog 9 #[.string (str (helloL xf x0 x1 x2 x3))] (.tuple #[(.agg #[.int .i64 (xf : Int), .int .u32 (x0 : Int), .int .u32 (x1 : Int), .int .u32 (x2 : Int), .int .u32 (x3 : Int)] : Value), .int .i64 0])) := Lib.hid (fun w => by
      have h := hread_any (helloL xf x0 x1 x2 x3) (by rw [helloL_length]; unfold maxLen; omega) w
      obtain ⟨e1, e2, e3, e4, e5, e6⟩ := rd_back hrr h0 h1 h2 h3
      unfold readV at h
      rw [e1, e2, e3, e4, e5, e6] at h; exact h)
    clear hrr hs hbig h0 h1 h2 h3 HB
    rcases ok with _ | _
    · have hE := HOK.out.1 rfl
      clear HOK
      go_enter Try.func4, Try.ntmps4
      have h := Lib.hid (Below.refl w.heap.size w)
      have c_p0 := (Blk.new w [.int .i64 (xf : Int), .int .u32 (x0 : Int), .int .u32 (x1 : Int), .int .u32 (x2 : Int), .int .u32 (x3 : Int)] 28).cell 0 rfl
      have c_p1 := (Blk.new w [.int .i64 (xf : Int), .int .u32 (x0 : Int), .int .u32 (x1 : Int), .int .u32 (x2 : Int), .int .u32 (x3 : Int)] 28).cell 1 rfl
      have c_p2 := (Blk.new w [.int .i64 (xf : Int), .int .u32 (x0 : Int), .int .u32 (x1 : Int), .int .u32 (x2 : Int), .int .u32 (x3 : Int)] 28).cell 2 rfl
      have c_p3 := (Blk.new w [.int .i64 (xf : Int), .int .u32 (x0 : Int), .int .u32 (x1 : Int), .int .u32 (x2 : Int), .int .u32 (x3 : Int)] 28).cell 3 rfl
      have c_p4 := (Blk.new w [.int .i64 (xf : Int), .int .u32 (x0 : Int), .int .u32 (x1 : Int), .int .u32 (x2 : Int), .int .u32 (x3 : Int)] 28).cell 4 rfl
      go_wp2_with fail
      refine (BY.out _).mono ?_
      rintro e w1 ⟨rfl, hb⟩
      clear c_p0 c_p1 c_p2 c_p3 c_p4
      have b_p : Blk w1 w.heap.size [.int .i64 (xf : Int), .int .u32 (x0 : Int), .int .u32 (x1 : Int), .int .u32 (x2 : Int), .int .u32 (x3 : Int)] := (Blk.new w [.int .i64 (xf : Int), .int .u32 (x0 : Int), .int .u32 (x1 : Int), .int .u32 (x2 : Int), .int .u32 (x3 : Int)] 28).on hb
      have h' := bel_on ((h.out).alloc (h.out).size _) hb
      clear hb h
      have B_p := Lib.hid b_p
      have h := Lib.hid h'
      clear h' b_p
      go_wp2_with fail
      refine (RB.out _).mono ?_
      rintro e w2 ⟨rfl, hb⟩
      have b_p : Blk w2 w.heap.size [.int .i64 (xf : Int), .int .u32 (x0 : Int), .int .u32 (x1 : Int), .int .u32 (x2 : Int), .int .u32 (x3 : Int)] := B_p.out.on hb
      have h' := bel_on h.out hb
      clear hb h B_p
      have B_p := Lib.hid b_p
      have h := Lib.hid h'
      clear h' b_p
      have c_p0 := (B_p.out.next (.cells #[.int .i64 (xf : Int), .int .u32 (x0 : Int), .int .u32 (x1 : Int), .int .u32 (x2 : Int), .int .u32 (x3 : Int)] 28)).cell 0 rfl
      have c_p1 := (B_p.out.next (.cells #[.int .i64 (xf : Int), .int .u32 (x0 : Int), .int .u32 (x1 : Int), .int .u32 (x2 : Int), .int .u32 (x3 : Int)] 28)).cell 1 rfl
      have c_p2 := (B_p.out.next (.cells #[.int .i64 (xf : Int), .int .u32 (x0 : Int), .int .u32 (x1 : Int), .int .u32 (x2 : Int), .int .u32 (x3 : Int)] 28)).cell 2 rfl
      have c_p3 := (B_p.out.next (.cells #[.int .i64 (xf : Int), .int .u32 (x0 : Int), .int .u32 (x1 : Int), .int .u32 (x2 : Int), .int .u32 (x3 : Int)] 28)).cell 3 rfl
      have c_p4 := (B_p.out.next (.cells #[.int .i64 (xf : Int), .int .u32 (x0 : Int), .int .u32 (x1 : Int), .int .u32 (x2 : Int), .int .u32 (x3 : Int)] 28)).cell 4 rfl
      have c_q0 := (Blk.new w2 [.int .i64 (xf : Int), .int .u32 (x0 : Int), .int .u32 (x1 : Int), .int .u32 (x2 : Int), .int .u32 (x3 : Int)] 28).cell 0 rfl
      have c_q1 := (Blk.new w2 [.int .i64 (xf : Int), .int .u32 (x0 : Int), .int .u32 (x1 : Int), .int .u32 (x2 : Int), .int .u32 (x3 : Int)] 28).cell 1 rfl
      have c_q2 := (Blk.new w2 [.int .i64 (xf : Int), .int .u32 (x0 : Int), .int .u32 (x1 : Int), .int .u32 (x2 : Int), .int .u32 (x3 : Int)] 28).cell 2 rfl
      have c_q3 := (Blk.new w2 [.int .i64 (xf : Int), .int .u32 (x0 : Int), .int .u32 (x1 : Int), .int .u32 (x2 : Int), .int .u32 (x3 : Int)] 28).cell 3 rfl
      have c_q4 := (Blk.new w2 [.int .i64 (xf : Int), .int .u32 (x0 : Int), .int .u32 (x1 : Int), .int .u32 (x2 : Int), .int .u32 (x3 : Int)] 28).cell 4 rfl
      go_wp2_with fail
      refine (RY.out _).mono ?_
      rintro e w3 ⟨rfl, hb⟩
      clear c_p0 c_p1 c_p2 c_p3 c_p4 c_q0 c_q1 c_q2 c_q3 c_q4
      have b_p : Blk w3 w.heap.size [.int .i64 (xf : Int), .int .u32 (x0 : Int), .int .u32 (x1 : Int), .int .u32 (x2 : Int), .int .u32 (x3 : Int)] := (B_p.out.next (.cells #[.int .i64 (xf : Int), .int .u32 (x0 : Int), .int .u32 (x1 : Int), .int .u32 (x2 : Int), .int .u32 (x3 : Int)] 28)).on hb
      have b_q : Blk w3 w2.heap.size [.int .i64 (xf : Int), .int .u32 (x0 : Int), .int .u32 (x1 : Int), .int .u32 (x2 : Int), .int .u32 (x3 : Int)] := (Blk.new w2 [.int .i64 (xf : Int), .int .u32 (x0 : Int), .int .u32 (x1 : Int), .int .u32 (x2 : Int), .int .u32 (x3 : Int)] 28).on hb
      have h' := bel_on ((h.out).alloc (h.out).size _) hb
      clear hb h B_p
      have B_p := Lib.hid b_p
      have B_q := Lib.hid b_q
      have h := Lib.hid h'
      clear h' b_p b_q
      go_wp2_with fail
      refine (AW.out _).mono ?_
      rintro e w4 ⟨rfl, hb⟩
      have b_p : Blk w4 w.heap.size [.int .i64 (xf : Int), .int .u32 (x0 : Int), .int .u32 (x1 : Int), .int .u32 (x2 : Int), .int .u32 (x3 : Int)] := (B_p.out.next (.cells #[.int .i64 (rdF : Int), .int .u32 (rdA : Int), .int .u32 (rdB : Int), .int .u32 (rdC : Int), .int .u32 (rdD : Int)] 28)).on hb
      have b_q : Blk w4 w2.heap.size [.int .i64 (xf : Int), .int .u32 (x0 : Int), .int .u32 (x1 : Int), .int .u32 (x2 : Int), .int .u32 (x3 : Int)] := (B_q.out.next (.cells #[.int .i64 (rdF : Int), .int .u32 (rdA : Int), .int .u32 (rdB : Int), .int .u32 (rdC : Int), .int .u32 (rdD : Int)] 28)).on hb
      have b_y : Blk w4 w3.heap.size [.int .i64 (rdF : Int), .int .u32 (rdA : Int), .int .u32 (rdB : Int), .int .u32 (rdC : Int), .int .u32 (rdD : Int)] := (Blk.new w3 [.int .i64 (rdF : Int), .int .u32 (rdA : Int), .int .u32 (rdB : Int), .int .u32 (rdC : Int), .int .u32 (rdD : Int)] 28).on hb
      have h' := bel_on ((h.out).alloc (h.out).size _) hb
      clear hb h B_p B_q
      have B_p := Lib.hid b_p
      have B_q := Lib.hid b_q
      have B_y := Lib.hid b_y
      have h := Lib.hid h'
      clear h' b_p b_q b_y
      go_wp2_with fail
      go_ret
      exact ⟨rfl, h.out⟩
    · obtain ⟨hE, hB, hR⟩ := HOK.out.2 rfl
      subst hE
      have BS := Lib.hid hB
      have RS := Lib.hid hR
      clear HOK hB hR
      go_enter Try.func4, Try.ntmps4
      have h := Lib.hid (Below.refl w.heap.size w)
      have c_p0 := (Blk.new w [.int .i64 (xf : Int), .int .u32 (x0 : Int), .int .u32 (x1 : Int), .int .u32 (x2 : Int), .int .u32 (x3 : Int)] 28).cell 0 rfl
      have c_p1 := (Blk.new w [.int .i64 (xf : Int), .int .u32 (x0 : Int), .int .u32 (x1 : Int), .int .u32 (x2 : Int), .int .u32 (x3 : Int)] 28).cell 1 rfl
      have c_p2 := (Blk.new w [.int .i64 (xf : Int), .int .u32 (x0 : Int), .int .u32 (x1 : Int), .int .u32 (x2 : Int), .int .u32 (x3 : Int)] 28).cell 2 rfl
      have c_p3 := (Blk.new w [.int .i64 (xf : Int), .int .u32 (x0 : Int), .int .u32 (x1 : Int), .int .u32 (x2 : Int), .int .u32 (x3 : Int)] 28).cell 3 rfl
      have c_p4 := (Blk.new w [.int .i64 (xf : Int), .int .u32 (x0 : Int), .int .u32 (x1 : Int), .int .u32 (x2 : Int), .int .u32 (x3 : Int)] 28).cell 4 rfl
      go_wp2_with fail
      refine (BY.out _).mono ?_
      rintro e w1 ⟨rfl, hb⟩
      clear c_p0 c_p1 c_p2 c_p3 c_p4
      have b_p : Blk w1 w.heap.size [.int .i64 (xf : Int), .int .u32 (x0 : Int), .int .u32 (x1 : Int), .int .u32 (x2 : Int), .int .u32 (x3 : Int)] := (Blk.new w [.int .i64 (xf : Int), .int .u32 (x0 : Int), .int .u32 (x1 : Int), .int .u32 (x2 : Int), .int .u32 (x3 : Int)] 28).on hb
      have h' := bel_on ((h.out).alloc (h.out).size _) hb
      clear hb h
      have B_p := Lib.hid b_p
      have h := Lib.hid h'
      clear h' b_p
      go_wp2_with fail
      refine (RB.out _).mono ?_
      rintro e w2 ⟨rfl, hb⟩
      have b_p : Blk w2 w.heap.size [.int .i64 (xf : Int), .int .u32 (x0 : Int), .int .u32 (x1 : Int), .int .u32 (x2 : Int), .int .u32 (x3 : Int)] := B_p.out.on hb
      have h' := bel_on h.out hb
      clear hb h B_p
      have B_p := Lib.hid b_p
      have h := Lib.hid h'
      clear h' b_p
      have c_p0 := (B_p.out.next (.cells #[.int .i64 (xf : Int), .int .u32 (x0 : Int), .int .u32 (x1 : Int), .int .u32 (x2 : Int), .int .u32 (x3 : Int)] 28)).cell 0 rfl
      have c_p1 := (B_p.out.next (.cells #[.int .i64 (xf : Int), .int .u32 (x0 : Int), .int .u32 (x1 : Int), .int .u32 (x2 : Int), .int .u32 (x3 : Int)] 28)).cell 1 rfl
      have c_p2 := (B_p.out.next (.cells #[.int .i64 (xf : Int), .int .u32 (x0 : Int), .int .u32 (x1 : Int), .int .u32 (x2 : Int), .int .u32 (x3 : Int)] 28)).cell 2 rfl
      have c_p3 := (B_p.out.next (.cells #[.int .i64 (xf : Int), .int .u32 (x0 : Int), .int .u32 (x1 : Int), .int .u32 (x2 : Int), .int .u32 (x3 : Int)] 28)).cell 3 rfl
      have c_p4 := (B_p.out.next (.cells #[.int .i64 (xf : Int), .int .u32 (x0 : Int), .int .u32 (x1 : Int), .int .u32 (x2 : Int), .int .u32 (x3 : Int)] 28)).cell 4 rfl
      have c_q0 := (Blk.new w2 [.int .i64 (xf : Int), .int .u32 (x0 : Int), .int .u32 (x1 : Int), .int .u32 (x2 : Int), .int .u32 (x3 : Int)] 28).cell 0 rfl
      have c_q1 := (Blk.new w2 [.int .i64 (xf : Int), .int .u32 (x0 : Int), .int .u32 (x1 : Int), .int .u32 (x2 : Int), .int .u32 (x3 : Int)] 28).cell 1 rfl
      have c_q2 := (Blk.new w2 [.int .i64 (xf : Int), .int .u32 (x0 : Int), .int .u32 (x1 : Int), .int .u32 (x2 : Int), .int .u32 (x3 : Int)] 28).cell 2 rfl
      have c_q3 := (Blk.new w2 [.int .i64 (xf : Int), .int .u32 (x0 : Int), .int .u32 (x1 : Int), .int .u32 (x2 : Int), .int .u32 (x3 : Int)] 28).cell 3 rfl
      have c_q4 := (Blk.new w2 [.int .i64 (xf : Int), .int .u32 (x0 : Int), .int .u32 (x1 : Int), .int .u32 (x2 : Int), .int .u32 (x3 : Int)] 28).cell 4 rfl
      go_wp2_with fail
      refine (RY.out _).mono ?_
      rintro e w3 ⟨rfl, hb⟩
      clear c_p0 c_p1 c_p2 c_p3 c_p4 c_q0 c_q1 c_q2 c_q3 c_q4
      have b_p : Blk w3 w.heap.size [.int .i64 (xf : Int), .int .u32 (x0 : Int), .int .u32 (x1 : Int), .int .u32 (x2 : Int), .int .u32 (x3 : Int)] := (B_p.out.next (.cells #[.int .i64 (xf : Int), .int .u32 (x0 : Int), .int .u32 (x1 : Int), .int .u32 (x2 : Int), .int .u32 (x3 : Int)] 28)).on hb
      have b_q : Blk w3 w2.heap.size [.int .i64 (xf : Int), .int .u32 (x0 : Int), .int .u32 (x1 : Int), .int .u32 (x2 : Int), .int .u32 (x3 : Int)] := (Blk.new w2 [.int .i64 (xf : Int), .int .u32 (x0 : Int), .int .u32 (x1 : Int), .int .u32 (x2 : Int), .int .u32 (x3 : Int)] 28).on hb
      have h' := bel_on ((h.out).alloc (h.out).size _) hb
      clear hb h B_p
      have B_p := Lib.hid b_p
      have B_q := Lib.hid b_q
      have h := Lib.hid h'
      clear h' b_p b_q
      have c_y0 := (Blk.new w3 [.int .i64 (rdF : Int), .int .u32 (rdA : Int), .int .u32 (rdB : Int), .int .u32 (rdC : Int), .int .u32 (rdD : Int)] 28).cell 0 rfl
      have c_y1 := (Blk.new w3 [.int .i64 (rdF : Int), .int .u32 (rdA : Int), .int .u32 (rdB : Int), .int .u32 (rdC : Int), .int .u32 (rdD : Int)] 28).cell 1 rfl
      have c_y2 := (Blk.new w3 [.int .i64 (rdF : Int), .int .u32 (rdA : Int), .int .u32 (rdB : Int), .int .u32 (rdC : Int), .int .u32 (rdD : Int)] 28).cell 2 rfl
      have c_y3 := (Blk.new w3 [.int .i64 (rdF : Int), .int .u32 (rdA : Int), .int .u32 (rdB : Int), .int .u32 (rdC : Int), .int .u32 (rdD : Int)] 28).cell 3 rfl
      have c_y4 := (Blk.new w3 [.int .i64 (rdF : Int), .int .u32 (rdA : Int), .int .u32 (rdB : Int), .int .u32 (rdC : Int), .int .u32 (rdD : Int)] 28).cell 4 rfl
      go_wp2_with fail
      refine (BS.out _).mono ?_
      rintro e w4 ⟨rfl, hb⟩
      clear c_y0 c_y1 c_y2 c_y3 c_y4
      have b_p : Blk w4 w.heap.size [.int .i64 (xf : Int), .int .u32 (x0 : Int), .int .u32 (x1 : Int), .int .u32 (x2 : Int), .int .u32 (x3 : Int)] := (B_p.out.next (.cells #[.int .i64 (rdF : Int), .int .u32 (rdA : Int), .int .u32 (rdB : Int), .int .u32 (rdC : Int), .int .u32 (rdD : Int)] 28)).on hb
      have b_q : Blk w4 w2.heap.size [.int .i64 (xf : Int), .int .u32 (x0 : Int), .int .u32 (x1 : Int), .int .u32 (x2 : Int), .int .u32 (x3 : Int)] := (B_q.out.next (.cells #[.int .i64 (rdF : Int), .int .u32 (rdA : Int), .int .u32 (rdB : Int), .int .u32 (rdC : Int), .int .u32 (rdD : Int)] 28)).on hb
      have b_y : Blk w4 w3.heap.size [.int .i64 (rdF : Int), .int .u32 (rdA : Int), .int .u32 (rdB : Int), .int .u32 (rdC : Int), .int .u32 (rdD : Int)] := (Blk.new w3 [.int .i64 (rdF : Int), .int .u32 (rdA : Int), .int .u32 (rdB : Int), .int .u32 (rdC : Int), .int .u32 (rdD : Int)] 28).on hb
      have h' := bel_on ((h.out).alloc (h.out).size _) hb
      clear hb h B_p B_q
      have B_p := Lib.hid b_p
      have B_q := Lib.hid b_q
      have B_y := Lib.hid b_y
      have h := Lib.hid h'
      clear h' b_p b_q b_y
      have c_y0 := B_y.out.cell 0 rfl
      have c_y1 := B_y.out.cell 1 rfl
      have c_y2 := B_y.out.cell 2 rfl
      have c_y3 := B_y.out.cell 3 rfl
      have c_y4 := B_y.out.cell 4 rfl
      go_wp2_with fail
      refine (RS.out _).mono ?_
      rintro e w5 ⟨rfl, hb⟩
      clear c_y0 c_y1 c_y2 c_y3 c_y4
      have b_p : Blk w5 w.heap.size [.int .i64 (xf : Int), .int .u32 (x0 : Int), .int .u32 (x1 : Int), .int .u32 (x2 : Int), .int .u32 (x3 : Int)] := B_p.out.on hb
      have b_q : Blk w5 w2.heap.size [.int .i64 (xf : Int), .int .u32 (x0 : Int), .int .u32 (x1 : Int), .int .u32 (x2 : Int), .int .u32 (x3 : Int)] := B_q.out.on hb
      have b_y : Blk w5 w3.heap.size [.int .i64 (rdF : Int), .int .u32 (rdA : Int), .int .u32 (rdB : Int), .int .u32 (rdC : Int), .int .u32 (rdD : Int)] := B_y.out.on hb
      have h' := bel_on h.out hb
      clear hb h B_p B_q B_y
      have B_p := Lib.hid b_p
      have B_q := Lib.hid b_q
      have B_y := Lib.hid b_y
      have h := Lib.hid h'
      clear h' b_p b_q b_y
      go_wp2_with fail
      refine (AW.out _).mono ?_
      rintro e w6 ⟨rfl, hb⟩
      have b_p : Blk w6 w.heap.size [.int .i64 (xf : Int), .int .u32 (x0 : Int), .int .u32 (x1 : Int), .int .u32 (x2 : Int), .int .u32 (x3 : Int)] := B_p.out.on hb
      have b_q : Blk w6 w2.heap.size [.int .i64 (xf : Int), .int .u32 (x0 : Int), .int .u32 (x1 : Int), .int .u32 (x2 : Int), .int .u32 (x3 : Int)] := B_q.out.on hb
      have b_y : Blk w6 w3.heap.size [.int .i64 (rdF : Int), .int .u32 (rdA : Int), .int .u32 (rdB : Int), .int .u32 (rdC : Int), .int .u32 (rdD : Int)] := B_y.out.on hb
      have h' := bel_on h.out hb
      clear hb h B_p B_q B_y
      have B_p := Lib.hid b_p
      have B_q := Lib.hid b_q
      have B_y := Lib.hid b_y
      have h := Lib.hid h'
      clear h' b_p b_q b_y
      go_wp2_with fail
      go_ret
      exact ⟨rfl, h.out⟩


set_option maxRecDepth 100000 in
theorem lifted (os : Os) (started : os.Started) (H : Type) (enc : TypeId × Value → H) :
    ReturnsInHanded {} Try.checked os 4 .any (Rows.helloBackSpec.pre6 enc Try.prog Try.f4 Rows.helloBackRow.domain false) (Rows.helloBackSpec.post enc Try.prog Try.f4 false true false false) := by
  refine returnsInHanded_of_change (C := Try.checked) own started (by kernel_rfl) Try.func4
    (ChangeSpec.witness6 (enc := enc) (C := Try.checked) false ⟨#[], #[.agg #[.int .i64 0, .int .u32 0, .int .u32 0, .int .u32 0, .int .u32 0], .string ByteArray.empty], []⟩ 8 (by kernel_rfl) (by kernel_rfl) (by kernel_rfl) (by kernel_rfl)) ?_
  intro W base args ds gs before hval0 hW hcnd _
  have hval : ∀ (j : Nat) t v, Try.f4.params[j]? = some t → args[j]? = some v → Value.okWide Try.prog W .any base t v := hval0
  have hW' := hW
  obtain ⟨p, q, hA0, hV, rfl, hfz, hnd⟩ := hW
  have hA : DataW.TrodAll enc Try.prog W 0 (fun _ => true) true Try.f4.params.toList args.toList ds p := hA0
  rw [Try.params4] at hA hval
  obtain ⟨v0, vs0, d0, ds0, p0, q0, hargs, rfl, rfl, h0, r0⟩ := trodAll_cons hA
  obtain ⟨v1, vs1, d1, ds1, p1, q1, rfl, rfl, rfl, h1, r1⟩ := trodAll_cons r0
  obtain ⟨rfl, rfl, rfl⟩ := trodAll_nil r1
  obtain rfl : args = #[v0, v1] := by cases args; simp_all
  obtain ⟨rfl, rfl⟩ := trodVars_none hV
  have k0 := h0
  have lt0 : ∀ x ∈ p0, x.block < W.heap.size := by obtain ⟨m, hm⟩ := k0; exact DataW.trod_lt m _ _ _ hm
  have k1 := h1
  have lt1 : ∀ x ∈ p1, x.block < W.heap.size := by obtain ⟨m, hm⟩ := k1; exact DataW.trod_lt m _ _ _ hm
  obtain ⟨xf, x0, x1, x2, x3, rfl, hbx, hx0, hx1, hx2, hx3⟩ := open_hello Try.underlying28 Try.underlying3 Try.underlying26 Try.underlying24 rfl Try.underlying22 Try.underlying22 rfl rfl (by kernel_rfl) (by kernel_rfl) (by kernel_rfl) rfl rfl (by kernel_rfl) rfl rfl (by kernel_rfl) (by kernel_rfl) (hval 0 28 v0 rfl rfl) h0
  obtain ⟨s, rfl, _, _, hs⟩ := open_string Try.underlying9 (hval 1 9 v1 rfl rfl) h1
  clear hA0 hval0
  refine (walk xf x0 x1 x2 x3 s hx0 hx1 hx2 hx3 hs W).mono fun e W' ⟨he, bel⟩ => ?_
  subst he
  exact ⟨_, rfl, _, _, _, [], _, [], hW', trodAll_mk1 (shut_bool Try.underlying4 _),
    (trodAll_cons_mk (Below.trod laidOut (by kernel_rfl) (of_decide_eq_true (by kernel_rfl)) k0 bel lt0)
    (trodAll_cons_mk (Below.trod laidOut (by kernel_rfl) (of_decide_eq_true (by kernel_rfl)) k1 bel lt1)
    trodAll_mk0)), rfl, bel.frame _, fun h => by cases h⟩

theorem proved : Rows.HelloBackSaid :=
  OpenClaim.holds_of_wide 4 Try.f4 rfl rfl rfl rfl rfl rfl rfl ⟨rfl, rfl, rfl, rfl, rfl⟩ rfl rfl rfl rfl rfl (by kernel_rfl) Try.func4 (by kernel_rfl)
    (of_decide_eq_true (by kernel_rfl)) (by unfold Func.isWrapper; first | (rw [if_pos (by decide +kernel)]; kernel_rfl) | (rw [if_neg (by decide +kernel)]; exact ⟨rfl, rfl⟩))
    (fun os started H enc _ => lifted os started H enc)
end Go.Proofs.Ytgmpfnhdcgcldaa.helloBack
