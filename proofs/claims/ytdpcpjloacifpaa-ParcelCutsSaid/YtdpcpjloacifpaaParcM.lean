/- Contracts of package parcel, part M: the document's own Cut. -/
import Derived.Test.YtdpcpjloacifpaaParcL
namespace Go.Proofs.Ytdpcpjloacifpaa
open Go.RowKit Go.Sort

theorem str_cut (s : ByteArray) (a b : Nat) : s.extract a b = str ((s.data.toList.drop a).take (b - a)) := by
  apply ByteArray.ext
  apply Array.ext'
  rw [ByteArray.data_extract]
  simp [str, List.extract_eq_take_drop]
theorem rcut_piece (l : List UInt8) (i : Nat) (h : 64 * i ≤ l.length) : (str l).extract (64 * i) (min (64 * i + 64) l.length) = str (pieceL l i) := by
  rw [str_cut, str_list]
  unfold pieceL
  by_cases h2 : 64 * i + 64 ≤ l.length
  · rw [show min (64 * i + 64) l.length - 64 * i = 64 by omega]
  · rw [List.take_of_length_le (by rw [List.length_drop]; omega), List.take_of_length_le (by rw [List.length_drop]; omega)]
theorem meas_at (n A E : Nat) (h : n - E < n - A) : (n - intOf (.int .i64 (E : Int))).toNat < (n - intOf (.int .i64 (A : Int))).toNat := by
  simp [intOf]; omega

set_option maxHeartbeats 2000000 in
theorem rcut_any (p : Par) (z : ByteArray) (w : World) (hz : z.size ≤ 1000000000) :
    Calls Try.prog 10 #[(.agg #[.int .i64 p.f, .int .u32 p.a, .int .u32 p.b, .int .u32 p.c, .int .u32 p.d, .int .i64 p.s, .int .i64 p.e, .int .i64 p.t, .string p.x] : Value), .string z] w (OwnPars (cutP p z.data.toList (cutN z.size)) w) := by
  obtain ⟨i0, hi, hz0, hz1, hz2⟩ := info_parts parcel_info
  obtain ⟨l, hl⟩ : ∃ l, z.data.toList = l := ⟨_, rfl⟩
  have hzl := size_list z
  obtain ⟨n, hn⟩ : ∃ n, z.size = n := ⟨_, rfl⟩
  rw [hl] at hzl ⊢
  obtain ⟨m, hm⟩ : ∃ m, cutN n = m := ⟨_, rfl⟩
  have HM := Lib.hid hm
  have HLN : Hid (l.length = n) := Lib.hid (by omega)
  have hm64 : m ≤ 64 := by rw [← hm]; unfold cutN; omega
  have hmn : ∀ i, i < m → 64 * i < n := fun i hi => by rw [← hm] at hi; unfold cutN at hi; omega
  have HMN := Lib.hid hmn
  have HPC : Hid (∀ i, i < m → z.extract (64 * i) (min (64 * i + 64) n) = str (pieceL l i)) := Lib.hid (fun i hi => by
    have h := rcut_piece l i (by have := hmn i hi; omega)
    rw [← hl, str_of, hl, HLN.out] at h
    exact h)
  have hn63 : n ≤ 1000000000 := by omega
  rw [hn, hm]
  clear hm hz hzl hl hmn
  go_enter Try.func10, Try.ntmps10
  go_upto_region 3 with fail
  go_loopw [5, 6] (fun v u wr => ∃ (i : Nat) (y : ByteArray), i ≤ m ∧ u = .int .i64 ((min (64 * i) n : Nat) : Int) ∧ wr.ownsRow (w.heap.size + 1) 28 9 v i (rowC (cutP p l i)) ∧ Blk wr w.heap.size [.int .i64 p.f, .int .u32 p.a, .int .u32 p.b, .int .u32 p.c, .int .u32 p.d, .int .i64 p.s, .int .i64 p.e, .int .i64 p.t, .string y] ∧ Below w.heap.size w wr)
    (fun _ u _ => (n - intOf u).toNat)
  case atStart => exact ⟨0, p.x, by omega, by rw [Nat.mul_zero, Nat.zero_min]; rfl, World.ownsRow_nil _ _ _ _, Blk.new w [.int .i64 p.f, .int .u32 p.a, .int .u32 p.b, .int .u32 p.c, .int .u32 p.d, .int .i64 p.s, .int .i64 p.e, .int .i64 p.t, .string p.x] 28, (Below.refl _ _).alloc (Nat.le_refl _) _⟩
  case round =>
    obtain ⟨i, y, him, rfl, hown, hblk, hbel⟩ := hrel
    obtain ⟨a, c, rfl⟩ := row_slice hown
    have HO := Lib.hid hown
    have HK := Lib.hid hblk
    have HH := Lib.hid hbel
    clear hown hblk hbel
    obtain ⟨A, hA⟩ : ∃ A, min (64 * i) n = A := ⟨_, rfl⟩
    rw [hA]
    by_cases h : i < m
    · have hAn : 64 * i = A ∧ A < n := by have := HMN.out i h; omega
      have dA : decide (A < n) = true := decide_eq_true (by omega)
      have d64 : decide ((i : Int) < 64) = true := decide_eq_true (by omega)
      have hi64 : i < 64 := by omega
      have HC := Lib.hid (HPC.out i h)
      have HI : Hid (i < m) := Lib.hid h
      rw [hAn.1] at HC
      obtain ⟨d, hd⟩ : ∃ d, n - A = d := ⟨_, rfl⟩
      have E1 : Hid ((n : Int) - (A : Int) = (d : Int)) := Lib.hid (by omega)
      have E2 : Hid (wrap64 (d : Int) = (d : Int)) := Lib.hid (IntWalk.wrap64_in _ (by omega))
      by_cases hb : 64 < d
      · have db : decide ((64 : Int) < (d : Int)) = true := decide_eq_true (by omega)
        obtain ⟨E, hE⟩ : ∃ E, A + 64 = E := ⟨_, rfl⟩
        have hx : z.extract A E = str (pieceL l i) := by
          have e := HC.out
          rw [show min (A + 64) n = E by omega] at e
          exact e
        have hlo : (A : Int) ≤ (E : Int) := by omega
        have hhi : (E : Int) ≤ (n : Int) := by omega
        have HE : Hid (min (64 * (i + 1)) n = E) := Lib.hid (by omega)
        have HM2 : Hid (n - E < n - A) := Lib.hid (by omega)
        have e3 : (A : Int) + 64 = (E : Int) := by omega
        have e4 : wrap64 (E : Int) = (E : Int) := IntWalk.wrap64_in _ (by omega)
        clear hE
        clear hA hAn hd hb h him hi64
        have e1 := E1.out
        have e2 := E2.out
        have t8 := HK.out.thaw 8
        have c8 := HK.out.cell 8 rfl
        go_upto_region 8 with fail
        clear t8 c8 e1 e2 e3 e4
        obtain ⟨w2, hw2⟩ : ∃ w2, wr.setCell ⟨w.heap.size, 8, none⟩ (.string (str (pieceL l i))) = w2 := ⟨_, rfl⟩
        have HK2 : Hid (Blk w2 w.heap.size [.int .i64 p.f, .int .u32 p.a, .int .u32 p.b, .int .u32 p.c, .int .u32 p.d, .int .i64 p.s, .int .i64 p.e, .int .i64 p.t, .string (str (pieceL l i))]) := Lib.hid (hw2 ▸ (HK.out.set 8 (.string (str (pieceL l i)))))
        have HH2 : Hid (Below w.heap.size w w2) := Lib.hid (hw2 ▸ (HH.out.setCell (p := ⟨w.heap.size, 8, none⟩) (Nat.le_refl _) _))
        have HO2 : Hid (w2.ownsRow (w.heap.size + 1) 28 9 (.slice a i c) i (rowC (cutP p l i))) := Lib.hid (hw2 ▸ (ownsRow_setCell_below HO.out (a := ⟨w.heap.size, 8, none⟩) (Nat.lt_succ_self _) _))
        have hlt := HK2.out.lt
        rw [hw2]
        clear hw2 HK HH HO
        have c0 := HK2.out.cell 0 rfl
        have c1 := HK2.out.cell 1 rfl
        have c2 := HK2.out.cell 2 rfl
        have c3 := HK2.out.cell 3 rfl
        have c4 := HK2.out.cell 4 rfl
        have c5 := HK2.out.cell 5 rfl
        have c6 := HK2.out.cell 6 rfl
        have c7 := HK2.out.cell 7 rfl
        have c8 := HK2.out.cell 8 rfl
        go_wp2_with (at_builtin; refine wpList_append_own _ rfl (.tmp 30) (.tmp 32) 38 rfl (w.heap.size + 1) 28 i0 (.agg #[.int .i64 0, .int .u32 0, .int .u32 0, .int .u32 0, .int .u32 0, .int .i64 0, .int .i64 0, .int .i64 0, .string ⟨#[]⟩] : Value) 9 64 Try.underlying38 hi hz0 hz1 hz2 rfl (by decide) _ _ _ rfl (HO2.out.alloc _) ⟨w2.heap.size, 0, none⟩ 1 1 [.int .i64 p.f, .int .u32 p.a, .int .u32 p.b, .int .u32 p.c, .int .u32 p.d, .int .i64 p.s, .int .i64 p.e, .int .i64 p.t, .string (str (pieceL l i))] rfl rfl (blk_add (Blk.new w2 [.int .i64 p.f, .int .u32 p.a, .int .u32 p.b, .int .u32 p.c, .int .u32 p.d, .int .i64 p.s, .int .i64 p.e, .int .i64 p.t, .string (str (pieceL l i))] 28)) (by simp [Value.oneCell']) (by have := HI.out; unfold maxLen; omega) (by have := HI.out; omega) (by simp; omega) ?_; intro v1 w3 hown1 hg1 _)
        go_roundw
        case rel =>
          exact ⟨i + 1, str (pieceL l i), HI.out, by rw [HE.out], by rw [cutP_succ, rowC_snoc]; exact hown1, (HK2.out.next _).grown hg1 (fun k hk => (HO2.out.lt k hk).1), (HH2.out.alloc HH2.out.size _).grown hg1 (by simp; omega) (fun k hk => Nat.le_of_lt (HO2.out.lt k hk).1)⟩
        case measure => exact meas_at n A E HM2.out
      · have db : decide ((64 : Int) < (d : Int)) = false := decide_eq_false (by omega)
        have hx : z.extract A n = str (pieceL l i) := by
          have e := HC.out
          rw [show min (A + 64) n = n by omega] at e
          exact e
        have hlo : (A : Int) ≤ (n : Int) := by omega
        have hhi : (n : Int) ≤ (n : Int) := by omega
        have HE : Hid (min (64 * (i + 1)) n = n) := Lib.hid (by omega)
        have HM2 : Hid (n - n < n - A) := Lib.hid (by omega)
        clear hA hAn hd hb h him hi64
        have e1 := E1.out
        have e2 := E2.out
        have t8 := HK.out.thaw 8
        have c8 := HK.out.cell 8 rfl
        go_upto_region 8 with fail
        clear t8 c8 e1 e2
        obtain ⟨w2, hw2⟩ : ∃ w2, wr.setCell ⟨w.heap.size, 8, none⟩ (.string (str (pieceL l i))) = w2 := ⟨_, rfl⟩
        have HK2 : Hid (Blk w2 w.heap.size [.int .i64 p.f, .int .u32 p.a, .int .u32 p.b, .int .u32 p.c, .int .u32 p.d, .int .i64 p.s, .int .i64 p.e, .int .i64 p.t, .string (str (pieceL l i))]) := Lib.hid (hw2 ▸ (HK.out.set 8 (.string (str (pieceL l i)))))
        have HH2 : Hid (Below w.heap.size w w2) := Lib.hid (hw2 ▸ (HH.out.setCell (p := ⟨w.heap.size, 8, none⟩) (Nat.le_refl _) _))
        have HO2 : Hid (w2.ownsRow (w.heap.size + 1) 28 9 (.slice a i c) i (rowC (cutP p l i))) := Lib.hid (hw2 ▸ (ownsRow_setCell_below HO.out (a := ⟨w.heap.size, 8, none⟩) (Nat.lt_succ_self _) _))
        have hlt := HK2.out.lt
        rw [hw2]
        clear hw2 HK HH HO
        have c0 := HK2.out.cell 0 rfl
        have c1 := HK2.out.cell 1 rfl
        have c2 := HK2.out.cell 2 rfl
        have c3 := HK2.out.cell 3 rfl
        have c4 := HK2.out.cell 4 rfl
        have c5 := HK2.out.cell 5 rfl
        have c6 := HK2.out.cell 6 rfl
        have c7 := HK2.out.cell 7 rfl
        have c8 := HK2.out.cell 8 rfl
        go_wp2_with (at_builtin; refine wpList_append_own _ rfl (.tmp 30) (.tmp 32) 38 rfl (w.heap.size + 1) 28 i0 (.agg #[.int .i64 0, .int .u32 0, .int .u32 0, .int .u32 0, .int .u32 0, .int .i64 0, .int .i64 0, .int .i64 0, .string ⟨#[]⟩] : Value) 9 64 Try.underlying38 hi hz0 hz1 hz2 rfl (by decide) _ _ _ rfl (HO2.out.alloc _) ⟨w2.heap.size, 0, none⟩ 1 1 [.int .i64 p.f, .int .u32 p.a, .int .u32 p.b, .int .u32 p.c, .int .u32 p.d, .int .i64 p.s, .int .i64 p.e, .int .i64 p.t, .string (str (pieceL l i))] rfl rfl (blk_add (Blk.new w2 [.int .i64 p.f, .int .u32 p.a, .int .u32 p.b, .int .u32 p.c, .int .u32 p.d, .int .i64 p.s, .int .i64 p.e, .int .i64 p.t, .string (str (pieceL l i))] 28)) (by simp [Value.oneCell']) (by have := HI.out; unfold maxLen; omega) (by have := HI.out; omega) (by simp; omega) ?_; intro v1 w3 hown1 hg1 _)
        go_roundw
        case rel =>
          exact ⟨i + 1, str (pieceL l i), HI.out, by rw [HE.out], by rw [cutP_succ, rowC_snoc]; exact hown1, (HK2.out.next _).grown hg1 (fun k hk => (HO2.out.lt k hk).1), (HH2.out.alloc HH2.out.size _).grown hg1 (by simp; omega) (fun k hk => Nat.le_of_lt (HO2.out.lt k hk).1)⟩
        case measure => exact meas_at n A n HM2.out
    · obtain rfl : i = m := by omega
      have HR : Hid (OwnPars (cutP p l i) w (.returned (.slice a i c)) wr) := Lib.hid ⟨_, rfl, by rw [cutP_length]; exact row_lower HO.out (Nat.le_succ _), HH.out⟩
      have he : A = n ∨ i = 64 := by
        have h1 := HM.out
        unfold cutN at h1
        omega
      rcases he with he | he
      · have dA : decide (A < n) = false := decide_eq_false (by omega)
        clear he hA h him
        go_wp2_with fail
        go_ret
        exact HR.out
      · have d64 : decide ((i : Int) < 64) = false := decide_eq_false (by omega)
        obtain ⟨r, hr⟩ : ∃ r, decide (A < n) = r := ⟨_, rfl⟩
        clear he hA h him
        cases r <;> (go_wp2_with fail; go_ret; exact HR.out)
end Go.Proofs.Ytdpcpjloacifpaa
