/- Contracts of package parcel, part B: Bytes. -/
import Derived.Test.YtdpcpjloacifpaaParcA
import Derived.Test.YtdpcpjloacifpaaEpochB
import Derived.Test.YtdpcpjloacifpaaPBlob
namespace Go.Proofs.Ytdpcpjloacifpaa
open Go.RowKit Go.Sort

/-- A text behind its length. -/
def blobL (l : List UInt8) : List UInt8 := UInt8.ofNat l.length :: l
theorem blobL_length (l : List UInt8) : (blobL l).length = l.length + 1 := rfl
theorem blob_gives (x : ByteArray) (h : x.size ≤ 64) : Gives Try.prog 15 #[.string x] (.tuple #[.string (str (blobL x.data.toList)), .int .i64 0]) := by
  intro w
  have hb := blob_any x w (by unfold maxLen; omega)
  have e : blobV x.data.toList = .tuple #[.string (str (blobL x.data.toList)), .int .i64 0] := by
    unfold blobV blobL
    rw [if_neg (by rw [size_list]; omega)]
  rw [e] at hb
  exact hb
theorem pnum_one (n : Nat) (hn : n < 18446744073709551616) : Gives Try.prog 16 #[.int .u64 (n : Int), .int .i64 1] (.string (str (PackF.numL n 1))) := fun w => num_any n 1 w hn

/-- The bytes of a parcel, ahead of its body; and all of them. -/
def headP (f a b c d g t : Nat) : List UInt8 := PackF.numL f 1 ++ pairL a b c d ++ PackF.numL g 1 ++ PackF.numL t 1
def parcL (f a b c d g t : Nat) (l : List UInt8) : List UInt8 := headP f a b c d g t ++ blobL l
theorem headP_length (f a b c d g t : Nat) : (headP f a b c d g t).length = 19 := by unfold headP; simp [PackF.numL_length, pairL_length]
theorem parcL_length (f a b c d g t : Nat) (l : List UInt8) : (parcL f a b c d g t l).length = 20 + l.length := by
  unfold parcL; rw [List.length_append, headP_length, blobL_length]; omega

theorem pbytes_bad (f a b c d s e t : Int) (x : ByteArray) (hx : x.size ≤ maxLen) (h : rightP f s e t x.size = false) :
    Gives Try.prog 6 #[(.agg #[.int .i64 f, .int .u32 a, .int .u32 b, .int .u32 c, .int .u32 d, .int .i64 s, .int .i64 e, .int .i64 t, .string x] : Value)] (.tuple #[.string ⟨#[]⟩, .int .i64 1]) := by
  intro w
  have R := Lib.hid (pright_any f a b c d s e t x hx)
  rw [h] at R
  have HB : Hid (Below w.heap.size w (w.alloc (.cells #[.int .i64 f, .int .u32 a, .int .u32 b, .int .u32 c, .int .u32 d, .int .i64 s, .int .i64 e, .int .i64 t, .string x] 28))) := Lib.hid ((Below.refl _ _).alloc (Nat.le_refl _) _)
  clear h hx
  go_enter Try.func6, Try.ntmps6
  go_wp2_with fail
  refine (R.out _).mono ?_
  rintro e w1 ⟨rfl, hb⟩
  go_wp2_with fail
  go_ret2
  exact ⟨rfl, bel_on HB.out hb⟩

set_option maxRecDepth 100000 in
set_option maxHeartbeats 2000000 in
theorem pbytes_ok (f a b c d s e t : Nat) (x : ByteArray) (h : rightP (f : Int) (s : Int) (e : Int) (t : Int) x.size = true) (ha : a < 4294967296) (hb : b < 4294967296) (hc : c < 4294967296) (hd : d < 4294967296) :
    Gives Try.prog 6 #[(.agg #[.int .i64 (f : Int), .int .u32 (a : Int), .int .u32 (b : Int), .int .u32 (c : Int), .int .u32 (d : Int), .int .i64 (s : Int), .int .i64 (e : Int), .int .i64 (t : Int), .string x] : Value)] (.tuple #[.string (str (parcL f a b c d (16 * s + e) t x.data.toList)), .int .i64 0]) := by
  intro w
  obtain ⟨hf, hs, he, ht, hx⟩ := rightP_in h
  have R := Lib.hid (pright_any (f : Int) (a : Int) (b : Int) (c : Int) (d : Int) (s : Int) (e : Int) (t : Int) x (by unfold maxLen; omega))
  rw [h] at R
  obtain ⟨g, hg⟩ : ∃ g, 16 * s + e = g := ⟨_, rfl⟩
  have hgi : 16 * (s : Int) + (e : Int) = (g : Int) := by omega
  have hgb : g < 256 := by omega
  rw [hg]
  have BL := Lib.hid (blob_gives x hx)
  have BY : Hid (Gives Try.prog 17 #[(.agg #[.int .u32 (a : Int), .int .u32 (b : Int), .int .u32 (c : Int), .int .u32 (d : Int)] : Value)] (.string (str (pairL a b c d)))) := Lib.hid (bytes_any a b c d ha hb hc hd)
  have N1 := Lib.hid (pnum_one f (by omega))
  have N2 := Lib.hid (pnum_one g (by omega))
  have N3 := Lib.hid (pnum_one t (by omega))
  have w1 : IntKind.u64.wrap (f : Int) = (f : Int) := by rw [IntKind.wrap_u64]; omega
  have w2 : IntKind.u64.wrap (g : Int) = (g : Int) := by rw [IntKind.wrap_u64]; omega
  have w3 : IntKind.u64.wrap (t : Int) = (t : Int) := by rw [IntKind.wrap_u64]; omega
  have e1 : wrap64 (16 * (s : Int)) = 16 * (s : Int) := IntWalk.wrap64_in _ (by omega)
  have e2 : wrap64 (wrap64 (16 * (s : Int)) + (e : Int)) = (g : Int) := by rw [e1, hgi]; exact IntWalk.wrap64_in _ (by omega)
  have hz1 : (str (PackF.numL f 1)).size = 1 := by rw [str_size, PackF.numL_length]
  have hz2 : (str (pairL a b c d)).size = 16 := by rw [str_size, pairL_length]
  have hz3 : (str (PackF.numL g 1)).size = 1 := by rw [str_size, PackF.numL_length]
  have hz4 : (str (PackF.numL t 1)).size = 1 := by rw [str_size, PackF.numL_length]
  have hz5 : (str (blobL x.data.toList)).size ≤ 65 := by rw [str_size, blobL_length, size_list]; omega
  have HV : Hid (str (PackF.numL f 1) ++ str (pairL a b c d) ++ str (PackF.numL g 1) ++ str (PackF.numL t 1) ++ str (blobL x.data.toList) = str (parcL f a b c d g t x.data.toList)) := Lib.hid (by rw [str_append, str_append, str_append, str_append]; rfl)
  generalize blobL x.data.toList = bl at *
  have o1 : ¬ 9223372036854775807 < (str (PackF.numL f 1)).size + (str (pairL a b c d)).size := by rw [hz1, hz2]; omega
  have o2 : ¬ 9223372036854775807 < (str (PackF.numL f 1) ++ str (pairL a b c d)).size + (str (PackF.numL g 1)).size := by rw [ByteArray.size_append, hz1, hz2, hz3]; omega
  have o3 : ¬ 9223372036854775807 < (str (PackF.numL f 1) ++ str (pairL a b c d) ++ str (PackF.numL g 1)).size + (str (PackF.numL t 1)).size := by rw [ByteArray.size_append, ByteArray.size_append, hz1, hz2, hz3, hz4]; omega
  have o4 : ¬ 9223372036854775807 < (str (PackF.numL f 1) ++ str (pairL a b c d) ++ str (PackF.numL g 1) ++ str (PackF.numL t 1)).size + (str bl).size := by rw [ByteArray.size_append, ByteArray.size_append, ByteArray.size_append, hz1, hz2, hz3, hz4]; omega
  have O1 := Lib.hid o1
  have O2 := Lib.hid o2
  have O3 := Lib.hid o3
  have O4 := Lib.hid o4
  clear h ha hb hc hd hf hs he ht hx hg hgb hgi e1 hz1 hz2 hz3 hz4 hz5 o1 o2 o3 o4
  go_enter Try.func6, Try.ntmps6
  have h := Lib.hid (Below.refl w.heap.size w)
  go_wp2_with fail
  refine (R.out _).mono ?_
  rintro e w1 ⟨rfl, hb⟩
  have b_h : Blk w1 w.heap.size [.int .i64 (f : Int), .int .u32 (a : Int), .int .u32 (b : Int), .int .u32 (c : Int), .int .u32 (d : Int), .int .i64 (s : Int), .int .i64 (e : Int), .int .i64 (t : Int), .string x] := (Blk.new w [.int .i64 (f : Int), .int .u32 (a : Int), .int .u32 (b : Int), .int .u32 (c : Int), .int .u32 (d : Int), .int .i64 (s : Int), .int .i64 (e : Int), .int .i64 (t : Int), .string x] 28).on hb
  have h' := bel_on ((h.out).alloc (h.out).size _) hb
  clear hb h
  have B_h := Lib.hid b_h
  have h := Lib.hid h'
  clear h' b_h
  have c_h8 := B_h.out.cell 8 rfl
  go_wp2_with fail
  refine (BL.out _).mono ?_
  rintro e w2 ⟨rfl, hb⟩
  clear c_h8
  have b_h : Blk w2 w.heap.size [.int .i64 (f : Int), .int .u32 (a : Int), .int .u32 (b : Int), .int .u32 (c : Int), .int .u32 (d : Int), .int .i64 (s : Int), .int .i64 (e : Int), .int .i64 (t : Int), .string x] := B_h.out.on hb
  have h' := bel_on h.out hb
  clear hb h B_h
  have B_h := Lib.hid b_h
  have h := Lib.hid h'
  clear h' b_h
  have c_h5 := B_h.out.cell 5 rfl
  have c_h6 := B_h.out.cell 6 rfl
  go_upto_region 5 with fail
  clear c_h5 c_h6
  have o1 := O1.out
  have o2 := O2.out
  have o3 := O3.out
  have o4 := O4.out
  have c_h0 := cell_regrown (B_h.out.cell 0 rfl)
  have c_h1 := cell_regrown (B_h.out.cell 1 rfl)
  have c_h2 := cell_regrown (B_h.out.cell 2 rfl)
  have c_h3 := cell_regrown (B_h.out.cell 3 rfl)
  have c_h4 := cell_regrown (B_h.out.cell 4 rfl)
  have c_h7 := cell_regrown (B_h.out.cell 7 rfl)
  refine wp_region_quiet_below (by kernel_rfl) (by kernel_rfl) ?_
  repeat (first | go_big_quiet_step (first | with_reducible exact N1.out.at _ _ _ | with_reducible exact BY.out.at _ _ _ | with_reducible exact N2.out.at _ _ _ | with_reducible exact N3.out.at _ _ _) | quiet_step (first | with_reducible exact N1.out.at _ _ _ | with_reducible exact BY.out.at _ _ _ | with_reducible exact N2.out.at _ _ _ | with_reducible exact N3.out.at _ _ _))
  refine wpQuiet_nil ?_
  intro _ hw'
  obtain ⟨⟨dq, osq⟩, hw''⟩ := hw'
  subst hw''
  go_wp2
  go_ret2
  exact ⟨by rw [← HV.out]; rfl, bel_on h.out (below_regrown _ dq osq)⟩
end Go.Proofs.Ytdpcpjloacifpaa
