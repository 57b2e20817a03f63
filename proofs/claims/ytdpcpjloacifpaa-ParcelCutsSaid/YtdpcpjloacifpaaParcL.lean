/- Contracts of package parcel, part L: Cut. -/
import Derived.Test.YtdpcpjloacifpaaParcK
import Derived.Test.YtdpcpjloacifpaaInts
namespace Go.Proofs.Ytdpcpjloacifpaa
open Go.RowKit Go.Sort

/-- The i-th piece of a text, and a parcel that carries it. -/
def pieceL (l : List UInt8) (i : Nat) : List UInt8 := (l.drop (64 * i)).take 64
def Par.bear (p : Par) (y : ByteArray) : Par := { p with x := y }
def cutP (p : Par) (l : List UInt8) (m : Nat) : List Par := (List.range m).map fun i => p.bear (str (pieceL l i))
def cutN (z : Nat) : Nat := min ((z + 63) / 64) 64
theorem cutP_length (p : Par) (l : List UInt8) (m : Nat) : (cutP p l m).length = m := by simp [cutP]
theorem cutP_succ (p : Par) (l : List UInt8) (m : Nat) : cutP p l (m + 1) = cutP p l m ++ [p.bear (str (pieceL l m))] := by simp [cutP, List.range_succ]
theorem cutP_at {p : Par} {l : List UInt8} {m i : Nat} (h : i < m) : (cutP p l m)[i]? = some (p.bear (str (pieceL l i))) := by simp [cutP, h]
/-- Parcels as cells. -/
def rowC (L : List Par) : List Value := L.flatMap Par.cells
theorem rowC_length (L : List Par) : (rowC L).length = L.length * 9 := by
  induction L with
  | nil => rfl
  | cons p L ih =>
    have e : rowC (p :: L) = p.cells ++ rowC L := rfl
    have h9 : p.cells.length = 9 := rfl
    rw [e, List.length_append, ih, h9, List.length_cons]; omega
theorem rowC_snoc (L : List Par) (p : Par) : rowC (L ++ [p]) = rowC L ++ p.cells := by simp [rowC]
theorem rowC_at {L : List Par} {i k : Nat} {p : Par} {v : Value} (h : L[i]? = some p) (hk : p.cells[k]? = some v) : (rowC L)[i * 9 + k]? = some v := by
  induction L generalizing i with
  | nil => simp at h
  | cons q L ih =>
    have e : rowC (q :: L) = q.cells ++ rowC L := rfl
    have h9 : q.cells.length = 9 := rfl
    rw [e]
    cases i with
    | zero =>
      simp at h
      subst h
      have hk9 : k < q.cells.length := (List.getElem?_eq_some_iff.1 hk).1
      rw [Nat.zero_mul, Nat.zero_add, List.getElem?_append_left hk9]; exact hk
    | succ i =>
      rw [List.getElem?_append_right (by omega), h9, show (i + 1) * 9 + k - 9 = i * 9 + k by omega]
      exact ih (by simpa using h)
theorem add_row (g j k : Nat) : ((⟨g, 0, none⟩ : Addr).add j).add k = ⟨g, j + k, none⟩ := by
  unfold Addr.add
  split <;> split <;> simp_all
theorem ParAt.own {w : World} {B n c : Nat} {a : Option Addr} {L : List Par} (h : w.ownsRow B 28 9 (.slice a n c) n (rowC L)) (hn : L.length = n) : ParAt w a L := fun i p hi => by
  have hlt := (List.getElem?_eq_some_iff.1 hi).1
  obtain ⟨g, c', hg⟩ := row_some h (by omega)
  simp only [Value.slice.injEq, true_and] at hg
  obtain ⟨rfl, rfl⟩ := hg
  refine ⟨_, rfl, fun k v hk => ?_⟩
  rw [add_row]
  have hk9 : k < 9 := (List.getElem?_eq_some_iff.1 hk).1
  exact (h.cellAt (i * 9 + k) (by omega)).trans (rowC_at hi hk)
/-- New parcels. -/
def OwnPars (L : List Par) (w : World) (e : Ending) (w' : World) : Prop := ∃ v, e = .returned v ∧ w'.ownsRow w.heap.size 28 9 v L.length (rowC L) ∧ Below w.heap.size w w'
theorem parcel_info : (Try.prog.info? 28).map (fun i => (i.zero, i.size, i.bytes)) = some (some (.agg #[.int .i64 0, .int .u32 0, .int .u32 0, .int .u32 0, .int .u32 0, .int .i64 0, .int .i64 0, .int .i64 0, .string ⟨#[]⟩] : Value), 9, 64) := by kernel_rfl
theorem blk_add {w : World} {g : Nat} {cs : List Value} (h : Blk w g cs) : ∀ j u, cs[j]? = some u → w.cell? ((⟨g, 0, none⟩ : Addr).add j) = some u := fun j u hu => by
  have e : (⟨g, 0, none⟩ : Addr).add j = ⟨g, j, none⟩ := by unfold Addr.add; split <;> simp_all
  rw [e]; exact h.cell j hu

/-- What a round of Cut meets. -/
theorem cut_round (l : List UInt8) (i : Nat) (h : i < cutN l.length) : l.drop (64 * i) ≠ [] ∧ i < 64 := by
  unfold cutN at h
  refine ⟨fun e => ?_, by omega⟩
  have := congrArg List.length e
  rw [List.length_drop] at this
  simp at this; omega
theorem cut_end (l : List UInt8) (i : Nat) (h : i = cutN l.length) : l.drop (64 * i) = [] ∨ i = 64 := by
  unfold cutN at h
  by_cases h64 : i = 64
  · exact .inr h64
  · exact .inl (List.drop_of_length_le (by omega))

/-- What a round cuts off, and what it leaves. -/
theorem cut_piece (l : List UInt8) (i : Nat) : ∃ (S : ByteArray) (n j : Nat), str (l.drop (64 * i)) = S ∧ S.size = n ∧ (l.drop (64 * i)).length = n ∧ min n 64 = j ∧ S.extract 0 j = str (pieceL l i) ∧ S.extract j n = str (l.drop (64 * (i + 1))) := by
  refine ⟨_, _, _, rfl, rfl, (str_size _).symm, rfl, ?_, ?_⟩
  · rw [str_take, str_list, str_size]
    unfold pieceL
    by_cases h : (l.drop (64 * i)).length ≤ 64
    · rw [List.take_of_length_le (by omega), List.take_of_length_le h]
    · rw [show min (l.drop (64 * i)).length 64 = 64 by omega]
  · rw [str_drop, str_list, str_size, List.drop_drop]
    by_cases h : (l.drop (64 * i)).length ≤ 64
    · rw [List.length_drop] at h ⊢
      rw [List.drop_of_length_le (by omega), List.drop_of_length_le (by omega)]
    · rw [show min (l.drop (64 * i)).length 64 = 64 by omega, Nat.mul_succ]
def textSize (u : Value) : Nat := match u with | .string s => s.size | _ => 0
theorem textSize_drop (l : List UInt8) (i : Nat) (h : l.drop (64 * i) ≠ []) : textSize (.string (str (l.drop (64 * (i + 1))))) < textSize (.string (str (l.drop (64 * i)))) := by
  show (str (l.drop (64 * (i + 1)))).size < (str (l.drop (64 * i))).size
  rw [str_size, str_size, List.length_drop, List.length_drop]
  have : 64 * i < l.length := by
    rcases Nat.lt_or_ge (64 * i) l.length with h' | h'
    · exact h'
    · exact absurd (List.drop_of_length_le h') h
  omega

set_option maxHeartbeats 2000000 in
theorem cut_any (p : Par) (z : ByteArray) (w : World) (hz : z.size ≤ 1000000000) :
    Calls Try.prog 9 #[(.agg #[.int .i64 p.f, .int .u32 p.a, .int .u32 p.b, .int .u32 p.c, .int .u32 p.d, .int .i64 p.s, .int .i64 p.e, .int .i64 p.t, .string p.x] : Value), .string z] w (OwnPars (cutP p z.data.toList (cutN z.size)) w) := by
  obtain ⟨i0, hi, hz0, hz1, hz2⟩ := info_parts parcel_info
  have hzl := size_list z
  obtain ⟨l, hl⟩ : ∃ l, z.data.toList = l := ⟨_, rfl⟩
  rw [hl] at hzl ⊢
  rw [← hzl]
  obtain ⟨m, hm⟩ : ∃ m, cutN l.length = m := ⟨_, rfl⟩
  have HM := Lib.hid hm
  have hm64 : m ≤ 64 := by rw [← hm]; unfold cutN; omega
  have HZ : Hid (z = str (l.drop (64 * 0))) := Lib.hid (by rw [← hl]; simp [str_of])
  have HL : Hid (l.length ≤ 1000000000) := Lib.hid (by omega)
  rw [hm]
  clear hm hz hzl hl
  go_enter Try.func9, Try.ntmps9
  go_upto_region 2 with fail
  go_loopw [1, 5] (fun u v wr => ∃ (i : Nat) (y : ByteArray), i ≤ m ∧ u = .string (str (l.drop (64 * i))) ∧ wr.ownsRow (w.heap.size + 1) 28 9 v i (rowC (cutP p l i)) ∧ Blk wr w.heap.size [.int .i64 p.f, .int .u32 p.a, .int .u32 p.b, .int .u32 p.c, .int .u32 p.d, .int .i64 p.s, .int .i64 p.e, .int .i64 p.t, .string y] ∧ Below w.heap.size w wr)
    (fun u _ _ => textSize u)
  case atStart => exact ⟨0, p.x, by omega, congrArg _ HZ.out, World.ownsRow_nil _ _ _ _, Blk.new w [.int .i64 p.f, .int .u32 p.a, .int .u32 p.b, .int .u32 p.c, .int .u32 p.d, .int .i64 p.s, .int .i64 p.e, .int .i64 p.t, .string p.x] 28, (Below.refl _ _).alloc (Nat.le_refl _) _⟩
  case round =>
    obtain ⟨i, y, him, rfl, hown, hblk, hbel⟩ := hrel
    obtain ⟨a, c, rfl⟩ := row_slice hown
    have HO := Lib.hid hown
    have HK := Lib.hid hblk
    have HH := Lib.hid hbel
    clear hown hblk hbel
    by_cases h : i < m
    · obtain ⟨hne, hi64⟩ := cut_round l i (by rw [HM.out]; exact h)
      have HD := Lib.hid (textSize_drop l i hne)
      have d64 : decide ((i : Int) < 64) = true := decide_eq_true (by omega)
      obtain ⟨S, n, j, hS, hn, hnl, hj, h1, h2⟩ := cut_piece l i
      have hne' : (!S.toList.isEmpty) = true := by rw [← hS, Lib.toList_data, str_list]; simpa using hne
      have hj' : min (n : Int) 64 = (j : Int) := by omega
      have hjn : (j : Int) ≤ (n : Int) := by omega
      have HI : Hid (i < m) := Lib.hid h
      have hd : (l.drop (64 * i)).length ≤ l.length := by rw [List.length_drop]; omega
      have hn63 : n ≤ 1000000000 := by have := HL.out; omega
      rw [hS] at HD ⊢
      clear hne hnl hj h him hd hS
      have c0 := HK.out.cell 0 rfl
      have c1 := HK.out.cell 1 rfl
      have c2 := HK.out.cell 2 rfl
      have c3 := HK.out.cell 3 rfl
      have c4 := HK.out.cell 4 rfl
      have c5 := HK.out.cell 5 rfl
      have c6 := HK.out.cell 6 rfl
      have c7 := HK.out.cell 7 rfl
      have c8 := HK.out.cell 8 rfl
      have t8 := HK.out.thaw 8
      go_upto_region 4 with fail
      go_region
      clear c0 c1 c2 c3 c4 c5 c6 c7 c8 t8
      obtain ⟨w2, hw2⟩ : ∃ w2, (wr.setCell ⟨w.heap.size, 8, none⟩ (.string (str (pieceL l i)))).drew = w2 := ⟨_, rfl⟩
      have HK2 : Hid (Blk w2 w.heap.size [.int .i64 p.f, .int .u32 p.a, .int .u32 p.b, .int .u32 p.c, .int .u32 p.d, .int .i64 p.s, .int .i64 p.e, .int .i64 p.t, .string (str (pieceL l i))]) := Lib.hid (hw2 ▸ (HK.out.set 8 (.string (str (pieceL l i)))).drew)
      have HH2 : Hid (Below w.heap.size w w2) := Lib.hid (hw2 ▸ (HH.out.setCell (p := ⟨w.heap.size, 8, none⟩) (Nat.le_refl _) _).drew)
      have HO2 : Hid (w2.ownsRow (w.heap.size + 1) 28 9 (.slice a i c) i (rowC (cutP p l i))) := Lib.hid (hw2 ▸ (ownsRow_setCell_below HO.out (a := ⟨w.heap.size, 8, none⟩) (Nat.lt_succ_self _) _).drew)
      have hlt := HK2.out.lt
      rw [hw2]
      clear hw2 HK HH HO
      have c0 := HK2.out.cell 0 rfl
      have c1 := HK2.out.cell 1 rfl
      have c2 := HK2.out.cell 2 rfl
      have c3 := HK2.out.cell 3 rfl
      have c4 := HK2.out.cell 4 rfl
      have c5 := HK2.out.cell 5 rfl
      have c6 := HK2.out.cell 6 rfl
      have c7 := HK2.out.cell 7 rfl
      have c8 := HK2.out.cell 8 rfl
      go_wp2_with (at_builtin; refine wpList_append_own _ rfl (.tmp 24) (.tmp 26) 38 rfl (w.heap.size + 1) 28 i0 (.agg #[.int .i64 0, .int .u32 0, .int .u32 0, .int .u32 0, .int .u32 0, .int .i64 0, .int .i64 0, .int .i64 0, .string ⟨#[]⟩] : Value) 9 64 Try.underlying38 hi hz0 hz1 hz2 rfl (by decide) _ _ _ rfl (HO2.out.alloc _) ⟨w2.heap.size, 0, none⟩ 1 1 [.int .i64 p.f, .int .u32 p.a, .int .u32 p.b, .int .u32 p.c, .int .u32 p.d, .int .i64 p.s, .int .i64 p.e, .int .i64 p.t, .string (str (pieceL l i))] rfl rfl (blk_add (Blk.new w2 [.int .i64 p.f, .int .u32 p.a, .int .u32 p.b, .int .u32 p.c, .int .u32 p.d, .int .i64 p.s, .int .i64 p.e, .int .i64 p.t, .string (str (pieceL l i))] 28)) (by simp [Value.oneCell']) (by unfold maxLen; omega) (by omega) (by simp; omega) ?_; intro v1 w3 hown1 hg1 _)
      go_roundw
      case rel =>
        exact ⟨i + 1, str (pieceL l i), HI.out, rfl, by rw [cutP_succ, rowC_snoc]; exact hown1, (HK2.out.next _).grown hg1 (fun k hk => (HO2.out.lt k hk).1), (HH2.out.alloc HH2.out.size _).grown hg1 (by simp; omega) (fun k hk => Nat.le_of_lt (HO2.out.lt k hk).1)⟩
      case measure => exact HD.out
    · obtain rfl : i = m := by omega
      have HR : Hid (OwnPars (cutP p l i) w (.returned (.slice a i c)) wr) := Lib.hid ⟨_, rfl, by rw [cutP_length]; exact row_lower HO.out (Nat.le_succ _), HH.out⟩
      rcases cut_end l i HM.out.symm with he | he
      · have hne' : (!(str (l.drop (64 * i))).toList.isEmpty) = false := by rw [Lib.toList_data, str_list, he]; rfl
        clear he
        go_wp2_with fail
        go_ret
        exact HR.out
      · have d64 : decide ((i : Int) < 64) = false := decide_eq_false (by omega)
        obtain ⟨r, hr⟩ : ∃ r, (!(str (l.drop (64 * i))).toList.isEmpty) = r := ⟨_, rfl⟩
        clear he
        cases r <;> (go_wp2_with fail; go_ret; exact HR.out)
end Go.Proofs.Ytdpcpjloacifpaa
