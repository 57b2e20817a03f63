/- A strings.Builder of the call's own: what writing leaves as it was above it, too (blocks that are no rows of bytes). For any seat. -/
import Derived.Test.YtelfbkfmngjheaaDoorBuild
import Derived.Lib.OthersKept
import Derived.Lib.FrozenHead2
namespace Go.Proofs.YtelfbkfmngjheaaDoor
open Go.RowKit
theorem Build.on {b : Nat} {l : List UInt8} {w w' : World} (h : Build b l w) (hb : Below w.heap.size w w') : Build b l w' := by
  have hlt := h.lt
  rcases h with ⟨h1, v, h2, h3, h4⟩ | ⟨h1, v, h2, h3, h4⟩
  · exact .inl ⟨h1, v, (hb.block b hlt).trans h2, row_below h3 hb, h4⟩
  · exact .inr ⟨h1, v, (hb.block b hlt).trans h2, row_below h3 hb, h4⟩
theorem Blk.low {w w' : World} {b B : Nat} {cs : List Value} (h : Blk w b cs) (hlt : b < B) (hb : Below B w w') : Blk w' b cs := by
  obtain ⟨t, h⟩ := h
  exact ⟨t, (hb.block b hlt).trans h⟩
/-- copyCheck: behind it the builder holds its own address; its bytes are as they were. -/
theorem bcheck_k (b : Nat) (l : List UInt8) (w : World) (h : Build b l w) :
    Calls Tryd.prog 46 #[.pointer (some ⟨b, 0, none⟩)] w fun e w' => e = .returned (.tuple #[]) ∧ Lib.BuilderAt 49 5 b b (.pointer (some ⟨b, 0, none⟩)) (Lib.byteCells l) w' ∧ Below b w w' ∧ Lib.OthersKept 5 (some b) w w' := by
  have S := Lib.hid (same_ptr ⟨b, 0, none⟩)
  have N := Lib.hid through
  rcases h with h | h
  · have HU := Lib.hid (h.used (.pointer (some ⟨b, 0, none⟩)))
    have HO := Lib.hid ((Lib.OthersKept.refl 5 (some b) w).setCell ⟨b, 0, none⟩ rfl (.pointer (some ⟨b, 0, none⟩)))
    have HB := Lib.hid ((Below.refl b w).setCell (p := ⟨b, 0, none⟩) h.1 (.pointer (some ⟨b, 0, none⟩)))
    have c0 := h.cell0
    have t0 := h.frozen0
    have e1 := raw_ptr b w h.shape
    have e2 := back_ptr b w h.shape
    clear h S
    go_enter Tryd.func46, Tryd.ntmps46
    go_wp2_with (simp only [N.out])
    go_end0
    exact ⟨rfl, HU.out, HB.out, HO.out⟩
  · have HH := Lib.hid h
    have c0 := h.cell0
    clear h N
    go_enter Tryd.func46, Tryd.ntmps46
    go_wp2_with (simp only [S.out])
    go_end0
    exact ⟨rfl, HH.out, Below.refl b _, Lib.OthersKept.refl _ _ _⟩

/-- WriteString: the text's bytes behind those that were there. -/
theorem bwrite_k (b : Nat) (l : List UInt8) (s : ByteArray) (w : World) (h : Build b l w) (hlen : l.length + s.size ≤ 140737488355328) :
    Calls Tryd.prog 34 #[.pointer (some ⟨b, 0, none⟩), .string s] w fun e w' => e = .returned (.tuple #[.int .i64 s.size, .nilIface]) ∧ Build b (l ++ s.data.toList) w' ∧ Below b w w' ∧ Lib.OthersKept 5 (some b) w w' := by
  obtain ⟨i0, hi, hz0, hz1, hz2⟩ := info_parts byte_info
  have hbw := h.lt
  have C := Lib.hid (bcheck_k b l w h)
  have HL : Hid ((Lib.byteCells (l ++ s.data.toList)).length = l.length + s.size) := Lib.hid (by rw [Lib.byteCells_length, List.length_append, size_list])
  have HC : Hid (Lib.byteCells l ++ Lib.strCells s = Lib.byteCells (l ++ s.data.toList)) := Lib.hid (by rw [strCells_byte, byteCells_append])
  clear h
  go_enter Tryd.func34, Tryd.ntmps34
  go_wp2_with fail
  refine C.out.mono ?_
  rintro e w1 ⟨rfl, ⟨hB, v, hv, hown, hne⟩, hb1, hk1⟩
  rw [Lib.byteCells_length] at hown
  have k1 : Blk w1 b [.pointer (some ⟨b, 0, none⟩), v] := ⟨_, hv⟩
  have c0 := k1.cell 0 rfl
  have c1 := k1.cell 1 rfl
  have hs1 := hb1.size
  have hlow := hown.lt
  go_wp2_with (at_builtin; refine Lib.wpList_append_own_string _ rfl _ _ 47 9 rfl b 5 i0 Tryd.underlying47 Tryd.underlying9 hi hz0 hz1 hz2 _ _ _ rfl hown s rfl (by unfold maxLen; omega) (by omega) (by omega) ?_)
  intro v' w2 own2 hg _
  have hne' : ∀ k, v.ownBlock = some k → b < k := fun k hk => Nat.lt_of_le_of_ne (hlow k hk).1 (fun e => hne (by rw [hk, e]))
  have h2 := (hg.block b k1.lt (fun e => hne e.symm)).trans hv
  have k2 := k1.grown hg hne'
  obtain ⟨a', c', rfl⟩ := row_slice own2
  have d0 := k2.cell 0 rfl
  have d1 := k2.cell 1 rfl
  have f1 := k2.thaw 1
  rw [HC.out] at own2
  have HP := Lib.hid (Lib.BuilderAt.put hB h2 (bs' := Lib.byteCells (l ++ s.data.toList)) (by rw [HL.out]; exact own2) (by decide))
  have HB := Lib.hid ((hb1.grown hg (Nat.le_trans (Nat.le_of_lt hbw) hs1) (fun k hk => (hlow k hk).1)).setCell (p := ⟨b, 1, none⟩) hB (.slice a' (l.length + s.size) c'))
  have HO := Lib.hid ((hk1.grown hg (Lib.ownsRowF_kind (World.ownsRowF_of hown))).setCell ⟨b, 1, none⟩ rfl (.slice a' (l.length + s.size) c'))
  clear own2 h2 hv hk1 hown hne hne' hlow hg k1 k2 c0 c1
  go_wp2
  go_ret2
  exact ⟨rfl, .inr HP.out, HB.out, HO.out⟩

end Go.Proofs.YtelfbkfmngjheaaDoor
