/- A strings.Builder of the call's own: copyCheck and WriteString, walked; String by the library's contract. For any seat that has them. -/
import Derived.Test.YtelfbkfmngjheaaDoorInts
import Derived.Lib.Builder
import Derived.Lib.AppendStr
import Derived.Shelf.Strings.Builder1
namespace Go.Proofs.YtelfbkfmngjheaaDoor
open Go.RowKit Go.Shelf

theorem build_size : (Tryd.prog.info? 49).map (fun i => i.size) = some 2 := by kernel_rfl
theorem build_lies : liesAt Tryd.prog Tryd.prog.depth 49 (2 / Tryd.prog.cellsOf 49) 0 49 1 = true := by kernel_rfl
theorem byte_info : (Tryd.prog.info? 5).map (fun i => (i.zero, i.size, i.bytes)) = some (some (.int .u8 0), 1, 1) := by kernel_rfl

/-- The road of copyCheck, in equations: a pointer held against itself; a pointer made raw, handed through, and made a pointer again. -/
theorem same_ptr (q : Addr) (w : World) : (binOp .neq 46 (.pointer (some q)) (.pointer (some q))).run Tryd.prog w = .ok (.bool false) w := by
  obtain ⟨j, hj, _⟩ := Option.map_eq_some_iff.1 build_size
  exact Lib.run_neq_ptr_same w q Tryd.underlying46 hj
theorem raw_ptr (b : Nat) (w : World) (h : w.shape? b = some (49, 2)) : (convert 46 69 (.pointer (some ⟨b, 0, none⟩))).run Tryd.prog w = .ok (.pointer (some ⟨b, 0, none⟩)) w := by
  obtain ⟨j, hj, hz⟩ := Option.map_eq_some_iff.1 build_size
  exact Lib.run_to_unsafe w _ Tryd.underlying46 Tryd.underlying69 hj (by omega) h (by show 0 < 2; omega)
theorem back_ptr (b : Nat) (w : World) (h : w.shape? b = some (49, 2)) : (convert 69 46 (.pointer (some ⟨b, 0, none⟩))).run Tryd.prog w = .ok (.pointer (some ⟨b, 0, none⟩)) w := by
  obtain ⟨j, hj, _⟩ := Option.map_eq_some_iff.1 build_size
  exact Lib.run_from_unsafe w _ Tryd.underlying69 Tryd.underlying46 hj h build_lies
theorem through (x : Value) (w : World) : (callFunc 55 #[x]).run Tryd.prog w = .ok (.value x) w := by
  rw [run_callFunc_extern Tryd.func55 (by kernel_rfl) (by kernel_rfl) (by kernel_rfl) (e := Extern.AbiNoEscape.same) (by kernel_rfl)]; rfl

/-- A builder in block b that holds these bytes; nothing below b is its own. -/
def Build (b : Nat) (l : List UInt8) (w : World) : Prop := Lib.IsBuilder 49 5 b b (Lib.byteCells l) w
theorem build_fresh (w : World) : Build w.heap.size [] (w.alloc (.cells #[.pointer none, .slice none 0 0] 49)) := Lib.fresh_isBuilder _ _ w
theorem Build.lt {b : Nat} {l : List UInt8} {w : World} (h : Build b l w) : b < w.heap.size := by
  rcases h with h | h <;> exact h.lt
theorem strCells_byte (s : ByteArray) : Lib.strCells s = Lib.byteCells s.data.toList := by simp [Lib.strCells, Lib.byteCells]
theorem byteCells_append (l m : List UInt8) : Lib.byteCells l ++ Lib.byteCells m = Lib.byteCells (l ++ m) := by simp [Lib.byteCells]

/-- copyCheck: behind it the builder holds its own address; its bytes are as they were. -/
theorem bcheck_any (b : Nat) (l : List UInt8) (w : World) (h : Build b l w) :
    Calls Tryd.prog 46 #[.pointer (some ⟨b, 0, none⟩)] w fun e w' => e = .returned (.tuple #[]) ∧ Lib.BuilderAt 49 5 b b (.pointer (some ⟨b, 0, none⟩)) (Lib.byteCells l) w' ∧ Below b w w' := by
  have S := Lib.hid (same_ptr ⟨b, 0, none⟩)
  have N := Lib.hid through
  rcases h with h | h
  · have HU := Lib.hid (h.used (.pointer (some ⟨b, 0, none⟩)))
    have HB := Lib.hid ((Below.refl b w).setCell (p := ⟨b, 0, none⟩) h.1 (.pointer (some ⟨b, 0, none⟩)))
    have c0 := h.cell0
    have t0 := h.frozen0
    have e1 := raw_ptr b w h.shape
    have e2 := back_ptr b w h.shape
    clear h S
    go_enter Tryd.func46, Tryd.ntmps46
    go_wp2_with (simp only [N.out])
    go_end0
    exact ⟨rfl, HU.out, HB.out⟩
  · have HH := Lib.hid h
    have c0 := h.cell0
    clear h N
    go_enter Tryd.func46, Tryd.ntmps46
    go_wp2_with (simp only [S.out])
    go_end0
    exact ⟨rfl, HH.out, Below.refl b _⟩

/-- WriteString: the text's bytes behind those that were there. -/
theorem bwrite_any (b : Nat) (l : List UInt8) (s : ByteArray) (w : World) (h : Build b l w) (hlen : l.length + s.size ≤ 140737488355328) :
    Calls Tryd.prog 34 #[.pointer (some ⟨b, 0, none⟩), .string s] w fun e w' => e = .returned (.tuple #[.int .i64 s.size, .nilIface]) ∧ Build b (l ++ s.data.toList) w' ∧ Below b w w' := by
  obtain ⟨i0, hi, hz0, hz1, hz2⟩ := info_parts byte_info
  have hbw := h.lt
  have C := Lib.hid (bcheck_any b l w h)
  have HL : Hid ((Lib.byteCells (l ++ s.data.toList)).length = l.length + s.size) := Lib.hid (by rw [Lib.byteCells_length, List.length_append, size_list])
  have HC : Hid (Lib.byteCells l ++ Lib.strCells s = Lib.byteCells (l ++ s.data.toList)) := Lib.hid (by rw [strCells_byte, byteCells_append])
  clear h
  go_enter Tryd.func34, Tryd.ntmps34
  go_wp2_with fail
  refine C.out.mono ?_
  rintro e w1 ⟨rfl, ⟨hB, v, hv, hown, hne⟩, hb1⟩
  rw [Lib.byteCells_length] at hown
  have k1 : Blk w1 b [.pointer (some ⟨b, 0, none⟩), v] := ⟨_, hv⟩
  have c0 := k1.cell 0 rfl
  have c1 := k1.cell 1 rfl
  have hs1 := hb1.size
  have hlow := hown.lt
  go_wp2_with (at_builtin; refine Lib.wpList_append_own_string _ rfl _ _ 47 9 rfl b 5 i0 Tryd.underlying47 Tryd.underlying9 hi hz0 hz1 hz2 _ _ _ rfl hown s rfl (by unfold maxLen; omega) (by omega) (by omega) ?_)
  intro v' w2 own2 hg _
  have hne' : ∀ k, v.ownBlock = some k → b < k := fun k hk => Nat.lt_of_le_of_ne (hlow k hk).1 (fun e => hne (by rw [hk, e]))
  have h2 := (hg.block b k1.lt (fun e => hne e.symm)).trans hv
  have k2 := k1.grown hg hne'
  obtain ⟨a', c', rfl⟩ := row_slice own2
  have d0 := k2.cell 0 rfl
  have d1 := k2.cell 1 rfl
  have f1 := k2.thaw 1
  rw [HC.out] at own2
  have HP := Lib.hid (Lib.BuilderAt.put hB h2 (bs' := Lib.byteCells (l ++ s.data.toList)) (by rw [HL.out]; exact own2) (by decide))
  have HB := Lib.hid ((hb1.grown hg (Nat.le_trans (Nat.le_of_lt hbw) hs1) (fun k hk => (hlow k hk).1)).setCell (p := ⟨b, 1, none⟩) hB (.slice a' (l.length + s.size) c'))
  clear own2 h2 hv hown hne hne' hlow hg k1 k2 c0 c1
  go_wp2
  go_ret2
  exact ⟨rfl, .inr HP.out, HB.out⟩

/-- String, by the library's contract: its numbers here. -/
def stringRen : Go.Shelf.Ren := ⟨fun | 169 => 37 | n => n, fun | 70 => 46 | 9 => 9 | 0 => 0 | 72 => 49 | 37 => 47 | 127 => 65 | 3 => 3 | 5 => 5 | n => n, fun | n => n⟩
theorem stringLays : Go.Proofs.Lays.n169 Tryd.prog stringRen := {
  mixed := by kernel_rfl
  f169 := Tryd.func37.trans (congrArg some (by kernel_rfl))
  t0 := Tryd.underlying0
  a0 := Tryd.isAgg0
  z0 := Tryd.sizeOf0
  v0 := Tryd.zeroValue0
  t3 := Tryd.underlying3
  a3 := Tryd.isAgg3
  z3 := Tryd.sizeOf3
  v3 := Tryd.zeroValue3
  t9 := Tryd.underlying9
  a9 := Tryd.isAgg9
  z9 := Tryd.sizeOf9
  v9 := Tryd.zeroValue9
  t37 := Tryd.underlying47
  a37 := Tryd.isAgg47
  z37 := Tryd.sizeOf47
  v37 := Tryd.zeroValue47
  t70 := Tryd.underlying46
  a70 := Tryd.isAgg46
  z70 := Tryd.sizeOf46
  v70 := Tryd.zeroValue46
  t72 := Tryd.underlying49
  a72 := Tryd.isAgg49
  z72 := Tryd.sizeOf49
  v72 := Tryd.zeroValue49
  t127 := Tryd.underlying65
  a127 := Tryd.isAgg65
  z127 := Tryd.sizeOf65
  v127 := Tryd.zeroValue65 }
theorem stringExtra : Builder.Extra Tryd.prog stringRen := {
  sizeBuilder := by kernel_rfl
  liesBuilder := by kernel_rfl
  t5 := Tryd.underlying5
  a5 := Tryd.isAgg5
  z5 := Tryd.sizeOf5
  v5 := Tryd.zeroValue5
  infoByte := by kernel_rfl
  cellsByte := by kernel_rfl
  sizeByte := by kernel_rfl
  neB5 := by decide }
theorem bstring_any (b : Nat) (l : List UInt8) (w : World) (h : Build b l w) :
    Calls Tryd.prog 37 #[.pointer (some ⟨b, 0, none⟩)] w fun e w' => e = .returned (.string (str l)) ∧ Below b w w' :=
  Any.Builder_String_any stringLays stringExtra b b l w h (Nat.le_of_lt h.lt)
end Go.Proofs.YtelfbkfmngjheaaDoor
