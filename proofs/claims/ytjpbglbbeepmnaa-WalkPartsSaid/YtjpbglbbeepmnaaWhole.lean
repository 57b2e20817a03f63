/- A whole array or struct of many cells as one load or store. No program is named here. -/
import Derived.Test.YtjpbglbbeepmnaaQuiet
import Derived.Deep.MidRow
import Derived.Laws.CopyOwn
import Derived.Deep.WholeRow
namespace Go.Proofs.Ytjpbglbbeepmnaa
open Go.RowKit Go.Sort
/-- A whole array or struct is read, or written: these two hide from the walk how. -/
def wholeLoad (ty : TypeId) (v : Value) : Sem Value := Instr.loadAt ty v
def wholeStore (ty : TypeId) (v x : Value) : Sem Unit := Instr.storeAt ty v x
theorem Blk.loads {P : Program} {w : World} {b : Nat} {cs : List Value} {ty : TypeId} {d : TypeDesc} (h : Blk w b cs) (hu : P.underlying ty = some d) (hd : d.isRow = true) (hi : (P.info? ty).map (·.size) = some cs.length) :
    (wholeLoad ty (.pointer (some ⟨b, 0, none⟩))).run P w = .ok (.agg cs.toArray) w :=
  run_loadAt_mid w b 0 ty cs d (fun j v hv => h.cell (0 + j) (by rw [Nat.zero_add]; exact hv)) hu hd hi
theorem Blk.tails {P : Program} {w : World} {b : Nat} {c : Value} {cs : List Value} {ty : TypeId} {d : TypeDesc} (h : Blk w b (c :: cs)) (hu : P.underlying ty = some d) (hd : d.isRow = true) (hi : (P.info? ty).map (·.size) = some cs.length) :
    (wholeLoad ty (.pointer (some ⟨b, 1, none⟩))).run P w = .ok (.agg cs.toArray) w :=
  run_loadAt_mid w b 1 ty cs d (fun j v hv => h.cell (1 + j) (by rw [Nat.add_comm]; exact hv)) hu hd hi
theorem Blk.stores {P : Program} {w : World} {b : Nat} {cs ds : List Value} {ty : TypeId} (h : Blk w b cs) (hi : (P.info? ty).map (·.size) = some ds.length) (hl : cs.length = ds.length) (h1 : ∀ v ∈ ds, v.oneCell' = true) :
    (wholeStore ty (.pointer (some ⟨b, 0, none⟩)) (.agg ds.toArray)).run P w = .ok () (w.setRow b ds.toArray) := by
  obtain ⟨t, h⟩ := h
  simp only [wholeStore, Instr.storeAt, Instr.sureAddr, Sem.run_bind, Sem.run_pure, Result.andThen_ok]
  exact run_storeVar_row w b t ty cs.toArray ds.toArray h (by simpa using hi) (by simpa using hl) (all_oneCell_toArray h1)
theorem Blk.put {w : World} {b : Nat} {cs : List Value} (h : Blk w b cs) (ds : List Value) : Blk (w.setRow b ds.toArray) b ds := by
  obtain ⟨t, h⟩ := h
  exact ⟨t, setRow_heap w b _ _ t _ h⟩
theorem Blk.beside {w : World} {b : Nat} {cs : List Value} (h : Blk w b cs) (a : Nat) (hab : b ≠ a) (ds : Array Value) : Blk (w.setRow a ds) b cs := by
  obtain ⟨t, h⟩ := h
  exact ⟨t, by rw [setRow_other w a b ds hab]; exact h⟩
end Go.Proofs.Ytjpbglbbeepmnaa
