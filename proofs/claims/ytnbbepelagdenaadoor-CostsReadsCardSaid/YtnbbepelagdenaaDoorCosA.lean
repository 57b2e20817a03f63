/- Links, and what they cost, as a value and as a block: seventeen cells. -/
import Derived.Test.YtnbbepelagdenaaDoorQuiet
import Derived.Test.YtnbbepelagdenaaDoorCosF
import Derived.Deep.MidRow
import Derived.Laws.CopyOwn
import Derived.Deep.WholeRow
namespace Go.Proofs.YtnbbepelagdenaaDoor
open Go.RowKit Go.Sort CosF

/-- Costs as cells. -/
def cosC (L : List Nat) : List Value := L.map fun (k : Nat) => .int .u32 (k : Int)
/-- Links as cells: what is up, and the sixteen costs. -/
def cosP (c : Pt) : List Value := .int .i64 c.1 :: cosC c.2
theorem cosC_length (L : List Nat) : (cosC L).length = L.length := by simp [cosC]
theorem cosP_length (c : Pt) : (cosP c).length = c.2.length + 1 := by simp [cosP, cosC_length]
theorem cosP_up (c : Pt) (v : Int) : (cosP c).set 0 (.int .i64 v) = cosP (v, c.2) := rfl
theorem cosP_set (c : Pt) (n k : Nat) : (cosP c).set (1 + n) (.int .u32 (k : Int)) = cosP (c.1, c.2.set n k) := by
  rw [Nat.add_comm]; simp [cosP, cosC, List.map_set]
theorem cosP_at {c : Pt} {n k : Nat} (h : c.2[n]? = some k) : (cosP c)[1 + n]? = some (.int .u32 (k : Int)) := by
  rw [Nat.add_comm]; simp [cosP, cosC, h]
theorem cosP_one (c : Pt) : ∀ v ∈ cosP c, v.oneCell' = true := by
  intro v hv
  rcases List.mem_cons.1 hv with rfl | hv
  · rfl
  · obtain ⟨k, _, rfl⟩ := List.mem_map.1 hv
    rfl

/-- A whole array or struct is read, or written: these two hide from the walk how. -/
def wholeLoad (ty : TypeId) (v : Value) : Sem Value := Instr.loadAt ty v
def wholeStore (ty : TypeId) (v x : Value) : Sem Unit := Instr.storeAt ty v x
theorem Blk.loads {P : Program} {w : World} {b : Nat} {cs : List Value} {ty : TypeId} {d : TypeDesc} (h : Blk w b cs) (hu : P.underlying ty = some d) (hd : d.isRow = true) (hi : (P.info? ty).map (·.size) = some cs.length) :
    (wholeLoad ty (.pointer (some ⟨b, 0, none⟩))).run P w = .ok (.agg cs.toArray) w :=
  run_loadAt_mid w b 0 ty cs d (fun j v hv => h.cell (0 + j) (by rw [Nat.zero_add]; exact hv)) hu hd hi
theorem Blk.tails {P : Program} {w : World} {b : Nat} {c : Value} {cs : List Value} {ty : TypeId} {d : TypeDesc} (h : Blk w b (c :: cs)) (hu : P.underlying ty = some d) (hd : d.isRow = true) (hi : (P.info? ty).map (·.size) = some cs.length) :
    (wholeLoad ty (.pointer (some ⟨b, 1, none⟩))).run P w = .ok (.agg cs.toArray) w :=
  run_loadAt_mid w b 1 ty cs d (fun j v hv => h.cell (1 + j) (by rw [Nat.add_comm]; exact hv)) hu hd hi
theorem Blk.stores {P : Program} {w : World} {b : Nat} {cs ds : List Value} {ty : TypeId} (h : Blk w b cs) (hi : (P.info? ty).map (·.size) = some ds.length) (hl : cs.length = ds.length) (h1 : ∀ v ∈ ds, v.oneCell' = true) :
    (wholeStore ty (.pointer (some ⟨b, 0, none⟩)) (.agg ds.toArray)).run P w = .ok () (w.setRow b ds.toArray) := by
  obtain ⟨t, h⟩ := h
  simp only [wholeStore, Instr.storeAt, Instr.sureAddr, Sem.run_bind, Sem.run_pure, Result.andThen_ok]
  exact run_storeVar_row w b t ty cs.toArray ds.toArray h (by simpa using hi) (by simpa using hl) (all_oneCell_toArray h1)
theorem Blk.put {w : World} {b : Nat} {cs : List Value} (h : Blk w b cs) (ds : List Value) : Blk (w.setRow b ds.toArray) b ds := by
  obtain ⟨t, h⟩ := h
  exact ⟨t, setRow_heap w b _ _ t _ h⟩
theorem Blk.beside {w : World} {b : Nat} {cs : List Value} (h : Blk w b cs) (a : Nat) (hab : b ≠ a) (ds : Array Value) : Blk (w.setRow a ds) b cs := by
  obtain ⟨t, h⟩ := h
  exact ⟨t, by rw [setRow_other w a b ds hab]; exact h⟩

theorem loadAt_cos (v : Value) : Instr.loadAt 25 v = wholeLoad 25 v := rfl
theorem loadAt_row (v : Value) : Instr.loadAt 23 v = wholeLoad 23 v := rfl
theorem storeAt_cos (v x : Value) : Instr.storeAt 25 v x = wholeStore 25 v x := rfl
theorem cos_size : (Tryd.prog.info? 25).map (·.size) = some 17 := by kernel_rfl
theorem row_size : (Tryd.prog.info? 23).map (·.size) = some 16 := by kernel_rfl
theorem cos_load {w : World} {b : Nat} {c : Pt} (h : Blk w b (cosP c)) (hc : Cos c) :
    (wholeLoad 25 (.pointer (some ⟨b, 0, none⟩))).run Tryd.prog w = .ok (.agg (cosP c).toArray) w :=
  h.loads Tryd.underlying25 rfl (by rw [cosP_length, hc.1]; exact cos_size)
theorem row_load {w : World} {b : Nat} {c : Pt} (h : Blk w b (cosP c)) (hc : Cos c) :
    (wholeLoad 23 (.pointer (some ⟨b, 1, none⟩))).run Tryd.prog w = .ok (.agg (cosC c.2).toArray) w :=
  Blk.tails h Tryd.underlying23 rfl (by rw [cosC_length, hc.1]; exact row_size)
theorem cos_store {w : World} {b : Nat} {c d : Pt} (h : Blk w b (cosP c)) (hc : Cos c) (hd : Cos d) :
    (wholeStore 25 (.pointer (some ⟨b, 0, none⟩)) (.agg (cosP d).toArray)).run Tryd.prog w = .ok () (w.setRow b (cosP d).toArray) :=
  h.stores (by rw [cosP_length, hd.1]; exact cos_size) (by rw [cosP_length, cosP_length, hc.1, hd.1]) (cosP_one d)
/-- A variable of links that is a result. -/
theorem cos_var {w : World} {b : Nat} {c : Pt} (h : Blk w b (cosP c)) (hc : Cos c) : (loadVar 25 ⟨b, 0, none⟩).run Tryd.prog w = .ok (.agg (cosP c).toArray) w :=
  run_loadVar_mid w b 0 _ (cosP c) _ (fun j v hv => h.cell (0 + j) (by rw [Nat.zero_add]; exact hv)) Tryd.underlying25 rfl (by rw [cosP_length, hc.1]; exact cos_size)
/-- No links, as the program writes them. -/
theorem zero_store {w : World} {b : Nat} {c : Pt} (h : Blk w b (cosP c)) (hc : Cos c) :
    (wholeStore 25 (.pointer (some ⟨b, 0, none⟩)) (.agg #[.int .i64 0, .int .u32 0, .int .u32 0, .int .u32 0, .int .u32 0, .int .u32 0, .int .u32 0, .int .u32 0, .int .u32 0, .int .u32 0, .int .u32 0, .int .u32 0, .int .u32 0, .int .u32 0, .int .u32 0, .int .u32 0, .int .u32 0])).run Tryd.prog w = .ok () (w.setRow b #[.int .i64 0, .int .u32 0, .int .u32 0, .int .u32 0, .int .u32 0, .int .u32 0, .int .u32 0, .int .u32 0, .int .u32 0, .int .u32 0, .int .u32 0, .int .u32 0, .int .u32 0, .int .u32 0, .int .u32 0, .int .u32 0, .int .u32 0]) := cos_store (d := none16) h hc Cos.zero
theorem zero_var {w : World} {b : Nat} {c : Pt} (h : Blk w b (cosP c)) : Blk (w.setRow b #[.int .i64 0, .int .u32 0, .int .u32 0, .int .u32 0, .int .u32 0, .int .u32 0, .int .u32 0, .int .u32 0, .int .u32 0, .int .u32 0, .int .u32 0, .int .u32 0, .int .u32 0, .int .u32 0, .int .u32 0, .int .u32 0, .int .u32 0]) b (cosP none16) := h.put (cosP none16)
/-- A new variable of links, and what is put into it at once. -/
theorem new_store {w : World} {b : Nat} {d : Pt} (hb : w.heap.size = b) (hd : Cos d) :
    (wholeStore 25 (.pointer (some ⟨b, 0, none⟩)) (.agg (cosP d).toArray)).run Tryd.prog (w.alloc (.cells #[.int .i64 0, .int .u32 0, .int .u32 0, .int .u32 0, .int .u32 0, .int .u32 0, .int .u32 0, .int .u32 0, .int .u32 0, .int .u32 0, .int .u32 0, .int .u32 0, .int .u32 0, .int .u32 0, .int .u32 0, .int .u32 0, .int .u32 0] 25)) = .ok () (w.alloc (.cells (cosP d).toArray 25)) := by
  subst hb
  have h := cos_store (Blk.new w (cosP none16) 25) Cos.zero hd
  rw [World.setRow_alloc_new] at h
  exact h
/-- A box of links, and a new variable of links. -/
theorem two_cos (w : World) (c : Pt) : Blk ((w.alloc (.cells (cosP c).toArray 25)).alloc (.cells #[.int .i64 0, .int .u32 0, .int .u32 0, .int .u32 0, .int .u32 0, .int .u32 0, .int .u32 0, .int .u32 0, .int .u32 0, .int .u32 0, .int .u32 0, .int .u32 0, .int .u32 0, .int .u32 0, .int .u32 0, .int .u32 0, .int .u32 0] 25)) w.heap.size (cosP c) ∧
    Blk ((w.alloc (.cells (cosP c).toArray 25)).alloc (.cells #[.int .i64 0, .int .u32 0, .int .u32 0, .int .u32 0, .int .u32 0, .int .u32 0, .int .u32 0, .int .u32 0, .int .u32 0, .int .u32 0, .int .u32 0, .int .u32 0, .int .u32 0, .int .u32 0, .int .u32 0, .int .u32 0, .int .u32 0] 25)) (w.heap.size + 1) (cosP none16) ∧
    Below w.heap.size w ((w.alloc (.cells (cosP c).toArray 25)).alloc (.cells #[.int .i64 0, .int .u32 0, .int .u32 0, .int .u32 0, .int .u32 0, .int .u32 0, .int .u32 0, .int .u32 0, .int .u32 0, .int .u32 0, .int .u32 0, .int .u32 0, .int .u32 0, .int .u32 0, .int .u32 0, .int .u32 0, .int .u32 0] 25)) :=
  ⟨(Blk.new w (cosP c) _).next _, Blk.newAt (by simp only [World.size_alloc]) (cosP none16) _, ((Below.refl _ w).alloc (Nat.le_refl _) _).alloc (by simp only [World.size_alloc]; omega) _⟩
theorem one_cos (w : World) (c : Pt) : Blk (w.alloc (.cells (cosP c).toArray 25)) w.heap.size (cosP c) ∧ Below w.heap.size w (w.alloc (.cells (cosP c).toArray 25)) :=
  ⟨Blk.new w (cosP c) _, (Below.refl _ w).alloc (Nat.le_refl _) _⟩
end Go.Proofs.YtnbbepelagdenaaDoor
