/- A tree as a value and as a block: thirty-two cells; an entry in it, and by itself. -/
import Derived.Test.YtelfbkfmngjheaaDoorWhole
import Derived.Test.YtelfbkfmngjheaaDoorTreF
import Derived.ChangeKeysEq
namespace Go.Proofs.YtelfbkfmngjheaaDoor
open Go.RowKit Go.Sort TreF

/-- A tree as cells. -/
def treC : Tr → List Value
  | [] => []
  | e :: t => .int .u32 (e.1 : Int) :: .int .i64 e.2 :: treC t
theorem treC_length : ∀ t, (treC t).length = 2 * t.length
  | [] => rfl
  | e :: t => by simp only [treC, List.length_cons, treC_length t]; omega
theorem treC_dist : ∀ {t : Tr} {j d : Nat} {p : Int}, t[j]? = some (d, p) → (treC t)[j * 2]? = some (.int .u32 (d : Int))
  | [], _, _, _, h => by simp at h
  | e :: t, 0, d, p, h => by
    obtain rfl : e = (d, p) := by simpa using h
    rfl
  | e :: t, j + 1, d, p, h => by
    have h1 : t[j]? = some (d, p) := by simpa using h
    have h2 := treC_dist h1
    rw [show (j + 1) * 2 = j * 2 + 1 + 1 by omega]
    simpa [treC] using h2
theorem treC_pred : ∀ {t : Tr} {j d : Nat} {p : Int}, t[j]? = some (d, p) → (treC t)[j * 2 + 1]? = some (.int .i64 p)
  | [], _, _, _, h => by simp at h
  | e :: t, 0, d, p, h => by
    obtain rfl : e = (d, p) := by simpa using h
    rfl
  | e :: t, j + 1, d, p, h => by
    have h1 : t[j]? = some (d, p) := by simpa using h
    have h2 := treC_pred h1
    rw [show (j + 1) * 2 + 1 = j * 2 + 1 + 1 + 1 by omega]
    simpa [treC] using h2
theorem treC_set : ∀ (t : Tr) (j d : Nat) (p : Int), ((treC t).set (j * 2) (.int .u32 (d : Int))).set (j * 2 + 1) (.int .i64 p) = treC (t.set j (d, p))
  | [], _, _, _ => rfl
  | e :: t, 0, d, p => rfl
  | e :: t, j + 1, d, p => by
    rw [show (j + 1) * 2 = j * 2 + 1 + 1 by omega, show j * 2 + 1 + 1 + 1 = (j * 2 + 1) + 1 + 1 by omega]
    simp only [treC, List.set_cons_succ]
    rw [treC_set t j d p]
theorem treC_dset : ∀ (t : Tr) (j d c : Nat) (p : Int), t[j]? = some (c, p) → (treC t).set (j * 2) (.int .u32 (d : Int)) = treC (t.set j (d, p))
  | [], _, _, _, _, h => by simp at h
  | e :: t, 0, d, c, p, h => by
    obtain rfl : e = (c, p) := by simpa using h
    rfl
  | e :: t, j + 1, d, c, p, h => by
    have h1 : t[j]? = some (c, p) := by simpa using h
    rw [show (j + 1) * 2 = j * 2 + 1 + 1 by omega]
    simp only [treC, List.set_cons_succ]
    rw [treC_dset t j d c p h1]
theorem treC_one : ∀ t, ∀ v ∈ treC t, v.oneCell' = true
  | [], v, hv => by simp [treC] at hv
  | e :: t, v, hv => by
    simp only [treC, List.mem_cons] at hv
    rcases hv with rfl | rfl | hv
    · rfl
    · rfl
    · exact treC_one t v hv
theorem treC_part : ∀ {t : Tr} {j d : Nat} {p : Int}, t[j]? = some (d, p) → ((treC t).drop (j * 2)).take 2 = [.int .u32 (d : Int), .int .i64 p]
  | [], _, _, _, h => by simp at h
  | e :: t, 0, d, p, h => by
    obtain rfl : e = (d, p) := by simpa using h
    rfl
  | e :: t, j + 1, d, p, h => by
    have h1 : t[j]? = some (d, p) := by simpa using h
    rw [show (j + 1) * 2 = j * 2 + 1 + 1 by omega]
    simp only [treC, List.drop_succ_cons]
    exact treC_part h1
theorem treC_extract {t : Tr} {j d : Nat} {p : Int} (h : t[j]? = some (d, p)) : (treC t).toArray.extract (j * 2) (j * 2 + 2) = #[.int .u32 (d : Int), .int .i64 p] := by
  apply Array.ext'
  rw [Array.toList_extract, List.extract_eq_take_drop]
  have := treC_part h
  rw [show j * 2 + 2 - j * 2 = 2 by omega]
  exact this

theorem loadAt_tre (v : Value) : Instr.loadAt 26 v = wholeLoad 26 v := rfl
theorem storeAt_tre (v x : Value) : Instr.storeAt 26 v x = wholeStore 26 v x := rfl
theorem loadAt_ent (v : Value) : Instr.loadAt 24 v = wholeLoad 24 v := rfl
theorem storeAt_ent (v x : Value) : Instr.storeAt 24 v x = wholeStore 24 v x := rfl
theorem tre_size : (Tryd.prog.info? 26).map (·.size) = some 32 := by kernel_rfl
theorem ent_size : (Tryd.prog.info? 24).map (·.size) = some 2 := by kernel_rfl
theorem tre_cells {t : Tr} (h : Tre t) : (treC t).length = 32 := by rw [treC_length, h.1]
theorem tre_load {w : World} {b : Nat} {t : Tr} (h : Blk w b (treC t)) (ht : Tre t) :
    (wholeLoad 26 (.pointer (some ⟨b, 0, none⟩))).run Tryd.prog w = .ok (.agg (treC t).toArray) w :=
  h.loads Tryd.underlying26 rfl (by rw [tre_cells ht]; exact tre_size)
theorem tre_store {w : World} {b : Nat} {c d : Tr} (h : Blk w b (treC c)) (hc : Tre c) (hd : Tre d) :
    (wholeStore 26 (.pointer (some ⟨b, 0, none⟩)) (.agg (treC d).toArray)).run Tryd.prog w = .ok () (w.setRow b (treC d).toArray) :=
  h.stores (by rw [tre_cells hd]; exact tre_size) (by rw [tre_cells hc, tre_cells hd]) (treC_one d)
/-- A variable of a tree that is a result. -/
theorem tre_var {w : World} {b : Nat} {t : Tr} (h : Blk w b (treC t)) (ht : Tre t) : (loadVar 26 ⟨b, 0, none⟩).run Tryd.prog w = .ok (.agg (treC t).toArray) w :=
  run_loadVar_mid w b 0 _ (treC t) _ (fun j v hv => h.cell (0 + j) (by rw [Nat.zero_add]; exact hv)) Tryd.underlying26 rfl (by rw [tre_cells ht]; exact tre_size)
/-- An empty tree's value, as the program writes it. -/
theorem zero_cells : (treC zero16).toArray = #[.int .u32 0, .int .i64 0, .int .u32 0, .int .i64 0, .int .u32 0, .int .i64 0, .int .u32 0, .int .i64 0, .int .u32 0, .int .i64 0, .int .u32 0, .int .i64 0, .int .u32 0, .int .i64 0, .int .u32 0, .int .i64 0, .int .u32 0, .int .i64 0, .int .u32 0, .int .i64 0, .int .u32 0, .int .i64 0, .int .u32 0, .int .i64 0, .int .u32 0, .int .i64 0, .int .u32 0, .int .i64 0, .int .u32 0, .int .i64 0, .int .u32 0, .int .i64 0] := rfl
theorem tzero_store {w : World} {b : Nat} {c : Tr} (h : Blk w b (treC c)) (hc : Tre c) :
    (wholeStore 26 (.pointer (some ⟨b, 0, none⟩)) (.agg #[.int .u32 0, .int .i64 0, .int .u32 0, .int .i64 0, .int .u32 0, .int .i64 0, .int .u32 0, .int .i64 0, .int .u32 0, .int .i64 0, .int .u32 0, .int .i64 0, .int .u32 0, .int .i64 0, .int .u32 0, .int .i64 0, .int .u32 0, .int .i64 0, .int .u32 0, .int .i64 0, .int .u32 0, .int .i64 0, .int .u32 0, .int .i64 0, .int .u32 0, .int .i64 0, .int .u32 0, .int .i64 0, .int .u32 0, .int .i64 0, .int .u32 0, .int .i64 0])).run Tryd.prog w = .ok () (w.setRow b #[.int .u32 0, .int .i64 0, .int .u32 0, .int .i64 0, .int .u32 0, .int .i64 0, .int .u32 0, .int .i64 0, .int .u32 0, .int .i64 0, .int .u32 0, .int .i64 0, .int .u32 0, .int .i64 0, .int .u32 0, .int .i64 0, .int .u32 0, .int .i64 0, .int .u32 0, .int .i64 0, .int .u32 0, .int .i64 0, .int .u32 0, .int .i64 0, .int .u32 0, .int .i64 0, .int .u32 0, .int .i64 0, .int .u32 0, .int .i64 0, .int .u32 0, .int .i64 0]) := tre_store (d := zero16) h hc Tre.zero
theorem tzero_new (w : World) : Blk (w.alloc (.cells #[.int .u32 0, .int .i64 0, .int .u32 0, .int .i64 0, .int .u32 0, .int .i64 0, .int .u32 0, .int .i64 0, .int .u32 0, .int .i64 0, .int .u32 0, .int .i64 0, .int .u32 0, .int .i64 0, .int .u32 0, .int .i64 0, .int .u32 0, .int .i64 0, .int .u32 0, .int .i64 0, .int .u32 0, .int .i64 0, .int .u32 0, .int .i64 0, .int .u32 0, .int .i64 0, .int .u32 0, .int .i64 0, .int .u32 0, .int .i64 0, .int .u32 0, .int .i64 0] 26)) w.heap.size (treC zero16) := Blk.new w (treC zero16) 26
theorem tzero_newAt {w : World} {b : Nat} (hb : w.heap.size = b) : Blk (w.alloc (.cells #[.int .u32 0, .int .i64 0, .int .u32 0, .int .i64 0, .int .u32 0, .int .i64 0, .int .u32 0, .int .i64 0, .int .u32 0, .int .i64 0, .int .u32 0, .int .i64 0, .int .u32 0, .int .i64 0, .int .u32 0, .int .i64 0, .int .u32 0, .int .i64 0, .int .u32 0, .int .i64 0, .int .u32 0, .int .i64 0, .int .u32 0, .int .i64 0, .int .u32 0, .int .i64 0, .int .u32 0, .int .i64 0, .int .u32 0, .int .i64 0, .int .u32 0, .int .i64 0] 26)) b (treC zero16) := Blk.newAt hb (treC zero16) 26
/-- A new variable of a tree, and what is put into it at once. -/
theorem new_tre {w : World} {b : Nat} {d : Tr} (hb : w.heap.size = b) (hd : Tre d) :
    (wholeStore 26 (.pointer (some ⟨b, 0, none⟩)) (.agg (treC d).toArray)).run Tryd.prog (w.alloc (.cells #[.int .u32 0, .int .i64 0, .int .u32 0, .int .i64 0, .int .u32 0, .int .i64 0, .int .u32 0, .int .i64 0, .int .u32 0, .int .i64 0, .int .u32 0, .int .i64 0, .int .u32 0, .int .i64 0, .int .u32 0, .int .i64 0, .int .u32 0, .int .i64 0, .int .u32 0, .int .i64 0, .int .u32 0, .int .i64 0, .int .u32 0, .int .i64 0, .int .u32 0, .int .i64 0, .int .u32 0, .int .i64 0, .int .u32 0, .int .i64 0, .int .u32 0, .int .i64 0] 26)) = .ok () (w.alloc (.cells (treC d).toArray 26)) := by
  subst hb
  have h := tre_store (tzero_new w) Tre.zero hd
  rw [World.setRow_alloc_new] at h
  exact h
/-- An entry in a tree that lies in a block. -/
theorem ent_load {w : World} {b : Nat} {t : Tr} {j d : Nat} {p : Int} (h : Blk w b (treC t)) (hj : t[j]? = some (d, p)) :
    (wholeLoad 24 (.pointer (some ⟨b, j * 2, none⟩))).run Tryd.prog w = .ok (.agg #[.int .u32 (d : Int), .int .i64 p]) w := by
  refine run_loadAt_mid w b (j * 2) 24 [.int .u32 (d : Int), .int .i64 p] _ (fun k v hv => ?_) Tryd.underlying24 rfl ent_size
  match k, hv with
  | 0, hv =>
    obtain rfl : .int .u32 (d : Int) = v := by simpa using hv
    exact h.cell (j * 2 + 0) (treC_dist hj)
  | 1, hv =>
    obtain rfl : .int .i64 p = v := by simpa using hv
    exact h.cell (j * 2 + 1) (treC_pred hj)
theorem ent_store {w : World} {b : Nat} {t : Tr} {j d : Nat} {p : Int} (h : Blk w b (treC t)) (hj : j < t.length) :
    (wholeStore 24 (.pointer (some ⟨b, j * 2, none⟩)) (.agg #[.int .u32 (d : Int), .int .i64 p])).run Tryd.prog w = .ok () (w.setRow b (treC (t.set j (d, p))).toArray) := by
  obtain ⟨⟨d0, p0⟩, hx⟩ : ∃ e, t[j]? = some e := ⟨t[j], by simp [hj]⟩
  have hth : w.there b (j * 2) 2 := fun k hk => by
    refine ⟨?_, h.thaw _⟩
    rcases (show k = 0 ∨ k = 1 by omega) with rfl | rfl
    · rw [h.cell (j * 2 + 0) (treC_dist hx)]; rfl
    · rw [h.cell (j * 2 + 1) (treC_pred hx)]; rfl
  have hst : (wholeStore 24 (.pointer (some ⟨b, j * 2, none⟩)) (.agg #[.int .u32 (d : Int), .int .i64 p])).run Tryd.prog w = .ok () (w.setCells b (j * 2) [.int .u32 (d : Int), .int .i64 p]) :=
    run_storeAt_mid w b (j * 2) 24 #[.int .u32 (d : Int), .int .i64 p] hth ent_size (by simp [Value.oneCell'])
  rw [hst]
  obtain ⟨ty, hb⟩ := h
  congr 1
  simp only [World.setCells]
  rw [setCell_eq_setRow w b (j * 2) _ ty _ _ hb, setCell_eq_setRow _ b (j * 2 + 1) _ ty _ _ (setRow_heap w b _ _ ty _ hb), setRow_setRow]
  congr 1
  apply Array.ext'
  simp only [List.setIfInBounds_toArray]
  exact treC_set t j d p
theorem ent_put {w : World} {b : Nat} {t : Tr} (h : Blk w b (treC t)) (j d : Nat) (p : Int) : Blk (w.setRow b (treC (t.set j (d, p))).toArray) b (treC (t.set j (d, p))) := h.put _
/-- An entry by itself in a block. -/
theorem one_load {w : World} {b : Nat} {d p : Int} (h : Blk w b [.int .u32 d, .int .i64 p]) :
    (wholeLoad 24 (.pointer (some ⟨b, 0, none⟩))).run Tryd.prog w = .ok (.agg #[.int .u32 d, .int .i64 p]) w := h.loads Tryd.underlying24 rfl ent_size
theorem one_store {w : World} {b : Nat} {d c p q : Int} (h : Blk w b [.int .u32 c, .int .i64 q]) :
    (wholeStore 24 (.pointer (some ⟨b, 0, none⟩)) (.agg #[.int .u32 d, .int .i64 p])).run Tryd.prog w = .ok () (w.setRow b #[.int .u32 d, .int .i64 p]) :=
  h.stores (ds := [.int .u32 d, .int .i64 p]) ent_size rfl (fun v hv => by
    simp only [List.mem_cons, List.not_mem_nil, or_false] at hv
    rcases hv with rfl | rfl <;> rfl)
theorem one_var {w : World} {b : Nat} {d p : Int} (h : Blk w b [.int .u32 d, .int .i64 p]) : (loadVar 24 ⟨b, 0, none⟩).run Tryd.prog w = .ok (.agg #[.int .u32 d, .int .i64 p]) w :=
  run_loadVar_mid w b 0 _ [.int .u32 d, .int .i64 p] _ (fun j v hv => h.cell (0 + j) (by rw [Nat.zero_add]; exact hv)) Tryd.underlying24 rfl ent_size
theorem ent_new1 (w : World) : Blk (w.alloc (.cells #[.int .u32 0, .int .i64 0] 24)) w.heap.size [.int .u32 0, .int .i64 0] := Blk.new w _ 24
/-- A new variable of an entry, and what is put into it at once. -/
theorem new_ent {w : World} {b : Nat} {d p : Int} (hb : w.heap.size = b) :
    (wholeStore 24 (.pointer (some ⟨b, 0, none⟩)) (.agg #[.int .u32 d, .int .i64 p])).run Tryd.prog (w.alloc (.cells #[.int .u32 0, .int .i64 0] 24)) = .ok () (w.alloc (.cells #[.int .u32 d, .int .i64 p] 24)) := by
  subst hb
  have h := one_store (d := d) (p := p) (ent_new1 w)
  rw [World.setRow_alloc_new] at h
  exact h
theorem ent_part {t : Tr} {j d : Nat} {p : Int} (hx : t[j]? = some (d, p)) (w : World) : (part 24 (treC t).toArray (j * 2)).run Tryd.prog w = .ok (.agg #[.int .u32 (d : Int), .int .i64 p]) w := by
  have := treC_extract hx
  simp only [part, Sem.run_bind, Tryd.isAgg24, Tryd.sizeOf24, Result.andThen_ok, if_true, Sem.run_pure, this]
/-- An entry of a tree by value. -/
theorem ent_index {t : Tr} {j d : Nat} {p : Int} {w : World} (hx : t[j]? = some (d, p)) (hj : j < 16) :
    (Instr.index 26 (.agg (treC t).toArray) (.int .i64 (j : Int))).run Tryd.prog w = .ok (.agg #[.int .u32 (d : Int), .int .i64 p]) w := by
  have h1 : (0 : Int) ≤ (j : Int) ∧ (j : Int) < ((16 : Nat) : Int) := ⟨by omega, by omega⟩
  have hu := run_underlying (P := Tryd.prog) Tryd.underlying26 w
  have hp := ent_part hx w
  simp only [Instr.index, asIntOf, Sem.run_bind, Sem.run_pure, Result.andThen_ok, hu, if_pos h1, Tryd.sizeOf24, Int.toNat_natCast, hp]
end Go.Proofs.YtelfbkfmngjheaaDoor
