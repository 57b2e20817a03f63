/- A tree as a value and as a block: thirty-two cells; an entry in it, and by itself. A box of a tree, and one of an entry: how a law of such arguments begins. Entries and trees compared: as structs, and as arrays of such. -/
import Derived.Test.YtjpbglbbeepmnaaWhole
import Derived.Test.YtjpbglbbeepmnaaTreF
import Derived.ChangeKeysEq
import Derived.Test.YtjpbglbbeepmnaaTwoF
import Derived.Laws.StructEq
namespace Go.Proofs.Ytjpbglbbeepmnaa
section
open Go.RowKit Go.Sort TreF

/-- A tree as cells. -/
def treC : Tr → List Value
  | [] => []
  | e :: t => .int .u32 (e.1 : Int) :: .int .i64 e.2 :: treC t
theorem treC_length : ∀ t, (treC t).length = 2 * t.length
  | [] => rfl
  | e :: t => by simp only [treC, List.length_cons, treC_length t]; omega
theorem treC_dist : ∀ {t : Tr} {j d : Nat} {p : Int}, t[j]? = some (d, p) → (treC t)[j * 2]? = some (.int .u32 (d : Int))
  | [], _, _, _, h => by simp at h
  | e :: t, 0, d, p, h => by
    obtain rfl : e = (d, p) := by simpa using h
    rfl
  | e :: t, j + 1, d, p, h => by
    have h1 : t[j]? = some (d, p) := by simpa using h
    have h2 := treC_dist h1
    rw [show (j + 1) * 2 = j * 2 + 1 + 1 by omega]
    simpa [treC] using h2
theorem treC_pred : ∀ {t : Tr} {j d : Nat} {p : Int}, t[j]? = some (d, p) → (treC t)[j * 2 + 1]? = some (.int .i64 p)
  | [], _, _, _, h => by simp at h
  | e :: t, 0, d, p, h => by
    obtain rfl : e = (d, p) := by simpa using h
    rfl
  | e :: t, j + 1, d, p, h => by
    have h1 : t[j]? = some (d, p) := by simpa using h
    have h2 := treC_pred h1
    rw [show (j + 1) * 2 + 1 = j * 2 + 1 + 1 + 1 by omega]
    simpa [treC] using h2
theorem treC_set : ∀ (t : Tr) (j d : Nat) (p : Int), ((treC t).set (j * 2) (.int .u32 (d : Int))).set (j * 2 + 1) (.int .i64 p) = treC (t.set j (d, p))
  | [], _, _, _ => rfl
  | e :: t, 0, d, p => rfl
  | e :: t, j + 1, d, p => by
    rw [show (j + 1) * 2 = j * 2 + 1 + 1 by omega, show j * 2 + 1 + 1 + 1 = (j * 2 + 1) + 1 + 1 by omega]
    simp only [treC, List.set_cons_succ]
    rw [treC_set t j d p]
theorem treC_dset : ∀ (t : Tr) (j d c : Nat) (p : Int), t[j]? = some (c, p) → (treC t).set (j * 2) (.int .u32 (d : Int)) = treC (t.set j (d, p))
  | [], _, _, _, _, h => by simp at h
  | e :: t, 0, d, c, p, h => by
    obtain rfl : e = (c, p) := by simpa using h
    rfl
  | e :: t, j + 1, d, c, p, h => by
    have h1 : t[j]? = some (c, p) := by simpa using h
    rw [show (j + 1) * 2 = j * 2 + 1 + 1 by omega]
    simp only [treC, List.set_cons_succ]
    rw [treC_dset t j d c p h1]
theorem treC_one : ∀ t, ∀ v ∈ treC t, v.oneCell' = true
  | [], v, hv => by simp [treC] at hv
  | e :: t, v, hv => by
    simp only [treC, List.mem_cons] at hv
    rcases hv with rfl | rfl | hv
    · rfl
    · rfl
    · exact treC_one t v hv
theorem treC_part : ∀ {t : Tr} {j d : Nat} {p : Int}, t[j]? = some (d, p) → ((treC t).drop (j * 2)).take 2 = [.int .u32 (d : Int), .int .i64 p]
  | [], _, _, _, h => by simp at h
  | e :: t, 0, d, p, h => by
    obtain rfl : e = (d, p) := by simpa using h
    rfl
  | e :: t, j + 1, d, p, h => by
    have h1 : t[j]? = some (d, p) := by simpa using h
    rw [show (j + 1) * 2 = j * 2 + 1 + 1 by omega]
    simp only [treC, List.drop_succ_cons]
    exact treC_part h1
theorem treC_extract {t : Tr} {j d : Nat} {p : Int} (h : t[j]? = some (d, p)) : (treC t).toArray.extract (j * 2) (j * 2 + 2) = #[.int .u32 (d : Int), .int .i64 p] := by
  apply Array.ext'
  rw [Array.toList_extract, List.extract_eq_take_drop]
  have := treC_part h
  rw [show j * 2 + 2 - j * 2 = 2 by omega]
  exact this

theorem loadAt_tre (v : Value) : Instr.loadAt 26 v = wholeLoad 26 v := rfl
theorem storeAt_tre (v x : Value) : Instr.storeAt 26 v x = wholeStore 26 v x := rfl
theorem loadAt_ent (v : Value) : Instr.loadAt 24 v = wholeLoad 24 v := rfl
theorem storeAt_ent (v x : Value) : Instr.storeAt 24 v x = wholeStore 24 v x := rfl
theorem tre_size : (Try.prog.info? 26).map (·.size) = some 32 := by kernel_rfl
theorem ent_size : (Try.prog.info? 24).map (·.size) = some 2 := by kernel_rfl
theorem tre_cells {t : Tr} (h : Tre t) : (treC t).length = 32 := by rw [treC_length, h.1]
theorem tre_load {w : World} {b : Nat} {t : Tr} (h : Blk w b (treC t)) (ht : Tre t) :
    (wholeLoad 26 (.pointer (some ⟨b, 0, none⟩))).run Try.prog w = .ok (.agg (treC t).toArray) w :=
  h.loads Try.underlying26 rfl (by rw [tre_cells ht]; exact tre_size)
theorem tre_store {w : World} {b : Nat} {c d : Tr} (h : Blk w b (treC c)) (hc : Tre c) (hd : Tre d) :
    (wholeStore 26 (.pointer (some ⟨b, 0, none⟩)) (.agg (treC d).toArray)).run Try.prog w = .ok () (w.setRow b (treC d).toArray) :=
  h.stores (by rw [tre_cells hd]; exact tre_size) (by rw [tre_cells hc, tre_cells hd]) (treC_one d)
/-- A variable of a tree that is a result. -/
theorem tre_var {w : World} {b : Nat} {t : Tr} (h : Blk w b (treC t)) (ht : Tre t) : (loadVar 26 ⟨b, 0, none⟩).run Try.prog w = .ok (.agg (treC t).toArray) w :=
  run_loadVar_mid w b 0 _ (treC t) _ (fun j v hv => h.cell (0 + j) (by rw [Nat.zero_add]; exact hv)) Try.underlying26 rfl (by rw [tre_cells ht]; exact tre_size)
/-- An empty tree's value, as the program writes it. -/
theorem zero_cells : (treC zero16).toArray = #[.int .u32 0, .int .i64 0, .int .u32 0, .int .i64 0, .int .u32 0, .int .i64 0, .int .u32 0, .int .i64 0, .int .u32 0, .int .i64 0, .int .u32 0, .int .i64 0, .int .u32 0, .int .i64 0, .int .u32 0, .int .i64 0, .int .u32 0, .int .i64 0, .int .u32 0, .int .i64 0, .int .u32 0, .int .i64 0, .int .u32 0, .int .i64 0, .int .u32 0, .int .i64 0, .int .u32 0, .int .i64 0, .int .u32 0, .int .i64 0, .int .u32 0, .int .i64 0] := rfl
theorem tzero_store {w : World} {b : Nat} {c : Tr} (h : Blk w b (treC c)) (hc : Tre c) :
    (wholeStore 26 (.pointer (some ⟨b, 0, none⟩)) (.agg #[.int .u32 0, .int .i64 0, .int .u32 0, .int .i64 0, .int .u32 0, .int .i64 0, .int .u32 0, .int .i64 0, .int .u32 0, .int .i64 0, .int .u32 0, .int .i64 0, .int .u32 0, .int .i64 0, .int .u32 0, .int .i64 0, .int .u32 0, .int .i64 0, .int .u32 0, .int .i64 0, .int .u32 0, .int .i64 0, .int .u32 0, .int .i64 0, .int .u32 0, .int .i64 0, .int .u32 0, .int .i64 0, .int .u32 0, .int .i64 0, .int .u32 0, .int .i64 0])).run Try.prog w = .ok () (w.setRow b #[.int .u32 0, .int .i64 0, .int .u32 0, .int .i64 0, .int .u32 0, .int .i64 0, .int .u32 0, .int .i64 0, .int .u32 0, .int .i64 0, .int .u32 0, .int .i64 0, .int .u32 0, .int .i64 0, .int .u32 0, .int .i64 0, .int .u32 0, .int .i64 0, .int .u32 0, .int .i64 0, .int .u32 0, .int .i64 0, .int .u32 0, .int .i64 0, .int .u32 0, .int .i64 0, .int .u32 0, .int .i64 0, .int .u32 0, .int .i64 0, .int .u32 0, .int .i64 0]) := tre_store (d := zero16) h hc Tre.zero
theorem tzero_new (w : World) : Blk (w.alloc (.cells #[.int .u32 0, .int .i64 0, .int .u32 0, .int .i64 0, .int .u32 0, .int .i64 0, .int .u32 0, .int .i64 0, .int .u32 0, .int .i64 0, .int .u32 0, .int .i64 0, .int .u32 0, .int .i64 0, .int .u32 0, .int .i64 0, .int .u32 0, .int .i64 0, .int .u32 0, .int .i64 0, .int .u32 0, .int .i64 0, .int .u32 0, .int .i64 0, .int .u32 0, .int .i64 0, .int .u32 0, .int .i64 0, .int .u32 0, .int .i64 0, .int .u32 0, .int .i64 0] 26)) w.heap.size (treC zero16) := Blk.new w (treC zero16) 26
theorem tzero_newAt {w : World} {b : Nat} (hb : w.heap.size = b) : Blk (w.alloc (.cells #[.int .u32 0, .int .i64 0, .int .u32 0, .int .i64 0, .int .u32 0, .int .i64 0, .int .u32 0, .int .i64 0, .int .u32 0, .int .i64 0, .int .u32 0, .int .i64 0, .int .u32 0, .int .i64 0, .int .u32 0, .int .i64 0, .int .u32 0, .int .i64 0, .int .u32 0, .int .i64 0, .int .u32 0, .int .i64 0, .int .u32 0, .int .i64 0, .int .u32 0, .int .i64 0, .int .u32 0, .int .i64 0, .int .u32 0, .int .i64 0, .int .u32 0, .int .i64 0] 26)) b (treC zero16) := Blk.newAt hb (treC zero16) 26
/-- A new variable of a tree, and what is put into it at once. -/
theorem new_tre {w : World} {b : Nat} {d : Tr} (hb : w.heap.size = b) (hd : Tre d) :
    (wholeStore 26 (.pointer (some ⟨b, 0, none⟩)) (.agg (treC d).toArray)).run Try.prog (w.alloc (.cells #[.int .u32 0, .int .i64 0, .int .u32 0, .int .i64 0, .int .u32 0, .int .i64 0, .int .u32 0, .int .i64 0, .int .u32 0, .int .i64 0, .int .u32 0, .int .i64 0, .int .u32 0, .int .i64 0, .int .u32 0, .int .i64 0, .int .u32 0, .int .i64 0, .int .u32 0, .int .i64 0, .int .u32 0, .int .i64 0, .int .u32 0, .int .i64 0, .int .u32 0, .int .i64 0, .int .u32 0, .int .i64 0, .int .u32 0, .int .i64 0, .int .u32 0, .int .i64 0] 26)) = .ok () (w.alloc (.cells (treC d).toArray 26)) := by
  subst hb
  have h := tre_store (tzero_new w) Tre.zero hd
  rw [World.setRow_alloc_new] at h
  exact h
/-- An entry in a tree that lies in a block. -/
theorem ent_load {w : World} {b : Nat} {t : Tr} {j d : Nat} {p : Int} (h : Blk w b (treC t)) (hj : t[j]? = some (d, p)) :
    (wholeLoad 24 (.pointer (some ⟨b, j * 2, none⟩))).run Try.prog w = .ok (.agg #[.int .u32 (d : Int), .int .i64 p]) w := by
  refine run_loadAt_mid w b (j * 2) 24 [.int .u32 (d : Int), .int .i64 p] _ (fun k v hv => ?_) Try.underlying24 rfl ent_size
  match k, hv with
  | 0, hv =>
    obtain rfl : .int .u32 (d : Int) = v := by simpa using hv
    exact h.cell (j * 2 + 0) (treC_dist hj)
  | 1, hv =>
    obtain rfl : .int .i64 p = v := by simpa using hv
    exact h.cell (j * 2 + 1) (treC_pred hj)
theorem ent_store {w : World} {b : Nat} {t : Tr} {j d : Nat} {p : Int} (h : Blk w b (treC t)) (hj : j < t.length) :
    (wholeStore 24 (.pointer (some ⟨b, j * 2, none⟩)) (.agg #[.int .u32 (d : Int), .int .i64 p])).run Try.prog w = .ok () (w.setRow b (treC (t.set j (d, p))).toArray) := by
  obtain ⟨⟨d0, p0⟩, hx⟩ : ∃ e, t[j]? = some e := ⟨t[j], by simp [hj]⟩
  have hth : w.there b (j * 2) 2 := fun k hk => by
    refine ⟨?_, h.thaw _⟩
    rcases (show k = 0 ∨ k = 1 by omega) with rfl | rfl
    · rw [h.cell (j * 2 + 0) (treC_dist hx)]; rfl
    · rw [h.cell (j * 2 + 1) (treC_pred hx)]; rfl
  have hst : (wholeStore 24 (.pointer (some ⟨b, j * 2, none⟩)) (.agg #[.int .u32 (d : Int), .int .i64 p])).run Try.prog w = .ok () (w.setCells b (j * 2) [.int .u32 (d : Int), .int .i64 p]) :=
    run_storeAt_mid w b (j * 2) 24 #[.int .u32 (d : Int), .int .i64 p] hth ent_size (by simp [Value.oneCell'])
  rw [hst]
  obtain ⟨ty, hb⟩ := h
  congr 1
  simp only [World.setCells]
  rw [setCell_eq_setRow w b (j * 2) _ ty _ _ hb, setCell_eq_setRow _ b (j * 2 + 1) _ ty _ _ (setRow_heap w b _ _ ty _ hb), setRow_setRow]
  congr 1
  apply Array.ext'
  simp only [List.setIfInBounds_toArray]
  exact treC_set t j d p
theorem ent_put {w : World} {b : Nat} {t : Tr} (h : Blk w b (treC t)) (j d : Nat) (p : Int) : Blk (w.setRow b (treC (t.set j (d, p))).toArray) b (treC (t.set j (d, p))) := h.put _
/-- An entry by itself in a block. -/
theorem one_load {w : World} {b : Nat} {d p : Int} (h : Blk w b [.int .u32 d, .int .i64 p]) :
    (wholeLoad 24 (.pointer (some ⟨b, 0, none⟩))).run Try.prog w = .ok (.agg #[.int .u32 d, .int .i64 p]) w := h.loads Try.underlying24 rfl ent_size
theorem one_store {w : World} {b : Nat} {d c p q : Int} (h : Blk w b [.int .u32 c, .int .i64 q]) :
    (wholeStore 24 (.pointer (some ⟨b, 0, none⟩)) (.agg #[.int .u32 d, .int .i64 p])).run Try.prog w = .ok () (w.setRow b #[.int .u32 d, .int .i64 p]) :=
  h.stores (ds := [.int .u32 d, .int .i64 p]) ent_size rfl (fun v hv => by
    simp only [List.mem_cons, List.not_mem_nil, or_false] at hv
    rcases hv with rfl | rfl <;> rfl)
theorem one_var {w : World} {b : Nat} {d p : Int} (h : Blk w b [.int .u32 d, .int .i64 p]) : (loadVar 24 ⟨b, 0, none⟩).run Try.prog w = .ok (.agg #[.int .u32 d, .int .i64 p]) w :=
  run_loadVar_mid w b 0 _ [.int .u32 d, .int .i64 p] _ (fun j v hv => h.cell (0 + j) (by rw [Nat.zero_add]; exact hv)) Try.underlying24 rfl ent_size
theorem ent_new1 (w : World) : Blk (w.alloc (.cells #[.int .u32 0, .int .i64 0] 24)) w.heap.size [.int .u32 0, .int .i64 0] := Blk.new w _ 24
/-- A new variable of an entry, and what is put into it at once. -/
theorem new_ent {w : World} {b : Nat} {d p : Int} (hb : w.heap.size = b) :
    (wholeStore 24 (.pointer (some ⟨b, 0, none⟩)) (.agg #[.int .u32 d, .int .i64 p])).run Try.prog (w.alloc (.cells #[.int .u32 0, .int .i64 0] 24)) = .ok () (w.alloc (.cells #[.int .u32 d, .int .i64 p] 24)) := by
  subst hb
  have h := one_store (d := d) (p := p) (ent_new1 w)
  rw [World.setRow_alloc_new] at h
  exact h
theorem ent_part {t : Tr} {j d : Nat} {p : Int} (hx : t[j]? = some (d, p)) (w : World) : (part 24 (treC t).toArray (j * 2)).run Try.prog w = .ok (.agg #[.int .u32 (d : Int), .int .i64 p]) w := by
  have := treC_extract hx
  simp only [part, Sem.run_bind, Try.isAgg24, Try.sizeOf24, Result.andThen_ok, if_true, Sem.run_pure, this]
/-- An entry of a tree by value. -/
theorem ent_index {t : Tr} {j d : Nat} {p : Int} {w : World} (hx : t[j]? = some (d, p)) (hj : j < 16) :
    (Instr.index 26 (.agg (treC t).toArray) (.int .i64 (j : Int))).run Try.prog w = .ok (.agg #[.int .u32 (d : Int), .int .i64 p]) w := by
  have h1 : (0 : Int) ≤ (j : Int) ∧ (j : Int) < ((16 : Nat) : Int) := ⟨by omega, by omega⟩
  have hu := run_underlying (P := Try.prog) Try.underlying26 w
  have hp := ent_part hx w
  simp only [Instr.index, asIntOf, Sem.run_bind, Sem.run_pure, Result.andThen_ok, hu, if_pos h1, Try.sizeOf24, Int.toNat_natCast, hp]
end
section
open Go.RowKit Go.Sort TreF
theorem two_box (w : World) (t : Tr) (d : Nat) (p : Int) :
    Blk ((w.alloc (.cells (treC t).toArray 26)).alloc (.cells #[.int .u32 (d : Int), .int .i64 p] 24)) w.heap.size (treC t) ∧
    Blk ((w.alloc (.cells (treC t).toArray 26)).alloc (.cells #[.int .u32 (d : Int), .int .i64 p] 24)) (w.heap.size + 1) [.int .u32 (d : Int), .int .i64 p] ∧
    Below w.heap.size w ((w.alloc (.cells (treC t).toArray 26)).alloc (.cells #[.int .u32 (d : Int), .int .i64 p] 24)) :=
  ⟨(Blk.new w (treC t) _).next _, Blk.newAt (by simp only [World.size_alloc]) _ _, ((Below.refl _ w).alloc (Nat.le_refl _) _).alloc (by simp only [World.size_alloc]; omega) _⟩
theorem two_tree (w : World) (t u : Tr) :
    Blk ((w.alloc (.cells (treC t).toArray 26)).alloc (.cells (treC u).toArray 26)) w.heap.size (treC t) ∧
    Blk ((w.alloc (.cells (treC t).toArray 26)).alloc (.cells (treC u).toArray 26)) (w.heap.size + 1) (treC u) ∧
    Below w.heap.size w ((w.alloc (.cells (treC t).toArray 26)).alloc (.cells (treC u).toArray 26)) :=
  ⟨(Blk.new w (treC t) _).next _, Blk.newAt (by simp only [World.size_alloc]) _ _, ((Below.refl _ w).alloc (Nat.le_refl _) _).alloc (by simp only [World.size_alloc]; omega) _⟩
theorem rem_16 (t : Int) : ∃ q : Nat, q < 16 ∧ wrap64 ((IntKind.u64.wrap t).tmod 16) = (q : Int) := by
  have hu : 0 ≤ IntKind.u64.wrap t := by rw [IntKind.wrap_u64]; omega
  rw [Int.tmod_eq_emod_of_nonneg hu]
  have h2 : 0 ≤ IntKind.u64.wrap t % 16 := Int.emod_nonneg _ (by omega)
  have h3 : IntKind.u64.wrap t % 16 < 16 := Int.emod_lt_of_pos _ (by omega)
  refine ⟨(IntKind.u64.wrap t % 16).toNat, by omega, ?_⟩
  rw [IntWalk.wrap64_in _ (by omega)]
  omega
/-- A new tree reaches its root alone. -/
theorem new_root (q : Nat) (h : q < 16) : rootT (newT (q : Int)) = (q : Int) := by
  rcases NodesF.n16 q h with h | h | h | h | h | h | h | h | h | h | h | h | h | h | h | h <;> subst h <;> decide +kernel
theorem new_set (q : Nat) (h : q < 16) : setR (newT (q : Int)) = 2 ^ q := by
  rcases NodesF.n16 q h with h | h | h | h | h | h | h | h | h | h | h | h | h | h | h | h <;> subst h <;> decide +kernel
theorem set_get {t : Tr} (ht : Tre t) (j k : Nat) (e : Ent) (hj : j < 16) : (t.set j e)[k]? = if k = j then some e else t[k]? := by
  rw [List.getElem?_set]
  by_cases h : j = k
  · subst h; simp [ht.1, hj]
  · rw [if_neg h, if_neg (Ne.symm h)]
theorem has_set {t : Tr} (k : Nat) (hk : k < 16) : NodesF.hasN (setR t) k = isR t k := by
  rw [show setR t = setF (isR t) 16 from rfl, set_has _ _ hk 16 (Nat.le_refl _), decide_eq_true hk, Bool.true_and]
end
section
open Go.RowKit Go.Sort TreF

theorem ent_fields : ∃ f g : Field, (Try.prog.fieldsOf 24).toList = [f, g] ∧ f.type = 22 ∧ f.offset = 0 ∧ g.type = 3 ∧ g.offset = 1 ∧ f.name ≠ "_" ∧ g.name ≠ "_" := by
  unfold Program.fieldsOf
  rw [Try.underlying24]
  exact ⟨_, _, rfl, rfl, rfl, rfl, rfl, by decide, by decide⟩
theorem ent_equal (d : Nat) (a c : Nat) (p q : Int) (w : World) :
    (Op.equalIn (d + 2) 24 (.agg #[.int .u32 (a : Int), .int .i64 p]) (.agg #[.int .u32 (c : Int), .int .i64 q])).run Try.prog w = .ok (decide (((a, p) : Ent) = (c, q))) w := by
  have q0 : ∀ (a : Nat) (p : Int), (part 22 #[.int .u32 (a : Int), .int .i64 p] 0).run Try.prog w = .ok (.int .u32 (a : Int)) w := fun a p => run_part_plain (P := Try.prog) w (by kernel_rfl) (by rfl)
  have q1 : ∀ (a : Nat) (p : Int), (part 3 #[.int .u32 (a : Int), .int .i64 p] 1).run Try.prog w = .ok (.int .i64 p) w := fun a p => run_part_plain (P := Try.prog) w (by kernel_rfl) (by rfl)
  have h0 : (Op.equalIn (d + 1) 22 (.int .u32 (a : Int)) (.int .u32 (c : Int))).run Try.prog w = .ok ((a : Int) == (c : Int)) w := run_equalIn_int (P := Try.prog) w d 22 .u32 .u32 (a : Int) (c : Int) Try.underlying22
  have h1 : (Op.equalIn (d + 1) 3 (.int .i64 p) (.int .i64 q)).run Try.prog w = .ok (p == q) w := run_equalIn_int (P := Try.prog) w d 3 .i64 .i64 p q Try.underlying3
  have hag := run_equalIn_agg (P := Try.prog) w (d + 1) 24 #[.int .u32 (a : Int), .int .i64 p] #[.int .u32 (c : Int), .int .i64 q] (by kernel_rfl) (by kernel_rfl)
  rw [show d + 2 = d + 1 + 1 from rfl, hag]
  clear hag
  obtain ⟨f, g, hf, f0, f1, g0, g1, fn, gn⟩ := ent_fields
  rw [hf]
  rw [← f0, ← f1] at q0
  rw [← f0] at h0
  rw [← g0, ← g1] at q1
  rw [← g0] at h1
  exact two_fields (q0 a p) (q0 c q) h0 (q1 a p) (q1 c q) h1 (by
    rw [Bool.eq_iff_iff, decide_eq_true_eq, Bool.and_eq_true, beq_iff_eq, beq_iff_eq]
    simp [Prod.ext_iff, Int.ofNat_inj]) fn gn
theorem ent_eql (a c : Nat) (p q : Int) (w : World) :
    (binOp .eql 24 (.agg #[.int .u32 (a : Int), .int .i64 p]) (.agg #[.int .u32 (c : Int), .int .i64 q])).run Try.prog w = .ok (.bool (decide (((a, p) : Ent) = (c, q)))) w := by
  rw [run_eql_struct, ent_equal 9998 a c p q w]; rfl
theorem ent_neq (a c : Nat) (p q : Int) (w : World) :
    (binOp .neq 24 (.agg #[.int .u32 (a : Int), .int .i64 p]) (.agg #[.int .u32 (c : Int), .int .i64 q])).run Try.prog w = .ok (.bool (!decide (((a, p) : Ent) = (c, q)))) w := by
  rw [run_neq_struct, ent_equal 9998 a c p q w]; rfl
theorem tre_items (d : Nat) (t u : Tr) (w : World) : ∀ is : List Nat, (∀ i ∈ is, i < t.length ∧ i < u.length) →
    (Op.eqItems (d + 2) 24 (Try.prog.cellsOf 24) (treC t).toArray (treC u).toArray is).run Try.prog w = .ok (is.all fun i => decide (t.getD i farE = u.getD i farE)) w
  | [], _ => rfl
  | i :: is, h => by
    obtain ⟨h1, h2⟩ := h i (by simp)
    have htwo : Try.prog.cellsOf 24 = 2 := by kernel_rfl
    obtain ⟨⟨a, p⟩, hx⟩ : ∃ e, t[i]? = some e := ⟨_, List.getElem?_eq_getElem h1⟩
    obtain ⟨⟨c, q⟩, hy⟩ : ∃ e, u[i]? = some e := ⟨_, List.getElem?_eq_getElem h2⟩
    have p1 := ent_part hx w
    have p2 := ent_part hy w
    have p3 := ent_equal d a c p q w
    have ih := tre_items d t u w is (fun j hj => h j (by simp [hj]))
    rw [htwo] at ih
    simp only [Op.eqItems, Sem.run_bind, htwo, p1, p2, p3, Result.andThen_ok, List.all_cons, getD_at hx, getD_at hy]
    cases decide (((a, p) : Ent) = (c, q)) with
    | true => simpa using ih
    | false => simp
theorem tall_same (t u : Tr) (ht : t.length = 16) (hu : u.length = 16) : ((List.range 16).all fun i => decide (t.getD i farE = u.getD i farE)) = decide (t = u) := by
  rw [Bool.eq_iff_iff, decide_eq_true_eq, List.all_eq_true]
  constructor
  · intro h
    apply List.ext_getElem?
    intro i
    by_cases hi : i < 16
    · have := h i (List.mem_range.2 hi)
      simp only [decide_eq_true_eq, List.getD_eq_getElem?_getD] at this
      rw [List.getElem?_eq_getElem (by omega), List.getElem?_eq_getElem (by omega)] at this ⊢
      simpa using this
    · rw [List.getElem?_eq_none (by omega), List.getElem?_eq_none (by omega)]
  · rintro rfl i _
    simp
theorem tre_equal (d : Nat) (t u : Tr) (w : World) (ht : t.length = 16) (hu : u.length = 16) :
    (Op.equalIn (d + 3) 26 (.agg (treC t).toArray) (.agg (treC u).toArray)).run Try.prog w = .ok (decide (t = u)) w := by
  have hs : (Try.prog.info? 24).isSome = true := by kernel_rfl
  obtain ⟨i, hi⟩ := Option.isSome_iff_exists.1 hs
  rw [run_equalIn_array w (d + 2) _ _ Try.underlying26 hi, tre_items d t u w _ (fun j hj => by have := List.mem_range.1 hj; omega), tall_same t u ht hu]
theorem tre_eql (t u : Tr) (w : World) (ht : t.length = 16) (hu : u.length = 16) :
    (binOp .eql 26 (.agg (treC t).toArray) (.agg (treC u).toArray)).run Try.prog w = .ok (.bool (decide (t = u))) w := by
  rw [run_eql_struct, tre_equal 9997 t u w ht hu]; rfl
theorem tre_neq (t u : Tr) (w : World) (ht : t.length = 16) (hu : u.length = 16) :
    (binOp .neq 26 (.agg (treC t).toArray) (.agg (treC u).toArray)).run Try.prog w = .ok (.bool (!decide (t = u))) w := by
  rw [run_neq_struct, tre_equal 9997 t u w ht hu]; rfl
end
end Go.Proofs.Ytjpbglbbeepmnaa
