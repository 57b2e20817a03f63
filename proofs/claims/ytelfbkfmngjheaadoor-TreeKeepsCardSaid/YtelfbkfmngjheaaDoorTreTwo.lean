/- A box of a tree, and one of an entry: how a law of such arguments begins. -/
import Derived.Test.YtelfbkfmngjheaaDoorTreA
namespace Go.Proofs.YtelfbkfmngjheaaDoor
open Go.RowKit Go.Sort TreF
theorem two_box (w : World) (t : Tr) (d : Nat) (p : Int) :
    Blk ((w.alloc (.cells (treC t).toArray 26)).alloc (.cells #[.int .u32 (d : Int), .int .i64 p] 24)) w.heap.size (treC t) ∧
    Blk ((w.alloc (.cells (treC t).toArray 26)).alloc (.cells #[.int .u32 (d : Int), .int .i64 p] 24)) (w.heap.size + 1) [.int .u32 (d : Int), .int .i64 p] ∧
    Below w.heap.size w ((w.alloc (.cells (treC t).toArray 26)).alloc (.cells #[.int .u32 (d : Int), .int .i64 p] 24)) :=
  ⟨(Blk.new w (treC t) _).next _, Blk.newAt (by simp only [World.size_alloc]) _ _, ((Below.refl _ w).alloc (Nat.le_refl _) _).alloc (by simp only [World.size_alloc]; omega) _⟩
theorem two_tree (w : World) (t u : Tr) :
    Blk ((w.alloc (.cells (treC t).toArray 26)).alloc (.cells (treC u).toArray 26)) w.heap.size (treC t) ∧
    Blk ((w.alloc (.cells (treC t).toArray 26)).alloc (.cells (treC u).toArray 26)) (w.heap.size + 1) (treC u) ∧
    Below w.heap.size w ((w.alloc (.cells (treC t).toArray 26)).alloc (.cells (treC u).toArray 26)) :=
  ⟨(Blk.new w (treC t) _).next _, Blk.newAt (by simp only [World.size_alloc]) _ _, ((Below.refl _ w).alloc (Nat.le_refl _) _).alloc (by simp only [World.size_alloc]; omega) _⟩
theorem rem_16 (t : Int) : ∃ q : Nat, q < 16 ∧ wrap64 ((IntKind.u64.wrap t).tmod 16) = (q : Int) := by
  have hu : 0 ≤ IntKind.u64.wrap t := by rw [IntKind.wrap_u64]; omega
  rw [Int.tmod_eq_emod_of_nonneg hu]
  have h2 : 0 ≤ IntKind.u64.wrap t % 16 := Int.emod_nonneg _ (by omega)
  have h3 : IntKind.u64.wrap t % 16 < 16 := Int.emod_lt_of_pos _ (by omega)
  refine ⟨(IntKind.u64.wrap t % 16).toNat, by omega, ?_⟩
  rw [IntWalk.wrap64_in _ (by omega)]
  omega
/-- A new tree reaches its root alone. -/
theorem new_root (q : Nat) (h : q < 16) : rootT (newT (q : Int)) = (q : Int) := by
  rcases NodesF.n16 q h with h | h | h | h | h | h | h | h | h | h | h | h | h | h | h | h <;> subst h <;> decide +kernel
theorem new_set (q : Nat) (h : q < 16) : setR (newT (q : Int)) = 2 ^ q := by
  rcases NodesF.n16 q h with h | h | h | h | h | h | h | h | h | h | h | h | h | h | h | h <;> subst h <;> decide +kernel
theorem set_get {t : Tr} (ht : Tre t) (j k : Nat) (e : Ent) (hj : j < 16) : (t.set j e)[k]? = if k = j then some e else t[k]? := by
  rw [List.getElem?_set]
  by_cases h : j = k
  · subst h; simp [ht.1, hj]
  · rw [if_neg h, if_neg (Ne.symm h)]
theorem has_set {t : Tr} (k : Nat) (hk : k < 16) : NodesF.hasN (setR t) k = isR t k := by
  rw [show setR t = setF (isR t) 16 from rfl, set_has _ _ hk 16 (Nat.le_refl _), decide_eq_true hk, Bool.true_and]
end Go.Proofs.YtelfbkfmngjheaaDoor
