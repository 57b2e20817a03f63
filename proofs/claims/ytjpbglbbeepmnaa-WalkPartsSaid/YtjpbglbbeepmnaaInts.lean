/- Slices of whole numbers ([]int): rows that are read, rows of a call's own. For any seat that has []int. -/
import Derived.Test.YtjpbglbbeepmnaaBlk
namespace Go.Proofs.Ytjpbglbbeepmnaa
open Go.RowKit

theorem info_int : (Try.prog.info? 3).map (fun i => (i.zero, i.size, i.bytes)) = some (some (.int .i64 0), 1, 8) := by kernel_rfl
/-- Whole numbers as cells. -/
def intV (l : List Int) : List Value := l.map fun (n : Int) => .int .i64 n
theorem intV_length (l : List Int) : (intV l).length = l.length := by simp [intV]
theorem intV_snoc (l : List Int) (n : Int) : intV (l ++ [n]) = intV l ++ [.int .i64 n] := by simp [intV]
theorem intV_at {l : List Int} {i : Nat} {x : Int} (h : l[i]? = some x) : (intV l)[i]? = some (.int .i64 x) := by simp [intV, h]
/-- A new slice of these numbers. -/
def OwnInts (l : List Int) (w : World) (e : Ending) (w' : World) : Prop := ∃ v, e = .returned v ∧ w'.ownsRow w.heap.size 3 1 v l.length (intV l) ∧ Below w.heap.size w w'
/-- A slice reads as these numbers. -/
def IntAt (w : World) (a : Option Addr) (l : List Int) : Prop := ∀ i x, l[i]? = some x → (-9223372036854775808 ≤ x ∧ x < 9223372036854775808) ∧ ∃ b, a = some b ∧ w.cell? (b.add i) = some (.int .i64 x)
theorem IntAt.on {w w' : World} {a : Option Addr} {l : List Int} (h : IntAt w a l) (hb : Below w.heap.size w w') : IntAt w' a l := fun i x hi => by
  obtain ⟨h1, b, h2, h3⟩ := h i x hi
  exact ⟨h1, b, h2, cell_later hb h3⟩
theorem IntAt.drewN {w : World} {a : Option Addr} {l : List Int} (h : IntAt w a l) (n : Nat) : IntAt (w.drewN n) a l := h.on (below_drewN (Below.refl _ _) n)
theorem row_slice {w : World} {B e size n : Nat} {v : Value} {xs : List Value} (h : w.ownsRow B e size v n xs) : ∃ a c, v = .slice a n c := by
  rcases h.2 with ⟨rfl, rfl⟩ | ⟨g, cap, cur, rfl, _⟩
  · exact ⟨_, _, rfl⟩
  · exact ⟨_, _, rfl⟩
theorem row_some {w : World} {B e size n : Nat} {v : Value} {xs : List Value} (h : w.ownsRow B e size v n xs) (hn : 0 < n) : ∃ g c, v = .slice (some ⟨g, 0, none⟩) n c := by
  rcases h.2 with ⟨rfl, rfl⟩ | ⟨g, cap, cur, rfl, _⟩
  · omega
  · exact ⟨_, _, rfl⟩
theorem row_below {w w' : World} {B e size n : Nat} {v : Value} {xs : List Value} (h : w.ownsRow B e size v n xs) (hb : Below w.heap.size w w') : w'.ownsRow B e size v n xs := by
  refine ⟨h.1, ?_⟩
  rcases h.2 with h0 | ⟨g, cap, cur, hv, hB, hg, rest⟩
  · exact .inl h0
  · refine .inr ⟨g, cap, cur, hv, hB, ?_, rest⟩
    rw [hb.block g (Array.getElem?_eq_some_iff.1 hg).1]; exact hg
theorem row_lower {w : World} {B B' e size n : Nat} {v : Value} {xs : List Value} (h : w.ownsRow B' e size v n xs) (hb : B ≤ B') : w.ownsRow B e size v n xs :=
  ⟨h.1, h.2.imp id fun ⟨g, cap, cur, h1, h2, h3⟩ => ⟨g, cap, cur, h1, Nat.le_trans hb h2, h3⟩⟩
theorem Blk.grown {w w' : World} {b : Nat} {cs : List Value} {row : Option Nat} (h : Blk w b cs) (hg : w.grownBy w' row) (hr : ∀ k, row = some k → b < k) : Blk w' b cs := by
  have hl := h.lt
  obtain ⟨t, h⟩ := h
  exact ⟨t, (hg.block b hl (fun e => by have := hr b e.symm; omega)).trans h⟩
theorem IntAt.own {w : World} {B c : Nat} {a : Option Addr} {l : List Int} (h : w.ownsRow B 3 1 (.slice a l.length c) l.length (intV l)) (hl : ∀ x ∈ l, -9223372036854775808 ≤ x ∧ x < 9223372036854775808) : IntAt w a l := fun i x hi => by
  have hlt := (List.getElem?_eq_some_iff.1 hi).1
  refine ⟨hl x (List.mem_of_getElem? hi), ?_⟩
  obtain ⟨g, c', hg⟩ := row_some h (by omega)
  simp only [Value.slice.injEq, true_and] at hg
  obtain ⟨rfl, rfl⟩ := hg
  refine ⟨_, rfl, ?_⟩
  have := (h.cellAt i (by omega)).trans (intV_at hi)
  rw [← this]
  unfold Addr.add
  split
  · rename_i e; rw [e]
  · simp
end Go.Proofs.Ytjpbglbbeepmnaa
