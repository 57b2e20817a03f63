/- Arguments of type []bool, opened. No function is named here. -/
import Derived.Test.YtogmneidfoedbaaBlk
import Derived.ProofKit
import Derived.OpenShut
import Derived.Lib.SmallJoins
import Derived.Deep.Slices
namespace Go.Proofs.Ytogmneidfoedbaa
open Go.ChangeShapes Go.WideShapes Go.ChangeAt Go.RowKit

/-- A slice reads as these. -/
def BoolAt (w : World) (a : Option Addr) (l : List Bool) : Prop := ∀ i x, l[i]? = some x → ∃ b, a = some b ∧ w.cell? (b.add i) = some (.bool x)
theorem BoolAt.on {w w' : World} {a : Option Addr} {l : List Bool} (h : BoolAt w a l) (hb : Below w.heap.size w w') : BoolAt w' a l := fun i x hi => by
  obtain ⟨b, h2, h3⟩ := h i x hi
  exact ⟨b, h2, cell_later hb h3⟩
theorem open_bools' {H : Type} {enc : TypeId × Value → H} {P : Program} {w : World} {base : Nat} {spare : Nat → Bool} {held : Bool} {r : Reach} {b0 : Nat} {t e : TypeId} {v : Value} {d : DataW H} {ps : List MemPlace} (ht : P.underlying t = some (.slice e)) (he : P.underlying e = some .bool) (hc : P.cellsOf e = 1)
    (hval : Value.okWide P w r b0 t v) (hd : DataW.Trod enc P w base spare held t v d ps) : ∃ a c l, v = .slice a l.length c ∧ BoolAt w a l := by
  obtain ⟨a0, len, cap, rfl⟩ := Go.WideShapes.okWide_slice ht hval
  obtain ⟨fuel, hf⟩ := hd
  rcases Go.Deep.open_slice1 ht hc hf with ⟨hcs, _⟩ | ⟨a, len', cap', m, n, V, D, Pl, hcs, _, hl, _, hm, _, hx⟩
  · simp [Value.cells] at hcs
    obtain ⟨rfl, rfl, rfl⟩ := hcs
    exact ⟨none, 0, [], rfl, fun i x hi => by simp at hi⟩
  · simp [Value.cells] at hcs
    obtain ⟨rfl, rfl, rfl⟩ := hcs
    have hlm : len ≤ m := by rw [hm]; split <;> omega
    have each : ∀ i, i < len → ∃ x : Bool, V i = .bool x := fun i hi => by
      obtain ⟨x, h1, _⟩ := DataW.trod_bool he (hx i (by omega)).2
      exact ⟨x, by simpa using h1⟩
    obtain ⟨B, hB⟩ := Go.Deep.choose_lt (α := Bool) (p := fun i x => V i = .bool x) each
    refine ⟨some a, cap, (List.range len).map B, by simp, fun i x hi => ?_⟩
    have hlt : i < len := by have := (List.getElem?_eq_some_iff.1 hi).1; simpa using this
    rw [List.getElem?_map, List.getElem?_range hlt] at hi
    simp only [Option.map_some, Option.some.injEq] at hi
    subst hi
    exact ⟨a, rfl, by rw [← hB i hlt]; exact (hx i (by omega)).1⟩
end Go.Proofs.Ytogmneidfoedbaa
