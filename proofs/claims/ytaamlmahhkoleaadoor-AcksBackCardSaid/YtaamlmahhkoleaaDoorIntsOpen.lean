/- Arguments of type []int, opened. No function is named here. -/
import Derived.Test.YtaamlmahhkoleaaDoorInts
import Derived.Test.YtaamlmahhkoleaaDoorAggOpen
import Derived.Deep.Slices
namespace Go.Proofs.YtaamlmahhkoleaaDoor
open Go.ChangeShapes Go.WideShapes Go.ChangeAt Go.RowKit

theorem open_ints {H : Type} {enc : TypeId × Value → H} {P : Program} {w : World} {base : Nat} {spare : Nat → Bool} {held : Bool} {r : Reach} {b0 : Nat} {t e : TypeId} {v : Value} {d : DataW H} {ps : List MemPlace} (ht : P.underlying t = some (.slice e)) (he : P.underlying e = some (.int .i64)) (hc : P.cellsOf e = 1)
    (hval : Value.okWide P w r b0 t v) (hd : DataW.Trod enc P w base spare held t v d ps) : ∃ a c l, v = .slice a l.length c ∧ IntAt w a l ∧ (a = none → c = 0) := by
  obtain ⟨a0, len, cap, rfl⟩ := Go.WideShapes.okWide_slice ht hval
  obtain ⟨fuel, hf⟩ := hd
  rcases Go.Deep.open_slice1 ht hc hf with ⟨hcs, _⟩ | ⟨a, len', cap', m, n, V, D, Pl, hcs, _, hl, _, hm, _, hx⟩
  · simp [Value.cells] at hcs
    obtain ⟨rfl, rfl, rfl⟩ := hcs
    exact ⟨none, 0, [], rfl, fun i x hi => by simp at hi, fun _ => rfl⟩
  · simp [Value.cells] at hcs
    obtain ⟨rfl, rfl, rfl⟩ := hcs
    have hlm : len ≤ m := by rw [hm]; split <;> omega
    have each : ∀ i, i < len → ∃ x : Int, V i = .int .i64 x ∧ -9223372036854775808 ≤ x ∧ x < 9223372036854775808 := fun i hi => by
      obtain ⟨_, h2⟩ := hx i (by omega)
      obtain ⟨x, e1, h3, h4⟩ := cell_i64 he h2
      exact ⟨x, by simpa using e1, h3, h4⟩
    obtain ⟨B, hB⟩ := Go.Deep.choose_lt (α := Int) (p := fun i x => V i = .int .i64 x ∧ -9223372036854775808 ≤ x ∧ x < 9223372036854775808) each
    refine ⟨some a, cap, (List.range len).map B, by simp, fun i x hi => ?_, fun h => by cases h⟩
    have hlt : i < len := by have := (List.getElem?_eq_some_iff.1 hi).1; simpa using this
    rw [List.getElem?_map, List.getElem?_range hlt] at hi
    simp only [Option.map_some, Option.some.injEq] at hi
    subst hi
    obtain ⟨h1, h2⟩ := hB i hlt
    exact ⟨h2, a, rfl, by rw [← h1]; exact (hx i (by omega)).1⟩
end Go.Proofs.YtaamlmahhkoleaaDoor
