/- A slice of records as an argument, or within one, opened: for any element type whose cells are opened. For any seat. -/
import Derived.Test.YtepmlgpllnndlaaRecs
import Derived.ProofKit
import Derived.OpenShut
import Derived.Deep.Slices
namespace Go.Proofs.Ytepmlgpllnndlaa
open Go.ChangeShapes Go.WideShapes Go.ChangeAt Go.RowKit
section
variable {H : Type} {enc : TypeId × Value → H} {w : World} {base : Nat} {spare : Nat → Bool} {held : Bool}
theorem Shp.cells_slice {α : Type} [Inhabited α] (S : Shp α) {Q : α → Prop} (hK : Try.prog.cellsOf S.T = S.K)
    (el : ∀ (fuel : Nat) (cs : List Value) (x : DataW H × List MemPlace), DataW.trod enc Try.prog w base spare held fuel S.T cs = some x → ∃ y : α, cs = S.cells y ∧ Q y)
    {fuel : Nat} {cs : List Value} {x : DataW H × List MemPlace} (h : DataW.trod enc Try.prog w base spare held fuel S.S cs = some x) :
    ∃ a n c L, cs = [.slice a n c] ∧ S.At w a n c L ∧ ∀ y ∈ L, Q y := by
  rcases Go.Deep.open_slice S.und h with ⟨hcs, _⟩ | ⟨a, len, cap, m, n, D, Pl, hcs, _, hl, hcap, hm, _, hx⟩
  · exact ⟨none, 0, 0, [], hcs, Shp.At.nil w, by simp⟩
  · have hlm : len ≤ m := by rw [hm]; split <;> omega
    have each : ∀ i, i < len → ∃ p : α, Q p ∧ ∀ k v, (S.cells p)[k]? = some v → w.cell? ((a.add (i * S.K)).add k) = some v := fun i hi => by
      obtain ⟨cs', hc, ht⟩ := hx i (by omega)
      obtain ⟨p, hcs', hin⟩ := el _ _ _ ht
      obtain ⟨_, hcl, hat⟩ := World.cells?_some hc
      rw [hK] at hat hcl
      refine ⟨p, hin, fun k v hk => ?_⟩
      have hk3 : k < S.K := by rw [← S.len p]; exact (List.getElem?_eq_some_iff.1 hk).1
      have := hat k hk3
      rw [this, hcs']
      exact hk
    obtain ⟨B, hB⟩ := Go.Deep.choose_lt (α := α) (p := fun i p => Q p ∧ ∀ k v, (S.cells p)[k]? = some v → w.cell? ((a.add (i * S.K)).add k) = some v) each
    refine ⟨some a, len, cap, (List.range len).map B, hcs, ⟨by simp, hl, hcap, (by intro h; cases h), fun i x hi => ?_⟩, fun x hx => ?_⟩
    · have hlt : i < len := by have := (List.getElem?_eq_some_iff.1 hi).1; simpa using this
      rw [List.getElem?_map, List.getElem?_range hlt] at hi
      simp only [Option.map_some, Option.some.injEq] at hi
      subst hi
      exact ⟨a, rfl, (hB i hlt).2⟩
    · obtain ⟨i, hi, rfl⟩ := List.mem_map.1 hx
      exact (hB i (List.mem_range.1 hi)).1
end
end Go.Proofs.Ytepmlgpllnndlaa
