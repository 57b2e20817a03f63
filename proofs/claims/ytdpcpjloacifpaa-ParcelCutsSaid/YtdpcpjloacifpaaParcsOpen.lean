/- Arguments of type []Parcel, opened. -/
import Derived.Test.YtdpcpjloacifpaaParcJ
import Derived.Test.YtdpcpjloacifpaaParcOpen
namespace Go.Proofs.Ytdpcpjloacifpaa
open Go.ChangeShapes Go.WideShapes Go.ChangeAt Go.RowKit

theorem open_parcels {H : Type} {enc : TypeId × Value → H} {w : World} {base : Nat} {spare : Nat → Bool} {held : Bool} {r : Reach} {b0 : Nat} {v : Value} {d : DataW H} {ps : List MemPlace}
    (hval : Value.okWide Try.prog w r b0 38 v) (hd : DataW.Trod enc Try.prog w base spare held 38 v d ps) : ∃ a c l, v = .slice a (List.length (α := Par) l) c ∧ ParAt w a l ∧ l.length ≤ c ∧ c ≤ maxLen ∧ (a = none → c = 0) := by
  obtain ⟨a0, len, cap, rfl⟩ := Go.WideShapes.okWide_slice Try.underlying38 hval
  obtain ⟨fuel, hf⟩ := hd
  rcases Go.Deep.open_slice Try.underlying38 hf with ⟨hcs, _⟩ | ⟨a, len', cap', m, n, D, Pl, hcs, _, hl, hcap, hm, _, hx⟩
  · simp [Value.cells] at hcs
    obtain ⟨rfl, rfl, rfl⟩ := hcs
    exact ⟨none, 0, [], rfl, fun i x hi => by simp at hi, by simp, by unfold maxLen; omega, fun _ => rfl⟩
  · simp [Value.cells] at hcs
    obtain ⟨rfl, rfl, rfl⟩ := hcs
    have hlm : len ≤ m := by rw [hm]; split <;> omega
    have h9 : Try.prog.cellsOf 28 = 9 := by kernel_rfl
    have each : ∀ i, i < len → ∃ p : Par, ∀ k v, p.cells[k]? = some v → w.cell? ((a.add (i * 9)).add k) = some v := fun i hi => by
      obtain ⟨cs', hc, ht⟩ := hx i (by omega)
      obtain ⟨f, a1, b1, c1, d1, s, e, t, y, hcs', _⟩ := cells_parcel ht
      obtain ⟨_, hcl, hat⟩ := World.cells?_some hc
      rw [h9] at hat hcl
      refine ⟨⟨f, a1, b1, c1, d1, s, e, t, y⟩, fun k v hk => ?_⟩
      have hk9 : k < 9 := (List.getElem?_eq_some_iff.1 hk).1
      have := hat k hk9
      rw [this, hcs']
      exact hk
    have inh : Inhabited Par := ⟨⟨0, 0, 0, 0, 0, 0, 0, 0, ByteArray.empty⟩⟩
    obtain ⟨B, hB⟩ := Go.Deep.choose_lt (α := Par) (p := fun i p => ∀ k v, p.cells[k]? = some v → w.cell? ((a.add (i * 9)).add k) = some v) each
    refine ⟨some a, cap, (List.range len).map B, by simp, fun i x hi => ?_, by simpa using hl, hcap, fun h => by cases h⟩
    have hlt : i < len := by have := (List.getElem?_eq_some_iff.1 hi).1; simpa using this
    rw [List.getElem?_map, List.getElem?_range hlt] at hi
    simp only [Option.map_some, Option.some.injEq] at hi
    subst hi
    exact ⟨a, rfl, hB i hlt⟩
end Go.Proofs.Ytdpcpjloacifpaa
