/- Arguments of type Alarm and []Alarm, opened. -/
import Derived.Test.YtpfgbdcnfmlkcaaAggOpen
import Derived.Test.YtpfgbdcnfmlkcaaTimA
import Derived.Deep.Slices
namespace Go.Proofs.Ytpfgbdcnfmlkcaa
open Go.ChangeShapes Go.WideShapes Go.ChangeAt Go.RowKit
section
variable {H : Type} {enc : TypeId × Value → H} {w : World} {base : Nat} {spare : Nat → Bool} {held : Bool}

/-- A timer of numbers that an int may have. -/
def Alm.In (a : Alm) : Prop := (-9223372036854775808 ≤ a.k ∧ a.k < 9223372036854775808) ∧ (-9223372036854775808 ≤ a.n ∧ a.n < 9223372036854775808) ∧ -9223372036854775808 ≤ a.t ∧ a.t < 9223372036854775808
theorem cells_alarm {fuel : Nat} {cs : List Value} {x : DataW H × List MemPlace} (h : DataW.trod enc Try.prog w base spare held fuel 23 cs = some x) :
    ∃ a : Alm, cs = a.cells ∧ a.In := by
  obtain ⟨xs, n, _, rfl, hl, hlen, hf⟩ := DataW.trod_struct Try.underlying23 h
  rw [show Try.prog.cellsOf 23 = 3 by kernel_rfl] at hl
  have c1 : Try.prog.cellsOf 3 = 1 := by kernel_rfl
  match xs, hlen, cs, hl with
  | [y0, y1, y2], _, [x0, x1, x2], _ =>
    have k0 := hf 0 _ rfl
    have k1 := hf 1 _ rfl
    have k2 := hf 2 _ rfl
    simp [c1] at k0 k1 k2
    obtain ⟨k, ek, hk⟩ := cell_i64 Try.underlying3 k0
    obtain ⟨n, en, hn⟩ := cell_i64 Try.underlying3 k1
    obtain ⟨t, et, ht⟩ := cell_i64 Try.underlying3 k2
    simp at ek en et
    subst ek en et
    exact ⟨⟨k, n, t⟩, rfl, hk, hn, ht⟩
theorem open_alarm {r : Reach} {b0 : Nat} {v : Value} {d : DataW H} {p : List MemPlace} (hv : Value.okWide Try.prog w r b0 23 v) (h : DataW.Trod enc Try.prog w base spare held 23 v d p) :
    ∃ k n t : Int, v = (.agg #[.int .i64 k, .int .i64 n, .int .i64 t] : Value) ∧ (Alm.mk k n t).In := by
  obtain ⟨cs, rfl, hsz⟩ := okWide_struct Try.underlying23 hv
  obtain ⟨fuel, hq⟩ := h
  obtain ⟨⟨k, n, t⟩, hc, h1⟩ := cells_alarm hq
  obtain ⟨cs⟩ := cs
  simp only [Value.cells] at hc
  subst hc
  exact ⟨k, n, t, rfl, h1⟩
theorem open_alarms {r : Reach} {b0 : Nat} {v : Value} {d : DataW H} {ps : List MemPlace}
    (hval : Value.okWide Try.prog w r b0 25 v) (hd : DataW.Trod enc Try.prog w base spare held 25 v d ps) : ∃ a n c l, v = .slice a n c ∧ alS.At w a n c l ∧ ∀ x ∈ l, x.In := by
  obtain ⟨a0, len, cap, rfl⟩ := Go.WideShapes.okWide_slice Try.underlying25 hval
  obtain ⟨fuel, hf⟩ := hd
  rcases Go.Deep.open_slice Try.underlying25 hf with ⟨hcs, _⟩ | ⟨a, len', cap', m, n, D, Pl, hcs, _, hl, hcap, hm, _, hx⟩
  · simp [Value.cells] at hcs
    obtain ⟨rfl, rfl, rfl⟩ := hcs
    exact ⟨none, 0, 0, [], rfl, Shp.At.nil w, by simp⟩
  · simp [Value.cells] at hcs
    obtain ⟨rfl, rfl, rfl⟩ := hcs
    have hlm : len ≤ m := by rw [hm]; split <;> omega
    have h3 : Try.prog.cellsOf 23 = 3 := by kernel_rfl
    have each : ∀ i, i < len → ∃ p : Alm, p.In ∧ ∀ k v, p.cells[k]? = some v → w.cell? ((a.add (i * 3)).add k) = some v := fun i hi => by
      obtain ⟨cs', hc, ht⟩ := hx i (by omega)
      obtain ⟨p, hcs', hin⟩ := cells_alarm ht
      obtain ⟨_, hcl, hat⟩ := World.cells?_some hc
      rw [h3] at hat hcl
      refine ⟨p, hin, fun k v hk => ?_⟩
      have hk3 : k < 3 := (List.getElem?_eq_some_iff.1 hk).1
      have := hat k hk3
      rw [this, hcs']
      exact hk
    have inh : Inhabited Alm := ⟨⟨0, 0, 0⟩⟩
    obtain ⟨B, hB⟩ := Go.Deep.choose_lt (α := Alm) (p := fun i p => p.In ∧ ∀ k v, p.cells[k]? = some v → w.cell? ((a.add (i * 3)).add k) = some v) each
    refine ⟨some a, len, cap, (List.range len).map B, rfl, ⟨by simp, hl, hcap, (by intro h; cases h), fun i x hi => ?_⟩, fun x hx => ?_⟩
    · have hlt : i < len := by have := (List.getElem?_eq_some_iff.1 hi).1; simpa using this
      rw [List.getElem?_map, List.getElem?_range hlt] at hi
      simp only [Option.map_some, Option.some.injEq] at hi
      subst hi
      exact ⟨a, rfl, (hB i hlt).2⟩
    · obtain ⟨i, hi, rfl⟩ := List.mem_map.1 hx
      exact (hB i (List.mem_range.1 hi)).1
end
end Go.Proofs.Ytpfgbdcnfmlkcaa
