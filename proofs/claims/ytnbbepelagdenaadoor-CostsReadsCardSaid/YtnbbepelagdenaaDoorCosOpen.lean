/- An argument of type Costs, opened. -/
import Derived.Test.YtnbbepelagdenaaDoorAggOpen
import Derived.Test.YtnbbepelagdenaaDoorCosA
import Derived.Deep.Slices
namespace Go.Proofs.YtnbbepelagdenaaDoor
open Go.ChangeShapes Go.WideShapes Go.ChangeAt Go.RowKit CosF
section
variable {H : Type} {enc : TypeId × Value → H} {w : World} {base : Nat} {spare : Nat → Bool} {held : Bool}
set_option maxRecDepth 100000 in
theorem cells_row {fuel : Nat} {cs : List Value} {x : DataW H × List MemPlace} (h : DataW.trod enc Tryd.prog w base spare held fuel 23 cs = some x) :
    ∃ L : List Nat, cs = cosC L ∧ L.length = 16 ∧ ∀ k ∈ L, k < 4294967296 := by
  obtain ⟨d, p⟩ := x
  obtain ⟨xs, m1, rfl, hx1, hlen, hn, hel⟩ := DataW.trod_array Tryd.underlying23 h
  have c1 : Tryd.prog.cellsOf 22 = 1 := by kernel_rfl
  have c16 : Tryd.prog.cellsOf 23 = 16 := by kernel_rfl
  rw [c16] at hlen
  rw [c1] at hel
  have each : ∀ i, i < 16 → ∃ k : Nat, k < 4294967296 ∧ cs[i]? = some (.int .u32 (k : Int)) := fun i hi => by
    have h1 := hel i hi
    rw [Nat.mul_one, List.getElem?_eq_getElem (by omega)] at h1
    obtain ⟨k, hk, hlt⟩ := cell_u32 Tryd.underlying22 h1
    refine ⟨k, hlt, ?_⟩
    have h2 := congrArg (fun l => l[0]?) hk
    simpa [List.getElem?_take, List.getElem?_drop] using h2
  have inh : Inhabited Nat := ⟨0⟩
  obtain ⟨B, hB⟩ := Go.Deep.choose_lt (α := Nat) (p := fun i k => k < 4294967296 ∧ cs[i]? = some (.int .u32 (k : Int))) each
  refine ⟨(List.range 16).map B, ?_, by simp, fun k hk => ?_⟩
  · apply List.ext_getElem?
    intro i
    by_cases hi : i < 16
    · rw [(hB i hi).2]
      simp [cosC, hi]
    · rw [List.getElem?_eq_none (by omega), List.getElem?_eq_none (by simp [cosC]; omega)]
  · obtain ⟨i, hi, rfl⟩ := List.mem_map.1 hk
    exact (hB i (List.mem_range.1 hi)).1
set_option maxRecDepth 100000 in
theorem cells_cos {fuel : Nat} {cs : List Value} {x : DataW H × List MemPlace} (h : DataW.trod enc Tryd.prog w base spare held fuel 25 cs = some x) : ∃ c : Pt, cs = cosP c ∧ Cos c := by
  obtain ⟨y0, y1, n, _, hl, g0, g1⟩ := trod_struct2 Tryd.underlying25 h
  have c1 : Tryd.prog.cellsOf 3 = 1 := by kernel_rfl
  have c16 : Tryd.prog.cellsOf 23 = 16 := by kernel_rfl
  have c17 : Tryd.prog.cellsOf 25 = 17 := by kernel_rfl
  rw [c17] at hl
  have k0 : DataW.trod enc Tryd.prog w base spare held n 3 ((cs.drop 0).take (Tryd.prog.cellsOf 3)) = some y0 := g0
  have k1 : DataW.trod enc Tryd.prog w base spare held n 23 ((cs.drop 1).take (Tryd.prog.cellsOf 23)) = some y1 := g1
  rw [c1] at k0
  rw [c16] at k1
  obtain ⟨u, hu, hb1, hb2⟩ := cell_i64 Tryd.underlying3 k0
  obtain ⟨L, hL, hlen, hlt⟩ := cells_row k1
  cases cs with
  | nil => simp at hl
  | cons v cs =>
    simp only [List.drop_zero, List.take_succ_cons, List.take_zero, List.cons.injEq, and_true] at hu
    rw [List.drop_succ_cons, List.drop_zero, List.take_of_length_le (by simp at hl; omega)] at hL
    subst hu hL
    exact ⟨(u, L), rfl, hlen, hlt, hb1, hb2⟩
set_option maxRecDepth 100000 in
theorem open_costs {r : Reach} {b0 : Nat} {v : Value} {d : DataW H} {p : List MemPlace} (hv : Value.okWide Tryd.prog w r b0 25 v) (h : DataW.Trod enc Tryd.prog w base spare held 25 v d p) :
    ∃ c : Pt, v = .agg (cosP c).toArray ∧ Cos c := by
  obtain ⟨cs, rfl, hsz⟩ := okWide_struct Tryd.underlying25 hv
  obtain ⟨fuel, hq⟩ := h
  obtain ⟨c, hc, h1⟩ := cells_cos hq
  obtain ⟨cs⟩ := cs
  simp only [Value.cells] at hc
  subst hc
  exact ⟨c, rfl, h1⟩
end
end Go.Proofs.YtnbbepelagdenaaDoor
