/- Arguments of type Hello, opened: an int and a pair of epochs. No program is named here. -/
import Derived.Test.YtgmpfnhdcgcldaaAggOpen
namespace Go.Proofs.Ytgmpfnhdcgcldaa
open Go.ChangeShapes Go.WideShapes Go.ChangeAt Go.RowKit
section
variable {H : Type} {enc : TypeId × Value → H} {P : Program} {w : World} {base : Nat} {spare : Nat → Bool} {held : Bool}

theorem cell_i64 {t : TypeId} {fuel : Nat} {cs : List Value} {x : DataW H × List MemPlace} (ht : P.underlying t = some (.int .i64)) (h : DataW.trod enc P w base spare held fuel t cs = some x) :
    ∃ a : Int, cs = [.int .i64 a] ∧ -9223372036854775808 ≤ a ∧ a < 9223372036854775808 := by
  obtain ⟨n, rfl, _, hw⟩ := DataW.trod_int ht h
  have hb := bounds_i64 hw
  exact ⟨n, rfl, by omega, by omega⟩

theorem open_hello {r : Reach} {b0 : Nat} {t : TypeId} {e0 e1 f0 f1 g0 g1 : Field} {v : Value} {d : DataW H} {p : List MemPlace} (hh : P.underlying t = some (.struct #[e0, e1])) (hi : P.underlying e0.type = some (.int .i64)) (hs : P.underlying e1.type = some (.struct #[f0, f1]))
    (he : P.underlying f0.type = some (.struct #[g0, g1])) (hf : f1.type = f0.type)
    (h0 : P.underlying g0.type = some (.int .u32)) (h1 : P.underlying g1.type = some (.int .u32)) (o0 : g0.offset = 0) (o1 : g1.offset = 1) (hc0 : P.cellsOf g0.type = 1) (hc1 : P.cellsOf g1.type = 1) (hC : P.cellsOf f0.type = 2)
    (q0 : f0.offset = 0) (q1 : f1.offset = 2) (hD : P.cellsOf e1.type = 4) (r0 : e0.offset = 0) (r1 : e1.offset = 1) (hi1 : P.cellsOf e0.type = 1) (hE : P.cellsOf t = 5)
    (hv : Value.okWide P w r b0 t v) (h : DataW.Trod enc P w base spare held t v d p) :
    ∃ (f : Int) (a b c e : Nat), v = .agg #[.int .i64 f, .int .u32 (a : Int), .int .u32 (b : Int), .int .u32 (c : Int), .int .u32 (e : Int)] ∧ (-9223372036854775808 ≤ f ∧ f < 9223372036854775808) ∧ a < 4294967296 ∧ b < 4294967296 ∧ c < 4294967296 ∧ e < 4294967296 := by
  obtain ⟨cs, rfl, hsz⟩ := okWide_struct hh hv
  obtain ⟨fuel, hq⟩ := h
  obtain ⟨y0, y1, n, _, hl, k0, k1⟩ := trod_struct2 hh hq
  rw [hE] at hl
  obtain ⟨cs⟩ := cs
  simp only [Value.cells] at hl k0 k1
  match cs, hl with
  | [x0, x1, x2, x3, x4], _ =>
    obtain ⟨f, ef, hb0, hb1⟩ := cell_i64 hi k0
    obtain ⟨a, b, c, e, ea, ha, hb, hc, he'⟩ := cells_pair hs he hf h0 h1 o0 o1 hc0 hc1 hC q0 q1 hD k1
    simp only [r0, r1, hi1, hD] at ef ea
    simp at ef ea
    obtain ⟨e1, e2, e3, e4⟩ := ea
    subst ef e1 e2 e3 e4
    exact ⟨f, a, b, c, e, rfl, ⟨hb0, hb1⟩, ha, hb, hc, he'⟩
end
end Go.Proofs.Ytgmpfnhdcgcldaa
