/- Arguments of type Ack, opened: an int, a pair of epochs, two ints. No function is named here. -/
import Derived.Test.YtaamlmahhkoleaaDoorAggOpen
namespace Go.Proofs.YtaamlmahhkoleaaDoor
open Go.ChangeShapes Go.WideShapes Go.ChangeAt Go.RowKit
section
variable {H : Type} {enc : TypeId × Value → H} {P : Program} {w : World} {base : Nat} {spare : Nat → Bool} {held : Bool}

theorem open_ack {r : Reach} {b0 : Nat} {t : TypeId} {e0 e1 e2 e3 f0 f1 g0 g1 : Field} {v : Value} {d : DataW H} {p : List MemPlace} (hh : P.underlying t = some (.struct #[e0, e1, e2, e3])) (hi : P.underlying e0.type = some (.int .i64)) (hi2 : e2.type = e0.type) (hi3 : e3.type = e0.type)
    (hs : P.underlying e1.type = some (.struct #[f0, f1])) (he : P.underlying f0.type = some (.struct #[g0, g1])) (hf : f1.type = f0.type)
    (h0 : P.underlying g0.type = some (.int .u32)) (h1 : P.underlying g1.type = some (.int .u32)) (o0 : g0.offset = 0) (o1 : g1.offset = 1) (hc0 : P.cellsOf g0.type = 1) (hc1 : P.cellsOf g1.type = 1) (hC : P.cellsOf f0.type = 2)
    (q0 : f0.offset = 0) (q1 : f1.offset = 2) (hD : P.cellsOf e1.type = 4) (r0 : e0.offset = 0) (r1 : e1.offset = 1) (r2 : e2.offset = 5) (r3 : e3.offset = 6) (hi1 : P.cellsOf e0.type = 1) (hE : P.cellsOf t = 7)
    (hv : Value.okWide P w r b0 t v) (h : DataW.Trod enc P w base spare held t v d p) :
    ∃ (f : Int) (a b c e : Nat) (n s : Int), v = .agg #[.int .i64 f, .int .u32 (a : Int), .int .u32 (b : Int), .int .u32 (c : Int), .int .u32 (e : Int), .int .i64 n, .int .i64 s] ∧ (-9223372036854775808 ≤ f ∧ f < 9223372036854775808) ∧
      (a < 4294967296 ∧ b < 4294967296 ∧ c < 4294967296 ∧ e < 4294967296) ∧ (-9223372036854775808 ≤ n ∧ n < 9223372036854775808) ∧ (-9223372036854775808 ≤ s ∧ s < 9223372036854775808) := by
  obtain ⟨cs, rfl, hsz⟩ := okWide_struct hh hv
  obtain ⟨fuel, hq⟩ := h
  obtain ⟨y0, y1, y2, y3, n, _, hl, k0, k1, k2, k3⟩ := Go.Joins.trod_struct4 hh hq
  rw [hE] at hl
  rw [hi2] at k2
  rw [hi3] at k3
  obtain ⟨cs⟩ := cs
  simp only [Value.cells] at hl k0 k1 k2 k3
  match cs, hl with
  | [x0, x1, x2, x3, x4, x5, x6], _ =>
    obtain ⟨f, ef, hf0, hf1⟩ := cell_i64 hi k0
    obtain ⟨a, b, c, e, ea, ha, hb, hc, he'⟩ := cells_pair hs he hf h0 h1 o0 o1 hc0 hc1 hC q0 q1 hD k1
    obtain ⟨m, em, hm0, hm1⟩ := cell_i64 hi k2
    obtain ⟨s, es, hs0, hs1⟩ := cell_i64 hi k3
    simp only [r0, r1, r2, r3, hi1, hD] at ef ea em es
    simp at ef ea em es
    obtain ⟨e1, e2, e3, e4⟩ := ea
    subst ef e1 e2 e3 e4 em es
    exact ⟨f, a, b, c, e, m, s, rfl, ⟨hf0, hf1⟩, ⟨ha, hb, hc, he'⟩, ⟨hm0, hm1⟩, hs0, hs1⟩
end
end Go.Proofs.YtaamlmahhkoleaaDoor
