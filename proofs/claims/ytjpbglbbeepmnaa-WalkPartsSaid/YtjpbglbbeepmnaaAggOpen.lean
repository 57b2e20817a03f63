/- Arguments of struct types of numbers, opened: two numbers of 32 bits; a pair of such. No program is named here. -/
import Derived.Test.YtjpbglbbeepmnaaProg
import Derived.ProofKit
import Derived.OpenShut
import Derived.Lib.SmallJoins
namespace Go.Proofs.Ytjpbglbbeepmnaa
open Go.ChangeShapes Go.WideShapes Go.ChangeAt Go.RowKit
section
variable {H : Type} {enc : TypeId × Value → H} {P : Program} {w : World} {base : Nat} {spare : Nat → Bool} {held : Bool}

theorem cell_u32 {t : TypeId} {fuel : Nat} {cs : List Value} {x : DataW H × List MemPlace} (ht : P.underlying t = some (.int .u32)) (h : DataW.trod enc P w base spare held fuel t cs = some x) :
    ∃ a : Nat, cs = [.int .u32 (a : Int)] ∧ a < 4294967296 := by
  obtain ⟨n, rfl, _, hw⟩ := DataW.trod_int ht h
  have hb := bounds_u32 hw
  obtain ⟨a, rfl⟩ := Int.eq_ofNat_of_zero_le hb.1
  exact ⟨a, rfl, by omega⟩

theorem cell_i64 {t : TypeId} {fuel : Nat} {cs : List Value} {x : DataW H × List MemPlace} (ht : P.underlying t = some (.int .i64)) (h : DataW.trod enc P w base spare held fuel t cs = some x) :
    ∃ a : Int, cs = [.int .i64 a] ∧ -9223372036854775808 ≤ a ∧ a < 9223372036854775808 := by
  obtain ⟨n, rfl, _, hw⟩ := DataW.trod_int ht h
  have hb := bounds_i64 hw
  exact ⟨n, rfl, by omega, by omega⟩

theorem cells_epoch {t : TypeId} {f0 f1 : Field} {fuel : Nat} {cs : List Value} {x : DataW H × List MemPlace} (hs : P.underlying t = some (.struct #[f0, f1])) (h0 : P.underlying f0.type = some (.int .u32)) (h1 : P.underlying f1.type = some (.int .u32))
    (o0 : f0.offset = 0) (o1 : f1.offset = 1) (hc0 : P.cellsOf f0.type = 1) (hc1 : P.cellsOf f1.type = 1) (hC : P.cellsOf t = 2)
    (h : DataW.trod enc P w base spare held fuel t cs = some x) : ∃ a b : Nat, cs = [.int .u32 (a : Int), .int .u32 (b : Int)] ∧ a < 4294967296 ∧ b < 4294967296 := by
  obtain ⟨y0, y1, n, _, hl, g0, g1⟩ := trod_struct2 hs h
  rw [hC] at hl
  match cs, hl with
  | [c0, c1], _ =>
    obtain ⟨a, ea, ha⟩ := cell_u32 h0 g0
    obtain ⟨b, eb, hb⟩ := cell_u32 h1 g1
    simp only [o0, o1, hc0, hc1] at ea eb
    simp at ea eb
    subst ea eb
    exact ⟨a, b, rfl, ha, hb⟩

theorem cells_pair {t : TypeId} {f0 f1 g0 g1 : Field} {fuel : Nat} {cs : List Value} {x : DataW H × List MemPlace} (hs : P.underlying t = some (.struct #[f0, f1])) (he : P.underlying f0.type = some (.struct #[g0, g1])) (hf : f1.type = f0.type)
    (h0 : P.underlying g0.type = some (.int .u32)) (h1 : P.underlying g1.type = some (.int .u32)) (o0 : g0.offset = 0) (o1 : g1.offset = 1) (hc0 : P.cellsOf g0.type = 1) (hc1 : P.cellsOf g1.type = 1) (hC : P.cellsOf f0.type = 2)
    (q0 : f0.offset = 0) (q1 : f1.offset = 2) (hD : P.cellsOf t = 4)
    (h : DataW.trod enc P w base spare held fuel t cs = some x) : ∃ a b c d : Nat, cs = [.int .u32 (a : Int), .int .u32 (b : Int), .int .u32 (c : Int), .int .u32 (d : Int)] ∧ a < 4294967296 ∧ b < 4294967296 ∧ c < 4294967296 ∧ d < 4294967296 := by
  obtain ⟨y0, y1, n, _, hl, k0, k1⟩ := trod_struct2 hs h
  rw [hD] at hl
  rw [hf] at k1
  match cs, hl with
  | [c0, c1, c2, c3], _ =>
    obtain ⟨a, b, ea, ha, hb⟩ := cells_epoch he h0 h1 o0 o1 hc0 hc1 hC k0
    obtain ⟨c, d, ec, hc, hd⟩ := cells_epoch he h0 h1 o0 o1 hc0 hc1 hC k1
    simp only [q0, q1, hC] at ea ec
    simp at ea ec
    obtain ⟨e0, e1⟩ := ea
    obtain ⟨e2, e3⟩ := ec
    subst e0 e1 e2 e3
    exact ⟨a, b, c, d, rfl, ha, hb, hc, hd⟩

theorem open_epoch {r : Reach} {b0 : Nat} {t : TypeId} {f0 f1 : Field} {v : Value} {d : DataW H} {p : List MemPlace} (hs : P.underlying t = some (.struct #[f0, f1])) (h0 : P.underlying f0.type = some (.int .u32)) (h1 : P.underlying f1.type = some (.int .u32))
    (o0 : f0.offset = 0) (o1 : f1.offset = 1) (hc0 : P.cellsOf f0.type = 1) (hc1 : P.cellsOf f1.type = 1) (hC : P.cellsOf t = 2)
    (hv : Value.okWide P w r b0 t v) (h : DataW.Trod enc P w base spare held t v d p) : ∃ a b : Nat, v = .agg #[.int .u32 (a : Int), .int .u32 (b : Int)] ∧ a < 4294967296 ∧ b < 4294967296 := by
  obtain ⟨cs, rfl, hsz⟩ := okWide_struct hs hv
  obtain ⟨fuel, hf⟩ := h
  obtain ⟨a, b, e, ha, hb⟩ := cells_epoch hs h0 h1 o0 o1 hc0 hc1 hC hf
  exact ⟨a, b, by congr 1; apply Array.ext'; simpa [Value.cells] using e, ha, hb⟩
theorem open_pair {r : Reach} {b0 : Nat} {t : TypeId} {f0 f1 g0 g1 : Field} {v : Value} {d : DataW H} {p : List MemPlace} (hs : P.underlying t = some (.struct #[f0, f1])) (he : P.underlying f0.type = some (.struct #[g0, g1])) (hf : f1.type = f0.type)
    (h0 : P.underlying g0.type = some (.int .u32)) (h1 : P.underlying g1.type = some (.int .u32)) (o0 : g0.offset = 0) (o1 : g1.offset = 1) (hc0 : P.cellsOf g0.type = 1) (hc1 : P.cellsOf g1.type = 1) (hC : P.cellsOf f0.type = 2)
    (q0 : f0.offset = 0) (q1 : f1.offset = 2) (hD : P.cellsOf t = 4)
    (hv : Value.okWide P w r b0 t v) (h : DataW.Trod enc P w base spare held t v d p) : ∃ a b c e : Nat, v = .agg #[.int .u32 (a : Int), .int .u32 (b : Int), .int .u32 (c : Int), .int .u32 (e : Int)] ∧ a < 4294967296 ∧ b < 4294967296 ∧ c < 4294967296 ∧ e < 4294967296 := by
  obtain ⟨cs, rfl, hsz⟩ := okWide_struct hs hv
  obtain ⟨fuel, hq⟩ := h
  obtain ⟨a, b, c, e, ee, ha, hb, hc, he'⟩ := cells_pair hs he hf h0 h1 o0 o1 hc0 hc1 hC q0 q1 hD hq
  exact ⟨a, b, c, e, by congr 1; apply Array.ext'; simpa [Value.cells] using ee, ha, hb, hc, he'⟩
end
end Go.Proofs.Ytjpbglbbeepmnaa
