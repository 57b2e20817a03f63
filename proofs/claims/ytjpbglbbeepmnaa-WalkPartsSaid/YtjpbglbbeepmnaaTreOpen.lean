/- Arguments of type Tree and Entry, opened. -/
import Derived.Test.YtjpbglbbeepmnaaAggOpen
import Derived.Test.YtjpbglbbeepmnaaTreA
import Derived.Deep.Slices
namespace Go.Proofs.Ytjpbglbbeepmnaa
open Go.ChangeShapes Go.WideShapes Go.ChangeAt Go.RowKit TreF

theorem cells_tree_of : ∀ (n : Nat) (cs : List Value) (f : Nat → Ent), cs.length = n * 2 → (∀ i, i < n → (cs.drop (i * 2)).take 2 = [.int .u32 ((f i).1 : Int), .int .i64 (f i).2]) → cs = treC ((List.range n).map f)
  | 0, cs, f, hl, _ => by
    obtain rfl : cs = [] := List.length_eq_zero_iff.1 (by omega)
    rfl
  | n + 1, cs, f, hl, h => by
    match cs, hl with
    | [], hl => simp at hl
    | [_], hl => simp at hl; omega
    | a :: b :: cs, hl =>
      have h0 := h 0 (by omega)
      simp only [Nat.zero_mul, List.drop_zero, List.take_succ_cons, List.take_zero, List.cons.injEq, and_true] at h0
      have ih := cells_tree_of n cs (fun i => f (i + 1)) (by simp at hl; omega) (fun i hi => by
        have h1 := h (i + 1) (by omega)
        rw [show (i + 1) * 2 = i * 2 + 1 + 1 by omega] at h1
        simpa using h1)
      rw [List.range_succ_eq_map, List.map_cons, treC, ← h0.1, ← h0.2, List.map_map]
      congr 2
section
variable {H : Type} {enc : TypeId × Value → H} {w : World} {base : Nat} {spare : Nat → Bool} {held : Bool}
set_option maxRecDepth 100000 in
theorem cells_ent {fuel : Nat} {cs : List Value} {x : DataW H × List MemPlace} (h : DataW.trod enc Try.prog w base spare held fuel 24 cs = some x) :
    ∃ e : Ent, cs = [.int .u32 (e.1 : Int), .int .i64 e.2] ∧ Ok e := by
  obtain ⟨y0, y1, n, _, hl, g0, g1⟩ := trod_struct2 Try.underlying24 h
  have c1 : Try.prog.cellsOf 22 = 1 := by kernel_rfl
  have c2 : Try.prog.cellsOf 3 = 1 := by kernel_rfl
  have c3 : Try.prog.cellsOf 24 = 2 := by kernel_rfl
  rw [c3] at hl
  have k0 : DataW.trod enc Try.prog w base spare held n 22 ((cs.drop 0).take (Try.prog.cellsOf 22)) = some y0 := g0
  have k1 : DataW.trod enc Try.prog w base spare held n 3 ((cs.drop 1).take (Try.prog.cellsOf 3)) = some y1 := g1
  rw [c1] at k0
  rw [c2] at k1
  match cs, hl with
  | [x0, x1], _ =>
    obtain ⟨d, hd, h1⟩ := cell_u32 Try.underlying22 k0
    obtain ⟨p, hp, h2, h3⟩ := cell_i64 Try.underlying3 k1
    simp at hd hp
    subst hd hp
    exact ⟨(d, p), rfl, h1, h2, h3⟩
set_option maxRecDepth 100000 in
theorem cells_tree {fuel : Nat} {cs : List Value} {x : DataW H × List MemPlace} (h : DataW.trod enc Try.prog w base spare held fuel 26 cs = some x) : ∃ t : Tr, cs = treC t ∧ Tre t := by
  obtain ⟨d, p⟩ := x
  obtain ⟨xs, m1, rfl, hx1, hlen, hn, hel⟩ := DataW.trod_array Try.underlying26 h
  have c1 : Try.prog.cellsOf 24 = 2 := by kernel_rfl
  have c32 : Try.prog.cellsOf 26 = 32 := by kernel_rfl
  rw [c32] at hlen
  rw [c1] at hel
  have each : ∀ i, i < 16 → ∃ e : Ent, Ok e ∧ (cs.drop (i * 2)).take 2 = [.int .u32 (e.1 : Int), .int .i64 e.2] := fun i hi => by
    have h1 := hel i hi
    rw [List.getElem?_eq_getElem (by omega)] at h1
    obtain ⟨e, he, ho⟩ := cells_ent h1
    exact ⟨e, ho, he⟩
  have inh : Inhabited Ent := ⟨farE⟩
  obtain ⟨B, hB⟩ := Go.Deep.choose_lt (α := Ent) (p := fun i e => Ok e ∧ (cs.drop (i * 2)).take 2 = [.int .u32 (e.1 : Int), .int .i64 e.2]) each
  refine ⟨(List.range 16).map B, cells_tree_of 16 cs B (by omega) (fun i hi => (hB i hi).2), by simp, fun e he => ?_⟩
  obtain ⟨i, hi, rfl⟩ := List.mem_map.1 he
  exact (hB i (List.mem_range.1 hi)).1
set_option maxRecDepth 100000 in
theorem open_tree {r : Reach} {b0 : Nat} {v : Value} {d : DataW H} {p : List MemPlace} (hv : Value.okWide Try.prog w r b0 26 v) (h : DataW.Trod enc Try.prog w base spare held 26 v d p) :
    ∃ t : Tr, v = .agg (treC t).toArray ∧ Tre t := by
  obtain ⟨cs, rfl⟩ : ∃ cs, v = .agg cs := by
    simp only [Value.okWide, Try.underlying26] at hv
    obtain ⟨cs, h1, _, _⟩ := hv
    exact ⟨cs, h1⟩
  obtain ⟨fuel, hq⟩ := h
  obtain ⟨t, hc, h1⟩ := cells_tree hq
  obtain ⟨cs⟩ := cs
  simp only [Value.cells] at hc
  subst hc
  exact ⟨t, rfl, h1⟩
set_option maxRecDepth 100000 in
theorem open_ent {r : Reach} {b0 : Nat} {v : Value} {d : DataW H} {p : List MemPlace} (hv : Value.okWide Try.prog w r b0 24 v) (h : DataW.Trod enc Try.prog w base spare held 24 v d p) :
    ∃ (d : Nat) (q : Int), v = .agg #[.int .u32 (d : Int), .int .i64 q] ∧ Ok (d, q) := by
  obtain ⟨cs, rfl, hsz⟩ := okWide_struct Try.underlying24 hv
  obtain ⟨fuel, hq⟩ := h
  obtain ⟨⟨d, q⟩, hc, h1⟩ := cells_ent hq
  obtain ⟨cs⟩ := cs
  simp only [Value.cells] at hc
  subst hc
  exact ⟨d, q, rfl, h1⟩
end
end Go.Proofs.Ytjpbglbbeepmnaa
