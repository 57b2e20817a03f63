/- Arguments of type []string and [3]int, opened. No function is named here. -/
import Derived.Test.YtmgmgffgbkenkaaDoorStrs
import Derived.ProofKit
import Derived.OpenShut
import Derived.Lib.SmallJoins
import Derived.SliceStrings
namespace Go.Proofs.YtmgmgffgbkenkaaDoor
open Go.ChangeShapes Go.WideShapes Go.ChangeAt Go.RowKit

theorem open_strs {H : Type} {enc : TypeId × Value → H} {w : World} {base : Nat} {spare : Nat → Bool} {held : Bool} {r : Reach} {b0 : Nat} {v : Value} {d : DataW H} {ps : List MemPlace}
    (hval : Value.okWide Tryd.prog w r b0 31 v) (hd : DataW.Trod enc Tryd.prog w base spare held 31 v d ps) : ∃ a c L, v = .slice a (List.length (α := ByteArray) L) c ∧ Txts w a L.length c L ∧ ∀ x ∈ L, x.size ≤ maxLen := by
  obtain ⟨a0, len, cap, rfl⟩ := Go.WideShapes.okWide_slice Tryd.underlying31 hval
  obtain ⟨fuel, hf⟩ := hd
  rcases open_strings Tryd.underlying31 Tryd.underlying9 (by kernel_rfl) hf with ⟨hcs, _⟩ | ⟨a, len', cap', ss, hcs, _, hl, hm, hz, _, hcell, hws⟩
  · simp [Value.cells] at hcs
    obtain ⟨rfl, rfl, rfl⟩ := hcs
    exact ⟨none, 0, [], rfl, Txts.nil w, fun x hx => by cases hx⟩
  · simp [Value.cells] at hcs
    obtain ⟨rfl, rfl, rfl⟩ := hcs
    have hlm : len ≤ ss.length := by rw [hz]; split <;> omega
    have hlen : (ss.take len).length = len := by rw [List.length_take]; omega
    refine ⟨some a, cap, ss.take len, by rw [hlen], ⟨rfl, by rw [hlen]; exact hl, hm, (by intro h; cases h), fun i x hi => ?_⟩, fun x hx => hws x (List.mem_of_mem_take hx)⟩
    have hlt : i < len := by have := (List.getElem?_eq_some_iff.1 hi).1; rw [hlen] at this; exact this
    rw [List.getElem?_take_of_lt hlt] at hi
    refine ⟨a, rfl, ?_⟩
    rw [hcell i (by omega), List.getD_eq_getElem?_getD, hi]; rfl
theorem open_int3 {H : Type} {enc : TypeId × Value → H} {w : World} {base : Nat} {spare : Nat → Bool} {held : Bool} {r : Reach} {b0 : Nat} {v : Value} {d : DataW H} {p : List MemPlace}
    (hv : Value.okWide Tryd.prog w r b0 22 v) (h : DataW.Trod enc Tryd.prog w base spare held 22 v d p) :
    ∃ x y z : Int, v = .agg #[.int .i64 x, .int .i64 y, .int .i64 z] ∧ (-9223372036854775808 ≤ x ∧ x < 9223372036854775808) ∧ (-9223372036854775808 ≤ y ∧ y < 9223372036854775808) ∧ (-9223372036854775808 ≤ z ∧ z < 9223372036854775808) := by
  have hu := Tryd.underlying22
  have hE : Tryd.prog.cellsOf 3 = 1 := by kernel_rfl
  have hC : Tryd.prog.cellsOf 22 = 3 := by kernel_rfl
  have he := Tryd.underlying3
  have hv2 : ∃ cs, v = .agg cs ∧ cs.size = Tryd.prog.cellsOf 22 := by
    simp only [Value.okWide, hu] at hv
    obtain ⟨cs, h1, h2, _⟩ := hv
    exact ⟨cs, h1, h2⟩
  obtain ⟨cs, rfl, hsz⟩ := hv2
  obtain ⟨c0, c1, c2, rfl⟩ := Joins.array3 (hsz.trans hC)
  obtain ⟨fuel, hf⟩ := h
  obtain ⟨xs, m, rfl, hx, hl, hn, hi⟩ := DataW.trod_array hu hf
  have h0 := hi 0 (by omega)
  have h1 := hi 1 (by omega)
  have h2 := hi 2 (by omega)
  rw [hE] at h0 h1 h2
  simp [Value.cells] at h0 h1 h2
  have e0 : xs[0]? = some xs[0] := List.getElem?_eq_getElem (by omega)
  have e1 : xs[1]? = some xs[1] := List.getElem?_eq_getElem (by omega)
  have e2 : xs[2]? = some xs[2] := List.getElem?_eq_getElem (by omega)
  rw [e0] at h0
  rw [e1] at h1
  rw [e2] at h2
  obtain ⟨x, hx1, _, hx2⟩ := DataW.trod_int he h0
  obtain ⟨y, hy1, _, hy2⟩ := DataW.trod_int he h1
  obtain ⟨z, hz1, _, hz2⟩ := DataW.trod_int he h2
  simp at hx1 hy1 hz1
  subst hx1 hy1 hz1
  have b1 := bounds_i64 hx2
  have b2 := bounds_i64 hy2
  have b3 := bounds_i64 hz2
  exact ⟨x, y, z, rfl, by omega, by omega, by omega⟩
end Go.Proofs.YtmgmgffgbkenkaaDoor
