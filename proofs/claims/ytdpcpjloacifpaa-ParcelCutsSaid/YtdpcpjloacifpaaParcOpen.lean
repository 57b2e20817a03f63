/- Arguments of type Parcel, opened: an int, a pair of epochs, three ints, a text. -/
import Derived.Test.YtdpcpjloacifpaaAggOpen
namespace Go.Proofs.Ytdpcpjloacifpaa
open Go.ChangeShapes Go.WideShapes Go.ChangeAt Go.RowKit
section
variable {H : Type} {enc : TypeId × Value → H} {w : World} {base : Nat} {spare : Nat → Bool} {held : Bool}

theorem cell_text {P : Program} {t : TypeId} {fuel : Nat} {cs : List Value} {x : DataW H × List MemPlace} (ht : P.underlying t = some .string) (h : DataW.trod enc P w base spare held fuel t cs = some x) :
    ∃ s : ByteArray, cs = [.string s] ∧ s.size ≤ maxLen := by
  obtain ⟨s, rfl, _, hs⟩ := DataW.trod_string ht h
  exact ⟨s, rfl, hs⟩

/-- A number that an int may have. -/
def IsInt (n : Int) : Prop := -9223372036854775808 ≤ n ∧ n < 9223372036854775808

theorem cells_parcel {fuel : Nat} {cs : List Value} {x : DataW H × List MemPlace} (h : DataW.trod enc Try.prog w base spare held fuel 28 cs = some x) :
    ∃ (f : Int) (a b c d : Nat) (s e t : Int) (y : ByteArray), cs = [.int .i64 f, .int .u32 (a : Int), .int .u32 (b : Int), .int .u32 (c : Int), .int .u32 (d : Int), .int .i64 s, .int .i64 e, .int .i64 t, .string y] ∧
      (IsInt f ∧ IsInt s ∧ IsInt e ∧ IsInt t) ∧ (a < 4294967296 ∧ b < 4294967296 ∧ c < 4294967296 ∧ d < 4294967296) ∧ y.size ≤ maxLen := by
  obtain ⟨xs, n, _, rfl, hl, hlen, hf⟩ := DataW.trod_struct Try.underlying28 h
  rw [show Try.prog.cellsOf 28 = 9 by kernel_rfl] at hl
  have c1 : Try.prog.cellsOf 3 = 1 := by kernel_rfl
  have c4 : Try.prog.cellsOf 26 = 4 := by kernel_rfl
  have cs1 : Try.prog.cellsOf 9 = 1 := by kernel_rfl
  match xs, hlen, cs, hl with
  | [y0, y1, y2, y3, y4, y5], _, [x0, x1, x2, x3, x4, x5, x6, x7, x8], _ =>
    have k0 := hf 0 _ rfl
    have k1 := hf 1 _ rfl
    have k2 := hf 2 _ rfl
    have k3 := hf 3 _ rfl
    have k4 := hf 4 _ rfl
    have k5 := hf 5 _ rfl
    simp [c1, c4, cs1] at k0 k1 k2 k3 k4 k5
    obtain ⟨f, ef, hf0, hf1⟩ := cell_i64 Try.underlying3 k0
    obtain ⟨a, b, c, d, ea, ha, hb, hc, hd⟩ := cells_pair Try.underlying26 Try.underlying24 rfl Try.underlying22 Try.underlying22 rfl rfl (by kernel_rfl) (by kernel_rfl) (by kernel_rfl) rfl rfl (by kernel_rfl) k1
    obtain ⟨s, es, hs0, hs1⟩ := cell_i64 Try.underlying3 k2
    obtain ⟨e, ee, he0, he1⟩ := cell_i64 Try.underlying3 k3
    obtain ⟨t, et, ht0, ht1⟩ := cell_i64 Try.underlying3 k4
    obtain ⟨y, ey, hy⟩ := cell_text Try.underlying9 k5
    simp at ef ea es ee et ey
    obtain ⟨e1, e2, e3, e4⟩ := ea
    subst ef e1 e2 e3 e4 es ee et ey
    exact ⟨f, a, b, c, d, s, e, t, y, rfl, ⟨⟨hf0, hf1⟩, ⟨hs0, hs1⟩, ⟨he0, he1⟩, ht0, ht1⟩, ⟨ha, hb, hc, hd⟩, hy⟩

theorem open_parcel {r : Reach} {b0 : Nat} {v : Value} {d : DataW H} {p : List MemPlace} (hv : Value.okWide Try.prog w r b0 28 v) (h : DataW.Trod enc Try.prog w base spare held 28 v d p) :
    ∃ (f : Int) (a b c d : Nat) (s e t : Int) (y : ByteArray), v = .agg #[.int .i64 f, .int .u32 (a : Int), .int .u32 (b : Int), .int .u32 (c : Int), .int .u32 (d : Int), .int .i64 s, .int .i64 e, .int .i64 t, .string y] ∧
      (IsInt f ∧ IsInt s ∧ IsInt e ∧ IsInt t) ∧ (a < 4294967296 ∧ b < 4294967296 ∧ c < 4294967296 ∧ d < 4294967296) ∧ y.size ≤ maxLen := by
  obtain ⟨cs, rfl, hsz⟩ := okWide_struct Try.underlying28 hv
  obtain ⟨fuel, hq⟩ := h
  obtain ⟨f, a, b, c, d, s, e, t, y, hc, h1, h2, h3⟩ := cells_parcel hq
  obtain ⟨cs⟩ := cs
  simp only [Value.cells] at hc
  subst hc
  exact ⟨f, a, b, c, d, s, e, t, y, rfl, h1, h2, h3⟩
end
end Go.Proofs.Ytdpcpjloacifpaa
