/- Arguments of type Port and Rules, opened. -/
import Derived.Test.YtepmlgpllnndlaaRecsOpen
import Derived.Test.YtepmlgpllnndlaaAggOpen
import Derived.Test.YtepmlgpllnndlaaAliH
namespace Go.Proofs.Ytepmlgpllnndlaa
open Go.ChangeShapes Go.WideShapes Go.ChangeAt Go.RowKit
section
variable {H : Type} {enc : TypeId × Value → H} {w : World} {base : Nat} {spare : Nat → Bool} {held : Bool}
instance : Inhabited Itm := ⟨⟨0, 0, 0, 0⟩⟩
instance : Inhabited Snd := ⟨⟨0, ByteArray.empty, 0, 0⟩⟩
instance : Inhabited Prc := ⟨⟨0, 0, 0, 0, 0, 0, false, none, 0, 0, []⟩⟩
theorem port_pair {fuel : Nat} {cs : List Value} {x : DataW H × List MemPlace} (h : DataW.trod enc Try.prog w base spare held fuel 49 cs = some x) :
    ∃ a b c d : Nat, cs = [.int .u32 (a : Int), .int .u32 (b : Int), .int .u32 (c : Int), .int .u32 (d : Int)] ∧ a < 4294967296 ∧ b < 4294967296 ∧ c < 4294967296 ∧ d < 4294967296 :=
  cells_pair Try.underlying49 Try.underlying24 rfl Try.underlying22 Try.underlying22 rfl rfl (by kernel_rfl) (by kernel_rfl) (by kernel_rfl) rfl rfl (by kernel_rfl) h
theorem port_epoch {fuel : Nat} {cs : List Value} {x : DataW H × List MemPlace} (h : DataW.trod enc Try.prog w base spare held fuel 24 cs = some x) :
    ∃ a b : Nat, cs = [.int .u32 (a : Int), .int .u32 (b : Int)] ∧ a < 4294967296 ∧ b < 4294967296 :=
  cells_epoch Try.underlying24 Try.underlying22 Try.underlying22 rfl rfl (by kernel_rfl) (by kernel_rfl) (by kernel_rfl) h
theorem cells_itm (fuel : Nat) (cs : List Value) (x : DataW H × List MemPlace) (h : DataW.trod enc Try.prog w base spare held fuel 59 cs = some x) : ∃ y : Itm, cs = y.cells ∧ True := by
  obtain ⟨xs, n, _, rfl, hl, hlen, hf⟩ := DataW.trod_struct Try.underlying59 h
  rw [show Try.prog.cellsOf 59 = 4 by kernel_rfl] at hl
  have c1 : Try.prog.cellsOf 3 = 1 := by kernel_rfl
  have c2 : Try.prog.cellsOf 22 = 1 := by kernel_rfl
  match xs, hlen, cs, hl with
  | [y0, y1, y2, y3], _, [x0, x1, x2, x3], _ =>
    have k0 := hf 0 _ rfl
    have k1 := hf 1 _ rfl
    have k2 := hf 2 _ rfl
    have k3 := hf 3 _ rfl
    simp [c1, c2] at k0 k1 k2 k3
    obtain ⟨a, ea, _⟩ := cell_i64 Try.underlying3 k0
    obtain ⟨b, eb, _⟩ := cell_i64 Try.underlying3 k1
    obtain ⟨c, ec, _⟩ := cell_u32 Try.underlying22 k2
    obtain ⟨d, ed, _⟩ := cell_i64 Try.underlying3 k3
    simp at ea eb ec ed
    subst ea eb ec ed
    exact ⟨⟨a, b, (c : Int), d⟩, rfl, trivial⟩
theorem cells_snd (fuel : Nat) (cs : List Value) (x : DataW H × List MemPlace) (h : DataW.trod enc Try.prog w base spare held fuel 61 cs = some x) : ∃ y : Snd, cs = y.cells ∧ True := by
  obtain ⟨xs, n, _, rfl, hl, hlen, hf⟩ := DataW.trod_struct Try.underlying61 h
  rw [show Try.prog.cellsOf 61 = 4 by kernel_rfl] at hl
  have c1 : Try.prog.cellsOf 3 = 1 := by kernel_rfl
  have c2 : Try.prog.cellsOf 9 = 1 := by kernel_rfl
  match xs, hlen, cs, hl with
  | [y0, y1, y2, y3], _, [x0, x1, x2, x3], _ =>
    have k0 := hf 0 _ rfl
    have k1 := hf 1 _ rfl
    have k2 := hf 2 _ rfl
    have k3 := hf 3 _ rfl
    simp [c1, c2] at k0 k1 k2 k3
    obtain ⟨a, ea, _⟩ := cell_i64 Try.underlying3 k0
    obtain ⟨b, eb, _⟩ := DataW.trod_string Try.underlying9 k1
    obtain ⟨c, ec, _⟩ := cell_i64 Try.underlying3 k2
    obtain ⟨d, ed, _⟩ := cell_i64 Try.underlying3 k3
    simp at ea eb ec ed
    subst ea eb ec ed
    exact ⟨⟨a, b, c, d⟩, rfl, trivial⟩
theorem cells_items {fuel : Nat} {cs : List Value} {x : DataW H × List MemPlace} (h : DataW.trod enc Try.prog w base spare held fuel 29 cs = some x) : ∃ a n c L, cs = [.slice a n c] ∧ itS.At w a n c L := by
  obtain ⟨a, n, c, L, h1, h2, _⟩ := Shp.cells_slice (enc := enc) (base := base) (spare := spare) (held := held) (w := w) itS (Q := fun _ => True) (by kernel_rfl) cells_itm h
  exact ⟨a, n, c, L, h1, h2⟩
theorem cells_sents {fuel : Nat} {cs : List Value} {x : DataW H × List MemPlace} (h : DataW.trod enc Try.prog w base spare held fuel 25 cs = some x) : ∃ a n c L, cs = [.slice a n c] ∧ sdS.At w a n c L := by
  obtain ⟨a, n, c, L, h1, h2, _⟩ := Shp.cells_slice (enc := enc) (base := base) (spare := spare) (held := held) (w := w) sdS (Q := fun _ => True) (by kernel_rfl) cells_snd h
  exact ⟨a, n, c, L, h1, h2⟩
theorem cells_prc (fuel : Nat) (cs : List Value) (x : DataW H × List MemPlace) (h : DataW.trod enc Try.prog w base spare held fuel 51 cs = some x) : ∃ y : Prc, cs = y.cells ∧ y.Has w := by
  obtain ⟨xs, n, _, rfl, hl, hlen, hf⟩ := DataW.trod_struct Try.underlying51 h
  rw [show Try.prog.cellsOf 51 = 8 by kernel_rfl] at hl
  have c1 : Try.prog.cellsOf 3 = 1 := by kernel_rfl
  have c4 : Try.prog.cellsOf 49 = 4 := by kernel_rfl
  have cb : Try.prog.cellsOf 4 = 1 := by kernel_rfl
  have cs1 : Try.prog.cellsOf 29 = 1 := by kernel_rfl
  match xs, hlen, cs, hl with
  | [y0, y1, y2, y3, y4], _, [x0, x1, x2, x3, x4, x5, x6, x7], _ =>
    have k0 := hf 0 _ rfl
    have k1 := hf 1 _ rfl
    have k2 := hf 2 _ rfl
    have k3 := hf 3 _ rfl
    have k4 := hf 4 _ rfl
    simp [c1, c4, cb, cs1] at k0 k1 k2 k3 k4
    obtain ⟨f, ef, _⟩ := cell_i64 Try.underlying3 k0
    obtain ⟨a, b, c, d, ep, _⟩ := port_pair k1
    obtain ⟨q, eq, _⟩ := cell_i64 Try.underlying3 k2
    obtain ⟨m, em, _⟩ := DataW.trod_bool Try.underlying4 k3
    obtain ⟨ia, n, k, L, ei, hi⟩ := cells_items k4
    simp at ef ep eq em ei
    obtain ⟨e1, e2, e3, e4⟩ := ep
    subst ef e1 e2 e3 e4 eq em ei
    exact ⟨⟨f, (a : Int), (b : Int), (c : Int), (d : Int), q, m, ia, n, k, L⟩, rfl, hi⟩
theorem cells_parts {fuel : Nat} {cs : List Value} {x : DataW H × List MemPlace} (h : DataW.trod enc Try.prog w base spare held fuel 26 cs = some x) : ∃ a n c L, cs = [.slice a n c] ∧ Parts w a n c L := by
  obtain ⟨a, n, c, L, h1, h2, h3⟩ := Shp.cells_slice (enc := enc) (base := base) (spare := spare) (held := held) (w := w) paS (Q := fun y => y.Has w) (by kernel_rfl) cells_prc h
  exact ⟨a, n, c, L, h1, h2, h3⟩
theorem cells_window {fuel : Nat} {cs : List Value} {x : DataW H × List MemPlace} (h : DataW.trod enc Try.prog w base spare held fuel 28 cs = some x) : ∃ (i : Int) (a : Option Addr) (n c : Nat) (L : List Prc), cs = [.int .i64 i, .slice a n c] ∧ Parts w a n c L := by
  obtain ⟨xs, n, _, rfl, hl, hlen, hf⟩ := DataW.trod_struct Try.underlying28 h
  rw [show Try.prog.cellsOf 28 = 2 by kernel_rfl] at hl
  have c1 : Try.prog.cellsOf 3 = 1 := by kernel_rfl
  have c2 : Try.prog.cellsOf 26 = 1 := by kernel_rfl
  match xs, hlen, cs, hl with
  | [y0, y1], _, [x0, x1], _ =>
    have k0 := hf 0 _ rfl
    have k1 := hf 1 _ rfl
    simp [c1, c2] at k0 k1
    obtain ⟨i, ei, _⟩ := cell_i64 Try.underlying3 k0
    obtain ⟨a, n, c, L, ea, hL⟩ := cells_parts k1
    simp at ei ea
    subst ei ea
    exact ⟨i, a, n, c, L, rfl, hL⟩
theorem cells_box {fuel : Nat} {cs : List Value} {x : DataW H × List MemPlace} (h : DataW.trod enc Try.prog w base spare held fuel 31 cs = some x) : ∃ y : Ends, cs = [.int .i64 y.nx, .slice y.sa y.sn y.sc, .int .i64 y.ix, .slice y.aa y.an y.ac, .slice y.ga y.gn y.gc] ∧ y.Full w := by
  obtain ⟨xs, n, _, rfl, hl, hlen, hf⟩ := DataW.trod_struct Try.underlying31 h
  rw [show Try.prog.cellsOf 31 = 5 by kernel_rfl] at hl
  have c1 : Try.prog.cellsOf 3 = 1 := by kernel_rfl
  have c2 : Try.prog.cellsOf 25 = 1 := by kernel_rfl
  have c3 : Try.prog.cellsOf 28 = 2 := by kernel_rfl
  have c4 : Try.prog.cellsOf 29 = 1 := by kernel_rfl
  match xs, hlen, cs, hl with
  | [y0, y1, y2, y3], _, [x0, x1, x2, x3, x4], _ =>
    have k0 := hf 0 _ rfl
    have k1 := hf 1 _ rfl
    have k2 := hf 2 _ rfl
    have k3 := hf 3 _ rfl
    simp [c1, c2, c3, c4] at k0 k1 k2 k3
    obtain ⟨nx, en, _⟩ := cell_i64 Try.underlying3 k0
    obtain ⟨sa, sn, sc, S, es, hS⟩ := cells_sents k1
    obtain ⟨ix, aa, an, ac, A, ew, hA⟩ := cells_window k2
    obtain ⟨ga, gn, gc, G, eg, hG⟩ := cells_items k3
    simp at en es ew eg
    obtain ⟨e1, e2⟩ := ew
    subst en es e1 e2 eg
    exact ⟨⟨0, 0, 0, 0, nx, sa, sn, sc, ix, aa, an, ac, ga, gn, gc⟩, rfl, ⟨S, hS⟩, ⟨A, hA⟩, G, hG⟩
theorem cells_port {fuel : Nat} {cs : List Value} {x : DataW H × List MemPlace} (h : DataW.trod enc Try.prog w base spare held fuel 33 cs = some x) :
    ∃ (st q t : Int) (y : Ends), cs = prt st q t y ∧ y.Full w ∧ (-9223372036854775808 ≤ q ∧ q < 9223372036854775808) ∧ (-9223372036854775808 ≤ t ∧ t < 9223372036854775808) := by
  obtain ⟨xs, n, _, rfl, hl, hlen, hf⟩ := DataW.trod_struct Try.underlying33 h
  rw [show Try.prog.cellsOf 33 = 12 by kernel_rfl] at hl
  have c1 : Try.prog.cellsOf 3 = 1 := by kernel_rfl
  have c2 : Try.prog.cellsOf 24 = 2 := by kernel_rfl
  have c3 : Try.prog.cellsOf 31 = 5 := by kernel_rfl
  match xs, hlen, cs, hl with
  | [y0, y1, y2, y3, y4, y5], _, [x0, x1, x2, x3, x4, x5, x6, x7, x8, x9, x10, x11], _ =>
    have k0 := hf 0 _ rfl
    have k1 := hf 1 _ rfl
    have k2 := hf 2 _ rfl
    have k3 := hf 3 _ rfl
    have k4 := hf 4 _ rfl
    have k5 := hf 5 _ rfl
    simp [c1, c2, c3] at k0 k1 k2 k3 k4 k5
    obtain ⟨st, es, _⟩ := cell_i64 Try.underlying3 k0
    obtain ⟨m1, m2, em, _⟩ := port_epoch k1
    obtain ⟨t1, t2, et, _⟩ := port_epoch k2
    obtain ⟨q, eq, hq⟩ := cell_i64 Try.underlying3 k3
    obtain ⟨t, ew, ht⟩ := cell_i64 Try.underlying3 k4
    obtain ⟨y, ey, hy⟩ := cells_box k5
    simp at es em et eq ew ey
    obtain ⟨em1, em2⟩ := em
    obtain ⟨et1, et2⟩ := et
    obtain ⟨e1, e2, e3, e4, e5⟩ := ey
    subst es em1 em2 et1 et2 eq ew e1 e2 e3 e4 e5
    exact ⟨st, q, t, ⟨(m1 : Int), (m2 : Int), (t1 : Int), (t2 : Int), y.nx, y.sa, y.sn, y.sc, y.ix, y.aa, y.an, y.ac, y.ga, y.gn, y.gc⟩, rfl, hy, hq, ht⟩
theorem open_port {r : Reach} {b0 : Nat} {v : Value} {d : DataW H} {p : List MemPlace} (hv : Value.okWide Try.prog w r b0 33 v) (h : DataW.Trod enc Try.prog w base spare held 33 v d p) :
    ∃ (st q t : Int) (y : Ends), v = .agg (prt st q t y).toArray ∧ y.Full w ∧ (-9223372036854775808 ≤ q ∧ q < 9223372036854775808) ∧ (-9223372036854775808 ≤ t ∧ t < 9223372036854775808) := by
  obtain ⟨cs, rfl, hsz⟩ := okWide_struct Try.underlying33 hv
  obtain ⟨fuel, hq⟩ := h
  obtain ⟨st, q, t, y, hc, h1⟩ := cells_port hq
  obtain ⟨cs⟩ := cs
  simp only [Value.cells] at hc
  subst hc
  exact ⟨st, q, t, y, rfl, h1⟩
theorem open_rules {r : Reach} {b0 : Nat} {v : Value} {d : DataW H} {p : List MemPlace} (hv : Value.okWide Try.prog w r b0 35 v) (h : DataW.Trod enc Try.prog w base spare held 35 v d p) :
    ∃ h d r s : Int, v = .agg (rul h d r s).toArray ∧ d < 9223372036854775808 := by
  obtain ⟨cs, rfl, hsz⟩ := okWide_struct Try.underlying35 hv
  obtain ⟨fuel, hq⟩ := h
  obtain ⟨xs, n, _, _, hl, hlen, hf⟩ := DataW.trod_struct Try.underlying35 hq
  obtain ⟨cs⟩ := cs
  simp only [Value.cells] at hl hf
  rw [show Try.prog.cellsOf 35 = 4 by kernel_rfl] at hl
  have c1 : Try.prog.cellsOf 3 = 1 := by kernel_rfl
  match xs, hlen, cs, hl with
  | [y0, y1, y2, y3], _, [x0, x1, x2, x3], _ =>
    have k0 := hf 0 _ rfl
    have k1 := hf 1 _ rfl
    have k2 := hf 2 _ rfl
    have k3 := hf 3 _ rfl
    simp [c1] at k0 k1 k2 k3
    obtain ⟨a, ea, _⟩ := cell_i64 Try.underlying3 k0
    obtain ⟨b, eb, hb⟩ := cell_i64 Try.underlying3 k1
    obtain ⟨c, ec, _⟩ := cell_i64 Try.underlying3 k2
    obtain ⟨d, ed, _⟩ := cell_i64 Try.underlying3 k3
    simp at ea eb ec ed
    subst ea eb ec ed
    exact ⟨a, b, c, d, rfl, hb.2⟩
end
end Go.Proofs.Ytepmlgpllnndlaa
