/- An argument of type []Op (law 14), opened: a link that is set, or cut. -/
import Derived.Test.YtnbbepelagdenaaDoorAggOpen
import Derived.Test.YtnbbepelagdenaaDoorRecs
import Derived.Deep.Slices
namespace Go.Proofs.YtnbbepelagdenaaDoor
open Go.ChangeShapes Go.WideShapes Go.ChangeAt Go.RowKit

/-- A link that is cut, or set. -/
structure Opr where
  cut : Bool
  n : Int
  k : Nat
def Opr.cells (o : Opr) : List Value := [.bool o.cut, .int .i64 o.n, .int .u32 (o.k : Int)]
def Opr.In (o : Opr) : Prop := (-9223372036854775808 ≤ o.n ∧ o.n < 9223372036854775808) ∧ o.k < 4294967296
theorem op_info : (Tryd.prog.info? 39).map (fun i => (i.zero, i.size, i.bytes)) = some (some (.agg #[.bool false, .int .i64 0, .int .u32 0] : Value), 3, 24) := by kernel_rfl
/-- How it lies in cells. -/
def opS : Shp Opr where
  K := 3
  T := 39
  S := 37
  Z := (.agg #[.bool false, .int .i64 0, .int .u32 0] : Value)
  bytes := 24
  cells := Opr.cells
  pos := by decide
  zsz := rfl
  len := fun _ => rfl
  one := fun x u hu => by
    simp only [Opr.cells, List.mem_cons, List.not_mem_nil, or_false] at hu
    rcases hu with rfl | rfl | rfl <;> rfl
  und := Tryd.underlying37
  inf := op_info
  low := by decide
theorem op_at {w : World} {a : Option Addr} {n c i : Nat} {L : List Opr} {x : Opr} (h : opS.At w a n c L) (hx : L[i]? = some x) :
    ∃ b q, a = some b ∧ b.add (i * 3) = q ∧ w.cell? q = some (.bool x.cut) ∧ w.cell? ⟨q.block, q.off + 1, none⟩ = some (.int .i64 x.n) ∧ w.cell? ⟨q.block, q.off + 2, none⟩ = some (.int .u32 (x.k : Int)) := by
  obtain ⟨b, hb, hf'⟩ := h.2.2.2.2 i x hx
  have hf : ∀ k v, x.cells[k]? = some v → w.cell? ((b.add (i * 3)).add k) = some v := hf'
  have h0 := hf 0 _ rfl
  have h1 := hf 1 _ rfl
  have h2 := hf 2 _ rfl
  refine ⟨b, _, hb, rfl, ?_, ?_, ?_⟩
  · simpa [Addr.add] using h0
  · simpa [Addr.add] using h1
  · simpa [Addr.add] using h2
section
variable {H : Type} {enc : TypeId × Value → H} {w : World} {base : Nat} {spare : Nat → Bool} {held : Bool}
set_option maxRecDepth 100000 in
theorem cells_op {fuel : Nat} {cs : List Value} {x : DataW H × List MemPlace} (h : DataW.trod enc Tryd.prog w base spare held fuel 39 cs = some x) :
    ∃ a : Opr, cs = a.cells ∧ a.In := by
  obtain ⟨xs, n, _, rfl, hl, hlen, hf⟩ := DataW.trod_struct Tryd.underlying39 h
  rw [show Tryd.prog.cellsOf 39 = 3 by kernel_rfl] at hl
  have c1 : Tryd.prog.cellsOf 3 = 1 := by kernel_rfl
  have c2 : Tryd.prog.cellsOf 4 = 1 := by kernel_rfl
  have c3 : Tryd.prog.cellsOf 22 = 1 := by kernel_rfl
  match xs, hlen, cs, hl with
  | [y0, y1, y2], _, [x0, x1, x2], _ =>
    have k0 := hf 0 _ rfl
    have k1 := hf 1 _ rfl
    have k2 := hf 2 _ rfl
    simp [c1, c2, c3] at k0 k1 k2
    obtain ⟨k, ek, _⟩ := DataW.trod_bool Tryd.underlying4 k0
    obtain ⟨n, en, hn⟩ := cell_i64 Tryd.underlying3 k1
    obtain ⟨t, et, ht⟩ := cell_u32 Tryd.underlying22 k2
    simp at ek en et
    subst ek en et
    exact ⟨⟨k, n, t⟩, rfl, hn, ht⟩
set_option maxRecDepth 100000 in
theorem open_ops {r : Reach} {b0 : Nat} {v : Value} {d : DataW H} {ps : List MemPlace}
    (hval : Value.okWide Tryd.prog w r b0 37 v) (hd : DataW.Trod enc Tryd.prog w base spare held 37 v d ps) : ∃ a n c l, v = .slice a n c ∧ opS.At w a n c l ∧ ∀ x ∈ l, x.In := by
  obtain ⟨a0, len, cap, rfl⟩ := Go.WideShapes.okWide_slice Tryd.underlying37 hval
  obtain ⟨fuel, hf⟩ := hd
  rcases Go.Deep.open_slice Tryd.underlying37 hf with ⟨hcs, _⟩ | ⟨a, len', cap', m, n, D, Pl, hcs, _, hl, hcap, hm, _, hx⟩
  · simp [Value.cells] at hcs
    obtain ⟨rfl, rfl, rfl⟩ := hcs
    exact ⟨none, 0, 0, [], rfl, Shp.At.nil w, by simp⟩
  · simp [Value.cells] at hcs
    obtain ⟨rfl, rfl, rfl⟩ := hcs
    have hlm : len ≤ m := by rw [hm]; split <;> omega
    have h3 : Tryd.prog.cellsOf 39 = 3 := by kernel_rfl
    have each : ∀ i, i < len → ∃ p : Opr, p.In ∧ ∀ k v, p.cells[k]? = some v → w.cell? ((a.add (i * 3)).add k) = some v := fun i hi => by
      obtain ⟨cs', hc, ht⟩ := hx i (by omega)
      obtain ⟨p, hcs', hin⟩ := cells_op ht
      obtain ⟨_, hcl, hat⟩ := World.cells?_some hc
      rw [h3] at hat hcl
      refine ⟨p, hin, fun k v hk => ?_⟩
      have hk3 : k < 3 := (List.getElem?_eq_some_iff.1 hk).1
      have := hat k hk3
      rw [this, hcs']
      exact hk
    have inh : Inhabited Opr := ⟨⟨false, 0, 0⟩⟩
    obtain ⟨B, hB⟩ := Go.Deep.choose_lt (α := Opr) (p := fun i p => p.In ∧ ∀ k v, p.cells[k]? = some v → w.cell? ((a.add (i * 3)).add k) = some v) each
    refine ⟨some a, len, cap, (List.range len).map B, rfl, ⟨by simp, hl, hcap, (by intro h; cases h), fun i x hi => ?_⟩, fun x hx => ?_⟩
    · have hlt : i < len := by have := (List.getElem?_eq_some_iff.1 hi).1; simpa using this
      rw [List.getElem?_map, List.getElem?_range hlt] at hi
      simp only [Option.map_some, Option.some.injEq] at hi
      subst hi
      exact ⟨a, rfl, (hB i hlt).2⟩
    · obtain ⟨i, hi, rfl⟩ := List.mem_map.1 hx
      exact (hB i (List.mem_range.1 hi)).1
end
end Go.Proofs.YtnbbepelagdenaaDoor
