/- Items, what was sent, and parts, as cells, and slices of them; a part's own items. -/
import Derived.Test.YtepmlgpllnndlaaRecs
import Derived.Test.YtepmlgpllnndlaaQuiet
import Derived.Laws.StructEq
namespace Go.Proofs.Ytepmlgpllnndlaa
open Go.RowKit Go.Sort

structure Itm where
  d : Int
  k : Int
  s : Int
  p : Int
def Itm.cells (x : Itm) : List Value := [.int .i64 x.d, .int .i64 x.k, .int .u32 x.s, .int .i64 x.p]
structure Snd where
  s : Int
  y : ByteArray
  t : Int
  l : Int
def Snd.cells (x : Snd) : List Value := [.int .i64 x.s, .string x.y, .int .i64 x.t, .int .i64 x.l]
/-- A part, and what its items read (which is in no cell of its own). -/
structure Prc where
  f : Int
  a : Int
  b : Int
  c : Int
  d : Int
  q : Int
  m : Bool
  ia : Option Addr
  n : Nat
  k : Nat
  items : List Itm
def Prc.cells (x : Prc) : List Value := [.int .i64 x.f, .int .u32 x.a, .int .u32 x.b, .int .u32 x.c, .int .u32 x.d, .int .i64 x.q, .bool x.m, .slice x.ia x.n x.k]
theorem itS_info : (Try.prog.info? 59).map (fun i => (i.zero, i.size, i.bytes)) = some (some (.agg #[.int .i64 0, .int .i64 0, .int .u32 0, .int .i64 0] : Value), 4, 32) := by kernel_rfl
def itS : Shp Itm where
  K := 4
  T := 59
  S := 29
  Z := (.agg #[.int .i64 0, .int .i64 0, .int .u32 0, .int .i64 0] : Value)
  bytes := 32
  cells := Itm.cells
  pos := by decide
  zsz := rfl
  len := fun _ => rfl
  one := fun x u hu => by
    simp only [Itm.cells, List.mem_cons, List.not_mem_nil, or_false] at hu
    rcases hu with rfl | rfl | rfl | rfl <;> rfl
  und := Try.underlying29
  inf := itS_info
  low := by decide
theorem sdS_info : (Try.prog.info? 61).map (fun i => (i.zero, i.size, i.bytes)) = some (some (.agg #[.int .i64 0, .string ByteArray.empty, .int .i64 0, .int .i64 0] : Value), 4, 40) := by kernel_rfl
def sdS : Shp Snd where
  K := 4
  T := 61
  S := 25
  Z := (.agg #[.int .i64 0, .string ByteArray.empty, .int .i64 0, .int .i64 0] : Value)
  bytes := 40
  cells := Snd.cells
  pos := by decide
  zsz := rfl
  len := fun _ => rfl
  one := fun x u hu => by
    simp only [Snd.cells, List.mem_cons, List.not_mem_nil, or_false] at hu
    rcases hu with rfl | rfl | rfl | rfl <;> rfl
  und := Try.underlying25
  inf := sdS_info
  low := by decide
theorem paS_info : (Try.prog.info? 51).map (fun i => (i.zero, i.size, i.bytes)) = some (some (.agg #[.int .i64 0, .int .u32 0, .int .u32 0, .int .u32 0, .int .u32 0, .int .i64 0, .bool false, .slice none 0 0] : Value), 8, 64) := by kernel_rfl
def paS : Shp Prc where
  K := 8
  T := 51
  S := 26
  Z := (.agg #[.int .i64 0, .int .u32 0, .int .u32 0, .int .u32 0, .int .u32 0, .int .i64 0, .bool false, .slice none 0 0] : Value)
  bytes := 64
  cells := Prc.cells
  pos := by decide
  zsz := rfl
  len := fun _ => rfl
  one := fun x u hu => by
    simp only [Prc.cells, List.mem_cons, List.not_mem_nil, or_false] at hu
    rcases hu with rfl | rfl | rfl | rfl | rfl | rfl | rfl | rfl <;> rfl
  und := Try.underlying26
  inf := paS_info
  low := by decide
theorem it_at {w : World} {a : Option Addr} {n c i : Nat} {L : List Itm} {x : Itm} (h : itS.At w a n c L) (hx : L[i]? = some x) :
    ∃ b q, a = some b ∧ b.add (i * 4) = q ∧ w.cell? q = some (.int .i64 x.d) ∧ w.cell? ⟨q.block, q.off + 1, none⟩ = some (.int .i64 x.k) ∧ w.cell? ⟨q.block, q.off + 2, none⟩ = some (.int .u32 x.s) ∧ w.cell? ⟨q.block, q.off + 3, none⟩ = some (.int .i64 x.p) := by
  obtain ⟨b, hb, hf'⟩ := h.2.2.2.2 i x hx
  have hf : ∀ k v, x.cells[k]? = some v → w.cell? ((b.add (i * 4)).add k) = some v := hf'
  have h0 := hf 0 _ rfl
  have h1 := hf 1 _ rfl
  have h2 := hf 2 _ rfl
  have h3 := hf 3 _ rfl
  refine ⟨b, _, hb, rfl, ?_, ?_, ?_, ?_⟩
  · simpa [Addr.add] using h0
  · simpa [Addr.add] using h1
  · simpa [Addr.add] using h2
  · simpa [Addr.add] using h3
theorem sd_at {w : World} {a : Option Addr} {n c i : Nat} {L : List Snd} {x : Snd} (h : sdS.At w a n c L) (hx : L[i]? = some x) :
    ∃ b q, a = some b ∧ b.add (i * 4) = q ∧ w.cell? q = some (.int .i64 x.s) ∧ w.cell? ⟨q.block, q.off + 1, none⟩ = some (.string x.y) ∧ w.cell? ⟨q.block, q.off + 2, none⟩ = some (.int .i64 x.t) ∧ w.cell? ⟨q.block, q.off + 3, none⟩ = some (.int .i64 x.l) := by
  obtain ⟨b, hb, hf'⟩ := h.2.2.2.2 i x hx
  have hf : ∀ k v, x.cells[k]? = some v → w.cell? ((b.add (i * 4)).add k) = some v := hf'
  have h0 := hf 0 _ rfl
  have h1 := hf 1 _ rfl
  have h2 := hf 2 _ rfl
  have h3 := hf 3 _ rfl
  refine ⟨b, _, hb, rfl, ?_, ?_, ?_, ?_⟩
  · simpa [Addr.add] using h0
  · simpa [Addr.add] using h1
  · simpa [Addr.add] using h2
  · simpa [Addr.add] using h3
theorem pa_at {w : World} {a : Option Addr} {n c i : Nat} {L : List Prc} {x : Prc} (h : paS.At w a n c L) (hx : L[i]? = some x) :
    ∃ b q, a = some b ∧ b.add (i * 8) = q ∧ w.cell? q = some (.int .i64 x.f) ∧ w.cell? ⟨q.block, q.off + 1, none⟩ = some (.int .u32 x.a) ∧ w.cell? ⟨q.block, q.off + 2, none⟩ = some (.int .u32 x.b) ∧ w.cell? ⟨q.block, q.off + 3, none⟩ = some (.int .u32 x.c) ∧ w.cell? ⟨q.block, q.off + 4, none⟩ = some (.int .u32 x.d) ∧ w.cell? ⟨q.block, q.off + 5, none⟩ = some (.int .i64 x.q) ∧ w.cell? ⟨q.block, q.off + 6, none⟩ = some (.bool x.m) ∧ w.cell? ⟨q.block, q.off + 7, none⟩ = some (.slice x.ia x.n x.k) := by
  obtain ⟨b, hb, hf'⟩ := h.2.2.2.2 i x hx
  have hf : ∀ k v, x.cells[k]? = some v → w.cell? ((b.add (i * 8)).add k) = some v := hf'
  have h0 := hf 0 _ rfl
  have h1 := hf 1 _ rfl
  have h2 := hf 2 _ rfl
  have h3 := hf 3 _ rfl
  have h4 := hf 4 _ rfl
  have h5 := hf 5 _ rfl
  have h6 := hf 6 _ rfl
  have h7 := hf 7 _ rfl
  refine ⟨b, _, hb, rfl, ?_, ?_, ?_, ?_, ?_, ?_, ?_, ?_⟩
  · simpa [Addr.add] using h0
  · simpa [Addr.add] using h1
  · simpa [Addr.add] using h2
  · simpa [Addr.add] using h3
  · simpa [Addr.add] using h4
  · simpa [Addr.add] using h5
  · simpa [Addr.add] using h6
  · simpa [Addr.add] using h7
/-- A part's own items read as they are said to. -/
def Prc.Has (w : World) (x : Prc) : Prop := itS.At w x.ia x.n x.k x.items
theorem Prc.Has.on {w w' : World} {x : Prc} (h : x.Has w) (hb : Below w.heap.size w w') : x.Has w' := Shp.At.on h hb
/-- Parts, each with its items. -/
def Parts (w : World) (a : Option Addr) (n c : Nat) (L : List Prc) : Prop := paS.At w a n c L ∧ ∀ x ∈ L, x.Has w
theorem Parts.on {w w' : World} {a : Option Addr} {n c : Nat} {L : List Prc} (h : Parts w a n c L) (hb : Below w.heap.size w w') : Parts w' a n c L := ⟨h.1.on hb, fun x hx => (h.2 x hx).on hb⟩
theorem it_ne (x : Itm) (w : World) : (binOp .neq 59 (.agg #[.int .i64 x.d, .int .i64 x.k, .int .u32 x.s, .int .i64 x.p] : Value) (.agg #[.int .i64 x.d, .int .i64 x.k, .int .u32 x.s, .int .i64 x.p] : Value)).run Try.prog w = .ok (.bool false) w := by
  rw [run_neq_struct, run_equalIn_agg _ _ _ _ _ (by kernel_rfl) (by kernel_rfl)]
  simp [go_sem, Try.underlying59, Result.andThen]
theorem sd_ne (x : Snd) (w : World) : (binOp .neq 61 (.agg #[.int .i64 x.s, .string x.y, .int .i64 x.t, .int .i64 x.l] : Value) (.agg #[.int .i64 x.s, .string x.y, .int .i64 x.t, .int .i64 x.l] : Value)).run Try.prog w = .ok (.bool false) w := by
  rw [run_neq_struct, run_equalIn_agg _ _ _ _ _ (by kernel_rfl) (by kernel_rfl)]
  simp [go_sem, Try.underlying61, Result.andThen]
theorem pair_ne (a b c d : Int) (w : World) : (binOp .neq 49 (.agg #[.int .u32 a, .int .u32 b, .int .u32 c, .int .u32 d] : Value) (.agg #[.int .u32 a, .int .u32 b, .int .u32 c, .int .u32 d] : Value)).run Try.prog w = .ok (.bool false) w := by
  rw [run_neq_struct, run_equalIn_agg _ _ _ _ _ (by kernel_rfl) (by kernel_rfl)]
  simp [go_sem, Try.underlying49, Try.underlying24, Result.andThen]
theorem epoch_eql (a b : Int) (w : World) : (binOp .eql 24 (.agg #[.int .u32 a, .int .u32 b] : Value) (.agg #[.int .u32 a, .int .u32 b] : Value)).run Try.prog w = .ok (.bool true) w := by
  rw [run_eql_struct, run_equalIn_agg _ _ _ _ _ (by kernel_rfl) (by kernel_rfl)]
  simp [go_sem, Try.underlying24]
end Go.Proofs.Ytepmlgpllnndlaa
