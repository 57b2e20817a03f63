/- Laws of the walk that package pack's contracts want. -/
import Derived.Test.YtbohejohemegpaaStr
import Derived.WalkKit
import Derived.Laws.IdiomStrings
namespace Go.Proofs.Ytbohejohemegpaa
open Go.RowKit

/-- Behind '[]byte(s)': a new row with the text's bytes, none of them frozen. -/
structure BytesAt (w w1 : World) (g : Nat) (l : List UInt8) : Prop where
  below : Below w.heap.size w w1
  atEnd : g = w.heap.size
  cell : ∀ j (hj : j < l.length), w1.cell? ⟨g, j, none⟩ = some (.int .u8 (l[j].toNat : Int))
  thawed : ∀ j, j < l.length → w1.frozen? ⟨g, j, none⟩ = false

theorem BytesAt.drew {w w1 : World} {g : Nat} {l : List UInt8} (h : BytesAt w w1 g l) : BytesAt w w1.drew g l := ⟨h.below.drew, h.atEnd, h.cell, h.thawed⟩
theorem BytesAt.set {w w1 : World} {g : Nat} {l : List UInt8} (h : BytesAt w w1 g l) {i : Nat} (hi : i < l.length) (c : UInt8) : BytesAt w (w1.setCell ⟨g, i, none⟩ (.int .u8 (c.toNat : Int))) g (l.set i c) := by
  refine ⟨h.below.setCell (by rw [h.atEnd]; exact Nat.le_refl _) _, h.atEnd, fun j hj => ?_, fun j hj => ?_⟩
  · have hj' : j < l.length := by simpa using hj
    by_cases e : i = j
    · subst e
      rw [World.cell?_setCell_same _ _ _ (h.cell i hi)]
      simp
    · rw [World.cell?_setCell_other w1 _ _ _ (fun e' => e (by injection e')), h.cell j hj']
      simp [e]
  · have hj' : j < l.length := by simpa using hj
    rw [World.frozen?_setCell]
    exact h.thawed j hj'

theorem wpList_bytes_of {P : Program} (w : World) {ops : Array Oper} {rest : List Oper} {o : Oper} {a : Act} {Q : Exit → Act → World → Prop}
    (hg : o.guard = none) (x : Operand) (src t e : TypeId) (hop : o.op = Op.convert src t x)
    (hs : P.underlying src = some .string) (hd : P.underlying t = some (.slice e)) (he : P.underlying e = some (.int .u8)) (s : ByteArray) (hx : a.eval x = .string s)
    (hK : ∀ w1 g c, BytesAt w w1 g s.data.toList → wpList P ops Q rest (a.put o.dst (.slice (some ⟨g, 0, none⟩) s.size c)) w1) :
    wpList P ops Q (o :: rest) a w := by
  refine wpList_plain hg fun K hK' => ?_
  have hrun := run_bytes_of_string (P := P) w src t e s hs hd he
  unfold Oper.wp
  simp [execOp, hop, hx, hrun, Result.andThen, -World.alloc_eq, -World.drew_eq]
  refine hK' _ _ (hK _ _ _ ⟨?_, rfl, ?_, ?_⟩)
  · exact ((Below.refl _ _).drew).alloc (Nat.le_refl _) _
  · intro j hj
    have h := World.cell?_alloc_mark w.drew (bytesRow s (grownCap w s.size 0 e)) e ((bytesRow s (grownCap w s.size 0 e)).size, (bytesRow s (grownCap w s.size 0 e)).size + 1) j
    rw [bytesRow_at s _ j (by simpa using hj)] at h
    exact h
  · intro j hj
    have h := World.frozen?_alloc_mark w.drew (bytesRow s (grownCap w s.size 0 e)) e (bytesRow s (grownCap w s.size 0 e)).size ((bytesRow s (grownCap w s.size 0 e)).size + 1) j
    have hb : j < (bytesRow s (grownCap w s.size 0 e)).size := by
      unfold bytesRow
      rw [Array.size_append, Array.size_map]
      have : j < s.data.size := by simpa using hj
      omega
    rw [decide_eq_false (by omega), Bool.false_and] at h
    exact h

theorem BytesAt.back {P : Program} {w w1 : World} {g : Nat} {l : List UInt8} (h : BytesAt w w1 g l) (src dst e : TypeId) (c : Nat) (hs : P.underlying src = some (.slice e)) (he : P.underlying e = some (.int .u8)) (hd : P.underlying dst = some .string) :
    (convert src dst (.slice (some ⟨g, 0, none⟩) l.length c)).run P w1 = .ok (.string (str l)) w1 := by
  refine run_convert_bytes_back (P := P) w1 src dst e ⟨g, 0, none⟩ c l hs he hd fun j hj => ?_
  rw [← h.cell j hj]
  have e : (⟨g, 0, none⟩ : Addr).add j = ⟨g, j, none⟩ := by unfold Addr.add; split <;> simp_all
  rw [e]
end Go.Proofs.Ytbohejohemegpaa
