/- A slice of numbers that a call made, and that is read while other blocks are written. For any seat that has []int. -/
import Derived.Test.YtjpbglbbeepmnaaInts
import Derived.Test.YtjpbglbbeepmnaaNodesC
import Derived.Lib.OthersKept
namespace Go.Proofs.Ytjpbglbbeepmnaa
open Go.RowKit
/-- The slice that begins there reads as these numbers; it lies in no block below B. -/
def NatAt (w : World) (a : Option Addr) (B : Nat) (l : List Nat) : Prop := ∀ i x : Nat, l[i]? = some x → ∃ g cur, a = some ⟨g, 0, none⟩ ∧ B ≤ g ∧ w.heap[g]? = some (.cells cur 3 (0, 0)) ∧ cur[i]? = some (.int .i64 (x : Int))
theorem NatAt.on {w w' : World} {a : Option Addr} {B : Nat} {l : List Nat} (h : NatAt w a B l) (hb : Below w.heap.size w w') : NatAt w' a B l := fun i x hi => by
  obtain ⟨g, cur, h1, h2, h3, h4⟩ := h i x hi
  exact ⟨g, cur, h1, h2, (hb.block g (Array.getElem?_eq_some_iff.1 h3).1).trans h3, h4⟩
theorem NatAt.beside {w : World} {a : Option Addr} {B : Nat} {l : List Nat} (h : NatAt w a B l) (b : Nat) (hb : b < B) (ds : Array Value) : NatAt (w.setRow b ds) a B l := fun i x hi => by
  obtain ⟨g, cur, h1, h2, h3, h4⟩ := h i x hi
  exact ⟨g, cur, h1, h2, by rw [setRow_other w b g ds (by omega)]; exact h3, h4⟩
/-- A builder's writing leaves it as it is. -/
theorem NatAt.kept {w w' : World} {a : Option Addr} {B b : Nat} {l : List Nat} (h : NatAt w a B l) (hb : b < B) (hk : Lib.OthersKept 5 (some b) w w') : NatAt w' a B l := fun i x hi => by
  obtain ⟨g, cur, h1, h2, h3, h4⟩ := h i x hi
  refine ⟨g, cur, h1, h2, hk g _ h3 (fun e => by have := Option.some.inj e; omega) (fun c fz e => ?_), h4⟩
  injection e with _ e2 _
  exact absurd e2 (by decide)
theorem NatAt.read {w : World} {a : Option Addr} {B : Nat} {l : List Nat} (h : NatAt w a B l) {i x : Nat} (hi : l[i]? = some x) : ∃ g, a = some ⟨g, 0, none⟩ ∧ B ≤ g ∧ w.cell? ⟨g, i, none⟩ = some (.int .i64 (x : Int)) := by
  obtain ⟨g, cur, h1, h2, h3, h4⟩ := h i x hi
  exact ⟨g, h1, h2, by simp [World.cell?, h3, h4]⟩
theorem nats_slice {l : List Nat} {w w' : World} {e : Ending} (h : OwnNats l w e w') : ∃ a c, e = .returned (.slice a l.length c) ∧ NatAt w' a w.heap.size l ∧ Below w.heap.size w w' := by
  obtain ⟨v, rfl, hv, hb⟩ := h
  obtain ⟨a, c, rfl⟩ := own_slice hv
  refine ⟨a, c, rfl, fun i x hi => ?_, hb⟩
  have hlt := (List.getElem?_eq_some_iff.1 hi).1
  rcases hv.2 with ⟨_, h0⟩ | ⟨g, cap, cur, hg, hB, hc, h1, h2, h3, h4⟩
  · omega
  · simp only [Value.slice.injEq, true_and] at hg
    obtain ⟨rfl, rfl⟩ := hg
    refine ⟨g, cur, rfl, hB, hc, ?_⟩
    have e : (natV l)[i]? = some (.int .i64 (x : Int)) := by simp [natV, hi]
    rw [← h4, List.getElem?_take_of_lt (by omega)] at e
    simpa using e
end Go.Proofs.Ytjpbglbbeepmnaa
