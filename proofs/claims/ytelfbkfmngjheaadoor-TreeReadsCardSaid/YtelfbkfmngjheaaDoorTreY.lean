/- What TreeReads asks besides: what is plain, the better of two. -/
import Derived.Test.YtelfbkfmngjheaaDoorTreS
import Derived.Test.YtelfbkfmngjheaaDoorTreX
import Derived.Test.YtelfbkfmngjheaaDoorTreD
namespace Go.Proofs.YtelfbkfmngjheaaDoor
open Go.RowKit Go.Sort TreF
attribute [local go_sem ↓] loadAt_tre storeAt_tre loadAt_ent storeAt_ent

namespace TreF
/-- An entry that can be told as it is. -/
def plainE (e : Ent) : Bool := (e.2 == -1) || (nodeB e.2 && decide (e.1 ≠ farN))
def plainT (t : Tr) : Nat → Bool
  | 0 => true
  | k + 1 => plainT t k && plainE (t.getD k farE)
theorem plain_at (t : Tr) : ∀ k, plainT t k = true → ∀ j, j < k → plainE (t.getD j farE) = true
  | 0, _, j, hj => by omega
  | k + 1, h, j, hj => by
    rw [plainT, Bool.and_eq_true] at h
    by_cases hjk : j = k
    · rw [hjk]; exact h.2
    · exact plain_at t k h.1 j (by omega)
theorem plain_norm {t : Tr} (ht : Tre t) (h : plainT t 16 = true) : Norm t := by
  refine ⟨ht, fun e he => ?_⟩
  obtain ⟨k, hk⟩ := List.getElem?_of_mem he
  have hlt : k < 16 := by
    have := (List.getElem?_eq_some_iff.1 hk).1
    rw [ht.1] at this
    exact this
  have hp := plain_at t 16 h k hlt
  rw [getD_at hk] at hp
  simp only [plainE, Bool.or_eq_true, Bool.and_eq_true, beq_iff_eq, decide_eq_true_eq] at hp
  rcases hp with hp | ⟨h1, h2⟩
  · exact ⟨fun _ => hp, .inl hp⟩
  · exact ⟨fun h3 => absurd h3 h2, .inr h1⟩
end TreF
theorem plainE_of {d : Nat} {p : Int} {A1 A2 A3 : Bool} (h1 : (p == -1) = A1) (h2 : nodeB p = A2) (h3 : ((d : Int) != 4294967295) = A3) : plainE (d, p) = (A1 || (A2 && A3)) := by
  have h4 : decide (d ≠ farN) = A3 := by
    rw [← h3, ← far_int]
    show decide (d ≠ farN) = !((d : Int) == (farN : Int))
    rw [Bool.eq_iff_iff]
    simp [Int.ofNat_inj]
  unfold plainE
  rw [h1, h2, h4]
theorem tright_any (p : Int) (w : World) : Calls Tryd.prog 26 #[.int .i64 p] w fun e w' => e = .returned (.bool (nodeB p)) ∧ w = w' := by
  cases hb : nodeB p with
  | true =>
    obtain ⟨m, rfl, hm⟩ := node_in hb
    exact right_in m w hm
  | false => exact right_out p w (node_out hb)
/-- The better entry: no farther than either, and one of the two. -/
theorem pick_if (c d : Nat) (p q : Int) : pickE (c, p) (d, q) = if d < c then (d, q) else (c, p) := rfl
theorem blk_ne {w : World} {b c : Nat} {cs ds : List Value} (h : Blk w b cs) (k : Blk w c ds) (hl : cs.length ≠ ds.length) : b ≠ c := fun e => by
  subst e
  obtain ⟨t, h⟩ := h
  obtain ⟨u, k⟩ := k
  rw [h] at k
  have := Option.some.inj k
  injection this with e1 _ _
  exact hl (congrArg List.length (show cs = ds by simpa using congrArg Array.toList e1))
end Go.Proofs.YtelfbkfmngjheaaDoor
