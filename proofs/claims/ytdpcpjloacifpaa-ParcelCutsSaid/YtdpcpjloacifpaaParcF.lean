/- What parcels are, over plain numbers: what may be in one, and what is made of what may not. No function is named here. -/
import Derived.Test.YtdpcpjloacifpaaNodesN
namespace Go.Proofs.Ytdpcpjloacifpaa
open Go.RowKit

/-- A node, or node 0. -/
def fitN (n : Int) : Int := if nodeF n = true then n else 0
/-- Hops, as many as may be. -/
def fitT (t : Int) : Int := min (max t 1) 64
/-- Whether a parcel is right. -/
def rightP (f s d t : Int) (z : Nat) : Bool := (nodeF f && nodeF s && nodeF d) && (decide (1 ≤ t) && decide (t ≤ 64)) && decide (z ≤ 64)
theorem fitN_in {n : Int} (h : nodeF n = true) : fitN n = n := by unfold fitN; rw [if_pos h]
theorem fitN_out {n : Int} (h : nodeF n = false) : fitN n = 0 := by unfold fitN; rw [if_neg (by rw [h]; exact Bool.false_ne_true)]
theorem fitN_eq (n : Int) : (n == fitN n) = nodeF n := by
  cases h : nodeF n with
  | true => rw [fitN_in h]; simp
  | false =>
    rw [fitN_out h]
    have h0 := nodeF_out h
    have : n ≠ 0 := by omega
    simpa using this
theorem fitT_eq (t : Int) : (t == fitT t) = (decide (1 ≤ t) && decide (t ≤ 64)) := by
  unfold fitT
  rw [Bool.eq_iff_iff, beq_iff_eq, Bool.and_eq_true, decide_eq_true_iff, decide_eq_true_iff]
  omega
theorem fitB_eq (x : ByteArray) : (x.toList == (x.extract 0 (min x.size 64)).toList) = decide (x.size ≤ 64) := by
  rw [Lib.toList_data, Lib.toList_data, str_take, str_list, Bool.eq_iff_iff, beq_iff_eq, decide_eq_true_iff]
  have hz := size_list x
  constructor
  · intro e
    have e2 := congrArg List.length e
    rw [List.length_take, hz] at e2
    omega
  · intro h
    rw [List.take_of_length_le (by omega)]
theorem rightP_in {f s d t : Int} {z : Nat} (h : rightP f s d t z = true) : (0 ≤ f ∧ f < 16) ∧ (0 ≤ s ∧ s < 16) ∧ (0 ≤ d ∧ d < 16) ∧ (1 ≤ t ∧ t ≤ 64) ∧ z ≤ 64 := by
  unfold rightP at h
  simp only [Bool.and_eq_true, decide_eq_true_iff] at h
  exact ⟨nodeF_in h.1.1.1.1, nodeF_in h.1.1.1.2, nodeF_in h.1.1.2, h.1.2, h.2⟩
theorem rightP_mk {f s d t : Int} {z : Nat} (h1 : 0 ≤ f ∧ f < 16) (h2 : 0 ≤ s ∧ s < 16) (h3 : 0 ≤ d ∧ d < 16) (h4 : 1 ≤ t ∧ t ≤ 64) (h5 : z ≤ 64) : rightP f s d t z = true := by
  unfold rightP nodeF
  simp only [Bool.and_eq_true, decide_eq_true_iff]
  exact ⟨⟨⟨⟨h1, h2⟩, h3⟩, h4⟩, h5⟩
end Go.Proofs.Ytdpcpjloacifpaa
