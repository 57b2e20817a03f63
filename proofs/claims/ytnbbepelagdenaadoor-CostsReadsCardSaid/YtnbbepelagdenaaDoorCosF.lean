/- Plain functions of package costs: links as a number of what is up and sixteen costs. No program is named here. -/
import Derived.Test.YtnbbepelagdenaaDoorNodesF
namespace Go.Proofs.YtnbbepelagdenaaDoor
namespace CosF
open NodesF

/-- What is up, and the costs. -/
abbrev Pt := Int × List Nat
/-- Sixteen costs of 32 bits, and a number of 64. -/
def Cos (c : Pt) : Prop := c.2.length = 16 ∧ (∀ k ∈ c.2, k < 4294967296) ∧ -9223372036854775808 ≤ c.1 ∧ c.1 < 9223372036854775808
def nodeB (n : Int) : Bool := decide (0 ≤ n) && decide (n < 16)
def okB (n : Int) (k : Nat) : Bool := nodeB n && (decide (1 ≤ k) && decide (k ≤ 65536))
def setC (c : Pt) (n : Int) (k : Nat) : Pt := if okB n k then (withN c.1 n.toNat, c.2.set n.toNat k) else c
def setE (n : Int) (k : Nat) : Int := if okB n k then 0 else 1
def cutC (c : Pt) (n : Int) : Pt := if nodeB n then (withoutN c.1 n.toNat, c.2.set n.toNat 0) else c
def ofC (c : Pt) (n : Int) : Nat := if nodeB n && hasN c.1 n.toNat then c.2.getD n.toNat 0 else 4294967295
/-- The nodes to which links are up, rising. -/
def upC (c : Pt) : List Nat := nodesN (lowN c.1) 16

theorem node_in {n : Int} (h : nodeB n = true) : ∃ k : Nat, n = (k : Int) ∧ k < 16 := by
  simp only [nodeB, Bool.and_eq_true, decide_eq_true_eq] at h
  exact ⟨n.toNat, by omega, by omega⟩
theorem node_nat {n : Nat} (h : n < 16) : nodeB (n : Int) = true := by simp [nodeB]; omega
theorem node_out {n : Int} (h : nodeB n = false) : n < 0 ∨ 16 ≤ n := by
  simp only [nodeB, Bool.and_eq_false_iff, decide_eq_false_iff_not] at h
  omega
theorem ok_in {n : Int} {k : Nat} (h : okB n k = true) : ∃ m : Nat, n = (m : Int) ∧ m < 16 ∧ 1 ≤ k ∧ k ≤ 65536 := by
  simp only [okB, Bool.and_eq_true, decide_eq_true_eq] at h
  obtain ⟨h0, h1, h2⟩ := h
  obtain ⟨m, hm, hl⟩ := node_in h0
  exact ⟨m, hm, hl, h1, h2⟩
theorem ok_nat {n k : Nat} (h : n < 16) (h1 : 1 ≤ k) (h2 : k ≤ 65536) : okB (n : Int) k = true := by simp [okB, node_nat h, h1, h2]
theorem not_ok {n : Int} {k : Nat} (h : okB n k = false) : nodeB n = false ∨ (∃ m : Nat, n = (m : Int) ∧ m < 16) ∧ (k < 1 ∨ 65536 < k) := by
  cases hn : nodeB n with
  | false => exact .inl rfl
  | true =>
    simp only [okB, hn, Bool.true_and, Bool.and_eq_false_iff, decide_eq_false_iff_not] at h
    exact .inr ⟨node_in hn, by omega⟩

theorem set_ok (c : Pt) (n k : Nat) (h : okB (n : Int) k = true) : setC c (n : Int) k = (withN c.1 n, c.2.set n k) := by simp [setC, h]
theorem set_no (c : Pt) (n : Int) (k : Nat) (h : okB n k = false) : setC c n k = c := by simp [setC, h]
theorem cut_ok (c : Pt) (n : Nat) (h : n < 16) : cutC c (n : Int) = (withoutN c.1 n, c.2.set n 0) := by simp [cutC, node_nat h]
theorem cut_no (c : Pt) (n : Int) (h : nodeB n = false) : cutC c n = c := by simp [cutC, h]
theorem of_ok (c : Pt) (n : Nat) (h : n < 16) (hh : hasN c.1 n = true) : ofC c (n : Int) = c.2.getD n 0 := by simp [ofC, node_nat h, hh]
theorem of_no (c : Pt) (n : Int) (h : nodeB n = false) : ofC c n = 4294967295 := by simp [ofC, h]
theorem of_far (c : Pt) (n : Nat) (hh : hasN c.1 n = false) : ofC c (n : Int) = 4294967295 := by simp [ofC, hh]

theorem Cos.set {c : Pt} (h : Cos c) (n : Int) (k : Nat) : Cos (setC c n k) := by
  cases ho : okB n k with
  | false => rw [set_no c n k ho]; exact h
  | true =>
    obtain ⟨m, rfl, hm, h1, h2⟩ := ok_in ho
    rw [set_ok c m k ho]
    obtain ⟨hl, hk, hu1, hu2⟩ := h
    have hr := with_range c.1 m hm hu1 hu2
    refine ⟨by simp [hl], fun x hx => ?_, hr.1, hr.2⟩
    rcases List.mem_or_eq_of_mem_set hx with hx | rfl
    · exact hk x hx
    · omega
theorem Cos.cut {c : Pt} (h : Cos c) (n : Int) : Cos (cutC c n) := by
  cases ho : nodeB n with
  | false => rw [cut_no c n ho]; exact h
  | true =>
    obtain ⟨m, rfl, hm⟩ := node_in ho
    rw [cut_ok c m hm]
    obtain ⟨hl, hk, hu1, hu2⟩ := h
    have hr := without_range c.1 m hm hu1 hu2
    refine ⟨by simp [hl], fun x hx => ?_, hr.1, hr.2⟩
    rcases List.mem_or_eq_of_mem_set hx with hx | rfl
    · exact hk x hx
    · omega
theorem Cos.of {c : Pt} (h : Cos c) (n : Int) : ofC c n < 4294967296 := by
  unfold ofC
  split
  · rw [List.getD_eq_getElem?_getD]
    cases hx : c.2[n.toNat]? with
    | none => simp
    | some x => exact h.2.1 x (List.mem_of_getElem? hx)
  · omega
/-- No link is up. -/
def none16 : Pt := (0, [0, 0, 0, 0, 0, 0, 0, 0, 0, 0, 0, 0, 0, 0, 0, 0])
theorem Cos.zero : Cos none16 := ⟨rfl, by decide, by decide, by decide⟩
end CosF
end Go.Proofs.YtnbbepelagdenaaDoor
