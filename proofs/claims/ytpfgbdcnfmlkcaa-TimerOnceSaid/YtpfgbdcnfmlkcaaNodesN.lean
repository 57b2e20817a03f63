/- nodes.Right at every number. -/
import Derived.Test.YtpfgbdcnfmlkcaaNodesR
namespace Go.Proofs.Ytpfgbdcnfmlkcaa
open Go.RowKit

/-- Whether a number is a node. -/
def nodeF (n : Int) : Bool := decide (0 ≤ n) && decide (n < 16)
theorem nodeF_in {n : Int} (h : nodeF n = true) : 0 ≤ n ∧ n < 16 := by simpa [nodeF] using h
theorem nodeF_out {n : Int} (h : nodeF n = false) : n < 0 ∨ 16 ≤ n := by
  by_cases h0 : n < 0
  · exact .inl h0
  · by_cases h1 : 16 ≤ n
    · exact .inr h1
    · have : nodeF n = true := by simp [nodeF]; omega
      rw [h] at this; cases this
theorem nright_any (n : Int) (w : World) : Calls Try.prog 26 #[.int .i64 n] w fun e w' => e = .returned (.bool (nodeF n)) ∧ Below w.heap.size w w' := by
  cases h : nodeF n with
  | true =>
    obtain ⟨h0, h1⟩ := nodeF_in h
    obtain ⟨m, rfl⟩ := Int.eq_ofNat_of_zero_le h0
    exact (right_in m w (by omega)).mono fun e w' ⟨he, hw⟩ => ⟨he, hw ▸ Below.refl _ _⟩
  | false => exact (right_out n w (nodeF_out h)).mono fun e w' ⟨he, hw⟩ => ⟨he, hw ▸ Below.refl _ _⟩
end Go.Proofs.Ytpfgbdcnfmlkcaa
