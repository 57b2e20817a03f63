/- serial.Right, Next, Ahead, Near. -/
import Derived.Test.YtmgmgffgbkenkaaDoorBase
namespace Go.Proofs.YtmgmgffgbkenkaaDoor
open Go.RowKit

theorem sright_in (n : Nat) (w : World) (h : n ≤ 65535) : Calls Tryd.prog 14 #[.int .i64 (n : Int)] w fun e w' => e = .returned (.bool true) ∧ w = w' := by
  have h0 : (0 : Int) ≤ (n : Int) := by omega
  have h1 : (n : Int) ≤ 65535 := by omega
  go_enter Tryd.func14, Tryd.ntmps14
  go_wp2
  go_ret
  exact ⟨rfl, rfl⟩
theorem sright_out (n : Int) (w : World) (h : n < 0 ∨ 65535 < n) : Calls Tryd.prog 14 #[.int .i64 n] w fun e w' => e = .returned (.bool false) ∧ w = w' := by
  by_cases h0 : n < 0
  · have h1 : decide (0 ≤ n) = false := decide_eq_false (by omega)
    clear h
    go_enter Tryd.func14, Tryd.ntmps14
    go_wp2
    go_ret
    exact ⟨rfl, rfl⟩
  · have h1 : (0 : Int) ≤ n := by omega
    have h2 : decide (n ≤ 65535) = false := decide_eq_false (by omega)
    clear h
    go_enter Tryd.func14, Tryd.ntmps14
    go_wp2
    go_ret
    exact ⟨rfl, rfl⟩
/-- Whether a number is right. -/
def rightS (n : Int) : Bool := decide (0 ≤ n) && decide (n ≤ 65535)
theorem sright_any (n : Int) (w : World) : Calls Tryd.prog 14 #[.int .i64 n] w fun e w' => e = .returned (.bool (rightS n)) ∧ w = w' := by
  by_cases h : 0 ≤ n ∧ n ≤ 65535
  · have e : rightS n = true := by simp [rightS, h.1, h.2]
    obtain ⟨k, rfl⟩ := Int.eq_ofNat_of_zero_le h.1
    rw [e]
    exact sright_in k w (by omega)
  · have e : rightS n = false := by
      by_cases h0 : 0 ≤ n
      · have h1 : ¬ n ≤ 65535 := fun h1 => h ⟨h0, h1⟩
        simp [rightS, h1]
      · simp [rightS, h0]
    rw [e]
    exact sright_out n w (by omega)

/-- The number behind another one, and the error. -/
def nextS (n : Int) : Int × Int := if rightS n = false then (0, 1) else if 65000 ≤ n then (0, 11) else (n + 1, 0)

/-- By how much a number is above another one. -/
def aheadS (n m : Int) : Int := if rightS n = false ∨ rightS m = false ∨ n < m then -1 else n - m

/-- Whether a number is near another one. -/
def nearS (n m : Int) : Bool := decide (0 ≤ aheadS n m) && decide (aheadS n m < 8)
end Go.Proofs.YtmgmgffgbkenkaaDoor
