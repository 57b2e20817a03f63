/- The measure of a loop that counts up. No program is named here. -/
import Derived.Test.YtjpbglbbeepmnaaBase
namespace Go.Proofs.Ytjpbglbbeepmnaa
open Go.RowKit
theorem meas_up (m i : Nat) (h : Value) (hv : h = .int .i64 ((i + 1 : Nat) : Int)) (hi : i < m) : (m - intOf h).toNat < (m - intOf (.int .i64 (i : Int))).toNat := by
  subst hv; simp [intOf]; omega
end Go.Proofs.Ytjpbglbbeepmnaa
