/- The contract of the document's own Rest. -/
import Derived.Test.YtgmpfnhdcgcldaaBase
namespace Go.Proofs.Ytgmpfnhdcgcldaa
open Go.RowKit

/-- What the document's Rest answers. -/
def rrestN (l : List UInt8) : Int := if l = [] then 0 else 3

set_option maxHeartbeats 400000 in
theorem rrest_any (s : ByteArray) (w : World) :
    Calls Try.prog 25 #[.string s] w fun e w' => e = .returned (.int .i64 (rrestN s.data.toList)) ∧ w = w' := by
  by_cases h : s.data.toList = []
  · have h1 : (!s.toList.isEmpty) = false := by rw [Lib.toList_data, h]; rfl
    go_enter Try.func25, Try.ntmps25
    have HV : Hid (rrestN s.data.toList = 0) := by unfold rrestN; rw [if_pos h]; trivial
    clear h
    go_wp2
    go_ret
    exact ⟨by rw [HV.out]; rfl, rfl⟩
  · have h1 : (!s.toList.isEmpty) = true := by rw [Lib.toList_data]; simpa using h
    go_enter Try.func25, Try.ntmps25
    have HV : Hid (rrestN s.data.toList = 3) := by unfold rrestN; rw [if_neg h]; trivial
    clear h
    go_wp2
    go_ret
    exact ⟨by rw [HV.out]; rfl, rfl⟩
end Go.Proofs.Ytgmpfnhdcgcldaa
