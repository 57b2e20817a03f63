/- Contracts of package pack, part A: Rest, Zig, Zag. -/
import Derived.Test.YtigedkbocooinaaProg
import Derived.WalkKit
import Derived.WalkSpells
import Derived.WalkLawsBesides
import Derived.BigQuiet
import Derived.Deep.QuietTactic
import Derived.IntWalk
import Derived.Lib.Hide
import Derived.Lib.Strings
namespace Go.Proofs.Ytigedkbocooinaa
open Go.RowKit

/-- What Rest answers. -/
def restN (l : List UInt8) : Int := if l = [] then 0 else 3

set_option maxHeartbeats 400000 in
theorem rest_any (s : ByteArray) (w : World) :
    Calls Try.prog 20 #[.string s] w fun e w' => e = .returned (.int .i64 (restN s.data.toList)) ∧ w = w' := by
  by_cases h : s.data.toList = []
  · have h1 : (!s.toList.isEmpty) = false := by rw [Lib.toList_data, h]; rfl
    go_enter Try.func20, Try.ntmps20
    have HV : Hid (restN s.data.toList = 0) := by unfold restN; rw [if_pos h]; trivial
    clear h
    go_wp2
    go_ret
    exact ⟨by rw [HV.out]; rfl, rfl⟩
  · have h1 : (!s.toList.isEmpty) = true := by rw [Lib.toList_data]; simpa using h
    go_enter Try.func20, Try.ntmps20
    have HV : Hid (restN s.data.toList = 3) := by unfold restN; rw [if_neg h]; trivial
    clear h
    go_wp2
    go_ret
    exact ⟨by rw [HV.out]; rfl, rfl⟩
end Go.Proofs.Ytigedkbocooinaa
