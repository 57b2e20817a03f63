/- awake of law 15. -/
import Derived.Test.YtfpnepgnochnmaaSerA
namespace Go.Proofs.Ytfpnepgnochnmaa
open Go.RowKit

set_option maxRecDepth 100000 in
set_option maxHeartbeats 2000000 in
theorem sawake_any (w : World) : Calls Try.prog 5 #[] w fun e w' => e = .returned (.bool true) ∧ w = w' := by
  have N0 := Lib.hid (fun w => snext_any 0 w (by omega) (by omega))
  have N1 := Lib.hid (fun w => snext_any 65000 w (by omega) (by omega))
  have N2 := Lib.hid (fun w => snext_any (-1) w (by omega) (by omega))
  rw [show nextS 0 = (1, 0) from by decide] at N0
  rw [show nextS 65000 = (0, 11) from by decide] at N1
  rw [show nextS (-1) = (0, 1) from by decide] at N2
  have A0 := Lib.hid (fun w => sahead_any 9 5 w)
  have A1 := Lib.hid (fun w => sahead_any 5 9 w)
  rw [show aheadS 9 5 = 4 from by decide] at A0
  rw [show aheadS 5 9 = -1 from by decide] at A1
  have M0 := Lib.hid (fun w => snear_any 7 0 w)
  have M1 := Lib.hid (fun w => snear_any 8 0 w)
  rw [show nearS 7 0 = true from by decide] at M0
  rw [show nearS 8 0 = false from by decide] at M1
  have R0 := Lib.hid (fun w => sright_any 65535 w)
  have R1 := Lib.hid (fun w => sright_any 65536 w)
  rw [show rightS 65535 = true from by decide] at R0
  rw [show rightS 65536 = false from by decide] at R1
  go_enter Try.func5, Try.ntmps5
  go_wp2_with fail
  refine (N0.out _).mono ?_
  rintro e w1 ⟨rfl, rfl⟩
  go_wp2_with fail
  refine (N1.out _).mono ?_
  rintro e w1 ⟨rfl, rfl⟩
  go_wp2_with fail
  refine (N2.out _).mono ?_
  rintro e w1 ⟨rfl, rfl⟩
  go_wp2_with fail
  refine (A0.out _).mono ?_
  rintro e w1 ⟨rfl, rfl⟩
  go_wp2_with fail
  refine (A1.out _).mono ?_
  rintro e w1 ⟨rfl, rfl⟩
  go_wp2_with fail
  refine (M0.out _).mono ?_
  rintro e w1 ⟨rfl, rfl⟩
  go_wp2_with fail
  refine (M1.out _).mono ?_
  rintro e w1 ⟨rfl, rfl⟩
  go_wp2_with fail
  refine (R0.out _).mono ?_
  rintro e w1 ⟨rfl, rfl⟩
  go_wp2_with fail
  refine (R1.out _).mono ?_
  rintro e w1 ⟨rfl, rfl⟩
  go_wp2_with fail
  go_ret
  exact ⟨rfl, rfl⟩
end Go.Proofs.Ytfpnepgnochnmaa
