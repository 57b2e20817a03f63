/- Contracts of package pack, part H: Zig, Zag, and the document's own. -/
import Derived.Test.YtigedkbocooinaaPackE
import Derived.Test.YtigedkbocooinaaPackG
namespace Go.Proofs.Ytigedkbocooinaa
open Go.RowKit

theorem not_u64 (x : Int) (h0 : 0 ≤ x) (h1 : x ≤ 18446744073709551615) : bits BinOp.xor IntKind.u64 IntKind.u64.max x = 18446744073709551615 - x := by
  obtain ⟨a, rfl⟩ := Int.eq_ofNat_of_zero_le h0
  have e : IntKind.u64.max = ((18446744073709551615 : Nat) : Int) := by decide
  rw [e, u64_xor_nat _ _ (by omega) (by omega)]
  have hx : ∀ a : Nat, a < 2 ^ 64 → (2 ^ 64 - 1) ^^^ a = 2 ^ 64 - 1 - a := fun a ha => by
    have h2 : (BitVec.ofNat 64 (2 ^ 64 - 1) ^^^ BitVec.ofNat 64 a) = ~~~ BitVec.ofNat 64 a := by
      rw [show BitVec.ofNat 64 (2 ^ 64 - 1) = BitVec.allOnes 64 from rfl, BitVec.allOnes_xor]
    have h3 := congrArg BitVec.toNat h2
    rw [BitVec.toNat_xor, BitVec.toNat_not, BitVec.toNat_ofNat, BitVec.toNat_ofNat, Nat.mod_eq_of_lt ha] at h3
    exact h3
  have h := hx a (by omega)
  have h4 : (18446744073709551615 : Nat) ^^^ a = 18446744073709551615 - a := h
  rw [h4]; omega

set_option maxHeartbeats 400000 in
theorem zig_any (n : Int) (w : World) (h1 : -9223372036854775808 ≤ n) (h2 : n ≤ 9223372036854775807) :
    Calls Try.prog 16 #[.int .i64 n] w fun e w' => e = .returned (.int .u64 (PackF.zigF n)) ∧ w = w' := by
  by_cases h : 0 ≤ n
  · have HV := Lib.hid (show PackF.zigF n = 2 * n by unfold PackF.zigF; rw [if_pos h])
    go_enter Try.func16, Try.ntmps16
    go_wp2
    go_ret
    exact ⟨by rw [HV.out]; rfl, rfl⟩
  · have HV := Lib.hid (show PackF.zigF n = 2 * (-(n + 1)) + 1 by unfold PackF.zigF; rw [if_neg h])
    go_enter Try.func16, Try.ntmps16
    go_wp2
    go_ret
    exact ⟨by rw [HV.out]; rfl, rfl⟩

set_option maxHeartbeats 400000 in
theorem refzig_any (n : Int) (w : World) (h1 : -9223372036854775808 ≤ n) (h2 : n ≤ 9223372036854775807) :
    Calls Try.prog 17 #[.int .i64 n] w fun e w' => e = .returned (.int .u64 (PackF.zigF n)) ∧ w = w' := by
  by_cases h : 0 ≤ n
  · have HV := Lib.hid (show PackF.zigF n = 2 * n by unfold PackF.zigF; rw [if_pos h])
    go_enter Try.func17, Try.ntmps17
    go_wp2
    go_ret
    exact ⟨by rw [HV.out, Int.mul_comm]; rfl, rfl⟩
  · have HV := Lib.hid (show PackF.zigF n = 2 * (-(n + 1)) + 1 by unfold PackF.zigF; rw [if_neg h])
    have HX := Lib.hid (show bits BinOp.xor IntKind.u64 IntKind.u64.max (IntKind.u64.wrap (IntKind.u64.wrap n * 2)) = 2 * (-(n + 1)) + 1 by
      rw [IntKind.wrap_u64, IntKind.wrap_u64, not_u64 _ (by omega) (by omega)]; omega)
    go_enter Try.func17, Try.ntmps17
    go_wp2
    go_ret
    exact ⟨by rw [HV.out, ← HX.out]; rfl, rfl⟩

set_option maxHeartbeats 400000 in
theorem zag_any (u : Int) (w : World) (h1 : 0 ≤ u) (h2 : u ≤ 18446744073709551615) :
    Calls Try.prog 18 #[.int .u64 u] w fun e w' => e = .returned (.int .i64 (PackF.zagF u)) ∧ w = w' := by
  by_cases h : u % 2 = 1
  · have HV := Lib.hid (show PackF.zagF u = -(u / 2) - 1 by unfold PackF.zagF; rw [if_pos h])
    have hb : (u % 2 == 1) = true := by simp [h]
    clear h
    go_enter Try.func18, Try.ntmps18
    go_wp2
    go_ret
    exact ⟨by rw [HV.out]; rfl, rfl⟩
  · have HV := Lib.hid (show PackF.zagF u = u / 2 by unfold PackF.zagF; rw [if_neg h])
    have hb : (u % 2 == 1) = false := by simp [h]
    clear h
    go_enter Try.func18, Try.ntmps18
    go_wp2
    go_ret
    exact ⟨by rw [HV.out]; rfl, rfl⟩

set_option maxHeartbeats 400000 in
theorem refzag_any (u : Int) (w : World) (h1 : 0 ≤ u) (h2 : u ≤ 18446744073709551615) :
    Calls Try.prog 19 #[.int .u64 u] w fun e w' => e = .returned (.int .i64 (PackF.zagF u)) ∧ w = w' := by
  by_cases h : u % 2 = 1
  · have HV := Lib.hid (show PackF.zagF u = -(u / 2) - 1 by unfold PackF.zagF; rw [if_pos h])
    have hb : (bits BinOp.and IntKind.u64 u 1 == 1) = true := by rw [and_one_u64 u h1 h2]; simp [h]
    have HX := Lib.hid (show wrap64 (bits BinOp.xor IntKind.u64 IntKind.u64.max (u / 2)) = -(u / 2) - 1 by
      rw [not_u64 _ (by omega) (by omega)]; unfold wrap64; omega)
    clear h
    go_enter Try.func19, Try.ntmps19
    go_wp2
    go_ret
    exact ⟨by rw [HV.out, ← HX.out]; rfl, rfl⟩
  · have HV := Lib.hid (show PackF.zagF u = u / 2 by unfold PackF.zagF; rw [if_neg h])
    have hb : (bits BinOp.and IntKind.u64 u 1 == 1) = false := by rw [and_one_u64 u h1 h2]; simp [h]
    clear h
    go_enter Try.func19, Try.ntmps19
    go_wp2
    go_ret
    exact ⟨by rw [HV.out]; rfl, rfl⟩
end Go.Proofs.Ytigedkbocooinaa
