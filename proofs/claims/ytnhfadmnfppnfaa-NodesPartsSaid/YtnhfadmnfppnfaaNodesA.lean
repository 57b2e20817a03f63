/- Contracts of package nodes, part A: Right, Has, With, Without. -/
import Derived.Test.YtnhfadmnfppnfaaBase
import Derived.Test.YtnhfadmnfppnfaaNodesF
namespace Go.Proofs.Ytnhfadmnfppnfaa
open Go.RowKit

theorem right_in (n : Nat) (w : World) (h : n < 16) : Calls Try.prog 21 #[.int .i64 (n : Int)] w fun e w' => e = .returned (.bool true) ∧ w = w' := by
  have h0 : (0 : Int) ≤ (n : Int) := by omega
  have h1 : (n : Int) < 16 := by omega
  go_enter Try.func21, Try.ntmps21
  go_wp2
  go_ret
  exact ⟨rfl, rfl⟩
theorem right_out (n : Int) (w : World) (h : n < 0 ∨ 16 ≤ n) : Calls Try.prog 21 #[.int .i64 n] w fun e w' => e = .returned (.bool false) ∧ w = w' := by
  by_cases h0 : n < 0
  · have h1 : decide (0 ≤ n) = false := decide_eq_false (by omega)
    clear h
    go_enter Try.func21, Try.ntmps21
    go_wp2
    go_ret
    exact ⟨rfl, rfl⟩
  · have h1 : (0 : Int) ≤ n := by omega
    have h2 : decide (n < 16) = false := decide_eq_false (by omega)
    clear h
    go_enter Try.func21, Try.ntmps21
    go_wp2
    go_ret
    exact ⟨rfl, rfl⟩

theorem has_in (s : Int) (n : Nat) (w : World) (h : n < 16) : Calls Try.prog 10 #[.int .i64 s, .int .i64 (n : Int)] w fun e w' => e = .returned (.bool (NodesF.hasN s n)) ∧ w = w' := by
  have h0 : (0 : Int) ≤ (n : Int) := by omega
  have h1 : (n : Int) ≤ 64 := by omega
  have ha := NodesF.and_one (s / 2 ^ n)
  have hb : (s / 2 ^ n % 2 == 1) = NodesF.hasN s n := by unfold NodesF.hasN; rfl
  go_enter Try.func10, Try.ntmps10
  go_wp2_with fail
  refine (right_in n _ h).mono ?_
  rintro e w1 ⟨rfl, rfl⟩
  go_wp2
  go_ret
  exact ⟨rfl, rfl⟩
theorem has_out (s n : Int) (w : World) (h : n < 0 ∨ 16 ≤ n) : Calls Try.prog 10 #[.int .i64 s, .int .i64 n] w fun e w' => e = .returned (.bool false) ∧ w = w' := by
  have H := Lib.hid h
  clear h
  go_enter Try.func10, Try.ntmps10
  go_wp2_with fail
  refine (right_out n _ H.out).mono ?_
  rintro e w1 ⟨rfl, rfl⟩
  go_wp2
  go_ret
  exact ⟨rfl, rfl⟩

theorem with_in (s : Int) (n : Nat) (w : World) (h : n < 16) (hs1 : -9223372036854775808 ≤ s) (hs2 : s < 9223372036854775808) :
    Calls Try.prog 8 #[.int .i64 s, .int .i64 (n : Int)] w fun e w' => e = .returned (.int .i64 (NodesF.withN s n)) ∧ w = w' := by
  have h0 : (0 : Int) ≤ (n : Int) := by omega
  have h1 : (n : Int) ≤ 64 := by omega
  have hw : wrap64 (2 ^ n) = 2 ^ n := by
    rcases NodesF.n16 n h with h | h | h | h | h | h | h | h | h | h | h | h | h | h | h | h <;> subst h <;> exact IntWalk.wrap64_in _ (by decide)
  have ho := NodesF.or_i64 s n h hs1 hs2
  go_enter Try.func8, Try.ntmps8
  go_wp2_with fail
  refine (right_in n _ h).mono ?_
  rintro e w1 ⟨rfl, rfl⟩
  go_wp2
  go_ret
  exact ⟨rfl, rfl⟩
theorem with_out (s n : Int) (w : World) (h : n < 0 ∨ 16 ≤ n) : Calls Try.prog 8 #[.int .i64 s, .int .i64 n] w fun e w' => e = .returned (.int .i64 s) ∧ w = w' := by
  have H := Lib.hid h
  clear h
  go_enter Try.func8, Try.ntmps8
  go_wp2_with fail
  refine (right_out n _ H.out).mono ?_
  rintro e w1 ⟨rfl, rfl⟩
  go_wp2
  go_ret
  exact ⟨rfl, rfl⟩
theorem without_in (s : Int) (n : Nat) (w : World) (h : n < 16) (hs1 : -9223372036854775808 ≤ s) (hs2 : s < 9223372036854775808) :
    Calls Try.prog 9 #[.int .i64 s, .int .i64 (n : Int)] w fun e w' => e = .returned (.int .i64 (NodesF.withoutN s n)) ∧ w = w' := by
  have h0 : (0 : Int) ≤ (n : Int) := by omega
  have h1 : (n : Int) ≤ 64 := by omega
  have hw : wrap64 (2 ^ n) = 2 ^ n := by
    rcases NodesF.n16 n h with h | h | h | h | h | h | h | h | h | h | h | h | h | h | h | h <;> subst h <;> exact IntWalk.wrap64_in _ (by decide)
  have ho := NodesF.andNot_i64 s n h hs1 hs2
  go_enter Try.func9, Try.ntmps9
  go_wp2_with fail
  refine (right_in n _ h).mono ?_
  rintro e w1 ⟨rfl, rfl⟩
  go_wp2
  go_ret
  exact ⟨rfl, rfl⟩
theorem without_out (s n : Int) (w : World) (h : n < 0 ∨ 16 ≤ n) : Calls Try.prog 9 #[.int .i64 s, .int .i64 n] w fun e w' => e = .returned (.int .i64 s) ∧ w = w' := by
  have H := Lib.hid h
  clear h
  go_enter Try.func9, Try.ntmps9
  go_wp2_with fail
  refine (right_out n _ H.out).mono ?_
  rintro e w1 ⟨rfl, rfl⟩
  go_wp2
  go_ret
  exact ⟨rfl, rfl⟩
end Go.Proofs.Ytnhfadmnfppnfaa
