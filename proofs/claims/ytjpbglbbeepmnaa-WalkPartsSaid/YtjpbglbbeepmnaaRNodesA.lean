/- Contracts of the document's own sets: Has, With, Without. -/
import Derived.Test.YtjpbglbbeepmnaaRNodesR
import Derived.Test.YtjpbglbbeepmnaaNodesF
namespace Go.Proofs.Ytjpbglbbeepmnaa
open Go.RowKit

theorem rhas_in (s : Int) (n : Nat) (w : World) (h : n < 16) : Calls Try.prog 34 #[.int .i64 s, .int .i64 (n : Int)] w fun e w' => e = .returned (.bool (NodesF.hasN s n)) ∧ w = w' := by
  have h0 : (0 : Int) ≤ (n : Int) := by omega
  have h1 : (n : Int) ≤ 64 := by omega
  have hc : (n : Int) % 18446744073709551616 = (n : Int) := by omega
  have ha := NodesF.and_one (s / 2 ^ n)
  have hb : (s / 2 ^ n % 2 == 1) = NodesF.hasN s n := by unfold NodesF.hasN; rfl
  go_enter Try.func34, Try.ntmps34
  go_wp2_with fail
  refine (rright_in n _ h).mono ?_
  rintro e w1 ⟨rfl, rfl⟩
  go_wp2
  go_ret
  exact ⟨rfl, rfl⟩
theorem rhas_out (s n : Int) (w : World) (h : n < 0 ∨ 16 ≤ n) : Calls Try.prog 34 #[.int .i64 s, .int .i64 n] w fun e w' => e = .returned (.bool false) ∧ w = w' := by
  have H := Lib.hid h
  clear h
  go_enter Try.func34, Try.ntmps34
  go_wp2_with fail
  refine (rright_out n _ H.out).mono ?_
  rintro e w1 ⟨rfl, rfl⟩
  go_wp2
  go_ret
  exact ⟨rfl, rfl⟩

theorem rwith_in (s : Int) (n : Nat) (w : World) (h : n < 16) (hs1 : -9223372036854775808 ≤ s) (hs2 : s < 9223372036854775808) :
    Calls Try.prog 33 #[.int .i64 s, .int .i64 (n : Int)] w fun e w' => e = .returned (.int .i64 (NodesF.withN s n)) ∧ w = w' := by
  have h0 : (0 : Int) ≤ (n : Int) := by omega
  have h1 : (n : Int) ≤ 64 := by omega
  have hc : (n : Int) % 18446744073709551616 = (n : Int) := by omega
  have hw : wrap64 (2 ^ n) = 2 ^ n := by
    rcases NodesF.n16 n h with h | h | h | h | h | h | h | h | h | h | h | h | h | h | h | h <;> subst h <;> exact IntWalk.wrap64_in _ (by decide)
  have ho := NodesF.or_i64 s n h hs1 hs2
  go_enter Try.func33, Try.ntmps33
  go_wp2_with fail
  refine (rright_in n _ h).mono ?_
  rintro e w1 ⟨rfl, rfl⟩
  go_wp2
  go_ret
  exact ⟨rfl, rfl⟩

theorem rwith_out (s n : Int) (w : World) (h : n < 0 ∨ 16 ≤ n) : Calls Try.prog 33 #[.int .i64 s, .int .i64 n] w fun e w' => e = .returned (.int .i64 s) ∧ w = w' := by
  have H := Lib.hid h
  clear h
  go_enter Try.func33, Try.ntmps33
  go_wp2_with fail
  refine (rright_out n _ H.out).mono ?_
  rintro e w1 ⟨rfl, rfl⟩
  go_wp2
  go_ret
  exact ⟨rfl, rfl⟩
end Go.Proofs.Ytjpbglbbeepmnaa
