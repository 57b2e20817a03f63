/- serial.Right, Next, Ahead, Near. -/
import Derived.Test.YtfpnepgnochnmaaBase
namespace Go.Proofs.Ytfpnepgnochnmaa
open Go.RowKit

theorem sright_in (n : Nat) (w : World) (h : n ≤ 65535) : Calls Try.prog 8 #[.int .i64 (n : Int)] w fun e w' => e = .returned (.bool true) ∧ w = w' := by
  have h0 : (0 : Int) ≤ (n : Int) := by omega
  have h1 : (n : Int) ≤ 65535 := by omega
  go_enter Try.func8, Try.ntmps8
  go_wp2
  go_ret
  exact ⟨rfl, rfl⟩
theorem sright_out (n : Int) (w : World) (h : n < 0 ∨ 65535 < n) : Calls Try.prog 8 #[.int .i64 n] w fun e w' => e = .returned (.bool false) ∧ w = w' := by
  by_cases h0 : n < 0
  · have h1 : decide (0 ≤ n) = false := decide_eq_false (by omega)
    clear h
    go_enter Try.func8, Try.ntmps8
    go_wp2
    go_ret
    exact ⟨rfl, rfl⟩
  · have h1 : (0 : Int) ≤ n := by omega
    have h2 : decide (n ≤ 65535) = false := decide_eq_false (by omega)
    clear h
    go_enter Try.func8, Try.ntmps8
    go_wp2
    go_ret
    exact ⟨rfl, rfl⟩
/-- Whether a number is right. -/
def rightS (n : Int) : Bool := decide (0 ≤ n) && decide (n ≤ 65535)
theorem sright_any (n : Int) (w : World) : Calls Try.prog 8 #[.int .i64 n] w fun e w' => e = .returned (.bool (rightS n)) ∧ w = w' := by
  by_cases h : 0 ≤ n ∧ n ≤ 65535
  · have e : rightS n = true := by simp [rightS, h.1, h.2]
    obtain ⟨k, rfl⟩ := Int.eq_ofNat_of_zero_le h.1
    rw [e]
    exact sright_in k w (by omega)
  · have e : rightS n = false := by
      by_cases h0 : 0 ≤ n
      · have h1 : ¬ n ≤ 65535 := fun h1 => h ⟨h0, h1⟩
        simp [rightS, h1]
      · simp [rightS, h0]
    rw [e]
    exact sright_out n w (by omega)

/-- The number behind another one, and the error. -/
def nextS (n : Int) : Int × Int := if rightS n = false then (0, 1) else if 65000 ≤ n then (0, 11) else (n + 1, 0)
theorem snext_any (n : Int) (w : World) (h0 : -9223372036854775808 ≤ n) (h1 : n ≤ 9223372036854775807) :
    Calls Try.prog 4 #[.int .i64 n] w fun e w' => e = .returned (.tuple #[.int .i64 (nextS n).1, .int .i64 (nextS n).2]) ∧ w = w' := by
  have R := fun w => sright_any n w
  by_cases h : rightS n = false
  · have e : nextS n = (0, 1) := by simp [nextS, h]
    rw [e]
    rw [h] at R
    have RH := Lib.hid R
    clear R h h0 h1 e
    go_enter Try.func4, Try.ntmps4
    go_wp2_with fail
    refine (RH.out _).mono ?_
    rintro e w1 ⟨rfl, rfl⟩
    go_wp2_with fail
    exact bodyPost_ret (v := .tuple #[.int .i64 0, .int .i64 1]) (by simp [results, Try.results4, go_sem]) rfl ⟨rfl, rfl⟩
  · have hr : rightS n = true := by simpa using h
    rw [hr] at R
    have RH := Lib.hid R
    have hb : 0 ≤ n ∧ n ≤ 65535 := by simpa [rightS] using hr
    by_cases h2 : 65000 ≤ n
    · have e : nextS n = (0, 11) := by simp [nextS, hr, h2]
      rw [e]
      clear R h h0 h1 e hr hb
      go_enter Try.func4, Try.ntmps4
      go_wp2_with fail
      refine (RH.out _).mono ?_
      rintro e w1 ⟨rfl, rfl⟩
      go_wp2_with fail
      exact bodyPost_ret (v := .tuple #[.int .i64 0, .int .i64 11]) (by simp [results, Try.results4, go_sem]) rfl ⟨rfl, rfl⟩
    · have e : nextS n = (n + 1, 0) := by simp [nextS, hr, h2]
      rw [e]
      have h3 : decide (65000 ≤ n) = false := decide_eq_false h2
      have h4 : wrap64 (n + 1) = n + 1 := IntWalk.wrap64_in _ (by omega)
      clear R h h0 h1 e hr hb h2
      go_enter Try.func4, Try.ntmps4
      go_wp2_with fail
      refine (RH.out _).mono ?_
      rintro e w1 ⟨rfl, rfl⟩
      go_wp2_with fail
      exact bodyPost_ret (v := .tuple #[.int .i64 (n + 1), .int .i64 0]) (by simp [results, Try.results4, go_sem, h4]) rfl ⟨rfl, rfl⟩

/-- By how much a number is above another one. -/
def aheadS (n m : Int) : Int := if rightS n = false ∨ rightS m = false ∨ n < m then -1 else n - m
theorem sahead_any (n m : Int) (w : World) :
    Calls Try.prog 6 #[.int .i64 n, .int .i64 m] w fun e w' => e = .returned (.int .i64 (aheadS n m)) ∧ w = w' := by
  have R := fun w => sright_any n w
  have R' := fun w => sright_any m w
  by_cases h : rightS n = false
  · have e : aheadS n m = -1 := by simp [aheadS, h]
    rw [e]
    rw [h] at R
    have RH := Lib.hid R
    clear R R' h e
    go_enter Try.func6, Try.ntmps6
    go_wp2_with fail
    refine (RH.out _).mono ?_
    rintro e w1 ⟨rfl, rfl⟩
    go_wp2_with fail
    go_ret
    exact ⟨rfl, rfl⟩
  · have hr : rightS n = true := by simpa using h
    rw [hr] at R
    have RH := Lib.hid R
    by_cases h' : rightS m = false
    · have e : aheadS n m = -1 := by simp [aheadS, h']
      rw [e]
      rw [h'] at R'
      have RH' := Lib.hid R'
      clear R R' h h' e hr
      go_enter Try.func6, Try.ntmps6
      go_wp2_with fail
      refine (RH.out _).mono ?_
      rintro e w1 ⟨rfl, rfl⟩
      go_wp2_with fail
      refine (RH'.out _).mono ?_
      rintro e w1 ⟨rfl, rfl⟩
      go_wp2_with fail
      go_ret
      exact ⟨rfl, rfl⟩
    · have hr' : rightS m = true := by simpa using h'
      rw [hr'] at R'
      have RH' := Lib.hid R'
      have hb : 0 ≤ n ∧ n ≤ 65535 := by simpa [rightS] using hr
      have hb' : 0 ≤ m ∧ m ≤ 65535 := by simpa [rightS] using hr'
      by_cases h2 : n < m
      · have e : aheadS n m = -1 := by simp [aheadS, h2]
        rw [e]
        clear R R' h h' e hr hr' hb hb'
        go_enter Try.func6, Try.ntmps6
        go_wp2_with fail
        refine (RH.out _).mono ?_
        rintro e w1 ⟨rfl, rfl⟩
        go_wp2_with fail
        refine (RH'.out _).mono ?_
        rintro e w1 ⟨rfl, rfl⟩
        go_wp2_with fail
        go_ret
        exact ⟨rfl, rfl⟩
      · have e : aheadS n m = n - m := by simp [aheadS, hr, hr', h2]
        rw [e]
        have h3 : decide (n < m) = false := decide_eq_false h2
        have h4 : wrap64 (n - m) = n - m := IntWalk.wrap64_in _ (by omega)
        clear R R' h h' e hr hr' hb hb' h2
        go_enter Try.func6, Try.ntmps6
        go_wp2_with fail
        refine (RH.out _).mono ?_
        rintro e w1 ⟨rfl, rfl⟩
        go_wp2_with fail
        refine (RH'.out _).mono ?_
        rintro e w1 ⟨rfl, rfl⟩
        go_wp2_with fail
        go_ret
        rw [h4]
        exact ⟨rfl, rfl⟩

/-- Whether a number is near another one. -/
def nearS (n m : Int) : Bool := decide (0 ≤ aheadS n m) && decide (aheadS n m < 8)
theorem snear_any (n m : Int) (w : World) :
    Calls Try.prog 7 #[.int .i64 n, .int .i64 m] w fun e w' => e = .returned (.bool (nearS n m)) ∧ w = w' := by
  have RH := Lib.hid (fun w => sahead_any n m w)
  unfold nearS
  obtain ⟨a, ha⟩ : ∃ a, aheadS n m = a := ⟨_, rfl⟩
  rw [ha] at RH ⊢
  clear ha
  obtain ⟨b, hb⟩ : ∃ b, decide (a < 8) = b := ⟨_, rfl⟩
  rw [hb]
  by_cases h : 0 ≤ a
  · have h1 : decide (0 ≤ a) = true := decide_eq_true h
    rw [h1]
    clear h
    go_enter Try.func7, Try.ntmps7
    go_wp2_with fail
    refine (RH.out _).mono ?_
    rintro e w1 ⟨rfl, rfl⟩
    go_wp2_with fail
    go_ret
    exact ⟨rfl, rfl⟩
  · have h1 : decide (0 ≤ a) = false := decide_eq_false h
    rw [h1]
    clear h
    go_enter Try.func7, Try.ntmps7
    go_wp2_with fail
    refine (RH.out _).mono ?_
    rintro e w1 ⟨rfl, rfl⟩
    go_wp2_with fail
    go_ret
    exact ⟨rfl, rfl⟩
end Go.Proofs.Ytfpnepgnochnmaa
