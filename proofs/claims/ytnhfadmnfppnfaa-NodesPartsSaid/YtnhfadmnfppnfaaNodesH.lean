/- Contracts of package nodes, part H: Next, Lowest, Highest, and the document's own. -/
import Derived.Test.YtnhfadmnfppnfaaNodesAw
import Derived.Test.YtnhfadmnfppnfaaNodesG
namespace Go.Proofs.Ytnhfadmnfppnfaa
open Go.RowKit

theorem refright_in (n : Nat) (w : World) (h : n < 16) : Calls Try.prog 25 #[.int .i64 (n : Int)] w fun e w' => e = .returned (.bool true) ∧ w = w' := by
  have h0 : (0 : Int) ≤ (n : Int) := by omega
  have h1 : (n : Int) < 16 := by omega
  go_enter Try.func25, Try.ntmps25
  go_wp2
  go_ret
  exact ⟨rfl, rfl⟩
theorem refhas_in (s : Int) (n : Nat) (w : World) (h : n < 16) : Calls Try.prog 23 #[.int .i64 s, .int .i64 (n : Int)] w fun e w' => e = .returned (.bool (NodesF.hasN s n)) ∧ w = w' := by
  have h0 : (0 : Int) ≤ (n : Int) := by omega
  have h1 : (n : Int) ≤ 64 := by omega
  have hc : (n : Int) % 18446744073709551616 = (n : Int) := by omega
  have ha := NodesF.and_one (s / 2 ^ n)
  have hb : (s / 2 ^ n % 2 == 1) = NodesF.hasN s n := by unfold NodesF.hasN; rfl
  go_enter Try.func23, Try.ntmps23
  go_wp2_with fail
  refine (refright_in n _ h).mono ?_
  rintro e w1 ⟨rfl, rfl⟩
  go_wp2
  go_ret
  exact ⟨rfl, rfl⟩

/-- What Next answers. -/
def nextV (s n : Int) : Int := NodesF.nextG (NodesF.lowN s) (n % 16).toNat 16
theorem mod_step (x : Nat) (i : Nat) (hx : x < 16) (hi : i ≤ 16) : ((x : Int) + (i : Int)).tmod 16 = (((x + i) % 16 : Nat) : Int) := by
  rw [Int.tmod_eq_emod_of_nonneg (by omega)]; omega

set_option maxRecDepth 100000 in
theorem next_any (s n : Int) (w : World) : Calls Try.prog 18 #[.int .i64 s, .int .i64 n] w fun e w' => e = .returned (.int .i64 (nextV s n)) ∧ w = w' := by
  have hm := NodesF.and_15 n
  obtain ⟨x, hx⟩ : ∃ x, (n % 16).toNat = x := ⟨_, rfl⟩
  have hx16 : x < 16 := by omega
  have hnx : n % 16 = (x : Int) := by omega
  have HV : Hid (nextV s n = NodesF.nextG (NodesF.lowN s) x 16) := by unfold nextV; rw [hx]; exact Lib.hid rfl
  clear hx
  go_enter Try.func18, Try.ntmps18
  go_wp2
  clear hm hnx
  go_loop [5] (fun c => ∃ i : Nat, c = .int .i64 (i : Int) ∧ 1 ≤ i ∧ i ≤ 17 ∧ NodesF.nextG (NodesF.lowN s) x (17 - i) = NodesF.nextG (NodesF.lowN s) x 16) (fun c => (17 - intOf c).toNat)
  case atStart => exact ⟨1, rfl, by omega, by omega, rfl⟩
  case round =>
    obtain ⟨i, rfl, hi1, hi2, heq⟩ := hrel
    have HEQ := Lib.hid heq
    clear heq
    by_cases h : i ≤ 16
    · have hmod := mod_step x i hx16 h
      have HS := Lib.hid (NodesF.next_step (NodesF.lowN s) x i hi1 h)
      obtain ⟨a, ha⟩ : ∃ a, (x + i) % 16 = a := ⟨_, rfl⟩
      have ha16 : a < 16 := by omega
      rw [ha] at hmod
      have HA := Lib.hid ha
      have HL := Lib.hid (NodesF.has_low s a ha16)
      clear ha
      obtain ⟨b, hb⟩ : ∃ b, NodesF.hasN s a = b := ⟨_, rfl⟩
      have HB := Lib.hid hb
      clear hb
      go_wp2_with fail
      ((with_reducible refine (has_in s a _ ha16).mono ?_); skip)
      rintro e w1 ⟨rfl, rfl⟩
      rw [HB.out]
      cases b with
      | true =>
        have HN : Hid (NodesF.nextG (NodesF.lowN s) x 16 = (a : Int)) := by
          rw [← HEQ.out, HS.out, HA.out, if_pos (by have := HL.out; rw [HB.out] at this; exact of_decide_eq_true this.symm)]; exact Lib.hid rfl
        go_wp2
        go_ret
        exact ⟨by rw [HV.out, HN.out]; rfl, rfl⟩
      | false =>
        have HN : Hid (NodesF.nextG (NodesF.lowN s) x (17 - (i + 1)) = NodesF.nextG (NodesF.lowN s) x 16) := by
          rw [← HEQ.out, HS.out, HA.out, if_neg (by have := HL.out; rw [HB.out] at this; exact of_decide_eq_false this.symm)]; exact Lib.hid rfl
        go_wp2
        go_round
        case rel => exact ⟨i + 1, by go_num, by omega, by omega, HN.out⟩
        case measure => simp [intOf]; omega
    · obtain rfl : i = 17 := by omega
      go_wp2
      go_ret
      exact ⟨by rw [HV.out, ← HEQ.out]; rfl, rfl⟩

set_option maxRecDepth 100000 in
theorem refnext_any (s n : Int) (w : World) : Calls Try.prog 19 #[.int .i64 s, .int .i64 n] w fun e w' => e = .returned (.int .i64 (nextV s n)) ∧ w = w' := by
  have hm := NodesF.and_15 n
  obtain ⟨x, hx⟩ : ∃ x, (n % 16).toNat = x := ⟨_, rfl⟩
  have hx16 : x < 16 := by omega
  have hnx : n % 16 = (x : Int) := by omega
  have HV : Hid (nextV s n = NodesF.nextG (NodesF.lowN s) x 16) := by unfold nextV; rw [hx]; exact Lib.hid rfl
  rw [hnx] at hm
  clear hx hnx
  go_enter Try.func19, Try.ntmps19
  go_wp2
  go_loop [5] (fun c => ∃ i : Nat, c = .int .i64 (i : Int) ∧ 1 ≤ i ∧ i ≤ 17 ∧ NodesF.nextG (NodesF.lowN s) x (17 - i) = NodesF.nextG (NodesF.lowN s) x 16) (fun c => (17 - intOf c).toNat)
  case atStart => exact ⟨1, rfl, by omega, by omega, rfl⟩
  case round =>
    obtain ⟨i, rfl, hi1, hi2, heq⟩ := hrel
    have HEQ := Lib.hid heq
    clear heq
    by_cases h : i ≤ 16
    · have HS := Lib.hid (NodesF.next_step (NodesF.lowN s) x i hi1 h)
      have hmod := NodesF.and_15 ((x : Int) + (i : Int))
      obtain ⟨a, ha⟩ : ∃ a, (x + i) % 16 = a := ⟨_, rfl⟩
      have ha16 : a < 16 := by omega
      have e : ((x : Int) + (i : Int)) % 16 = (a : Int) := by omega
      rw [e] at hmod
      have HA := Lib.hid ha
      have HL := Lib.hid (NodesF.has_low s a ha16)
      clear ha e
      obtain ⟨b, hb⟩ : ∃ b, NodesF.hasN s a = b := ⟨_, rfl⟩
      have HB := Lib.hid hb
      clear hb
      go_wp2_with fail
      ((with_reducible refine (refhas_in s a _ ha16).mono ?_); skip)
      rintro e w1 ⟨rfl, rfl⟩
      rw [HB.out]
      cases b with
      | true =>
        have HN : Hid (NodesF.nextG (NodesF.lowN s) x 16 = (a : Int)) := by
          rw [← HEQ.out, HS.out, HA.out, if_pos (by have := HL.out; rw [HB.out] at this; exact of_decide_eq_true this.symm)]; exact Lib.hid rfl
        go_wp2
        go_ret
        exact ⟨by rw [HV.out, HN.out]; rfl, rfl⟩
      | false =>
        have HN : Hid (NodesF.nextG (NodesF.lowN s) x (17 - (i + 1)) = NodesF.nextG (NodesF.lowN s) x 16) := by
          rw [← HEQ.out, HS.out, HA.out, if_neg (by have := HL.out; rw [HB.out] at this; exact of_decide_eq_false this.symm)]; exact Lib.hid rfl
        go_wp2
        go_round
        case rel => exact ⟨i + 1, by go_num, by omega, by omega, HN.out⟩
        case measure => simp [intOf]; omega
    · obtain rfl : i = 17 := by omega
      go_wp2
      go_ret
      exact ⟨by rw [HV.out, ← HEQ.out]; rfl, rfl⟩

theorem low_any (s : Int) (w : World) : Calls Try.prog 14 #[.int .i64 s] w fun e w' => e = .returned (.int .i64 (nextV s 15)) ∧ w = w' := by
  go_enter Try.func14, Try.ntmps14
  go_wp2_with fail
  ((with_reducible refine (next_any s 15 _).mono ?_); skip)
  rintro e w1 ⟨rfl, rfl⟩
  go_wp2
  go_ret
  exact ⟨rfl, rfl⟩

set_option maxRecDepth 100000 in
theorem reflow_any (s : Int) (w : World) : Calls Try.prog 15 #[.int .i64 s] w fun e w' => e = .returned (.int .i64 (nextV s 15)) ∧ w = w' := by
  have HV : Hid (nextV s 15 = NodesF.nextG (NodesF.lowN s) 15 16) := Lib.hid rfl
  go_enter Try.func15, Try.ntmps15
  go_wp2
  go_loop [4] (fun c => ∃ i : Nat, c = .int .i64 (i : Int) ∧ i ≤ 16 ∧ NodesF.nextG (NodesF.lowN s) 15 (17 - (i + 1)) = NodesF.nextG (NodesF.lowN s) 15 16) (fun c => (16 - intOf c).toNat)
  case atStart => exact ⟨0, rfl, by omega, rfl⟩
  case round =>
    obtain ⟨i, rfl, hi2, heq⟩ := hrel
    have HEQ := Lib.hid heq
    clear heq
    by_cases h : i < 16
    · have HS := Lib.hid (NodesF.next_step (NodesF.lowN s) 15 (i + 1) (by omega) (by omega))
      have HA := Lib.hid (show (15 + (i + 1)) % 16 = i by omega)
      have HL := Lib.hid (NodesF.has_low s i h)
      obtain ⟨b, hb⟩ : ∃ b, NodesF.hasN s i = b := ⟨_, rfl⟩
      have HB := Lib.hid hb
      clear hb
      go_wp2_with fail
      ((with_reducible refine (refhas_in s i _ h).mono ?_); skip)
      rintro e w1 ⟨rfl, rfl⟩
      rw [HB.out]
      cases b with
      | true =>
        have HN : Hid (NodesF.nextG (NodesF.lowN s) 15 16 = (i : Int)) := by
          rw [← HEQ.out, HS.out, HA.out, if_pos (by have := HL.out; rw [HB.out] at this; exact of_decide_eq_true this.symm)]; exact Lib.hid rfl
        go_wp2
        go_ret
        exact ⟨by rw [HV.out, HN.out]; rfl, rfl⟩
      | false =>
        have HN : Hid (NodesF.nextG (NodesF.lowN s) 15 (17 - (i + 1 + 1)) = NodesF.nextG (NodesF.lowN s) 15 16) := by
          rw [← HEQ.out, HS.out, HA.out, if_neg (by have := HL.out; rw [HB.out] at this; exact of_decide_eq_false this.symm)]; exact Lib.hid rfl
        go_wp2
        go_round
        case rel => exact ⟨i + 1, by go_num, by omega, HN.out⟩
        case measure => simp [intOf]; omega
    · obtain rfl : i = 16 := by omega
      go_wp2
      go_ret
      exact ⟨by rw [HV.out, ← HEQ.out]; rfl, rfl⟩

/-- What Highest answers. -/
def highV (s : Int) : Int := NodesF.highG (NodesF.lowN s) 16
theorem len8_nat : ∀ q : Fin 256, Lib.len8 (q.val : Int) = NodesF.highG q.val 8 + 1 := by decide +kernel
theorem high8_le : ∀ q : Fin 256, -1 ≤ NodesF.highG q.val 8 ∧ NodesF.highG q.val 8 < 8 := by decide +kernel

set_option maxRecDepth 100000 in
theorem len16_any (x : Nat) (w : World) (h : x < 65536) : Calls Try.prog 24 #[.int .u16 (x : Int)] w fun e w' => e = .returned (.int .i64 (NodesF.highG x 16 + 1)) ∧ w = w' := by
  by_cases h2 : 256 ≤ x
  · obtain ⟨y, hy⟩ : ∃ y, x / 256 = y := ⟨_, rfl⟩
    have hy2 : y < 256 := by omega
    have e0 : (x : Int) / 256 = (y : Int) := by omega
    have e1 : (y : Int) % 256 = (y : Int) := by omega
    have hq : (256 : Int) ≤ (x : Int) := by omega
    have hy3 : (y : Int) ≤ 255 := by omega
    have hy0 : (0 : Int) ≤ (y : Int) := by omega
    have l := len8_nat ⟨y, hy2⟩
    have l2 := high8_le ⟨y, hy2⟩
    simp only at l l2
    have HW := Lib.hid (NodesF.high_wide x h h2)
    rw [hy] at HW
    have HL2 := Lib.hid l2
    have HL := Lib.hid l
    clear l2 hy l
    go_enter Try.func24, Try.ntmps24
    go_wp2
    go_ret
    refine ⟨congrArg Ending.returned (congrArg (Value.int IntKind.i64) ?_), rfl⟩
    rw [HW.out, HL.out]
    have := HL2.out
    unfold wrap64
    omega
  · have hq : ¬ (256 : Int) ≤ (x : Int) := by omega
    have hy2 : x < 256 := by omega
    have e1 : (x : Int) % 256 = (x : Int) := by omega
    have hy3 : (x : Int) ≤ 255 := by omega
    have hy0 : (0 : Int) ≤ (x : Int) := by omega
    have l := len8_nat ⟨x, hy2⟩
    have l2 := high8_le ⟨x, hy2⟩
    simp only at l l2
    have HW := Lib.hid (NodesF.high_small x hy2)
    have HL2 := Lib.hid l2
    have HL := Lib.hid l
    clear l2 l
    go_enter Try.func24, Try.ntmps24
    go_wp2
    go_ret
    refine ⟨congrArg Ending.returned (congrArg (Value.int IntKind.i64) ?_), rfl⟩
    rw [HW.out, HL.out]
    have := HL2.out
    unfold wrap64
    omega
theorem high_any (s : Int) (w : World) : Calls Try.prog 16 #[.int .i64 s] w fun e w' => e = .returned (.int .i64 (highV s)) ∧ w = w' := by
  have hl : IntKind.u16.wrap s = (NodesF.lowN s : Int) := by rw [NodesF.lowN_int]; simp [IntKind.wrap, IntKind.bits, IntKind.signed]
  have hlt := NodesF.lowN_lt s
  have HV : Hid (highV s = NodesF.highG (NodesF.lowN s) 16) := Lib.hid rfl
  have hr : -1 ≤ NodesF.highG (NodesF.lowN s) 16 ∧ NodesF.highG (NodesF.lowN s) 16 < 16 := by
    rcases NodesF.high_pre (NodesF.lowN s) 16 with ⟨_, e⟩ | ⟨a, l, hp, e⟩
    · rw [e]; omega
    · have := NodesF.nodes_mem (NodesF.lowN s) 16 (by omega) a (by rw [← NodesF.pre_all, hp]; simp)
      rw [e]; omega
  obtain ⟨hr1, hr2⟩ := hr
  generalize hg : NodesF.highG (NodesF.lowN s) 16 = g at *
  have HG := Lib.hid hg
  have hc := len16_any (NodesF.lowN s)
  rw [hg] at hc
  have HC := Lib.hid hc
  clear hc hg
  go_enter Try.func16, Try.ntmps16
  go_wp2_with fail
  ((with_reducible refine (HC.out _ hlt).mono ?_); skip)
  rintro e w1 ⟨rfl, rfl⟩
  have q : g + 1 - 1 = g := by omega
  go_wp2
  go_ret
  exact ⟨by rw [HV.out]; first | rfl | (rw [← q]; rfl), rfl⟩

set_option maxRecDepth 100000 in
theorem refhigh_any (s : Int) (w : World) : Calls Try.prog 17 #[.int .i64 s] w fun e w' => e = .returned (.int .i64 (highV s)) ∧ w = w' := by
  have HV : Hid (highV s = NodesF.highG (NodesF.lowN s) 16) := Lib.hid rfl
  go_enter Try.func17, Try.ntmps17
  go_wp2
  go_loop [3] (fun c => ∃ i : Nat, c = .int .i64 ((i : Int) - 1) ∧ i ≤ 16 ∧ NodesF.highG (NodesF.lowN s) i = NodesF.highG (NodesF.lowN s) 16) (fun c => (intOf c + 1).toNat)
  case atStart => exact ⟨16, rfl, by omega, rfl⟩
  case round =>
    obtain ⟨i, rfl, hi2, heq⟩ := hrel
    have HEQ := Lib.hid heq
    clear heq
    rcases i with _ | i
    · go_wp2
      go_ret
      exact ⟨by rw [HV.out, ← HEQ.out]; rfl, rfl⟩
    · have e0 : (((i + 1 : Nat) : Int) - 1) = (i : Int) := by omega
      rw [e0]
      have HS : Hid (NodesF.highG (NodesF.lowN s) (i + 1) = if (NodesF.lowN s) / 2 ^ i % 2 = 1 then (i : Int) else NodesF.highG (NodesF.lowN s) i) := Lib.hid rfl
      have HL := Lib.hid (NodesF.has_low s i (by omega))
      obtain ⟨b, hb⟩ : ∃ b, NodesF.hasN s i = b := ⟨_, rfl⟩
      have HB := Lib.hid hb
      clear hb e0
      have h0 : (0 : Int) ≤ (i : Int) := by omega
      go_wp2_with fail
      ((with_reducible refine (refhas_in s i _ (by omega)).mono ?_); skip)
      rintro e w1 ⟨rfl, rfl⟩
      rw [HB.out]
      cases b with
      | true =>
        have HN : Hid (NodesF.highG (NodesF.lowN s) 16 = (i : Int)) := by
          rw [← HEQ.out, HS.out, if_pos (by have := HL.out; rw [HB.out] at this; exact of_decide_eq_true this.symm)]; exact Lib.hid rfl
        go_wp2
        go_ret
        exact ⟨by rw [HV.out, HN.out]; rfl, rfl⟩
      | false =>
        have HN : Hid (NodesF.highG (NodesF.lowN s) i = NodesF.highG (NodesF.lowN s) 16) := by
          rw [← HEQ.out, HS.out, if_neg (by have := HL.out; rw [HB.out] at this; exact of_decide_eq_false this.symm)]; exact Lib.hid rfl
        go_wp2
        go_round
        case rel => exact ⟨i, rfl, by omega, HN.out⟩
        case measure => simp [intOf]
end Go.Proofs.Ytnhfadmnfppnfaa
