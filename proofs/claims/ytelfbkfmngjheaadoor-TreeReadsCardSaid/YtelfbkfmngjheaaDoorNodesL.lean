/- Contracts of package nodes: Next, Lowest (NodesH has Highest, too, and the document's own). -/
import Derived.Test.YtelfbkfmngjheaaDoorNodesA
import Derived.Test.YtelfbkfmngjheaaDoorNodesG
namespace Go.Proofs.YtelfbkfmngjheaaDoor
open Go.RowKit

/-- What Next answers. -/
def nextV (s n : Int) : Int := NodesF.nextG (NodesF.lowN s) (n % 16).toNat 16
theorem mod_step (x : Nat) (i : Nat) (hx : x < 16) (hi : i ≤ 16) : ((x : Int) + (i : Int)).tmod 16 = (((x + i) % 16 : Nat) : Int) := by
  rw [Int.tmod_eq_emod_of_nonneg (by omega)]; omega

set_option maxRecDepth 100000 in
theorem next_any (s n : Int) (w : World) : Calls Tryd.prog 45 #[.int .i64 s, .int .i64 n] w fun e w' => e = .returned (.int .i64 (nextV s n)) ∧ w = w' := by
  have hm := NodesF.and_15 n
  obtain ⟨x, hx⟩ : ∃ x, (n % 16).toNat = x := ⟨_, rfl⟩
  have hx16 : x < 16 := by omega
  have hnx : n % 16 = (x : Int) := by omega
  have HV : Hid (nextV s n = NodesF.nextG (NodesF.lowN s) x 16) := by unfold nextV; rw [hx]; exact Lib.hid rfl
  clear hx
  go_enter Tryd.func45, Tryd.ntmps45
  go_wp2
  clear hm hnx
  go_loop [5] (fun c => ∃ i : Nat, c = .int .i64 (i : Int) ∧ 1 ≤ i ∧ i ≤ 17 ∧ NodesF.nextG (NodesF.lowN s) x (17 - i) = NodesF.nextG (NodesF.lowN s) x 16) (fun c => (17 - intOf c).toNat)
  case atStart => exact ⟨1, rfl, by omega, by omega, rfl⟩
  case round =>
    obtain ⟨i, rfl, hi1, hi2, heq⟩ := hrel
    have HEQ := Lib.hid heq
    clear heq
    by_cases h : i ≤ 16
    · have hmod := mod_step x i hx16 h
      have HS := Lib.hid (NodesF.next_step (NodesF.lowN s) x i hi1 h)
      obtain ⟨a, ha⟩ : ∃ a, (x + i) % 16 = a := ⟨_, rfl⟩
      have ha16 : a < 16 := by omega
      rw [ha] at hmod
      have HA := Lib.hid ha
      have HL := Lib.hid (NodesF.has_low s a ha16)
      clear ha
      obtain ⟨b, hb⟩ : ∃ b, NodesF.hasN s a = b := ⟨_, rfl⟩
      have HB := Lib.hid hb
      clear hb
      go_wp2_with fail
      ((with_reducible refine (has_in s a _ ha16).mono ?_); skip)
      rintro e w1 ⟨rfl, rfl⟩
      rw [HB.out]
      cases b with
      | true =>
        have HN : Hid (NodesF.nextG (NodesF.lowN s) x 16 = (a : Int)) := by
          rw [← HEQ.out, HS.out, HA.out, if_pos (by have := HL.out; rw [HB.out] at this; exact of_decide_eq_true this.symm)]; exact Lib.hid rfl
        go_wp2
        go_ret
        exact ⟨by rw [HV.out, HN.out]; rfl, rfl⟩
      | false =>
        have HN : Hid (NodesF.nextG (NodesF.lowN s) x (17 - (i + 1)) = NodesF.nextG (NodesF.lowN s) x 16) := by
          rw [← HEQ.out, HS.out, HA.out, if_neg (by have := HL.out; rw [HB.out] at this; exact of_decide_eq_false this.symm)]; exact Lib.hid rfl
        go_wp2
        go_round
        case rel => exact ⟨i + 1, by go_num, by omega, by omega, HN.out⟩
        case measure => simp [intOf]; omega
    · obtain rfl : i = 17 := by omega
      go_wp2
      go_ret
      exact ⟨by rw [HV.out, ← HEQ.out]; rfl, rfl⟩

theorem low_any (s : Int) (w : World) : Calls Tryd.prog 31 #[.int .i64 s] w fun e w' => e = .returned (.int .i64 (nextV s 15)) ∧ w = w' := by
  go_enter Tryd.func31, Tryd.ntmps31
  go_wp2_with fail
  ((with_reducible refine (next_any s 15 _).mono ?_); skip)
  rintro e w1 ⟨rfl, rfl⟩
  go_wp2
  go_ret
  exact ⟨rfl, rfl⟩

end Go.Proofs.YtelfbkfmngjheaaDoor
