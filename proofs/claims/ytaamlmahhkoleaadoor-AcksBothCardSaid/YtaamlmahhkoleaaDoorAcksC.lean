/- Contracts of package acks, part C: Of. -/
import Derived.Test.YtaamlmahhkoleaaDoorAcksB
import Derived.Test.YtaamlmahhkoleaaDoorInts
namespace Go.Proofs.YtaamlmahhkoleaaDoor
open Go.RowKit Go.Sort

set_option maxHeartbeats 400000 in
theorem of_any (next : Int) (a : Option Addr) (c : Nat) (l : List Int) (w : World) (ht : Tab w) (hl : IntAt w a l) (hsz : l.length ≤ 1000) (hn : next < 9223372036854775808) :
    Calls Tryd.prog 8 #[.int .i64 next, .slice a l.length c] w fun e w' => e = .returned (.tuple #[.int .i64 next, .int .i64 (AcksF.ofN next l : Int)]) ∧ w = w' := by
  obtain ⟨n, hn'⟩ : ∃ n, l.length = n := ⟨_, rfl⟩
  rw [hn'] at hsz ⊢
  have HN := Lib.hid hn'
  have HL := Lib.hid hl
  have HT := Lib.hid ht
  clear hn' hl ht
  go_enter Tryd.func8, Tryd.ntmps8
  go_wp2
  go_loop [6, 11] (fun v i => ∃ k : Nat, k ≤ n ∧ i = .int .i64 (k : Int) ∧ v = .int .i64 (AcksF.ofN next (l.take k) : Int)) (fun _ i => n - (intOf i).toNat)
  case atStart => exact ⟨0, Nat.zero_le _, rfl, rfl⟩
  case round =>
    obtain ⟨k, hk, rfl, rfl⟩ := hrel
    by_cases h : k < n
    · obtain ⟨x, hx⟩ : ∃ x, l[k]? = some x := ⟨_, List.getElem?_eq_getElem (by rw [HN.out]; exact h)⟩
      obtain ⟨hw, b, rfl, hc⟩ := HL.out k x hx
      have HS : Hid (bits BinOp.or .i64 (AcksF.ofN next (l.take k) : Int) (AcksF.bitN next x : Int) = (AcksF.ofN next (l.take (k + 1)) : Int)) := Lib.hid (by
        have e : l.take (k + 1) = l.take k ++ [x] := by rw [List.take_add_one, hx]; rfl
        rw [e, AcksF.ofN_snoc, AcksF.or_nat _ _ (AcksF.ofN_lt _ _) (AcksF.bitN_lt _ _)])
      have HB := Lib.hid (bit_any next x w HT.out hn hw)
      clear hx hw
      go_wp2_with fail
      refine HB.out.mono ?_
      rintro e w1 ⟨rfl, rfl⟩
      go_wp2_with fail
      go_round
      case rel => exact ⟨k + 1, by omega, by go_num, congrArg _ HS.out⟩
      case measure => simp [intOf]; omega
    · obtain rfl : k = n := by omega
      go_wp2
      go_ret2
      exact ⟨by rw [← HN.out, List.take_length]; rfl, rfl⟩
end Go.Proofs.YtaamlmahhkoleaaDoor
