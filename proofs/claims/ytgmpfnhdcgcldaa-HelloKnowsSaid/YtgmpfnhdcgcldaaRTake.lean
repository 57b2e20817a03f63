/- The contract of the document's own Take. -/
import Derived.Test.YtgmpfnhdcgcldaaPTake
namespace Go.Proofs.Ytgmpfnhdcgcldaa
open Go.RowKit

theorem rtake_step (s : ByteArray) (a : Nat) (h : a < s.size) (h8 : a < 8) :
    PackF.valL (List.take a s.data.toList) * 256 + s[a].toNat < 18446744073709551616 ∧ PackF.valL (s.data.toList.take (a + 1)) = PackF.valL (List.take a s.data.toList) * 256 + s[a].toNat := by
  have hl : a < s.data.toList.length := by rw [size_list]; exact h
  have e : s.data.toList.take (a + 1) = s.data.toList.take a ++ [s[a]] := by rw [List.take_succ_eq_append_getElem hl]; rfl
  have hv := PackF.valL_lt (s.data.toList.take a)
  have hlen : (s.data.toList.take a).length = a := by rw [List.length_take]; omega
  rw [hlen] at hv
  have hp : 256 ^ a ≤ 256 ^ 7 := Nat.pow_le_pow_right (by omega) (by omega)
  have hc := s[a].toNat_lt
  rw [e, PackF.valL_snoc]
  exact ⟨by omega, rfl⟩

set_option maxHeartbeats 400000 in
theorem rtake_any (s : ByteArray) (k : Int) (w : World) (hs : s.size ≤ maxLen) :
    Calls Try.prog 23 #[.string s, .int .i64 k] w fun e w' => e = .returned (takeV s.data.toList k) ∧ ∃ n, w' = w.drewN n := by
  unfold maxLen at hs
  by_cases h0 : k < 0
  · go_enter Try.func23, Try.ntmps23
    go_wp2
    go_ret3
    exact ⟨congrArg _ (takeV_arg _ _ (.inl h0)).symm, 0, rfl⟩
  · by_cases h8 : 8 < k
    · go_enter Try.func23, Try.ntmps23
      go_wp2
      go_ret3
      exact ⟨congrArg _ (takeV_arg _ _ (.inr h8)).symm, 0, rfl⟩
    · by_cases hl : (s.size : Int) < k
      · go_enter Try.func23, Try.ntmps23
        go_wp2
        go_ret3
        exact ⟨congrArg _ (takeV_short _ _ (by omega) (by rw [size_list]; exact hl)).symm, 0, rfl⟩
      · obtain ⟨j, rfl⟩ := Int.eq_ofNat_of_zero_le (by omega : 0 ≤ k)
        have hV := takeV_ok s j (by omega) hl
        have HV := Lib.hid hV
        clear hV
        go_enter Try.func23, Try.ntmps23
        go_wp2
        go_loop [7, 20] (fun n i => ∃ a : Nat, a ≤ j ∧ i = .int .i64 a ∧ n = .int .u64 (PackF.valL (s.data.toList.take a) : Nat)) (fun _ i => j - (intOf i).toNat)
        case atStart => exact ⟨0, Nat.zero_le _, rfl, rfl⟩
        case round =>
          obtain ⟨a, ha, rfl, rfl⟩ := hrel
          by_cases hlt : a < j
          · obtain ⟨hb, hq⟩ := rtake_step s a (by omega) (by omega)
            have HS := Lib.hid hq
            clear hq
            go_wp2
            go_round
            case rel => exact ⟨a + 1, by omega, by go_num, by rw [HS.out]; exact congrArg _ (by omega)⟩
            case measure => simp [intOf]; omega
          · obtain rfl : a = j := by omega
            go_wp2
            go_quiet (fail)
            go_wp2
            go_ret3
            exact ⟨congrArg _ HV.out.symm, nq, rfl⟩
end Go.Proofs.Ytgmpfnhdcgcldaa
