/- The contract of pack.Take. -/
import Derived.Test.YtdpcpjloacifpaaBase
import Derived.Test.YtdpcpjloacifpaaPackF
namespace Go.Proofs.Ytdpcpjloacifpaa
open Go.RowKit

/-- What Take answers. -/
def takeV (l : List UInt8) (k : Int) : Value :=
  .tuple #[.int .u64 ((PackF.takeF l k).1 : Int), .string (str (PackF.takeF l k).2.1), .int .i64 (PackF.takeF l k).2.2]

theorem takeV_arg (l : List UInt8) (k : Int) (h : k < 0 ∨ 8 < k) : takeV l k = .tuple #[.int .u64 0, .string ⟨#[]⟩, .int .i64 1] := by
  unfold takeV PackF.takeF; rw [if_pos h]; rfl
theorem takeV_short (l : List UInt8) (k : Int) (h : ¬ (k < 0 ∨ 8 < k)) (h2 : (l.length : Int) < k) : takeV l k = .tuple #[.int .u64 0, .string ⟨#[]⟩, .int .i64 2] := by
  unfold takeV PackF.takeF; rw [if_neg h, if_pos h2]; rfl
theorem takeV_ok (s : ByteArray) (j : Nat) (h : ¬ ((j : Int) < 0 ∨ 8 < (j : Int))) (h2 : ¬ (s.size : Int) < j) :
    takeV s.data.toList j = .tuple #[.int .u64 (PackF.valL (s.data.toList.take j) : Nat), .string (s.extract j s.size), .int .i64 0] := by
  unfold takeV PackF.takeF; rw [if_neg h, if_neg (by rw [size_list]; exact h2), str_drop]; rfl

theorem take_step (s : ByteArray) (a : Nat) (h : a < s.size) (h8 : a < 8) :
    bits BinOp.or IntKind.u64 (IntKind.u64.wrap (↑(PackF.valL (List.take a s.data.toList)) * 256)) (IntKind.u64.wrap ↑(s[a].toNat)) = ((PackF.valL (s.data.toList.take (a + 1)) : Nat) : Int) := by
  have hl : a < s.data.toList.length := by rw [size_list]; exact h
  have e : s.data.toList.take (a + 1) = s.data.toList.take a ++ [s[a]] := by rw [List.take_succ_eq_append_getElem hl]; rfl
  have hv := PackF.valL_lt (s.data.toList.take a)
  have hlen : (s.data.toList.take a).length = a := by rw [List.length_take]; omega
  rw [hlen] at hv
  have hp : 256 ^ a ≤ 256 ^ 7 := Nat.pow_le_pow_right (by omega) (by omega)
  have hc := s[a].toNat_lt
  rw [e, PackF.valL_snoc]
  generalize PackF.valL (s.data.toList.take a) = v at *
  generalize s[a].toNat = c at *
  rw [IntKind.wrap_u64, IntKind.wrap_u64]
  have e1 : ((v : Int) * 256) % 18446744073709551616 = ((v * 256 : Nat) : Int) := by omega
  have e2 : (c : Int) % 18446744073709551616 = (c : Int) := by omega
  rw [e1, e2, u64_or_nat _ _ (by omega) (by omega), nat_join 8 _ _ (by omega) (by omega)]

set_option maxHeartbeats 400000 in
theorem take_any (s : ByteArray) (k : Int) (w : World) (hs : s.size ≤ maxLen) :
    Calls Try.prog 24 #[.string s, .int .i64 k] w fun e w' => e = .returned (takeV s.data.toList k) ∧ ∃ n, w' = w.drewN n := by
  unfold maxLen at hs
  by_cases h0 : k < 0
  · go_enter Try.func24, Try.ntmps24
    go_wp2
    go_ret3
    exact ⟨congrArg _ (takeV_arg _ _ (.inl h0)).symm, 0, rfl⟩
  · by_cases h8 : 8 < k
    · go_enter Try.func24, Try.ntmps24
      go_wp2
      go_ret3
      exact ⟨congrArg _ (takeV_arg _ _ (.inr h8)).symm, 0, rfl⟩
    · by_cases hl : (s.size : Int) < k
      · go_enter Try.func24, Try.ntmps24
        go_wp2
        go_ret3
        exact ⟨congrArg _ (takeV_short _ _ (by omega) (by rw [size_list]; exact hl)).symm, 0, rfl⟩
      · obtain ⟨j, rfl⟩ := Int.eq_ofNat_of_zero_le (by omega : 0 ≤ k)
        have hV := takeV_ok s j (by omega) hl
        have HV := Lib.hid hV
        clear hV
        go_enter Try.func24, Try.ntmps24
        go_wp2
        go_loop [7, 20] (fun n i => ∃ a : Nat, a ≤ j ∧ i = .int .i64 a ∧ n = .int .u64 (PackF.valL (s.data.toList.take a) : Nat)) (fun _ i => j - (intOf i).toNat)
        case atStart => exact ⟨0, Nat.zero_le _, rfl, rfl⟩
        case round =>
          obtain ⟨a, ha, rfl, rfl⟩ := hrel
          by_cases hlt : a < j
          · have HS := Lib.hid (take_step s a (by omega) (by omega))
            go_wp2
            go_round
            case rel => exact ⟨a + 1, by omega, by go_num, congrArg _ HS.out⟩
            case measure => simp [intOf]; omega
          · obtain rfl : a = j := by omega
            go_wp2
            go_quiet (fail)
            go_wp2
            go_ret3
            exact ⟨congrArg _ HV.out.symm, nq, rfl⟩
end Go.Proofs.Ytdpcpjloacifpaa
