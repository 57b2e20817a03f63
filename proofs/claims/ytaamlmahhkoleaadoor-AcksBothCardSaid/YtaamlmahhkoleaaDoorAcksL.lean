/- The document's own answer for package acks, part L: Has, Of. -/
import Derived.Test.YtaamlmahhkoleaaDoorAcksF
import Derived.Test.YtaamlmahhkoleaaDoorInts
import Derived.Test.YtaamlmahhkoleaaDoorQuiet
namespace Go.Proofs.YtaamlmahhkoleaaDoor
open Go.RowKit Go.Sort

set_option maxHeartbeats 400000 in
theorem rhas_any (f a b c d n s seq : Int) (hn : n < 9223372036854775808) (hq : -9223372036854775808 ≤ seq ∧ seq < 9223372036854775808) :
    Gives Tryd.prog 22 #[(.agg #[.int .i64 f, .int .u32 a, .int .u32 b, .int .u32 c, .int .u32 d, .int .i64 n, .int .i64 s] : Value), .int .i64 seq] (.bool (AcksF.hasB n s seq)) := by
  intro w
  have HB := Lib.hid ((Below.refl w.heap.size w).alloc (Nat.le_refl _) (.cells #[.int .i64 f, .int .u32 a, .int .u32 b, .int .u32 c, .int .u32 d, .int .i64 n, .int .i64 s] 30))
  by_cases h0 : seq < n
  · have HV := Lib.hid (AcksF.hasB_low s h0)
    rw [HV.out]
    go_enter Tryd.func22, Tryd.ntmps22
    go_wp2
    go_ret
    exact ⟨rfl, HB.out⟩
  · have d0 : decide (seq < n) = false := decide_eq_false h0
    by_cases h1 : n < 0
    · have HV := Lib.hid (AcksF.hasB_off s h0 (.inl h1))
      have d1 : decide (n < 0) = true := decide_eq_true h1
      rw [HV.out]
      clear h0 h1
      go_enter Tryd.func22, Tryd.ntmps22
      go_wp2
      go_ret
      exact ⟨rfl, HB.out⟩
    · have d1 : decide (n < 0) = false := decide_eq_false h1
      by_cases h2 : 65535 < seq
      · have HV := Lib.hid (AcksF.hasB_off s h0 (.inr (.inl h2)))
        have d2 : decide (65535 < seq) = true := decide_eq_true h2
        rw [HV.out]
        clear h0 h1 h2
        go_enter Tryd.func22, Tryd.ntmps22
        go_wp2
        go_ret
        exact ⟨rfl, HB.out⟩
      · have d2 : decide (65535 < seq) = false := decide_eq_false h2
        by_cases h3 : 7 < seq - n
        · have HV := Lib.hid (AcksF.hasB_off s h0 (.inr (.inr (by omega))))
          have e1 : wrap64 (seq - n) = seq - n := IntWalk.wrap64_in _ (by omega)
          have d3 : decide (7 < seq - n) = true := decide_eq_true h3
          rw [HV.out]
          clear h0 h1 h2 h3
          go_enter Tryd.func22, Tryd.ntmps22
          go_wp2
          go_ret
          exact ⟨rfl, HB.out⟩
        · obtain ⟨k, hk⟩ := Int.eq_ofNat_of_zero_le (show 0 ≤ seq - n by omega)
          have HV := Lib.hid (AcksF.hasB_in s (by omega) (k := k) (by omega) hk (by omega))
          have e1 : wrap64 (seq - n) = (k : Int) := by rw [hk]; exact IntWalk.wrap64_in _ (by omega)
          have d3 : decide (7 < (k : Int)) = false := decide_eq_false (by omega)
          have k0 : (0 : Int) ≤ (k : Int) := by omega
          have k1 : (k : Int) ≤ 64 := by omega
          have ha := NodesF.and_one (s / 2 ^ k)
          have hb : (s / 2 ^ k % 2 == 1) = NodesF.hasN s k := by unfold NodesF.hasN; rfl
          rw [HV.out]
          clear h0 h1 h2 h3 hk hq hn
          go_enter Tryd.func22, Tryd.ntmps22
          go_wp2
          go_ret
          exact ⟨rfl, HB.out⟩

set_option maxHeartbeats 400000 in
theorem rof_any (next : Int) (a : Option Addr) (c : Nat) (l : List Int) (w : World) (hl : IntAt w a l) (hsz : l.length ≤ 1000) (hn : next < 9223372036854775808) :
    Calls Tryd.prog 23 #[.int .i64 next, .slice a l.length c] w fun e w' => e = .returned (.tuple #[.int .i64 next, .int .i64 (AcksF.ofN next l : Int)]) ∧ w = w' := by
  obtain ⟨n, hn'⟩ : ∃ n, l.length = n := ⟨_, rfl⟩
  rw [hn'] at hsz ⊢
  have HN := Lib.hid hn'
  have HL := Lib.hid hl
  clear hn' hl
  go_enter Tryd.func23, Tryd.ntmps23
  go_wp2
  go_loop [6, 11] (fun v i => ∃ k : Nat, k ≤ n ∧ i = .int .i64 (k : Int) ∧ v = .int .i64 (AcksF.ofN next (l.take k) : Int)) (fun _ i => n - (intOf i).toNat)
  case atStart => exact ⟨0, Nat.zero_le _, rfl, rfl⟩
  case round =>
    obtain ⟨k, hk, rfl, rfl⟩ := hrel
    by_cases h : k < n
    · obtain ⟨x, hx⟩ : ∃ x, l[k]? = some x := ⟨_, List.getElem?_eq_getElem (by rw [HN.out]; exact h)⟩
      obtain ⟨hw, b, rfl, hc⟩ := HL.out k x hx
      have e : l.take (k + 1) = l.take k ++ [x] := by rw [List.take_add_one, hx]; rfl
      have HS : Hid (bits BinOp.or .i64 (AcksF.ofN next (l.take k) : Int) (AcksF.bitN next x : Int) = (AcksF.ofN next (l.take (k + 1)) : Int)) := Lib.hid (by
        rw [e, AcksF.ofN_snoc, AcksF.or_nat _ _ (AcksF.ofN_lt _ _) (AcksF.bitN_lt _ _)])
      have HZ : Hid (AcksF.bitN next x = 0 → AcksF.ofN next (l.take (k + 1)) = AcksF.ofN next (l.take k)) := Lib.hid (fun h0 => by rw [e, AcksF.ofN_snoc, h0, Nat.or_zero])
      clear hx e
      by_cases h1 : next ≤ x
      · have d1 : decide (next ≤ x) = true := decide_eq_true h1
        by_cases h2 : 0 ≤ next
        · have d2 : decide (0 ≤ next) = true := decide_eq_true h2
          by_cases h3 : x - next ≤ 7
          · obtain ⟨j, hj⟩ := Int.eq_ofNat_of_zero_le (show 0 ≤ x - next by omega)
            have e1 : wrap64 (x - next) = (j : Int) := by rw [hj]; exact IntWalk.wrap64_in _ (by omega)
            have d3 : decide ((j : Int) ≤ 7) = true := decide_eq_true (by omega)
            have k0 : (0 : Int) ≤ (j : Int) := by omega
            have k1 : (j : Int) ≤ 64 := by omega
            have hj16 : j < 16 := by omega
            have hwp : wrap64 (2 ^ j) = 2 ^ j := by
              rcases NodesF.n16 j hj16 with h | h | h | h | h | h | h | h | h | h | h | h | h | h | h | h <;> subst h <;> exact IntWalk.wrap64_in _ (by decide)
            have HS2 : Hid (bits BinOp.or .i64 (AcksF.ofN next (l.take k) : Int) (2 ^ j) = (AcksF.ofN next (l.take (k + 1)) : Int)) := Lib.hid (by
              have h9 := HS.out
              rw [AcksF.bitN_in h2 (k := j) (by omega) hj] at h9
              have e : ((2 ^ j : Nat) : Int) = 2 ^ j := by simp
              rwa [e] at h9)
            clear h1 h2 h3 hj hj16 HS HZ hw
            go_wp2
            go_round
            case rel => exact ⟨k + 1, by omega, by go_num, congrArg _ HS2.out⟩
            case measure => simp [intOf]; omega
          · have e1 : wrap64 (x - next) = x - next := IntWalk.wrap64_in _ (by omega)
            have d3 : decide (x - next ≤ 7) = false := decide_eq_false h3
            have HS2 := Lib.hid (HZ.out (AcksF.bitN_out (.inr (.inr (by omega)))))
            clear h1 h2 h3 HS HZ hw
            go_wp2
            go_round
            case rel => exact ⟨k + 1, by omega, by go_num, by rw [HS2.out]⟩
            case measure => simp [intOf]; omega
        · have d2 : decide (0 ≤ next) = false := decide_eq_false h2
          have HS2 := Lib.hid (HZ.out (AcksF.bitN_out (.inl (by omega))))
          clear h1 h2 HS HZ hw
          go_wp2
          go_round
          case rel => exact ⟨k + 1, by omega, by go_num, by rw [HS2.out]⟩
          case measure => simp [intOf]; omega
      · have d1 : decide (next ≤ x) = false := decide_eq_false h1
        have HS2 := Lib.hid (HZ.out (AcksF.bitN_out (.inr (.inl (by omega)))))
        clear h1 HS HZ hw
        go_wp2
        go_round
        case rel => exact ⟨k + 1, by omega, by go_num, by rw [HS2.out]⟩
        case measure => simp [intOf]; omega
    · obtain rfl : k = n := by omega
      go_wp2
      go_ret2
      exact ⟨by rw [← HN.out, List.take_length]; rfl, rfl⟩
end Go.Proofs.YtaamlmahhkoleaaDoor
