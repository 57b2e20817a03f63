/- Contracts of package acks, part B: Has. -/
import Derived.Test.YtmgmgffgbkenkaaDoorAcksA
namespace Go.Proofs.YtmgmgffgbkenkaaDoor
open Go.RowKit Go.Sort

/-- A contract whose answer is known, at every world that holds the table. -/
def GivesT (P : Program) (f : FuncId) (args : Array Value) (v : Value) : Prop := ∀ w, Tab w → Calls P f args w fun e w' => e = .returned v ∧ Below w.heap.size w w'
theorem GivesT.at {P : Program} {f : FuncId} {args : Array Value} {v : Value} (h : GivesT P f args v) {w : World} (ht : Tab w) (d : Nat) (os : Array Obj) :
    Calls P f args (grow (redrawn w d) os) fun e w'' => e = .returned v ∧ ∃ p : Regrown, w'' = grow (redrawn w p.d) p.os := Calls.regrown_of (h _ (ht.on (below_regrown w d os)))
theorem bit_gives (next seq : Int) (hn : next < 9223372036854775808) (hs : -9223372036854775808 ≤ seq ∧ seq < 9223372036854775808) :
    GivesT Tryd.prog 17 #[.int .i64 next, .int .i64 seq] (.int .i64 (AcksF.bitN next seq : Int)) := fun w ht =>
  (bit_any next seq w ht hn hs).mono fun _ _ ⟨h1, h2⟩ => ⟨h1, h2 ▸ Below.refl _ _⟩

theorem has_bit (n s seq : Int) (h0 : ¬ seq < n) (h1 : seq ≤ 65535) : (bits BinOp.and .i64 s (AcksF.bitN n seq : Int) == 0) = !AcksF.hasB n s seq := by
  by_cases h : n < 0 ∨ 8 ≤ seq - n
  · rw [AcksF.hasB_off s h0 (by omega), AcksF.bitN_out (by omega)]
    have e : bits BinOp.and .i64 s ((0 : Nat) : Int) = 0 := AcksF.and_zero s
    rw [e]; rfl
  · obtain ⟨k, hk⟩ := Int.eq_ofNat_of_zero_le (show 0 ≤ seq - n by omega)
    rw [AcksF.bitN_in (by omega) (k := k) (by omega) hk, AcksF.hasB_in s (by omega) (k := k) (by omega) hk h1, ← AcksF.and_pow_test s k (by omega)]
    have e : ((2 ^ k : Nat) : Int) = 2 ^ k := by simp
    rw [e]

set_option maxHeartbeats 1000000 in
theorem ahas_any (f a b c d n s seq : Int) (hn : n < 9223372036854775808) (hs : -9223372036854775808 ≤ seq ∧ seq < 9223372036854775808) :
    GivesT Tryd.prog 11 #[(.agg #[.int .i64 f, .int .u32 a, .int .u32 b, .int .u32 c, .int .u32 d, .int .i64 n, .int .i64 s] : Value), .int .i64 seq] (.bool (AcksF.hasB n s seq)) := by
  intro w ht
  have B := Lib.hid (bit_gives n seq hn hs)
  obtain ⟨v, hv⟩ : ∃ v, (AcksF.bitN n seq : Int) = v := ⟨_, rfl⟩
  have HX : ¬ seq < n → seq ≤ 65535 → (bits BinOp.and .i64 s v != 0) = AcksF.hasB n s seq := fun h0 h1 => by rw [← hv]; unfold bne; rw [has_bit n s seq h0 h1, Bool.not_not]
  rw [hv] at B
  have T := Lib.hid (ht.on ((Below.refl w.heap.size w).alloc (Nat.le_refl _) (.cells #[.int .i64 f, .int .u32 a, .int .u32 b, .int .u32 c, .int .u32 d, .int .i64 n, .int .i64 s] 44)))
  have K := Blk.new w [.int .i64 f, .int .u32 a, .int .u32 b, .int .u32 c, .int .u32 d, .int .i64 n, .int .i64 s] 44
  have H := Lib.hid ((Below.refl w.heap.size w).alloc (Nat.le_refl _) (.cells #[.int .i64 f, .int .u32 a, .int .u32 b, .int .u32 c, .int .u32 d, .int .i64 n, .int .i64 s] 44))
  have c5 := cell_regrown (K.cell 5 rfl)
  have c6 := cell_regrown (K.cell 6 rfl)
  clear K ht hv
  by_cases h0 : seq < n
  · have HV := Lib.hid (AcksF.hasB_low s h0)
    have d0 : decide (seq < n) = true := decide_eq_true h0
    clear HX h0
    rw [HV.out]
    go_enter Tryd.func11, Tryd.ntmps11
    go_upto_region 1 with fail
    refine wp_region_quiet_below (by kernel_rfl) (by kernel_rfl) ?_
    repeat (first | go_big_quiet_step (first | with_reducible exact B.out.at T.out _ _) | quiet_step (first | with_reducible exact B.out.at T.out _ _))
    refine wpQuiet_nil ?_
    intro _ hw'
    obtain ⟨⟨dq, osq⟩, hw''⟩ := hw'
    subst hw''
    go_wp2
    go_ret
    exact ⟨rfl, bel_on H.out (below_regrown _ dq osq)⟩
  · have d0 : decide (seq < n) = false := decide_eq_false h0
    by_cases h1 : seq ≤ 65535
    · have HE := Lib.hid (HX h0 h1)
      have d1 : decide (seq ≤ 65535) = true := decide_eq_true h1
      clear HX h0 h1
      go_enter Tryd.func11, Tryd.ntmps11
      go_upto_region 1 with fail
      refine wp_region_quiet_below (by kernel_rfl) (by kernel_rfl) ?_
      repeat (first | go_big_quiet_step (first | with_reducible exact B.out.at T.out _ _) | quiet_step (first | with_reducible exact B.out.at T.out _ _))
      refine wpQuiet_nil ?_
      intro _ hw'
      obtain ⟨⟨dq, osq⟩, hw''⟩ := hw'
      subst hw''
      go_wp2
      go_ret
      exact ⟨by rw [← HE.out]; rfl, bel_on H.out (below_regrown _ dq osq)⟩
    · have HV := Lib.hid (AcksF.hasB_off s h0 (by omega))
      have d1 : decide (seq ≤ 65535) = false := decide_eq_false h1
      clear HX h0 h1
      rw [HV.out]
      go_enter Tryd.func11, Tryd.ntmps11
      go_upto_region 1 with fail
      refine wp_region_quiet_below (by kernel_rfl) (by kernel_rfl) ?_
      repeat (first | go_big_quiet_step (first | with_reducible exact B.out.at T.out _ _) | quiet_step (first | with_reducible exact B.out.at T.out _ _))
      refine wpQuiet_nil ?_
      intro _ hw'
      obtain ⟨⟨dq, osq⟩, hw''⟩ := hw'
      subst hw''
      go_wp2
      go_ret
      exact ⟨rfl, bel_on H.out (below_regrown _ dq osq)⟩
end Go.Proofs.YtmgmgffgbkenkaaDoor
