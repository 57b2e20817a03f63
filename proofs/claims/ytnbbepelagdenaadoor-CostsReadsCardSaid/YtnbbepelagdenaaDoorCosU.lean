/- Contracts of package costs, part U: Diff, and the document's own. -/
import Derived.Test.YtnbbepelagdenaaDoorCosI
import Derived.Test.YtnbbepelagdenaaDoorCosS
namespace Go.Proofs.YtnbbepelagdenaaDoor
open Go.RowKit Go.Sort CosF
attribute [local go_sem ↓] loadAt_cos loadAt_row storeAt_cos

set_option maxHeartbeats 1000000 in
theorem cdiff_any (a b : Pt) (ha : Cos a) (hb : Cos b) : Gives Tryd.prog 25 #[.agg (cosP a).toArray, .agg (cosP b).toArray] (.int .i64 (diffC a b)) := fun w => by
  have HA := Lib.hid ha
  have HC := Lib.hid hb
  have HX : Hid (diffC a b = diffF a b 16 0 0) := Lib.hid rfl
  clear ha hb
  go_enter Tryd.func25, Tryd.ntmps25
  go_upto_region 1 with fail
  have k0 := (Blk.new w (cosP a) 25).next (.cells (cosP b).toArray 25)
  have k1 : Blk ((w.alloc (.cells (cosP a).toArray 25)).alloc (.cells (cosP b).toArray 25)) (w.heap.size + 1) (cosP b) := Blk.newAt (by simp only [World.size_alloc]) (cosP b) _
  have h0 := ((Below.refl w.heap.size w).alloc (Nat.le_refl _) (.cells (cosP a).toArray 25)).alloc (by simp only [World.size_alloc]; omega) (.cells (cosP b).toArray 25)
  obtain ⟨wa, hwa⟩ : ∃ v, (w.alloc (.cells (cosP a).toArray 25)).alloc (.cells (cosP b).toArray 25) = v := ⟨_, rfl⟩
  rw [hwa] at k0 k1 h0 ⊢
  clear hwa
  have K0 := Lib.hid k0
  have K1 := Lib.hid k1
  have KB := Lib.hid h0
  clear k0 k1 h0
  go_wp2_with fail
  go_loopw [7, 5] (fun v t wr => ∃ (k : Nat) (s : Int), v = .int .i64 (k : Int) ∧ k ≤ 16 ∧ t = .int .i64 s ∧ (0 ≤ s ∧ s ≤ 65535) ∧ diffF a b (16 - k) k s = diffF a b 16 0 0 ∧ Below wa.heap.size wa wr) (fun v _ _ => (16 - intOf v).toNat)
  case atStart => exact ⟨0, 0, rfl, Nat.zero_le _, rfl, by decide, rfl, Below.refl _ _⟩
  case round =>
    obtain ⟨k, s, rfl, hk, rfl, hs, hd, hb⟩ := hrel
    have HB := Lib.hid hb
    clear hb
    by_cases hkn : k < 16
    · rw [show 16 - k = (16 - (k + 1)) + 1 by omega, diffF] at hd
      have OA := Lib.hid (cof_any a (k : Int) HA.out)
      have OB := Lib.hid (cof_any b (k : Int) HC.out)
      have WI := Lib.hid (fun w => with_in s k w hkn (by omega) (by omega))
      have HW := Lib.hid (with_low s k hkn hs.1 hs.2)
      have HS := Lib.hid hs
      obtain ⟨t, ht⟩ : ∃ t, NodesF.withN s k = t := ⟨_, rfl⟩
      rw [ht] at WI HW hd
      obtain ⟨q, hq⟩ : ∃ q, ofC a (k : Int) = q := ⟨_, rfl⟩
      obtain ⟨q', hq'⟩ : ∃ q, ofC b (k : Int) = q := ⟨_, rfl⟩
      rw [hq] at OA hd
      rw [hq'] at OB hd
      obtain ⟨eq, heq⟩ : ∃ b, ((q : Int) == (q' : Int)) = b := ⟨_, rfl⟩
      have hkn' : (k : Int) < 16 := by omega
      have HK := Lib.hid hkn
      have e1 : wrap64 ((k : Int) + 1) = (k : Int) + 1 := IntWalk.wrap64_in _ (by omega)
      have HD := Lib.hid hd
      clear hd hs ht hq hq' hk hkn
      go_upto_region 5 with fail
      have l0 := fun dd os => cos_load ((K0.out.on HB.out).on (below_regrown _ dd os)) HA.out
      have l1 := fun dd os => cos_load ((K1.out.on HB.out).on (below_regrown _ dd os)) HC.out
      refine wp_region_quiet_below (by kernel_rfl) (by kernel_rfl) ?_
      repeat (first | go_big_quiet_step (first | with_reducible exact OA.out.at _ _ _ | with_reducible exact OB.out.at _ _ _) | quiet_step (first | with_reducible exact OA.out.at _ _ _ | with_reducible exact OB.out.at _ _ _))
      refine wpQuiet_nil ?_
      intro _ hw'
      obtain ⟨⟨dq, osq⟩, hw''⟩ := hw'
      subst hw''
      clear l0 l1
      have HB' := Lib.hid (bel_on HB.out (below_regrown wr dq osq))
      clear HB
      obtain ⟨wn, hwn⟩ : ∃ v, grow (redrawn wr dq) osq = v := ⟨_, rfl⟩
      rw [hwn] at HB' ⊢
      clear hwn
      cases eq with
      | true =>
        have hqq : q = q' := by have h := of_decide_eq_true heq; omega
        have HN : Hid (diffF a b (16 - (k + 1)) (k + 1) s = diffF a b 16 0 0) := Lib.hid (by rw [← HD.out, if_pos hqq])
        clear hqq
        go_wp2_with fail
        go_roundw
        case rel => exact ⟨k + 1, s, by go_num, HK.out, rfl, HS.out, HN.out, HB'.out⟩
        case measure => exact meas_up 16 k _ rfl HK.out
      | false =>
        have hqq : ¬ q = q' := by have h := of_decide_eq_false heq; omega
        have HN : Hid (diffF a b (16 - (k + 1)) (k + 1) t = diffF a b 16 0 0) := Lib.hid (by rw [← HD.out, if_neg hqq])
        clear hqq
        go_wp2_with fail
        refine (WI.out _).mono ?_
        rintro e wm ⟨rfl, rfl⟩
        go_wp2_with fail
        go_roundw
        case rel => exact ⟨k + 1, t, by go_num, HK.out, rfl, HW.out, HN.out, HB'.out⟩
        case measure => exact meas_up 16 k _ rfl HK.out
    · obtain rfl : k = 16 := by omega
      have HS : Hid (diffC a b = s) := Lib.hid (by rw [HX.out, ← hd]; rfl)
      clear hk hs hd
      go_wp2_with fail
      go_ret
      exact ⟨by rw [HS.out]; rfl, bel_on KB.out HB.out⟩

set_option maxHeartbeats 1000000 in
theorem rdiff_any (a b : Pt) (ha : Cos a) (hb : Cos b) : Gives Tryd.prog 26 #[.agg (cosP a).toArray, .agg (cosP b).toArray] (.int .i64 (diffC a b)) := fun w => by
  have HA := Lib.hid ha
  have HC := Lib.hid hb
  have HX : Hid (diffC a b = diffF a b 16 0 0) := Lib.hid rfl
  clear ha hb
  go_enter Tryd.func26, Tryd.ntmps26
  go_upto_region 1 with fail
  have k0 := (Blk.new w (cosP a) 25).next (.cells (cosP b).toArray 25)
  have k1 : Blk ((w.alloc (.cells (cosP a).toArray 25)).alloc (.cells (cosP b).toArray 25)) (w.heap.size + 1) (cosP b) := Blk.newAt (by simp only [World.size_alloc]) (cosP b) _
  have h0 := ((Below.refl w.heap.size w).alloc (Nat.le_refl _) (.cells (cosP a).toArray 25)).alloc (by simp only [World.size_alloc]; omega) (.cells (cosP b).toArray 25)
  obtain ⟨wa, hwa⟩ : ∃ v, (w.alloc (.cells (cosP a).toArray 25)).alloc (.cells (cosP b).toArray 25) = v := ⟨_, rfl⟩
  rw [hwa] at k0 k1 h0 ⊢
  clear hwa
  have K0 := Lib.hid k0
  have K1 := Lib.hid k1
  have KB := Lib.hid h0
  clear k0 k1 h0
  go_wp2_with fail
  go_loopw [7, 5] (fun v t wr => ∃ (k : Nat) (s : Int), v = .int .i64 (k : Int) ∧ k ≤ 16 ∧ t = .int .i64 s ∧ (0 ≤ s ∧ s ≤ 65535) ∧ diffF a b (16 - k) k s = diffF a b 16 0 0 ∧ Below wa.heap.size wa wr) (fun v _ _ => (16 - intOf v).toNat)
  case atStart => exact ⟨0, 0, rfl, Nat.zero_le _, rfl, by decide, rfl, Below.refl _ _⟩
  case round =>
    obtain ⟨k, s, rfl, hk, rfl, hs, hd, hb⟩ := hrel
    have HB := Lib.hid hb
    clear hb
    by_cases hkn : k < 16
    · rw [show 16 - k = (16 - (k + 1)) + 1 by omega, diffF] at hd
      have OA := Lib.hid (rof_any a (k : Int) HA.out)
      have OB := Lib.hid (rof_any b (k : Int) HC.out)
      have WI := Lib.hid (fun w => rwith_in s k w hkn (by omega) (by omega))
      have HW := Lib.hid (with_low s k hkn hs.1 hs.2)
      have HS := Lib.hid hs
      obtain ⟨t, ht⟩ : ∃ t, NodesF.withN s k = t := ⟨_, rfl⟩
      rw [ht] at WI HW hd
      obtain ⟨q, hq⟩ : ∃ q, ofC a (k : Int) = q := ⟨_, rfl⟩
      obtain ⟨q', hq'⟩ : ∃ q, ofC b (k : Int) = q := ⟨_, rfl⟩
      rw [hq] at OA hd
      rw [hq'] at OB hd
      obtain ⟨eq, heq⟩ : ∃ b, ((q : Int) == (q' : Int)) = b := ⟨_, rfl⟩
      have hkn' : (k : Int) < 16 := by omega
      have HK := Lib.hid hkn
      have e1 : wrap64 ((k : Int) + 1) = (k : Int) + 1 := IntWalk.wrap64_in _ (by omega)
      have HD := Lib.hid hd
      clear hd hs ht hq hq' hk hkn
      go_upto_region 5 with fail
      have l0 := fun dd os => cos_load ((K0.out.on HB.out).on (below_regrown _ dd os)) HA.out
      have l1 := fun dd os => cos_load ((K1.out.on HB.out).on (below_regrown _ dd os)) HC.out
      refine wp_region_quiet_below (by kernel_rfl) (by kernel_rfl) ?_
      repeat (first | go_big_quiet_step (first | with_reducible exact OA.out.at _ _ _ | with_reducible exact OB.out.at _ _ _) | quiet_step (first | with_reducible exact OA.out.at _ _ _ | with_reducible exact OB.out.at _ _ _))
      refine wpQuiet_nil ?_
      intro _ hw'
      obtain ⟨⟨dq, osq⟩, hw''⟩ := hw'
      subst hw''
      clear l0 l1
      have HB' := Lib.hid (bel_on HB.out (below_regrown wr dq osq))
      clear HB
      obtain ⟨wn, hwn⟩ : ∃ v, grow (redrawn wr dq) osq = v := ⟨_, rfl⟩
      rw [hwn] at HB' ⊢
      clear hwn
      cases eq with
      | true =>
        have hqq : q = q' := by have h := of_decide_eq_true heq; omega
        have HN : Hid (diffF a b (16 - (k + 1)) (k + 1) s = diffF a b 16 0 0) := Lib.hid (by rw [← HD.out, if_pos hqq])
        clear hqq
        go_wp2_with fail
        go_roundw
        case rel => exact ⟨k + 1, s, by go_num, HK.out, rfl, HS.out, HN.out, HB'.out⟩
        case measure => exact meas_up 16 k _ rfl HK.out
      | false =>
        have hqq : ¬ q = q' := by have h := of_decide_eq_false heq; omega
        have HN : Hid (diffF a b (16 - (k + 1)) (k + 1) t = diffF a b 16 0 0) := Lib.hid (by rw [← HD.out, if_neg hqq])
        clear hqq
        go_wp2_with fail
        refine (WI.out _).mono ?_
        rintro e wm ⟨rfl, rfl⟩
        go_wp2_with fail
        go_roundw
        case rel => exact ⟨k + 1, t, by go_num, HK.out, rfl, HW.out, HN.out, HB'.out⟩
        case measure => exact meas_up 16 k _ rfl HK.out
    · obtain rfl : k = 16 := by omega
      have HS : Hid (diffC a b = s) := Lib.hid (by rw [HX.out, ← hd]; rfl)
      clear hk hs hd
      go_wp2_with fail
      go_ret
      exact ⟨by rw [HS.out]; rfl, bel_on KB.out HB.out⟩

end Go.Proofs.YtnbbepelagdenaaDoor
