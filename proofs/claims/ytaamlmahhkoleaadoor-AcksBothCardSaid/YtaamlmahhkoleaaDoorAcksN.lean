/- The document's own answer for package acks, part N: Both. -/
import Derived.Test.YtaamlmahhkoleaaDoorAcksM
namespace Go.Proofs.YtaamlmahhkoleaaDoor
open Go.RowKit Go.Sort

theorem Gives.go {P : Program} {f : FuncId} {args : Array Value} {v : Value} (h : Gives P f args v) (w : World) : Calls P f args w fun e w' => e = .returned v ∧ Below w.heap.size w w' := h w
theorem wrap64_bounds (x : Int) : -9223372036854775808 ≤ wrap64 x ∧ wrap64 x < 9223372036854775808 := by
  unfold wrap64; omega

set_option maxRecDepth 100000 in
set_option maxHeartbeats 600000 in
theorem rboth_up_in (f a b c d n s f' a' b' c' d' n' s' : Int) (w : World) (hn : -9223372036854775808 ≤ n ∧ n < 9223372036854775808) (hn' : -9223372036854775808 ≤ n' ∧ n' < 9223372036854775808) (h : n < n') (hs : AcksF.seqB n' = true) :
    Calls Tryd.prog 13 #[(.agg #[.int .i64 f, .int .u32 a, .int .u32 b, .int .u32 c, .int .u32 d, .int .i64 n, .int .i64 s] : Value), (.agg #[.int .i64 f', .int .u32 a', .int .u32 b', .int .u32 c', .int .u32 d', .int .i64 n', .int .i64 s'] : Value)] w fun e w' =>
      e = .returned (.agg #[.int .i64 f', .int .u32 a', .int .u32 b', .int .u32 c', .int .u32 d', .int .i64 n', .int .i64 (AcksF.ofN n' (AcksF.nearL n' (fun q => AcksF.hasB n s q || AcksF.hasB n' s' q)) : Int)] : Value) ∧ Below w.heap.size w w' := by
  obtain ⟨i0, hi, hz0, hz1, hz2⟩ := info_parts info_int
  have d0 : decide (n < n') = true := decide_eq_true h
  have hin := AcksF.seqB_in hs
  have d1 : decide (0 ≤ n') = true := decide_eq_true hin.1
  have d2 : decide (n' ≤ 65535) = true := decide_eq_true hin.2
  have HN : Hid (AcksF.nearK n' (fun q => AcksF.hasB n s q || AcksF.hasB n' s' q) 8 = AcksF.nearL n' (fun q => AcksF.hasB n s q || AcksF.hasB n' s' q)) := Lib.hid (AcksF.nearL_in _ hs).symm
  rw [← HN.out]
  have KX := Lib.hid (show Blk (World.alloc (World.alloc (World.alloc w (.cells #[.int .i64 f', .int .u32 a', .int .u32 b', .int .u32 c', .int .u32 d', .int .i64 n', .int .i64 s'] 30)) (.cells #[.int .i64 f, .int .u32 a, .int .u32 b, .int .u32 c, .int .u32 d, .int .i64 n, .int .i64 s] 30)) (.cells #[.int .i64 0, .int .u32 0, .int .u32 0, .int .u32 0, .int .u32 0, .int .i64 0, .int .i64 0] 30)) w.heap.size [.int .i64 f', .int .u32 a', .int .u32 b', .int .u32 c', .int .u32 d', .int .i64 n', .int .i64 s'] from (((Blk.new w [.int .i64 f', .int .u32 a', .int .u32 b', .int .u32 c', .int .u32 d', .int .i64 n', .int .i64 s'] 30).next _).next _))
  have KY := Lib.hid (show Blk (World.alloc (World.alloc (World.alloc w (.cells #[.int .i64 f', .int .u32 a', .int .u32 b', .int .u32 c', .int .u32 d', .int .i64 n', .int .i64 s'] 30)) (.cells #[.int .i64 f, .int .u32 a, .int .u32 b, .int .u32 c, .int .u32 d, .int .i64 n, .int .i64 s] 30)) (.cells #[.int .i64 0, .int .u32 0, .int .u32 0, .int .u32 0, .int .u32 0, .int .i64 0, .int .i64 0] 30)) (w.heap.size + 1) [.int .i64 f, .int .u32 a, .int .u32 b, .int .u32 c, .int .u32 d, .int .i64 n, .int .i64 s] from ((Blk.newAt (by simp only [World.size_alloc]) [.int .i64 f, .int .u32 a, .int .u32 b, .int .u32 c, .int .u32 d, .int .i64 n, .int .i64 s] 30).next _))
  have KR := Lib.hid (show Blk (World.alloc (World.alloc (World.alloc w (.cells #[.int .i64 f', .int .u32 a', .int .u32 b', .int .u32 c', .int .u32 d', .int .i64 n', .int .i64 s'] 30)) (.cells #[.int .i64 f, .int .u32 a, .int .u32 b, .int .u32 c, .int .u32 d, .int .i64 n, .int .i64 s] 30)) (.cells #[.int .i64 0, .int .u32 0, .int .u32 0, .int .u32 0, .int .u32 0, .int .i64 0, .int .i64 0] 30)) (w.heap.size + 1 + 1) [.int .i64 0, .int .u32 0, .int .u32 0, .int .u32 0, .int .u32 0, .int .i64 0, .int .i64 0] from (Blk.newAt (by simp only [World.size_alloc]) [.int .i64 0, .int .u32 0, .int .u32 0, .int .u32 0, .int .u32 0, .int .i64 0, .int .i64 0] 30))
  have H0 := Lib.hid (show Below w.heap.size w (World.alloc (World.alloc (World.alloc w (.cells #[.int .i64 f', .int .u32 a', .int .u32 b', .int .u32 c', .int .u32 d', .int .i64 n', .int .i64 s'] 30)) (.cells #[.int .i64 f, .int .u32 a, .int .u32 b, .int .u32 c, .int .u32 d, .int .i64 n, .int .i64 s] 30)) (.cells #[.int .i64 0, .int .u32 0, .int .u32 0, .int .u32 0, .int .u32 0, .int .i64 0, .int .i64 0] 30)) from (((Below.refl _ _).alloc (Nat.le_refl _) _).alloc (by simp only [World.size_alloc]; omega) _).alloc (by simp only [World.size_alloc]; omega) _)
  have N1 := Lib.hid (show n < 9223372036854775808 from hn.2)
  have N2 := Lib.hid (show n' < 9223372036854775808 from hn'.2)
  clear h hs
  go_enter Tryd.func13, Tryd.ntmps13
  go_wp2
  go_loopw [5, 14] (fun u v wr => ∃ k : Nat, v = .int .i64 (k : Int) ∧ k ≤ 8 ∧ wr.ownsRow (w.heap.size + 3) 3 1 u (AcksF.nearK n' (fun q => AcksF.hasB n s q || AcksF.hasB n' s' q) k).length (intV (AcksF.nearK n' (fun q => AcksF.hasB n s q || AcksF.hasB n' s' q) k)) ∧ Below w.heap.size w wr ∧ w.heap.size + 3 ≤ wr.heap.size ∧ Blk wr w.heap.size [.int .i64 f', .int .u32 a', .int .u32 b', .int .u32 c', .int .u32 d', .int .i64 n', .int .i64 s'] ∧ Blk wr (w.heap.size + 1) [.int .i64 f, .int .u32 a, .int .u32 b, .int .u32 c, .int .u32 d, .int .i64 n, .int .i64 s] ∧ Blk wr (w.heap.size + 1 + 1) [.int .i64 0, .int .u32 0, .int .u32 0, .int .u32 0, .int .u32 0, .int .i64 0, .int .i64 0])
    (fun _ v _ => (8 - intOf v).toNat)
  case atStart => exact ⟨0, rfl, by omega, World.ownsRow_nil _ _ _ _, H0.out, by simp only [World.size_alloc]; omega, KX.out, KY.out, KR.out⟩
  case round =>
    clear KX KY KR H0
    obtain ⟨k, rfl, hk, hown, hbel, hsz, kx, ky, kr⟩ := hrel
    have HBL := Lib.hid hbel
    have KX := Lib.hid kx
    have KY := Lib.hid ky
    have KR := Lib.hid kr
    have hlen := AcksF.nearK_length n' (fun q => AcksF.hasB n s q || AcksF.hasB n' s' q) k
    clear hbel kx ky kr
    by_cases h : k < 8
    · have hw1 : wrap64 (n' + (k : Int)) = n' + (k : Int) := IntWalk.wrap64_in _ (by omega)
      have hw2 : IntKind.i64.wrap (n' + (k : Int)) = n' + (k : Int) := IntWalk.i64_in _ (by omega)
      have C1 := Lib.hid (rhas_any f a b c d n s (n' + (k : Int)) N1.out (by omega))
      have C2 := Lib.hid (rhas_any f' a' b' c' d' n' s' (n' + (k : Int)) N2.out (by omega))
      obtain ⟨r1, hr1⟩ : ∃ r, AcksF.hasB n s (n' + (k : Int)) = r := ⟨_, rfl⟩
      obtain ⟨r2, hr2⟩ : ∃ r, AcksF.hasB n' s' (n' + (k : Int)) = r := ⟨_, rfl⟩
      rw [hr1] at C1
      rw [hr2] at C2
      have HP : Hid ((fun q => AcksF.hasB n s q || AcksF.hasB n' s' q) (n' + (k : Int)) = (r1 || r2)) := Lib.hid (by show (AcksF.hasB n s (n' + (k : Int)) || AcksF.hasB n' s' (n' + (k : Int))) = _; rw [hr1, hr2])
      have HO := Lib.hid hown
      clear hown hr1 hr2
      have c0 := KY.out.cell 0 rfl
      have c1 := KY.out.cell 1 rfl
      have c2 := KY.out.cell 2 rfl
      have c3 := KY.out.cell 3 rfl
      have c4 := KY.out.cell 4 rfl
      have c5 := KY.out.cell 5 rfl
      have c6 := KY.out.cell 6 rfl
      have x5 := KX.out.cell 5 rfl
      go_wp2_with fail
      with_reducible refine (Gives.go C1.out _).mono ?_
      rintro e w1 ⟨rfl, hb⟩
      have HBL1 := Lib.hid (bel_on HBL.out hb)
      have KX1 := Lib.hid (KX.out.on hb)
      have KY1 := Lib.hid (KY.out.on hb)
      have KR1 := Lib.hid (KR.out.on hb)
      have hs1 := Nat.le_trans hsz hb.size
      have HO1 := Lib.hid (row_below HO.out hb)
      clear hb x5 c0 c1 c2 c3 c4 c5 c6
      rcases r1 with _ | _
      · have c0 := KX1.out.cell 0 rfl
        have c1 := KX1.out.cell 1 rfl
        have c2 := KX1.out.cell 2 rfl
        have c3 := KX1.out.cell 3 rfl
        have c4 := KX1.out.cell 4 rfl
        have c5 := KX1.out.cell 5 rfl
        have c6 := KX1.out.cell 6 rfl
        have x5 := KX1.out.cell 5 rfl
        go_wp2_with fail
        with_reducible refine (Gives.go C2.out _).mono ?_
        rintro e w2 ⟨rfl, hb⟩
        have HBL2 := Lib.hid (bel_on HBL1.out hb)
        have KX2 := Lib.hid (KX1.out.on hb)
        have KY2 := Lib.hid (KY1.out.on hb)
        have KR2 := Lib.hid (KR1.out.on hb)
        have hs2 := Nat.le_trans hs1 hb.size
        have HO2 := Lib.hid (row_below HO1.out hb)
        clear hb x5 c0 c1 c2 c3 c4 c5 c6
        rcases r2 with _ | _
        · have x5 := KX2.out.cell 5 rfl
          have HK := Lib.hid (AcksF.nearK_no (p := (fun q => AcksF.hasB n s q || AcksF.hasB n' s' q)) (n := k) HP.out)
          go_wp2
          go_roundw
          case rel => exact ⟨k + 1, by go_num, by omega, by rw [HK.out]; exact HO2.out, HBL2.out, hs2, KX2.out, KY2.out, KR2.out⟩
          case measure => simp [intOf]; omega
        · have x5 := KX2.out.cell 5 rfl
          have HK := Lib.hid (AcksF.nearK_yes (p := (fun q => AcksF.hasB n s q || AcksF.hasB n' s' q)) (n := k) HP.out)
          have hown2 := HO2.out
          go_wp2_with (at_builtin; refine wpList_append_own _ rfl (.tmp 51) (.tmp 56) 22 rfl (w.heap.size + 3) 3 i0 (.int .i64 0) 1 8 Tryd.underlying22 hi hz0 hz1 hz2 rfl (by decide) _ _ _ rfl (hown2.alloc _) ⟨w2.heap.size, 0, none⟩ 1 1 [_] rfl rfl (cell_one_new _ _ _) (by simp [Value.oneCell']) (by unfold maxLen; omega) (by omega) (by simp; omega) ?_; intro v1 w9 hown1 hg1 _)
          go_roundw
          case rel =>
            exact ⟨k + 1, by go_num, by omega, by rw [HK.out, intV_snoc, List.length_append]; exact hown1, (HBL2.out.alloc HBL2.out.size _).grown hg1 (by simp; omega) (fun k hk => by have := (hown2.lt k hk).1; omega),
              Nat.le_trans hs2 (Nat.le_trans (by simp) hg1.size), (KX2.out.next _).grown hg1 (fun k hk => by have := (hown2.lt k hk).1; omega), (KY2.out.next _).grown hg1 (fun k hk => by have := (hown2.lt k hk).1; omega), (KR2.out.next _).grown hg1 (fun k hk => by have := (hown2.lt k hk).1; omega)⟩
          case measure => simp [intOf]; omega
      · have x5 := KX1.out.cell 5 rfl
        have HK := Lib.hid (AcksF.nearK_yes (p := (fun q => AcksF.hasB n s q || AcksF.hasB n' s' q)) (n := k) HP.out)
        have hown2 := HO1.out
        go_wp2_with (at_builtin; refine wpList_append_own _ rfl (.tmp 51) (.tmp 56) 22 rfl (w.heap.size + 3) 3 i0 (.int .i64 0) 1 8 Tryd.underlying22 hi hz0 hz1 hz2 rfl (by decide) _ _ _ rfl (hown2.alloc _) ⟨w1.heap.size, 0, none⟩ 1 1 [_] rfl rfl (cell_one_new _ _ _) (by simp [Value.oneCell']) (by unfold maxLen; omega) (by omega) (by simp; omega) ?_; intro v1 w9 hown1 hg1 _)
        go_roundw
        case rel =>
          exact ⟨k + 1, by go_num, by omega, by rw [HK.out, intV_snoc, List.length_append]; exact hown1, (HBL1.out.alloc HBL1.out.size _).grown hg1 (by simp; omega) (fun k hk => by have := (hown2.lt k hk).1; omega),
            Nat.le_trans hs1 (Nat.le_trans (by simp) hg1.size), (KX1.out.next _).grown hg1 (fun k hk => by have := (hown2.lt k hk).1; omega), (KY1.out.next _).grown hg1 (fun k hk => by have := (hown2.lt k hk).1; omega), (KR1.out.next _).grown hg1 (fun k hk => by have := (hown2.lt k hk).1; omega)⟩
        case measure => simp [intOf]; omega
    · obtain rfl : k = 8 := by omega
      obtain ⟨ra, rc, rfl⟩ := row_slice hown
      have OF := Lib.hid (rof_any n' ra rc _ wr (IntAt.own hown (by rw [HN.out]; exact AcksF.nearL_bound _ _)) (by omega) N2.out)
      obtain ⟨m, hm⟩ : ∃ m, AcksF.ofN n' (AcksF.nearK n' (fun q => AcksF.hasB n s q || AcksF.hasB n' s' q) 8) = m := ⟨_, rfl⟩
      rw [hm] at OF
      have HM := Lib.hid hm
      clear hm
      have x5 := KX.out.cell 5 rfl
      have x6 := KX.out.cell 6 rfl
      have t6 := KX.out.thaw 6
      go_wp2_with fail
      refine OF.out.mono ?_
      rintro e w5 ⟨rfl, rfl⟩
      go_upto_region 11 with fail
      have kX3 : Blk (wr.setCell ⟨w.heap.size, 6, none⟩ (.int .i64 (m : Int))) w.heap.size [.int .i64 f', .int .u32 a', .int .u32 b', .int .u32 c', .int .u32 d', .int .i64 n', .int .i64 (m : Int)] := KX.out.set 6 (.int .i64 (m : Int))
      have kR3 : Blk (wr.setCell ⟨w.heap.size, 6, none⟩ (.int .i64 (m : Int))) (w.heap.size + 1 + 1) [.int .i64 0, .int .u32 0, .int .u32 0, .int .u32 0, .int .u32 0, .int .i64 0, .int .i64 0] := KR.out.other _ _ (by show w.heap.size + 1 + 1 ≠ w.heap.size; omega)
      have hb3 : Below w.heap.size w (wr.setCell ⟨w.heap.size, 6, none⟩ (.int .i64 (m : Int))) := HBL.out.setCell (Nat.le_refl _) _
      obtain ⟨w3, hw3⟩ : ∃ w3, wr.setCell ⟨w.heap.size, 6, none⟩ (.int .i64 (m : Int)) = w3 := ⟨_, rfl⟩
      rw [hw3] at kX3 kR3 hb3 ⊢
      clear hw3 x5 x6 t6
      have x0 := kX3.cell 0 rfl
      have x1 := kX3.cell 1 rfl
      have x2 := kX3.cell 2 rfl
      have x3 := kX3.cell 3 rfl
      have x4 := kX3.cell 4 rfl
      have x5 := kX3.cell 5 rfl
      have x6 := kX3.cell 6 rfl
      have r0 := kR3.cell 0 rfl
      have r1 := kR3.cell 1 rfl
      have r2 := kR3.cell 2 rfl
      have r3 := kR3.cell 3 rfl
      have r4 := kR3.cell 4 rfl
      have r5 := kR3.cell 5 rfl
      have r6 := kR3.cell 6 rfl
      have t0 := kR3.thaw 0
      have t1 := kR3.thaw 1
      have t2 := kR3.thaw 2
      have t3 := kR3.thaw 3
      have t4 := kR3.thaw 4
      have t5 := kR3.thaw 5
      have t6 := kR3.thaw 6
      have K := Lib.hid (((((((kR3.set 0 (.int .i64 f')).set 1 (.int .u32 a')).set 2 (.int .u32 b')).set 3 (.int .u32 c')).set 4 (.int .u32 d')).set 5 (.int .i64 n')).set 6 (.int .i64 (m : Int)))
      have H3 := Lib.hid hb3
      have hlo := kR3.lt
      clear kX3 kR3 hb3
      go_wp2_with fail
      clear r0 r1 r2 r3 r4 r5 r6
      have k := K.out
      have r0 := k.cell 0 rfl
      have r1 := k.cell 1 rfl
      have r2 := k.cell 2 rfl
      have r3 := k.cell 3 rfl
      have r4 := k.cell 4 rfl
      have r5 := k.cell 5 rfl
      have r6 := k.cell 6 rfl
      rw [HM.out]
      refine bodyPost_ret (v := (.agg #[.int .i64 f', .int .u32 a', .int .u32 b', .int .u32 c', .int .u32 d', .int .i64 n', .int .i64 (m : Int)] : Value)) (by simp [results, Tryd.results13, go_sem, r0, r1, r2, r3, r4, r5, r6]) rfl ⟨rfl, ?_⟩
      exact (((((((H3.out.setCell (by show w.heap.size ≤ w.heap.size + 1 + 1; omega) _).setCell (by show w.heap.size ≤ w.heap.size + 1 + 1; omega) _).setCell (by show w.heap.size ≤ w.heap.size + 1 + 1; omega) _).setCell (by show w.heap.size ≤ w.heap.size + 1 + 1; omega) _).setCell (by show w.heap.size ≤ w.heap.size + 1 + 1; omega) _).setCell (by show w.heap.size ≤ w.heap.size + 1 + 1; omega) _).setCell (by show w.heap.size ≤ w.heap.size + 1 + 1; omega) _)

set_option maxRecDepth 100000 in
set_option maxHeartbeats 600000 in
theorem rboth_up_out (f a b c d n s f' a' b' c' d' n' s' : Int) (w : World) (hn : -9223372036854775808 ≤ n ∧ n < 9223372036854775808) (hn' : -9223372036854775808 ≤ n' ∧ n' < 9223372036854775808) (h : n < n') (hs : AcksF.seqB n' = false) :
    Calls Tryd.prog 13 #[(.agg #[.int .i64 f, .int .u32 a, .int .u32 b, .int .u32 c, .int .u32 d, .int .i64 n, .int .i64 s] : Value), (.agg #[.int .i64 f', .int .u32 a', .int .u32 b', .int .u32 c', .int .u32 d', .int .i64 n', .int .i64 s'] : Value)] w fun e w' =>
      e = .returned (.agg #[.int .i64 f', .int .u32 a', .int .u32 b', .int .u32 c', .int .u32 d', .int .i64 n', .int .i64 (AcksF.ofN n' (AcksF.nearL n' (fun q => AcksF.hasB n s q || AcksF.hasB n' s' q)) : Int)] : Value) ∧ Below w.heap.size w w' := by
  have d0 : decide (n < n') = true := decide_eq_true h
  have hout := AcksF.seqB_out hs
  have HN : Hid (([] : List Int) = AcksF.nearL n' (fun q => AcksF.hasB n s q || AcksF.hasB n' s' q)) := Lib.hid (AcksF.nearL_out _ hs).symm
  have HD : Hid (decide (0 ≤ n') = false ∨ (decide (0 ≤ n') = true ∧ decide (n' ≤ 65535) = false)) := Lib.hid (by
    by_cases h : 0 ≤ n'
    · exact .inr ⟨decide_eq_true h, decide_eq_false (by omega)⟩
    · exact .inl (decide_eq_false h))
  rw [← HN.out]
  have KX := Lib.hid (show Blk (World.alloc (World.alloc (World.alloc w (.cells #[.int .i64 f', .int .u32 a', .int .u32 b', .int .u32 c', .int .u32 d', .int .i64 n', .int .i64 s'] 30)) (.cells #[.int .i64 f, .int .u32 a, .int .u32 b, .int .u32 c, .int .u32 d, .int .i64 n, .int .i64 s] 30)) (.cells #[.int .i64 0, .int .u32 0, .int .u32 0, .int .u32 0, .int .u32 0, .int .i64 0, .int .i64 0] 30)) w.heap.size [.int .i64 f', .int .u32 a', .int .u32 b', .int .u32 c', .int .u32 d', .int .i64 n', .int .i64 s'] from (((Blk.new w [.int .i64 f', .int .u32 a', .int .u32 b', .int .u32 c', .int .u32 d', .int .i64 n', .int .i64 s'] 30).next _).next _))
  have KY := Lib.hid (show Blk (World.alloc (World.alloc (World.alloc w (.cells #[.int .i64 f', .int .u32 a', .int .u32 b', .int .u32 c', .int .u32 d', .int .i64 n', .int .i64 s'] 30)) (.cells #[.int .i64 f, .int .u32 a, .int .u32 b, .int .u32 c, .int .u32 d, .int .i64 n, .int .i64 s] 30)) (.cells #[.int .i64 0, .int .u32 0, .int .u32 0, .int .u32 0, .int .u32 0, .int .i64 0, .int .i64 0] 30)) (w.heap.size + 1) [.int .i64 f, .int .u32 a, .int .u32 b, .int .u32 c, .int .u32 d, .int .i64 n, .int .i64 s] from ((Blk.newAt (by simp only [World.size_alloc]) [.int .i64 f, .int .u32 a, .int .u32 b, .int .u32 c, .int .u32 d, .int .i64 n, .int .i64 s] 30).next _))
  have KR := Lib.hid (show Blk (World.alloc (World.alloc (World.alloc w (.cells #[.int .i64 f', .int .u32 a', .int .u32 b', .int .u32 c', .int .u32 d', .int .i64 n', .int .i64 s'] 30)) (.cells #[.int .i64 f, .int .u32 a, .int .u32 b, .int .u32 c, .int .u32 d, .int .i64 n, .int .i64 s] 30)) (.cells #[.int .i64 0, .int .u32 0, .int .u32 0, .int .u32 0, .int .u32 0, .int .i64 0, .int .i64 0] 30)) (w.heap.size + 1 + 1) [.int .i64 0, .int .u32 0, .int .u32 0, .int .u32 0, .int .u32 0, .int .i64 0, .int .i64 0] from (Blk.newAt (by simp only [World.size_alloc]) [.int .i64 0, .int .u32 0, .int .u32 0, .int .u32 0, .int .u32 0, .int .i64 0, .int .i64 0] 30))
  have H0 := Lib.hid (show Below w.heap.size w (World.alloc (World.alloc (World.alloc w (.cells #[.int .i64 f', .int .u32 a', .int .u32 b', .int .u32 c', .int .u32 d', .int .i64 n', .int .i64 s'] 30)) (.cells #[.int .i64 f, .int .u32 a, .int .u32 b, .int .u32 c, .int .u32 d, .int .i64 n, .int .i64 s] 30)) (.cells #[.int .i64 0, .int .u32 0, .int .u32 0, .int .u32 0, .int .u32 0, .int .i64 0, .int .i64 0] 30)) from (((Below.refl _ _).alloc (Nat.le_refl _) _).alloc (by simp only [World.size_alloc]; omega) _).alloc (by simp only [World.size_alloc]; omega) _)
  have N1 := Lib.hid (show n < 9223372036854775808 from hn.2)
  have N2 := Lib.hid (show n' < 9223372036854775808 from hn'.2)
  clear h hs hout
  go_enter Tryd.func13, Tryd.ntmps13
  go_wp2
  go_loopw [5, 14] (fun u v wr => ∃ k : Nat, v = .int .i64 (k : Int) ∧ k ≤ 8 ∧ u = .slice none 0 0 ∧ Below w.heap.size w wr ∧ w.heap.size + 3 ≤ wr.heap.size ∧ Blk wr w.heap.size [.int .i64 f', .int .u32 a', .int .u32 b', .int .u32 c', .int .u32 d', .int .i64 n', .int .i64 s'] ∧ Blk wr (w.heap.size + 1) [.int .i64 f, .int .u32 a, .int .u32 b, .int .u32 c, .int .u32 d, .int .i64 n, .int .i64 s] ∧ Blk wr (w.heap.size + 1 + 1) [.int .i64 0, .int .u32 0, .int .u32 0, .int .u32 0, .int .u32 0, .int .i64 0, .int .i64 0])
    (fun _ v _ => (8 - intOf v).toNat)
  case atStart => exact ⟨0, rfl, by omega, rfl, H0.out, by simp only [World.size_alloc]; omega, KX.out, KY.out, KR.out⟩
  case round =>
    clear KX KY KR H0
    obtain ⟨k, rfl, hk, rfl, hbel, hsz, kx, ky, kr⟩ := hrel
    have HBL := Lib.hid hbel
    have KX := Lib.hid kx
    have KY := Lib.hid ky
    have KR := Lib.hid kr
    clear hbel kx ky kr
    by_cases h : k < 8
    · obtain ⟨z, hz⟩ : ∃ z, wrap64 (n' + (k : Int)) = z := ⟨_, rfl⟩
      have hzb := wrap64_bounds (n' + (k : Int))
      rw [hz] at hzb
      have C1 := Lib.hid (rhas_any f a b c d n s z N1.out hzb)
      have C2 := Lib.hid (rhas_any f' a' b' c' d' n' s' z N2.out hzb)
      obtain ⟨r1, hr1⟩ : ∃ r, AcksF.hasB n s z = r := ⟨_, rfl⟩
      obtain ⟨r2, hr2⟩ : ∃ r, AcksF.hasB n' s' z = r := ⟨_, rfl⟩
      rw [hr1] at C1
      rw [hr2] at C2
      clear hr1 hr2 hzb
      have c0 := KY.out.cell 0 rfl
      have c1 := KY.out.cell 1 rfl
      have c2 := KY.out.cell 2 rfl
      have c3 := KY.out.cell 3 rfl
      have c4 := KY.out.cell 4 rfl
      have c5 := KY.out.cell 5 rfl
      have c6 := KY.out.cell 6 rfl
      have x5 := KX.out.cell 5 rfl
      go_wp2_with fail
      with_reducible refine (Gives.go C1.out _).mono ?_
      rintro e w1 ⟨rfl, hb⟩
      have HBL1 := Lib.hid (bel_on HBL.out hb)
      have KX1 := Lib.hid (KX.out.on hb)
      have KY1 := Lib.hid (KY.out.on hb)
      have KR1 := Lib.hid (KR.out.on hb)
      have hs1 := Nat.le_trans hsz hb.size
      clear hb x5 c0 c1 c2 c3 c4 c5 c6
      rcases HD.out with d1 | ⟨d1, d2⟩
      all_goals
        rcases r1 with _ | _
        all_goals
          have c0 := KX1.out.cell 0 rfl
          have c1 := KX1.out.cell 1 rfl
          have c2 := KX1.out.cell 2 rfl
          have c3 := KX1.out.cell 3 rfl
          have c4 := KX1.out.cell 4 rfl
          have c5 := KX1.out.cell 5 rfl
          have c6 := KX1.out.cell 6 rfl
          have x5 := KX1.out.cell 5 rfl
          go_wp2_with fail
          with_reducible refine (Gives.go C2.out _).mono ?_
          rintro e w2 ⟨rfl, hb⟩
          have HBL2 := Lib.hid (bel_on HBL1.out hb)
          have KX2 := Lib.hid (KX1.out.on hb)
          have KY2 := Lib.hid (KY1.out.on hb)
          have KR2 := Lib.hid (KR1.out.on hb)
          have hs2 := Nat.le_trans hs1 hb.size
          clear hb x5 c0 c1 c2 c3 c4 c5 c6
          rcases r2 with _ | _
          all_goals
            have x5 := KX2.out.cell 5 rfl
            go_wp2
            go_roundw
            case rel => exact ⟨k + 1, by go_num, by omega, rfl, HBL2.out, hs2, KX2.out, KY2.out, KR2.out⟩
            case measure => simp [intOf]; omega
    · obtain rfl : k = 8 := by omega
      have OF := Lib.hid (rof_any n' none 0 [] wr (fun i x hx => by simp at hx) (by simp) N2.out)
      obtain ⟨m, hm⟩ : ∃ m, AcksF.ofN n' [] = m := ⟨_, rfl⟩
      rw [hm] at OF
      have HM := Lib.hid hm
      clear hm
      have x5 := KX.out.cell 5 rfl
      have x6 := KX.out.cell 6 rfl
      have t6 := KX.out.thaw 6
      go_wp2_with fail
      refine OF.out.mono ?_
      rintro e w5 ⟨rfl, rfl⟩
      go_upto_region 11 with fail
      have kX3 : Blk (wr.setCell ⟨w.heap.size, 6, none⟩ (.int .i64 (m : Int))) w.heap.size [.int .i64 f', .int .u32 a', .int .u32 b', .int .u32 c', .int .u32 d', .int .i64 n', .int .i64 (m : Int)] := KX.out.set 6 (.int .i64 (m : Int))
      have kR3 : Blk (wr.setCell ⟨w.heap.size, 6, none⟩ (.int .i64 (m : Int))) (w.heap.size + 1 + 1) [.int .i64 0, .int .u32 0, .int .u32 0, .int .u32 0, .int .u32 0, .int .i64 0, .int .i64 0] := KR.out.other _ _ (by show w.heap.size + 1 + 1 ≠ w.heap.size; omega)
      have hb3 : Below w.heap.size w (wr.setCell ⟨w.heap.size, 6, none⟩ (.int .i64 (m : Int))) := HBL.out.setCell (Nat.le_refl _) _
      obtain ⟨w3, hw3⟩ : ∃ w3, wr.setCell ⟨w.heap.size, 6, none⟩ (.int .i64 (m : Int)) = w3 := ⟨_, rfl⟩
      rw [hw3] at kX3 kR3 hb3 ⊢
      clear hw3 x5 x6 t6
      have x0 := kX3.cell 0 rfl
      have x1 := kX3.cell 1 rfl
      have x2 := kX3.cell 2 rfl
      have x3 := kX3.cell 3 rfl
      have x4 := kX3.cell 4 rfl
      have x5 := kX3.cell 5 rfl
      have x6 := kX3.cell 6 rfl
      have r0 := kR3.cell 0 rfl
      have r1 := kR3.cell 1 rfl
      have r2 := kR3.cell 2 rfl
      have r3 := kR3.cell 3 rfl
      have r4 := kR3.cell 4 rfl
      have r5 := kR3.cell 5 rfl
      have r6 := kR3.cell 6 rfl
      have t0 := kR3.thaw 0
      have t1 := kR3.thaw 1
      have t2 := kR3.thaw 2
      have t3 := kR3.thaw 3
      have t4 := kR3.thaw 4
      have t5 := kR3.thaw 5
      have t6 := kR3.thaw 6
      have K := Lib.hid (((((((kR3.set 0 (.int .i64 f')).set 1 (.int .u32 a')).set 2 (.int .u32 b')).set 3 (.int .u32 c')).set 4 (.int .u32 d')).set 5 (.int .i64 n')).set 6 (.int .i64 (m : Int)))
      have H3 := Lib.hid hb3
      have hlo := kR3.lt
      clear kX3 kR3 hb3
      go_wp2_with fail
      clear r0 r1 r2 r3 r4 r5 r6
      have k := K.out
      have r0 := k.cell 0 rfl
      have r1 := k.cell 1 rfl
      have r2 := k.cell 2 rfl
      have r3 := k.cell 3 rfl
      have r4 := k.cell 4 rfl
      have r5 := k.cell 5 rfl
      have r6 := k.cell 6 rfl
      rw [HM.out]
      refine bodyPost_ret (v := (.agg #[.int .i64 f', .int .u32 a', .int .u32 b', .int .u32 c', .int .u32 d', .int .i64 n', .int .i64 (m : Int)] : Value)) (by simp [results, Tryd.results13, go_sem, r0, r1, r2, r3, r4, r5, r6]) rfl ⟨rfl, ?_⟩
      exact (((((((H3.out.setCell (by show w.heap.size ≤ w.heap.size + 1 + 1; omega) _).setCell (by show w.heap.size ≤ w.heap.size + 1 + 1; omega) _).setCell (by show w.heap.size ≤ w.heap.size + 1 + 1; omega) _).setCell (by show w.heap.size ≤ w.heap.size + 1 + 1; omega) _).setCell (by show w.heap.size ≤ w.heap.size + 1 + 1; omega) _).setCell (by show w.heap.size ≤ w.heap.size + 1 + 1; omega) _).setCell (by show w.heap.size ≤ w.heap.size + 1 + 1; omega) _)

set_option maxRecDepth 100000 in
set_option maxHeartbeats 600000 in
theorem rboth_same_in (f a b c d n s f' a' b' c' d' n' s' : Int) (w : World) (hn : -9223372036854775808 ≤ n ∧ n < 9223372036854775808) (hn' : -9223372036854775808 ≤ n' ∧ n' < 9223372036854775808) (h : ¬ n < n') (hs : AcksF.seqB n = true) :
    Calls Tryd.prog 13 #[(.agg #[.int .i64 f, .int .u32 a, .int .u32 b, .int .u32 c, .int .u32 d, .int .i64 n, .int .i64 s] : Value), (.agg #[.int .i64 f', .int .u32 a', .int .u32 b', .int .u32 c', .int .u32 d', .int .i64 n', .int .i64 s'] : Value)] w fun e w' =>
      e = .returned (.agg #[.int .i64 f, .int .u32 a, .int .u32 b, .int .u32 c, .int .u32 d, .int .i64 n, .int .i64 (AcksF.ofN n (AcksF.nearL n (fun q => AcksF.hasB n s q || AcksF.hasB n' s' q)) : Int)] : Value) ∧ Below w.heap.size w w' := by
  obtain ⟨i0, hi, hz0, hz1, hz2⟩ := info_parts info_int
  have d0 : decide (n < n') = false := decide_eq_false h
  have hin := AcksF.seqB_in hs
  have d1 : decide (0 ≤ n) = true := decide_eq_true hin.1
  have d2 : decide (n ≤ 65535) = true := decide_eq_true hin.2
  have HN : Hid (AcksF.nearK n (fun q => AcksF.hasB n' s' q || AcksF.hasB n s q) 8 = AcksF.nearL n (fun q => AcksF.hasB n s q || AcksF.hasB n' s' q)) := Lib.hid (by rw [← AcksF.nearL_in _ hs]; exact AcksF.nearL_congr fun x => Bool.or_comm _ _)
  rw [← HN.out]
  have KX := Lib.hid (show Blk (World.alloc (World.alloc (World.alloc w (.cells #[.int .i64 f, .int .u32 a, .int .u32 b, .int .u32 c, .int .u32 d, .int .i64 n, .int .i64 s] 30)) (.cells #[.int .i64 f', .int .u32 a', .int .u32 b', .int .u32 c', .int .u32 d', .int .i64 n', .int .i64 s'] 30)) (.cells #[.int .i64 0, .int .u32 0, .int .u32 0, .int .u32 0, .int .u32 0, .int .i64 0, .int .i64 0] 30)) w.heap.size [.int .i64 f, .int .u32 a, .int .u32 b, .int .u32 c, .int .u32 d, .int .i64 n, .int .i64 s] from (((Blk.new w [.int .i64 f, .int .u32 a, .int .u32 b, .int .u32 c, .int .u32 d, .int .i64 n, .int .i64 s] 30).next _).next _))
  have KY := Lib.hid (show Blk (World.alloc (World.alloc (World.alloc w (.cells #[.int .i64 f, .int .u32 a, .int .u32 b, .int .u32 c, .int .u32 d, .int .i64 n, .int .i64 s] 30)) (.cells #[.int .i64 f', .int .u32 a', .int .u32 b', .int .u32 c', .int .u32 d', .int .i64 n', .int .i64 s'] 30)) (.cells #[.int .i64 0, .int .u32 0, .int .u32 0, .int .u32 0, .int .u32 0, .int .i64 0, .int .i64 0] 30)) (w.heap.size + 1) [.int .i64 f', .int .u32 a', .int .u32 b', .int .u32 c', .int .u32 d', .int .i64 n', .int .i64 s'] from ((Blk.newAt (by simp only [World.size_alloc]) [.int .i64 f', .int .u32 a', .int .u32 b', .int .u32 c', .int .u32 d', .int .i64 n', .int .i64 s'] 30).next _))
  have KR := Lib.hid (show Blk (World.alloc (World.alloc (World.alloc w (.cells #[.int .i64 f, .int .u32 a, .int .u32 b, .int .u32 c, .int .u32 d, .int .i64 n, .int .i64 s] 30)) (.cells #[.int .i64 f', .int .u32 a', .int .u32 b', .int .u32 c', .int .u32 d', .int .i64 n', .int .i64 s'] 30)) (.cells #[.int .i64 0, .int .u32 0, .int .u32 0, .int .u32 0, .int .u32 0, .int .i64 0, .int .i64 0] 30)) (w.heap.size + 1 + 1) [.int .i64 0, .int .u32 0, .int .u32 0, .int .u32 0, .int .u32 0, .int .i64 0, .int .i64 0] from (Blk.newAt (by simp only [World.size_alloc]) [.int .i64 0, .int .u32 0, .int .u32 0, .int .u32 0, .int .u32 0, .int .i64 0, .int .i64 0] 30))
  have H0 := Lib.hid (show Below w.heap.size w (World.alloc (World.alloc (World.alloc w (.cells #[.int .i64 f, .int .u32 a, .int .u32 b, .int .u32 c, .int .u32 d, .int .i64 n, .int .i64 s] 30)) (.cells #[.int .i64 f', .int .u32 a', .int .u32 b', .int .u32 c', .int .u32 d', .int .i64 n', .int .i64 s'] 30)) (.cells #[.int .i64 0, .int .u32 0, .int .u32 0, .int .u32 0, .int .u32 0, .int .i64 0, .int .i64 0] 30)) from (((Below.refl _ _).alloc (Nat.le_refl _) _).alloc (by simp only [World.size_alloc]; omega) _).alloc (by simp only [World.size_alloc]; omega) _)
  have N1 := Lib.hid (show n < 9223372036854775808 from hn.2)
  have N2 := Lib.hid (show n' < 9223372036854775808 from hn'.2)
  clear h hs
  go_enter Tryd.func13, Tryd.ntmps13
  go_wp2
  go_loopw [5, 14] (fun u v wr => ∃ k : Nat, v = .int .i64 (k : Int) ∧ k ≤ 8 ∧ wr.ownsRow (w.heap.size + 3) 3 1 u (AcksF.nearK n (fun q => AcksF.hasB n' s' q || AcksF.hasB n s q) k).length (intV (AcksF.nearK n (fun q => AcksF.hasB n' s' q || AcksF.hasB n s q) k)) ∧ Below w.heap.size w wr ∧ w.heap.size + 3 ≤ wr.heap.size ∧ Blk wr w.heap.size [.int .i64 f, .int .u32 a, .int .u32 b, .int .u32 c, .int .u32 d, .int .i64 n, .int .i64 s] ∧ Blk wr (w.heap.size + 1) [.int .i64 f', .int .u32 a', .int .u32 b', .int .u32 c', .int .u32 d', .int .i64 n', .int .i64 s'] ∧ Blk wr (w.heap.size + 1 + 1) [.int .i64 0, .int .u32 0, .int .u32 0, .int .u32 0, .int .u32 0, .int .i64 0, .int .i64 0])
    (fun _ v _ => (8 - intOf v).toNat)
  case atStart => exact ⟨0, rfl, by omega, World.ownsRow_nil _ _ _ _, H0.out, by simp only [World.size_alloc]; omega, KX.out, KY.out, KR.out⟩
  case round =>
    clear KX KY KR H0
    obtain ⟨k, rfl, hk, hown, hbel, hsz, kx, ky, kr⟩ := hrel
    have HBL := Lib.hid hbel
    have KX := Lib.hid kx
    have KY := Lib.hid ky
    have KR := Lib.hid kr
    have hlen := AcksF.nearK_length n (fun q => AcksF.hasB n' s' q || AcksF.hasB n s q) k
    clear hbel kx ky kr
    by_cases h : k < 8
    · have hw1 : wrap64 (n + (k : Int)) = n + (k : Int) := IntWalk.wrap64_in _ (by omega)
      have hw2 : IntKind.i64.wrap (n + (k : Int)) = n + (k : Int) := IntWalk.i64_in _ (by omega)
      have C1 := Lib.hid (rhas_any f' a' b' c' d' n' s' (n + (k : Int)) N2.out (by omega))
      have C2 := Lib.hid (rhas_any f a b c d n s (n + (k : Int)) N1.out (by omega))
      obtain ⟨r1, hr1⟩ : ∃ r, AcksF.hasB n' s' (n + (k : Int)) = r := ⟨_, rfl⟩
      obtain ⟨r2, hr2⟩ : ∃ r, AcksF.hasB n s (n + (k : Int)) = r := ⟨_, rfl⟩
      rw [hr1] at C1
      rw [hr2] at C2
      have HP : Hid ((fun q => AcksF.hasB n' s' q || AcksF.hasB n s q) (n + (k : Int)) = (r1 || r2)) := Lib.hid (by show (AcksF.hasB n' s' (n + (k : Int)) || AcksF.hasB n s (n + (k : Int))) = _; rw [hr1, hr2])
      have HO := Lib.hid hown
      clear hown hr1 hr2
      have c0 := KY.out.cell 0 rfl
      have c1 := KY.out.cell 1 rfl
      have c2 := KY.out.cell 2 rfl
      have c3 := KY.out.cell 3 rfl
      have c4 := KY.out.cell 4 rfl
      have c5 := KY.out.cell 5 rfl
      have c6 := KY.out.cell 6 rfl
      have x5 := KX.out.cell 5 rfl
      go_wp2_with fail
      with_reducible refine (Gives.go C1.out _).mono ?_
      rintro e w1 ⟨rfl, hb⟩
      have HBL1 := Lib.hid (bel_on HBL.out hb)
      have KX1 := Lib.hid (KX.out.on hb)
      have KY1 := Lib.hid (KY.out.on hb)
      have KR1 := Lib.hid (KR.out.on hb)
      have hs1 := Nat.le_trans hsz hb.size
      have HO1 := Lib.hid (row_below HO.out hb)
      clear hb x5 c0 c1 c2 c3 c4 c5 c6
      rcases r1 with _ | _
      · have c0 := KX1.out.cell 0 rfl
        have c1 := KX1.out.cell 1 rfl
        have c2 := KX1.out.cell 2 rfl
        have c3 := KX1.out.cell 3 rfl
        have c4 := KX1.out.cell 4 rfl
        have c5 := KX1.out.cell 5 rfl
        have c6 := KX1.out.cell 6 rfl
        have x5 := KX1.out.cell 5 rfl
        go_wp2_with fail
        with_reducible refine (Gives.go C2.out _).mono ?_
        rintro e w2 ⟨rfl, hb⟩
        have HBL2 := Lib.hid (bel_on HBL1.out hb)
        have KX2 := Lib.hid (KX1.out.on hb)
        have KY2 := Lib.hid (KY1.out.on hb)
        have KR2 := Lib.hid (KR1.out.on hb)
        have hs2 := Nat.le_trans hs1 hb.size
        have HO2 := Lib.hid (row_below HO1.out hb)
        clear hb x5 c0 c1 c2 c3 c4 c5 c6
        rcases r2 with _ | _
        · have x5 := KX2.out.cell 5 rfl
          have HK := Lib.hid (AcksF.nearK_no (p := (fun q => AcksF.hasB n' s' q || AcksF.hasB n s q)) (n := k) HP.out)
          go_wp2
          go_roundw
          case rel => exact ⟨k + 1, by go_num, by omega, by rw [HK.out]; exact HO2.out, HBL2.out, hs2, KX2.out, KY2.out, KR2.out⟩
          case measure => simp [intOf]; omega
        · have x5 := KX2.out.cell 5 rfl
          have HK := Lib.hid (AcksF.nearK_yes (p := (fun q => AcksF.hasB n' s' q || AcksF.hasB n s q)) (n := k) HP.out)
          have hown2 := HO2.out
          go_wp2_with (at_builtin; refine wpList_append_own _ rfl (.tmp 51) (.tmp 56) 22 rfl (w.heap.size + 3) 3 i0 (.int .i64 0) 1 8 Tryd.underlying22 hi hz0 hz1 hz2 rfl (by decide) _ _ _ rfl (hown2.alloc _) ⟨w2.heap.size, 0, none⟩ 1 1 [_] rfl rfl (cell_one_new _ _ _) (by simp [Value.oneCell']) (by unfold maxLen; omega) (by omega) (by simp; omega) ?_; intro v1 w9 hown1 hg1 _)
          go_roundw
          case rel =>
            exact ⟨k + 1, by go_num, by omega, by rw [HK.out, intV_snoc, List.length_append]; exact hown1, (HBL2.out.alloc HBL2.out.size _).grown hg1 (by simp; omega) (fun k hk => by have := (hown2.lt k hk).1; omega),
              Nat.le_trans hs2 (Nat.le_trans (by simp) hg1.size), (KX2.out.next _).grown hg1 (fun k hk => by have := (hown2.lt k hk).1; omega), (KY2.out.next _).grown hg1 (fun k hk => by have := (hown2.lt k hk).1; omega), (KR2.out.next _).grown hg1 (fun k hk => by have := (hown2.lt k hk).1; omega)⟩
          case measure => simp [intOf]; omega
      · have x5 := KX1.out.cell 5 rfl
        have HK := Lib.hid (AcksF.nearK_yes (p := (fun q => AcksF.hasB n' s' q || AcksF.hasB n s q)) (n := k) HP.out)
        have hown2 := HO1.out
        go_wp2_with (at_builtin; refine wpList_append_own _ rfl (.tmp 51) (.tmp 56) 22 rfl (w.heap.size + 3) 3 i0 (.int .i64 0) 1 8 Tryd.underlying22 hi hz0 hz1 hz2 rfl (by decide) _ _ _ rfl (hown2.alloc _) ⟨w1.heap.size, 0, none⟩ 1 1 [_] rfl rfl (cell_one_new _ _ _) (by simp [Value.oneCell']) (by unfold maxLen; omega) (by omega) (by simp; omega) ?_; intro v1 w9 hown1 hg1 _)
        go_roundw
        case rel =>
          exact ⟨k + 1, by go_num, by omega, by rw [HK.out, intV_snoc, List.length_append]; exact hown1, (HBL1.out.alloc HBL1.out.size _).grown hg1 (by simp; omega) (fun k hk => by have := (hown2.lt k hk).1; omega),
            Nat.le_trans hs1 (Nat.le_trans (by simp) hg1.size), (KX1.out.next _).grown hg1 (fun k hk => by have := (hown2.lt k hk).1; omega), (KY1.out.next _).grown hg1 (fun k hk => by have := (hown2.lt k hk).1; omega), (KR1.out.next _).grown hg1 (fun k hk => by have := (hown2.lt k hk).1; omega)⟩
        case measure => simp [intOf]; omega
    · obtain rfl : k = 8 := by omega
      obtain ⟨ra, rc, rfl⟩ := row_slice hown
      have OF := Lib.hid (rof_any n ra rc _ wr (IntAt.own hown (by rw [HN.out]; exact AcksF.nearL_bound _ _)) (by omega) N1.out)
      obtain ⟨m, hm⟩ : ∃ m, AcksF.ofN n (AcksF.nearK n (fun q => AcksF.hasB n' s' q || AcksF.hasB n s q) 8) = m := ⟨_, rfl⟩
      rw [hm] at OF
      have HM := Lib.hid hm
      clear hm
      have x5 := KX.out.cell 5 rfl
      have x6 := KX.out.cell 6 rfl
      have t6 := KX.out.thaw 6
      go_wp2_with fail
      refine OF.out.mono ?_
      rintro e w5 ⟨rfl, rfl⟩
      go_upto_region 11 with fail
      have kX3 : Blk (wr.setCell ⟨w.heap.size, 6, none⟩ (.int .i64 (m : Int))) w.heap.size [.int .i64 f, .int .u32 a, .int .u32 b, .int .u32 c, .int .u32 d, .int .i64 n, .int .i64 (m : Int)] := KX.out.set 6 (.int .i64 (m : Int))
      have kR3 : Blk (wr.setCell ⟨w.heap.size, 6, none⟩ (.int .i64 (m : Int))) (w.heap.size + 1 + 1) [.int .i64 0, .int .u32 0, .int .u32 0, .int .u32 0, .int .u32 0, .int .i64 0, .int .i64 0] := KR.out.other _ _ (by show w.heap.size + 1 + 1 ≠ w.heap.size; omega)
      have hb3 : Below w.heap.size w (wr.setCell ⟨w.heap.size, 6, none⟩ (.int .i64 (m : Int))) := HBL.out.setCell (Nat.le_refl _) _
      obtain ⟨w3, hw3⟩ : ∃ w3, wr.setCell ⟨w.heap.size, 6, none⟩ (.int .i64 (m : Int)) = w3 := ⟨_, rfl⟩
      rw [hw3] at kX3 kR3 hb3 ⊢
      clear hw3 x5 x6 t6
      have x0 := kX3.cell 0 rfl
      have x1 := kX3.cell 1 rfl
      have x2 := kX3.cell 2 rfl
      have x3 := kX3.cell 3 rfl
      have x4 := kX3.cell 4 rfl
      have x5 := kX3.cell 5 rfl
      have x6 := kX3.cell 6 rfl
      have r0 := kR3.cell 0 rfl
      have r1 := kR3.cell 1 rfl
      have r2 := kR3.cell 2 rfl
      have r3 := kR3.cell 3 rfl
      have r4 := kR3.cell 4 rfl
      have r5 := kR3.cell 5 rfl
      have r6 := kR3.cell 6 rfl
      have t0 := kR3.thaw 0
      have t1 := kR3.thaw 1
      have t2 := kR3.thaw 2
      have t3 := kR3.thaw 3
      have t4 := kR3.thaw 4
      have t5 := kR3.thaw 5
      have t6 := kR3.thaw 6
      have K := Lib.hid (((((((kR3.set 0 (.int .i64 f)).set 1 (.int .u32 a)).set 2 (.int .u32 b)).set 3 (.int .u32 c)).set 4 (.int .u32 d)).set 5 (.int .i64 n)).set 6 (.int .i64 (m : Int)))
      have H3 := Lib.hid hb3
      have hlo := kR3.lt
      clear kX3 kR3 hb3
      go_wp2_with fail
      clear r0 r1 r2 r3 r4 r5 r6
      have k := K.out
      have r0 := k.cell 0 rfl
      have r1 := k.cell 1 rfl
      have r2 := k.cell 2 rfl
      have r3 := k.cell 3 rfl
      have r4 := k.cell 4 rfl
      have r5 := k.cell 5 rfl
      have r6 := k.cell 6 rfl
      rw [HM.out]
      refine bodyPost_ret (v := (.agg #[.int .i64 f, .int .u32 a, .int .u32 b, .int .u32 c, .int .u32 d, .int .i64 n, .int .i64 (m : Int)] : Value)) (by simp [results, Tryd.results13, go_sem, r0, r1, r2, r3, r4, r5, r6]) rfl ⟨rfl, ?_⟩
      exact (((((((H3.out.setCell (by show w.heap.size ≤ w.heap.size + 1 + 1; omega) _).setCell (by show w.heap.size ≤ w.heap.size + 1 + 1; omega) _).setCell (by show w.heap.size ≤ w.heap.size + 1 + 1; omega) _).setCell (by show w.heap.size ≤ w.heap.size + 1 + 1; omega) _).setCell (by show w.heap.size ≤ w.heap.size + 1 + 1; omega) _).setCell (by show w.heap.size ≤ w.heap.size + 1 + 1; omega) _).setCell (by show w.heap.size ≤ w.heap.size + 1 + 1; omega) _)

set_option maxRecDepth 100000 in
set_option maxHeartbeats 600000 in
theorem rboth_same_out (f a b c d n s f' a' b' c' d' n' s' : Int) (w : World) (hn : -9223372036854775808 ≤ n ∧ n < 9223372036854775808) (hn' : -9223372036854775808 ≤ n' ∧ n' < 9223372036854775808) (h : ¬ n < n') (hs : AcksF.seqB n = false) :
    Calls Tryd.prog 13 #[(.agg #[.int .i64 f, .int .u32 a, .int .u32 b, .int .u32 c, .int .u32 d, .int .i64 n, .int .i64 s] : Value), (.agg #[.int .i64 f', .int .u32 a', .int .u32 b', .int .u32 c', .int .u32 d', .int .i64 n', .int .i64 s'] : Value)] w fun e w' =>
      e = .returned (.agg #[.int .i64 f, .int .u32 a, .int .u32 b, .int .u32 c, .int .u32 d, .int .i64 n, .int .i64 (AcksF.ofN n (AcksF.nearL n (fun q => AcksF.hasB n s q || AcksF.hasB n' s' q)) : Int)] : Value) ∧ Below w.heap.size w w' := by
  have d0 : decide (n < n') = false := decide_eq_false h
  have hout := AcksF.seqB_out hs
  have HN : Hid (([] : List Int) = AcksF.nearL n (fun q => AcksF.hasB n s q || AcksF.hasB n' s' q)) := Lib.hid (AcksF.nearL_out _ hs).symm
  have HD : Hid (decide (0 ≤ n) = false ∨ (decide (0 ≤ n) = true ∧ decide (n ≤ 65535) = false)) := Lib.hid (by
    by_cases h : 0 ≤ n
    · exact .inr ⟨decide_eq_true h, decide_eq_false (by omega)⟩
    · exact .inl (decide_eq_false h))
  rw [← HN.out]
  have KX := Lib.hid (show Blk (World.alloc (World.alloc (World.alloc w (.cells #[.int .i64 f, .int .u32 a, .int .u32 b, .int .u32 c, .int .u32 d, .int .i64 n, .int .i64 s] 30)) (.cells #[.int .i64 f', .int .u32 a', .int .u32 b', .int .u32 c', .int .u32 d', .int .i64 n', .int .i64 s'] 30)) (.cells #[.int .i64 0, .int .u32 0, .int .u32 0, .int .u32 0, .int .u32 0, .int .i64 0, .int .i64 0] 30)) w.heap.size [.int .i64 f, .int .u32 a, .int .u32 b, .int .u32 c, .int .u32 d, .int .i64 n, .int .i64 s] from (((Blk.new w [.int .i64 f, .int .u32 a, .int .u32 b, .int .u32 c, .int .u32 d, .int .i64 n, .int .i64 s] 30).next _).next _))
  have KY := Lib.hid (show Blk (World.alloc (World.alloc (World.alloc w (.cells #[.int .i64 f, .int .u32 a, .int .u32 b, .int .u32 c, .int .u32 d, .int .i64 n, .int .i64 s] 30)) (.cells #[.int .i64 f', .int .u32 a', .int .u32 b', .int .u32 c', .int .u32 d', .int .i64 n', .int .i64 s'] 30)) (.cells #[.int .i64 0, .int .u32 0, .int .u32 0, .int .u32 0, .int .u32 0, .int .i64 0, .int .i64 0] 30)) (w.heap.size + 1) [.int .i64 f', .int .u32 a', .int .u32 b', .int .u32 c', .int .u32 d', .int .i64 n', .int .i64 s'] from ((Blk.newAt (by simp only [World.size_alloc]) [.int .i64 f', .int .u32 a', .int .u32 b', .int .u32 c', .int .u32 d', .int .i64 n', .int .i64 s'] 30).next _))
  have KR := Lib.hid (show Blk (World.alloc (World.alloc (World.alloc w (.cells #[.int .i64 f, .int .u32 a, .int .u32 b, .int .u32 c, .int .u32 d, .int .i64 n, .int .i64 s] 30)) (.cells #[.int .i64 f', .int .u32 a', .int .u32 b', .int .u32 c', .int .u32 d', .int .i64 n', .int .i64 s'] 30)) (.cells #[.int .i64 0, .int .u32 0, .int .u32 0, .int .u32 0, .int .u32 0, .int .i64 0, .int .i64 0] 30)) (w.heap.size + 1 + 1) [.int .i64 0, .int .u32 0, .int .u32 0, .int .u32 0, .int .u32 0, .int .i64 0, .int .i64 0] from (Blk.newAt (by simp only [World.size_alloc]) [.int .i64 0, .int .u32 0, .int .u32 0, .int .u32 0, .int .u32 0, .int .i64 0, .int .i64 0] 30))
  have H0 := Lib.hid (show Below w.heap.size w (World.alloc (World.alloc (World.alloc w (.cells #[.int .i64 f, .int .u32 a, .int .u32 b, .int .u32 c, .int .u32 d, .int .i64 n, .int .i64 s] 30)) (.cells #[.int .i64 f', .int .u32 a', .int .u32 b', .int .u32 c', .int .u32 d', .int .i64 n', .int .i64 s'] 30)) (.cells #[.int .i64 0, .int .u32 0, .int .u32 0, .int .u32 0, .int .u32 0, .int .i64 0, .int .i64 0] 30)) from (((Below.refl _ _).alloc (Nat.le_refl _) _).alloc (by simp only [World.size_alloc]; omega) _).alloc (by simp only [World.size_alloc]; omega) _)
  have N1 := Lib.hid (show n < 9223372036854775808 from hn.2)
  have N2 := Lib.hid (show n' < 9223372036854775808 from hn'.2)
  clear h hs hout
  go_enter Tryd.func13, Tryd.ntmps13
  go_wp2
  go_loopw [5, 14] (fun u v wr => ∃ k : Nat, v = .int .i64 (k : Int) ∧ k ≤ 8 ∧ u = .slice none 0 0 ∧ Below w.heap.size w wr ∧ w.heap.size + 3 ≤ wr.heap.size ∧ Blk wr w.heap.size [.int .i64 f, .int .u32 a, .int .u32 b, .int .u32 c, .int .u32 d, .int .i64 n, .int .i64 s] ∧ Blk wr (w.heap.size + 1) [.int .i64 f', .int .u32 a', .int .u32 b', .int .u32 c', .int .u32 d', .int .i64 n', .int .i64 s'] ∧ Blk wr (w.heap.size + 1 + 1) [.int .i64 0, .int .u32 0, .int .u32 0, .int .u32 0, .int .u32 0, .int .i64 0, .int .i64 0])
    (fun _ v _ => (8 - intOf v).toNat)
  case atStart => exact ⟨0, rfl, by omega, rfl, H0.out, by simp only [World.size_alloc]; omega, KX.out, KY.out, KR.out⟩
  case round =>
    clear KX KY KR H0
    obtain ⟨k, rfl, hk, rfl, hbel, hsz, kx, ky, kr⟩ := hrel
    have HBL := Lib.hid hbel
    have KX := Lib.hid kx
    have KY := Lib.hid ky
    have KR := Lib.hid kr
    clear hbel kx ky kr
    by_cases h : k < 8
    · obtain ⟨z, hz⟩ : ∃ z, wrap64 (n + (k : Int)) = z := ⟨_, rfl⟩
      have hzb := wrap64_bounds (n + (k : Int))
      rw [hz] at hzb
      have C1 := Lib.hid (rhas_any f' a' b' c' d' n' s' z N2.out hzb)
      have C2 := Lib.hid (rhas_any f a b c d n s z N1.out hzb)
      obtain ⟨r1, hr1⟩ : ∃ r, AcksF.hasB n' s' z = r := ⟨_, rfl⟩
      obtain ⟨r2, hr2⟩ : ∃ r, AcksF.hasB n s z = r := ⟨_, rfl⟩
      rw [hr1] at C1
      rw [hr2] at C2
      clear hr1 hr2 hzb
      have c0 := KY.out.cell 0 rfl
      have c1 := KY.out.cell 1 rfl
      have c2 := KY.out.cell 2 rfl
      have c3 := KY.out.cell 3 rfl
      have c4 := KY.out.cell 4 rfl
      have c5 := KY.out.cell 5 rfl
      have c6 := KY.out.cell 6 rfl
      have x5 := KX.out.cell 5 rfl
      go_wp2_with fail
      with_reducible refine (Gives.go C1.out _).mono ?_
      rintro e w1 ⟨rfl, hb⟩
      have HBL1 := Lib.hid (bel_on HBL.out hb)
      have KX1 := Lib.hid (KX.out.on hb)
      have KY1 := Lib.hid (KY.out.on hb)
      have KR1 := Lib.hid (KR.out.on hb)
      have hs1 := Nat.le_trans hsz hb.size
      clear hb x5 c0 c1 c2 c3 c4 c5 c6
      rcases HD.out with d1 | ⟨d1, d2⟩
      all_goals
        rcases r1 with _ | _
        all_goals
          have c0 := KX1.out.cell 0 rfl
          have c1 := KX1.out.cell 1 rfl
          have c2 := KX1.out.cell 2 rfl
          have c3 := KX1.out.cell 3 rfl
          have c4 := KX1.out.cell 4 rfl
          have c5 := KX1.out.cell 5 rfl
          have c6 := KX1.out.cell 6 rfl
          have x5 := KX1.out.cell 5 rfl
          go_wp2_with fail
          with_reducible refine (Gives.go C2.out _).mono ?_
          rintro e w2 ⟨rfl, hb⟩
          have HBL2 := Lib.hid (bel_on HBL1.out hb)
          have KX2 := Lib.hid (KX1.out.on hb)
          have KY2 := Lib.hid (KY1.out.on hb)
          have KR2 := Lib.hid (KR1.out.on hb)
          have hs2 := Nat.le_trans hs1 hb.size
          clear hb x5 c0 c1 c2 c3 c4 c5 c6
          rcases r2 with _ | _
          all_goals
            have x5 := KX2.out.cell 5 rfl
            go_wp2
            go_roundw
            case rel => exact ⟨k + 1, by go_num, by omega, rfl, HBL2.out, hs2, KX2.out, KY2.out, KR2.out⟩
            case measure => simp [intOf]; omega
    · obtain rfl : k = 8 := by omega
      have OF := Lib.hid (rof_any n none 0 [] wr (fun i x hx => by simp at hx) (by simp) N1.out)
      obtain ⟨m, hm⟩ : ∃ m, AcksF.ofN n [] = m := ⟨_, rfl⟩
      rw [hm] at OF
      have HM := Lib.hid hm
      clear hm
      have x5 := KX.out.cell 5 rfl
      have x6 := KX.out.cell 6 rfl
      have t6 := KX.out.thaw 6
      go_wp2_with fail
      refine OF.out.mono ?_
      rintro e w5 ⟨rfl, rfl⟩
      go_upto_region 11 with fail
      have kX3 : Blk (wr.setCell ⟨w.heap.size, 6, none⟩ (.int .i64 (m : Int))) w.heap.size [.int .i64 f, .int .u32 a, .int .u32 b, .int .u32 c, .int .u32 d, .int .i64 n, .int .i64 (m : Int)] := KX.out.set 6 (.int .i64 (m : Int))
      have kR3 : Blk (wr.setCell ⟨w.heap.size, 6, none⟩ (.int .i64 (m : Int))) (w.heap.size + 1 + 1) [.int .i64 0, .int .u32 0, .int .u32 0, .int .u32 0, .int .u32 0, .int .i64 0, .int .i64 0] := KR.out.other _ _ (by show w.heap.size + 1 + 1 ≠ w.heap.size; omega)
      have hb3 : Below w.heap.size w (wr.setCell ⟨w.heap.size, 6, none⟩ (.int .i64 (m : Int))) := HBL.out.setCell (Nat.le_refl _) _
      obtain ⟨w3, hw3⟩ : ∃ w3, wr.setCell ⟨w.heap.size, 6, none⟩ (.int .i64 (m : Int)) = w3 := ⟨_, rfl⟩
      rw [hw3] at kX3 kR3 hb3 ⊢
      clear hw3 x5 x6 t6
      have x0 := kX3.cell 0 rfl
      have x1 := kX3.cell 1 rfl
      have x2 := kX3.cell 2 rfl
      have x3 := kX3.cell 3 rfl
      have x4 := kX3.cell 4 rfl
      have x5 := kX3.cell 5 rfl
      have x6 := kX3.cell 6 rfl
      have r0 := kR3.cell 0 rfl
      have r1 := kR3.cell 1 rfl
      have r2 := kR3.cell 2 rfl
      have r3 := kR3.cell 3 rfl
      have r4 := kR3.cell 4 rfl
      have r5 := kR3.cell 5 rfl
      have r6 := kR3.cell 6 rfl
      have t0 := kR3.thaw 0
      have t1 := kR3.thaw 1
      have t2 := kR3.thaw 2
      have t3 := kR3.thaw 3
      have t4 := kR3.thaw 4
      have t5 := kR3.thaw 5
      have t6 := kR3.thaw 6
      have K := Lib.hid (((((((kR3.set 0 (.int .i64 f)).set 1 (.int .u32 a)).set 2 (.int .u32 b)).set 3 (.int .u32 c)).set 4 (.int .u32 d)).set 5 (.int .i64 n)).set 6 (.int .i64 (m : Int)))
      have H3 := Lib.hid hb3
      have hlo := kR3.lt
      clear kX3 kR3 hb3
      go_wp2_with fail
      clear r0 r1 r2 r3 r4 r5 r6
      have k := K.out
      have r0 := k.cell 0 rfl
      have r1 := k.cell 1 rfl
      have r2 := k.cell 2 rfl
      have r3 := k.cell 3 rfl
      have r4 := k.cell 4 rfl
      have r5 := k.cell 5 rfl
      have r6 := k.cell 6 rfl
      rw [HM.out]
      refine bodyPost_ret (v := (.agg #[.int .i64 f, .int .u32 a, .int .u32 b, .int .u32 c, .int .u32 d, .int .i64 n, .int .i64 (m : Int)] : Value)) (by simp [results, Tryd.results13, go_sem, r0, r1, r2, r3, r4, r5, r6]) rfl ⟨rfl, ?_⟩
      exact (((((((H3.out.setCell (by show w.heap.size ≤ w.heap.size + 1 + 1; omega) _).setCell (by show w.heap.size ≤ w.heap.size + 1 + 1; omega) _).setCell (by show w.heap.size ≤ w.heap.size + 1 + 1; omega) _).setCell (by show w.heap.size ≤ w.heap.size + 1 + 1; omega) _).setCell (by show w.heap.size ≤ w.heap.size + 1 + 1; omega) _).setCell (by show w.heap.size ≤ w.heap.size + 1 + 1; omega) _).setCell (by show w.heap.size ≤ w.heap.size + 1 + 1; omega) _)
end Go.Proofs.YtaamlmahhkoleaaDoor
