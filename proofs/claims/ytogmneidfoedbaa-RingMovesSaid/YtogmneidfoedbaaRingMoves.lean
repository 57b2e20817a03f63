/- RingMoves: whatever queues, rooms and numbers come, the law returns true (places, doubles and moves are as the document's own say; what is moved is there still, in order; without doubles each text is there once), and its arguments read as before. No condition. -/
import Derived.Test.YtogmneidfoedbaaRows
import Derived.Test.YtogmneidfoedbaaRingF
import Derived.Test.YtogmneidfoedbaaRingJ
import Derived.Test.YtogmneidfoedbaaRingM
import Derived.Test.YtogmneidfoedbaaFrom
import Derived.Test.YtogmneidfoedbaaStrsOpen
import Derived.Test.YtogmneidfoedbaaTail
import Derived.ProofKit
import Derived.OpenShut
import Derived.ShutString
import Derived.ChangeOld
import Derived.Carry
namespace Go.Proofs.Ytogmneidfoedbaa.ringMoves
open Go.ChangeShapes Go.WideShapes Go.ChangeAt Go.RowKit
open Go.ChangeMaps (open_string shut_string)

theorem own : ownKnob Try.prog.godebug = none := by kernel_rfl
theorem laidOut : laidOutB Try.prog = true := by kernel_rfl

set_option maxRecDepth 100000 in
set_option maxHeartbeats 8000000 in
theorem walk (la : Option Addr) (lc : Nat) (l : List ByteArray) (ma : Option Addr) (mc : Nat) (m : List ByteArray) (x y z : Int) (hy : -9223372036854775808 ≤ y ∧ y < 9223372036854775808) (w : World) (hl : Txts w la l.length lc l) (hm : Txts w ma m.length mc m) (hlz : ∀ s ∈ l, s.size ≤ maxLen) (hmz : ∀ s ∈ m, s.size ≤ maxLen) :
    Calls Try.prog 4 #[.slice la l.length lc, .slice ma m.length mc, .agg #[.int .i64 x, .int .i64 y, .int .i64 z]] w fun e w' => e = .returned (.bool true) ∧ Below w.heap.size w w' := by
  have AW := Lib.hid rawake_any
  obtain ⟨n, hn⟩ : ∃ n, l.length = n := ⟨_, rfl⟩
  obtain ⟨k, hk⟩ : ∃ k, m.length = k := ⟨_, rfl⟩
  rw [hn] at hl ⊢
  rw [hk] at hm ⊢
  have HL := Lib.hid hl
  have HM := Lib.hid hm
  have HLZ := Lib.hid hlz
  have HMZ := Lib.hid hmz
  have HN := Lib.hid hn
  have HK := Lib.hid hk
  have HB0 : Hid (Below w.heap.size w (w.alloc (.cells #[.int .i64 x, .int .i64 y, .int .i64 z] 37))) := Lib.hid ((Below.refl _ _).alloc (Nat.le_refl _) _)
  clear hl hm hlz hmz hn hk
  by_cases h1 : 60 < n
  · have g1 : decide ((60 : Int) < (n : Int)) = true := decide_eq_true (by omega)
    clear h1
    go_enter Try.func4, Try.ntmps4
    go_wp2_with fail
    refine (AW.out _).mono ?_
    rintro e w1 ⟨rfl, hb⟩
    go_wp2_with fail
    go_ret
    exact ⟨rfl, bel_on HB0.out hb⟩
  have g1 : decide ((60 : Int) < (n : Int)) = false := decide_eq_false (by omega)
  by_cases h2 : 60 < k
  · have g2 : decide ((60 : Int) < (k : Int)) = true := decide_eq_true (by omega)
    clear h1 h2
    go_enter Try.func4, Try.ntmps4
    go_wp2_with fail
    refine (AW.out _).mono ?_
    rintro e w1 ⟨rfl, hb⟩
    go_wp2_with fail
    go_ret
    exact ⟨rfl, bel_on HB0.out hb⟩
  have g2 : decide ((60 : Int) < (k : Int)) = false := decide_eq_false (by omega)
  have HN6 : Hid (n ≤ 60) := Lib.hid (by omega)
  have HK6 : Hid (k ≤ 60) := Lib.hid (by omega)
  have BN := Lib.hid (Blk.new w [.int .i64 x, .int .i64 y, .int .i64 z] 37)
  clear h1 h2
  go_enter Try.func4, Try.ntmps4
  go_upto_region 3 with fail
  clear g1 g2
  obtain ⟨W, hW⟩ : ∃ v, w.alloc (.cells #[.int .i64 x, .int .i64 y, .int .i64 z] 37) = v := ⟨_, rfl⟩
  rw [hW] at BN HB0 ⊢
  have hws : W.heap.size = w.heap.size + 1 := by rw [← hW]; simp only [World.size_alloc]
  have HWS := Lib.hid hws
  clear hW hws
  have HLW := Lib.hid (HL.out.on HB0.out)
  have HMW := Lib.hid (HM.out.on HB0.out)
  have HB1 : Hid (Below W.heap.size W (W.alloc (.cells #[] 9))) := Lib.hid ((Below.refl _ _).alloc (Nat.le_refl _) _)
  go_upto_region 4 with (first
    | (at_builtin; refine app_own rfl (.tmp 37) (.tmp 38) rfl W.heap.size (some ⟨W.heap.size, 0, none⟩) la 0 0 n lc [] l rfl rfl (World.ownsRow_made W #[] 0 (Nat.le_refl _) (Nat.zero_le _) rfl) rfl (HLW.out.on HB1.out) (by have := HN6.out; omega) (by simp only [World.size_alloc]; omega) ?_; intro a2 c2 w2 hown2 hg2; rw [Nat.zero_add, List.nil_append] at hown2; have HO := Lib.hid hown2; have HB2 := Lib.hid (HB1.out.grown hg2 HB1.out.size (fun j hj => by have e : some W.heap.size = some j := hj; cases e; exact Nat.le_refl _)); clear hg2 hown2)
    | (at_builtin; refine app_own rfl (.tmp 39) (.tmp 40) rfl W.heap.size a2 ma n c2 k mc l m rfl rfl HO.out HLW.out.1 (HMW.out.on HB2.out) (by have := HN6.out; have := HK6.out; omega) HB2.out.size ?_; intro a3 c3 w3 hown3 hg3; have HO3 := Lib.hid hown3; have HB3 := Lib.hid (HB2.out.grown hg3 HB2.out.size (fun j hj => (HO.out.lt j hj).1)); clear hg3 hown3))
  obtain ⟨q, hq⟩ : ∃ q, n + k = q := ⟨_, rfl⟩
  have hqi : (n : Int) + (k : Int) = (q : Int) := by omega
  have hq6 : q ≤ 120 := by have := HN6.out; have := HK6.out; omega
  have HT3 := Lib.hid (row_txts HO3.out (by rw [List.length_append, HLW.out.1, HMW.out.1]))
  have HAll : Hid (∀ s ∈ l ++ m, s.size ≤ maxLen) := Lib.hid (fun s hs => by
    rcases List.mem_append.1 hs with h | h
    · exact HLZ.out s h
    · exact HMZ.out s h)
  rw [hq] at HT3
  rw [hqi, hq]
  have HQ := Lib.hid hq
  clear hqi hq
  go_loopw [43] (fun v wr => ∃ i : Nat, i ≤ q ∧ v = .int .i64 (i : Int) ∧ w3 = wr) (fun v _ => (q - intOf v).toNat)
  case atStart => exact ⟨0, Nat.zero_le _, rfl, rfl⟩
  case round =>
    obtain ⟨i, hi, rfl, rfl⟩ := hrel
    by_cases hiq : i < q
    · have hx : (l ++ m)[i]? = some ((l ++ m)[i]'(by have := HT3.out.1; omega)) := List.getElem?_eq_getElem _
      obtain ⟨s, hse⟩ : ∃ s, ((l ++ m)[i]'(by have := HT3.out.1; omega)) = s := ⟨_, rfl⟩
      rw [hse] at hx
      obtain ⟨p, rfl, hpc⟩ := HT3.out.2.2.2.2 i s hx
      have hsz := HAll.out s (List.mem_of_getElem? hx)
      unfold maxLen at hsz
      have HI := Lib.hid hiq
      clear hx hse
      by_cases hs3 : 300 < s.size
      · have t3 : decide ((300 : Int) < (s.size : Int)) = true := decide_eq_true (by omega)
        clear hs3
        go_wp2_with fail
        refine (AW.out _).mono ?_
        rintro e w4 ⟨rfl, hb⟩
        have HF := Lib.hid (bel_on HB0.out (bel_on HB3.out hb))
        clear hb hpc
        go_wp2_with fail
        go_ret
        exact ⟨rfl, HF.out⟩
      · have t3 : decide ((300 : Int) < (s.size : Int)) = false := decide_eq_false (by omega)
        clear hs3
        go_wp2_with fail
        go_roundw
        case rel => exact ⟨i + 1, HI.out, by go_num, trivial⟩
        case measure => exact meas_k q i _ rfl HI.out
    · have hc0 : decide (i < q) = false := decide_eq_false hiq
      have n0 := (BN.out.on HB3.out).cell 0 rfl
      have n1 := (BN.out.on HB3.out).cell 1 rfl
      have n2 := (BN.out.on HB3.out).cell 2 rfl
      have N3 := Lib.hid (BN.out.on HB3.out)
      clear hi hiq
      go_upto_region 9 with fail
      go_cut [9, 10] (fun s9 s10 wx => ∃ ba bb : Nat, s9 = .pointer (some ⟨ba, 0, none⟩) ∧ s10 = .pointer (some ⟨bb, 0, none⟩) ∧ Blk wx ba [.int .i64 x, .slice la n lc] ∧ Blk wx bb [.int .i64 y, .slice ma k mc] ∧ Below w3.heap.size w3 wx)
      case first =>
        have s0 : w3.drew.cell? ⟨w.heap.size, 0, none⟩ = some (.int .i64 x) ∧ w3.drew.cell? ⟨w.heap.size, 1, none⟩ = some (.int .i64 y) ∧ w3.drew.cell? ⟨w.heap.size, 2, none⟩ = some (.int .i64 z) := ⟨N3.out.drew.cell 0 rfl, N3.out.drew.cell 1 rfl, N3.out.drew.cell 2 rfl⟩
        clear n0 n1 n2
        refine wp_region_tail (fun w' => w'.cell? ⟨w.heap.size, 0, none⟩ = some (.int .i64 x) ∧ w'.cell? ⟨w.heap.size, 1, none⟩ = some (.int .i64 y) ∧ w'.cell? ⟨w.heap.size, 2, none⟩ = some (.int .i64 z)) (fun j => j == 11) (by kernel_rfl) s0 (fun hS => ?_)
        refine wpAnyT_take 0 rfl (by kernel_rfl) (by kernel_rfl) (by kernel_rfl) (by kernel_rfl) (fun _ _ _ h => h) (by rfl) (by intro w hSw; (try dsimp only at hSw); go_simp <;> with_reducible rfl) (by assumption) ?_
        try simp only [Act.put]
        try simp only [List.setIfInBounds_toArray]
        try simp only [List.set]
        refine wpAnyT_take 1 rfl (by kernel_rfl) (by kernel_rfl) (by kernel_rfl) (by kernel_rfl) (fun _ _ _ h => h) (by rfl) (by intro w hSw; (try dsimp only at hSw); go_simp <;> with_reducible rfl) (by assumption) ?_
        try simp only [Act.put]
        try simp only [List.setIfInBounds_toArray]
        try simp only [List.set]
        refine wpAnyT_take 2 rfl (by kernel_rfl) (by kernel_rfl) (by kernel_rfl) (by kernel_rfl) (fun _ _ _ h => h) (by rfl) (by intro w hSw; (try dsimp only at hSw); go_simp <;> with_reducible rfl) (by assumption) ?_
        try simp only [Act.put]
        try simp only [List.setIfInBounds_toArray]
        try simp only [List.set]
        refine wpAnyT_take 3 rfl (by kernel_rfl) (by kernel_rfl) (by kernel_rfl) (by kernel_rfl) (fun _ _ _ h => h) (by rfl) (by intro w hSw; (try dsimp only at hSw); go_simp <;> with_reducible rfl) (by assumption) ?_
        try simp only [Act.put]
        try simp only [List.setIfInBounds_toArray]
        try simp only [List.set]
        refine wpAnyT_take 4 rfl (by kernel_rfl) (by kernel_rfl) (by kernel_rfl) (by kernel_rfl) (fun _ _ _ h => h) (by rfl) (by intro w hSw; (try dsimp only at hSw); go_simp <;> with_reducible rfl) (by assumption) ?_
        try simp only [Act.put]
        try simp only [List.setIfInBounds_toArray]
        try simp only [List.set]
        refine wpAnyT_take 5 rfl (by kernel_rfl) (by kernel_rfl) (by kernel_rfl) (by kernel_rfl) (fun _ _ _ h => h) (by rfl) (by intro w hSw; (try dsimp only at hSw); go_simp <;> with_reducible rfl) (by assumption) ?_
        try simp only [Act.put]
        try simp only [List.setIfInBounds_toArray]
        try simp only [List.set]
        refine wpAnyT_take 6 rfl (by kernel_rfl) (by kernel_rfl) (by kernel_rfl) (by kernel_rfl) (fun _ _ _ h => h) (by rfl) (by intro w hSw; (try dsimp only at hSw); go_simp <;> with_reducible rfl) (by assumption) ?_
        try simp only [Act.put]
        try simp only [List.setIfInBounds_toArray]
        try simp only [List.set]
        refine wpAnyT_take 7 rfl (by kernel_rfl) (by kernel_rfl) (by kernel_rfl) (by kernel_rfl) (fun _ _ _ h => h) (by rfl) (by intro w hSw; (try dsimp only at hSw); go_simp <;> with_reducible rfl) (by assumption) ?_
        try simp only [Act.put]
        try simp only [List.setIfInBounds_toArray]
        try simp only [List.set]
        refine wpAnyT_two 8 9 rfl rfl (by kernel_rfl) (fun K hK => ?_) (fun K hK => ?_)
        · go_simp
          refine hK.out _ _ (fun _ => ⟨cell_later ((Below.refl _ _).alloc (Nat.le_refl _) _) hS.1, cell_later ((Below.refl _ _).alloc (Nat.le_refl _) _) hS.2.1, cell_later ((Below.refl _ _).alloc (Nat.le_refl _) _) hS.2.2⟩) (fun hn => ?_)
          clear hK K hS
          have hS := hn rfl
          clear hn
          try simp only [Act.put]
          try simp only [List.setIfInBounds_toArray]
          try simp only [List.set]
          refine wpAnyT_one 9 rfl (by kernel_rfl) (fun K hK => ?_)
          go_simp
          refine hK.out _ _ (fun _ => ⟨cell_later ((Below.refl _ _).alloc (Nat.le_refl _) _) hS.1, cell_later ((Below.refl _ _).alloc (Nat.le_refl _) _) hS.2.1, cell_later ((Below.refl _ _).alloc (Nat.le_refl _) _) hS.2.2⟩) (fun hn => ?_)
          clear hK K hS
          have hS := hn rfl
          clear hn
          try simp only [Act.put]
          try simp only [List.setIfInBounds_toArray]
          try simp only [List.set]
          have b0 : Blk ((w3.alloc (.cells #[.int .i64 0, .slice none 0 0] 27)).alloc (.cells #[.int .i64 0, .slice none 0 0] 27)).drew w3.heap.size [.int .i64 0, .slice none 0 0] := (((Blk.new w3 [.int .i64 0, .slice none 0 0] 27).next _)).drew
          have b1 : Blk ((w3.alloc (.cells #[.int .i64 0, .slice none 0 0] 27)).alloc (.cells #[.int .i64 0, .slice none 0 0] 27)).drew (w3.heap.size + 1) [.int .i64 0, .slice none 0 0] := (Blk.newAt (by simp only [World.size_alloc]) [.int .i64 0, .slice none 0 0] 27).drew
          have bv : Below w3.heap.size w3 ((w3.alloc (.cells #[.int .i64 0, .slice none 0 0] 27)).alloc (.cells #[.int .i64 0, .slice none 0 0] 27)).drew := (((Below.refl _ _).alloc (Nat.le_refl _) _).alloc (by simp only [World.size_alloc]; omega) _).drew
          have bn := N3.out.on bv
          obtain ⟨v, hv⟩ : ∃ v, ((w3.alloc (.cells #[.int .i64 0, .slice none 0 0] 27)).alloc (.cells #[.int .i64 0, .slice none 0 0] 27)).drew = v := ⟨_, rfl⟩
          rw [hv] at b0 b1 bv bn hS ⊢
          have hln := N3.out.lt
          obtain ⟨ba, hba⟩ : ∃ b, w3.heap.size = b := ⟨_, rfl⟩
          obtain ⟨bb, hbb⟩ : ∃ b, (w3.heap.size + 1) = b := ⟨_, rfl⟩
          have i0 : w.heap.size ≠ ba := by omega
          have i1 : w.heap.size ≠ bb := by omega
          have i2 : ba ≠ bb := by omega
          have iA : w3.heap.size ≤ ba := by omega
          have iB : w3.heap.size ≤ bb := by omega
          rw [hbb] at b1 ⊢
          rw [hba] at b0 ⊢
          have hA := b0
          have hB := b1
          clear hba hbb b0 b1 hv s0
          have hA2 := (hA.set 0 (.int .i64 x)).set 1 (.slice la n lc)
          have hB2 := (hB.other ⟨ba, 0, none⟩ (.int .i64 x) (Ne.symm i2)).other ⟨ba, 1, none⟩ (.slice la n lc) (Ne.symm i2)
          have hn2 := (bn.other ⟨ba, 0, none⟩ (.int .i64 x) i0).other ⟨ba, 1, none⟩ (.slice la n lc) i0
          have bv2 := (bv.setCell (p := ⟨ba, 0, none⟩) iA (.int .i64 x)).setCell (p := ⟨ba, 1, none⟩) iA (.slice la n lc)
          have hA3 := (hA2.other ⟨bb, 0, none⟩ (.int .i64 y) i2).other ⟨bb, 1, none⟩ (.slice ma k mc) i2
          have hB3 := (hB2.set 0 (.int .i64 y)).set 1 (.slice ma k mc)
          have bv3 := (bv2.setCell (p := ⟨bb, 0, none⟩) iB (.int .i64 y)).setCell (p := ⟨bb, 1, none⟩) iB (.slice ma k mc)
          have HHA := Lib.hid hA3
          have HHB := Lib.hid hB3
          have HHV := Lib.hid bv3
          have HN2 := Lib.hid hn2
          have HB22 := Lib.hid hB2
          have a0 := hA.cell 0 rfl
          have a1 := hA.cell 1 rfl
          have f0 := hA.thaw 0
          have f1 := hA.thaw 1
          clear hA hB hA2 hB2 hn2 bv2 hA3 hB3 bv3 bv bn hln iA iB i0 i1
          refine wpAnyT_one 10 rfl (by kernel_rfl) (fun K hK => ?_)
          go_simp
          refine hK.out _ _ (fun _ => ⟨HN2.out.cell 0 rfl, HN2.out.cell 1 rfl, HN2.out.cell 2 rfl⟩) (fun hn => ?_)
          clear hK K hS
          have hS := hn rfl
          clear hn
          try simp only [Act.put]
          try simp only [List.setIfInBounds_toArray]
          try simp only [List.set]
          clear a0 a1 f0 f1
          have a0 := HB22.out.cell 0 rfl
          have a1 := HB22.out.cell 1 rfl
          have f0 := HB22.out.thaw 0
          have f1 := HB22.out.thaw 1
          refine wpAnyT_one 11 rfl (by kernel_rfl) (fun K hK => ?_)
          go_simp
          refine hK.out _ _ (by first | (intro hno; cases hno; done) | exact fun _ => hS) (fun _ => ?_)
          clear hK K
          try simp only [Act.put]
          try simp only [List.setIfInBounds_toArray]
          try simp only [List.set]
          refine wpAnyT_done (by kernel_rfl) ?_ _
          clear a0 a1 f0 f1 hS
          go_wp2_with fail
          go_meet
          exact ⟨ba, bb, rfl, rfl, HHA.out, HHB.out, HHV.out⟩
        · go_simp
          refine hK.out _ _ (fun _ => ⟨cell_later ((Below.refl _ _).alloc (Nat.le_refl _) _) hS.1, cell_later ((Below.refl _ _).alloc (Nat.le_refl _) _) hS.2.1, cell_later ((Below.refl _ _).alloc (Nat.le_refl _) _) hS.2.2⟩) (fun hn => ?_)
          clear hK K hS
          have hS := hn rfl
          clear hn
          try simp only [Act.put]
          try simp only [List.setIfInBounds_toArray]
          try simp only [List.set]
          refine wpAnyT_one 8 rfl (by kernel_rfl) (fun K hK => ?_)
          go_simp
          refine hK.out _ _ (fun _ => ⟨cell_later ((Below.refl _ _).alloc (Nat.le_refl _) _) hS.1, cell_later ((Below.refl _ _).alloc (Nat.le_refl _) _) hS.2.1, cell_later ((Below.refl _ _).alloc (Nat.le_refl _) _) hS.2.2⟩) (fun hn => ?_)
          clear hK K hS
          have hS := hn rfl
          clear hn
          try simp only [Act.put]
          try simp only [List.setIfInBounds_toArray]
          try simp only [List.set]
          have b0 : Blk ((w3.alloc (.cells #[.int .i64 0, .slice none 0 0] 27)).alloc (.cells #[.int .i64 0, .slice none 0 0] 27)).drew w3.heap.size [.int .i64 0, .slice none 0 0] := (((Blk.new w3 [.int .i64 0, .slice none 0 0] 27).next _)).drew
          have b1 : Blk ((w3.alloc (.cells #[.int .i64 0, .slice none 0 0] 27)).alloc (.cells #[.int .i64 0, .slice none 0 0] 27)).drew (w3.heap.size + 1) [.int .i64 0, .slice none 0 0] := (Blk.newAt (by simp only [World.size_alloc]) [.int .i64 0, .slice none 0 0] 27).drew
          have bv : Below w3.heap.size w3 ((w3.alloc (.cells #[.int .i64 0, .slice none 0 0] 27)).alloc (.cells #[.int .i64 0, .slice none 0 0] 27)).drew := (((Below.refl _ _).alloc (Nat.le_refl _) _).alloc (by simp only [World.size_alloc]; omega) _).drew
          have bn := N3.out.on bv
          obtain ⟨v, hv⟩ : ∃ v, ((w3.alloc (.cells #[.int .i64 0, .slice none 0 0] 27)).alloc (.cells #[.int .i64 0, .slice none 0 0] 27)).drew = v := ⟨_, rfl⟩
          rw [hv] at b0 b1 bv bn hS ⊢
          have hln := N3.out.lt
          obtain ⟨ba, hba⟩ : ∃ b, (w3.heap.size + 1) = b := ⟨_, rfl⟩
          obtain ⟨bb, hbb⟩ : ∃ b, w3.heap.size = b := ⟨_, rfl⟩
          have i0 : w.heap.size ≠ ba := by omega
          have i1 : w.heap.size ≠ bb := by omega
          have i2 : ba ≠ bb := by omega
          have iA : w3.heap.size ≤ ba := by omega
          have iB : w3.heap.size ≤ bb := by omega
          rw [hba] at b1 ⊢
          rw [hbb] at b0 ⊢
          have hA := b1
          have hB := b0
          clear hba hbb b0 b1 hv s0
          have hA2 := (hA.set 0 (.int .i64 x)).set 1 (.slice la n lc)
          have hB2 := (hB.other ⟨ba, 0, none⟩ (.int .i64 x) (Ne.symm i2)).other ⟨ba, 1, none⟩ (.slice la n lc) (Ne.symm i2)
          have hn2 := (bn.other ⟨ba, 0, none⟩ (.int .i64 x) i0).other ⟨ba, 1, none⟩ (.slice la n lc) i0
          have bv2 := (bv.setCell (p := ⟨ba, 0, none⟩) iA (.int .i64 x)).setCell (p := ⟨ba, 1, none⟩) iA (.slice la n lc)
          have hA3 := (hA2.other ⟨bb, 0, none⟩ (.int .i64 y) i2).other ⟨bb, 1, none⟩ (.slice ma k mc) i2
          have hB3 := (hB2.set 0 (.int .i64 y)).set 1 (.slice ma k mc)
          have bv3 := (bv2.setCell (p := ⟨bb, 0, none⟩) iB (.int .i64 y)).setCell (p := ⟨bb, 1, none⟩) iB (.slice ma k mc)
          have HHA := Lib.hid hA3
          have HHB := Lib.hid hB3
          have HHV := Lib.hid bv3
          have HN2 := Lib.hid hn2
          have HB22 := Lib.hid hB2
          have a0 := hA.cell 0 rfl
          have a1 := hA.cell 1 rfl
          have f0 := hA.thaw 0
          have f1 := hA.thaw 1
          clear hA hB hA2 hB2 hn2 bv2 hA3 hB3 bv3 bv bn hln iA iB i0 i1
          refine wpAnyT_one 10 rfl (by kernel_rfl) (fun K hK => ?_)
          go_simp
          refine hK.out _ _ (fun _ => ⟨HN2.out.cell 0 rfl, HN2.out.cell 1 rfl, HN2.out.cell 2 rfl⟩) (fun hn => ?_)
          clear hK K hS
          have hS := hn rfl
          clear hn
          try simp only [Act.put]
          try simp only [List.setIfInBounds_toArray]
          try simp only [List.set]
          clear a0 a1 f0 f1
          have a0 := HB22.out.cell 0 rfl
          have a1 := HB22.out.cell 1 rfl
          have f0 := HB22.out.thaw 0
          have f1 := HB22.out.thaw 1
          refine wpAnyT_one 11 rfl (by kernel_rfl) (fun K hK => ?_)
          go_simp
          refine hK.out _ _ (by first | (intro hno; cases hno; done) | exact fun _ => hS) (fun _ => ?_)
          clear hK K
          try simp only [Act.put]
          try simp only [List.setIfInBounds_toArray]
          try simp only [List.set]
          refine wpAnyT_done (by kernel_rfl) ?_ _
          clear a0 a1 f0 f1 hS
          go_wp2_with fail
          go_meet
          exact ⟨ba, bb, rfl, rfl, HHA.out, HHB.out, HHV.out⟩
      case rest =>
        obtain ⟨ba, bb, rfl, rfl, hA, hB, hv⟩ := hcut
        have KN := Lib.hid (N3.out.on hv)
        have KA := Lib.hid hA
        have KB := Lib.hid hB
        have HH := Lib.hid (bel_on (bel_on HB0.out HB3.out) hv)
        clear hA hB hv N3 n0 n1 n2 hc0 HO HO3 HT3 HAll HB2 HB3 HB1 HB0 HLW HMW BN HWS HQ hq6
        obtain ⟨S, hS⟩ : ∃ s, peekS l z = s := ⟨_, rfl⟩
        obtain ⟨PB, hPB⟩ : ∃ s, peekB n z = s := ⟨_, rfl⟩
        obtain ⟨J, hJ⟩ : ∃ s, idxI l S = s := ⟨_, rfl⟩
        obtain ⟨X, hX⟩ : ∃ s, moveN z n y k = s := ⟨_, rfl⟩
        have HX : Hid (X ≤ n) := Lib.hid (hX ▸ (moveN_is z n y k).2)
        have PK : Hid (∀ v, Below w.heap.size w v → Calls Try.prog 10 #[(.agg #[.int .i64 x, .slice la n lc] : Value), .int .i64 z] v fun e w' => e = .returned (.tuple #[.string S, .bool PB]) ∧ Below v.heap.size v w') := Lib.hid (fun v hb => by rw [← hS, ← hPB]; exact peek_any x la n lc z l v (HL.out.on hb))
        have RPK : Hid (∀ v, Below w.heap.size w v → Calls Try.prog 11 #[(.agg #[.int .i64 x, .slice la n lc] : Value), .int .i64 z] v fun e w' => e = .returned (.tuple #[.string S, .bool PB]) ∧ Below v.heap.size v w') := Lib.hid (fun v hb => by rw [← hS, ← hPB]; exact rpeek_any x la n lc z l v (HL.out.on hb))
        have FN : Hid (∀ v, Below w.heap.size w v → Calls Try.prog 17 #[(.agg #[.int .i64 x, .slice la n lc] : Value), .string S] v fun e w' => e = .returned (.int .i64 J) ∧ Below v.heap.size v w') := Lib.hid (fun v hb => by rw [← hJ]; exact find_any x la n lc l S v (HL.out.on hb))
        have RFN : Hid (∀ v, Below w.heap.size w v → Calls Try.prog 18 #[(.agg #[.int .i64 x, .slice la n lc] : Value), .string S] v fun e w' => e = .returned (.int .i64 J) ∧ Below v.heap.size v w') := Lib.hid (fun v hb => by rw [← hJ]; exact rfind_any x la n lc l S v (HL.out.on hb))
        have ON : Hid (∀ v, Below w.heap.size w v → Calls Try.prog 12 #[(.agg #[.int .i64 x, .slice la n lc] : Value)] v (GotOnly x l n v)) := Lib.hid (fun v hb => only_any x la n lc l v (HL.out.on hb) (by have := HN6.out; omega) HLZ.out)
        have RON : Hid (∀ v, Below w.heap.size w v → Calls Try.prog 13 #[(.agg #[.int .i64 x, .slice la n lc] : Value)] v (GotOnly x l n v)) := Lib.hid (fun v hb => ronly_any x la n lc l v (HL.out.on hb) (by have := HN6.out; omega))
        have MV : Hid (∀ v, Below w.heap.size w v → Calls Try.prog 14 #[(.agg #[.int .i64 x, .slice la n lc] : Value), (.agg #[.int .i64 y, .slice ma k mc] : Value), .int .i64 z] v (GotMove x y (l.drop X) (m ++ l.take X) X v)) := Lib.hid (fun v hb => by rw [← hX]; exact move_any x y la ma n lc k mc z l m v (HL.out.on hb) (HM.out.on hb) (by have := HN6.out; omega) (by have := HK6.out; omega) hy)
        have RMV : Hid (∀ v, Below w.heap.size w v → Calls Try.prog 15 #[(.agg #[.int .i64 x, .slice la n lc] : Value), (.agg #[.int .i64 y, .slice ma k mc] : Value), .int .i64 z] v (GotTwo x y (l.drop X) (m ++ l.take X) X v)) := Lib.hid (fun v hb => by rw [← hX]; exact rmove_any x y la ma n lc k mc z l m v (HL.out.on hb) (HM.out.on hb) (by have := HN6.out; omega) (by have := HK6.out; omega))
        clear hS hPB hJ hX hy
        have c_KA0 := KA.out.cell 0 rfl
        have c_KA1 := KA.out.cell 1 rfl
        have c_KN2 := KN.out.cell 2 rfl
        go_wp2_with fail
        refine (PK.out _ HH.out).mono ?_
        rintro e w11 ⟨rfl, hb⟩
        clear c_KA0 c_KA1 c_KN2
        have x_KN := Lib.hid (KN.out.on hb)
        have x_KA := Lib.hid (KA.out.on hb)
        have x_KB := Lib.hid (KB.out.on hb)
        have x_HH := Lib.hid (bel_on HH.out hb)
        clear KN
        have KN := x_KN
        clear x_KN
        clear KA
        have KA := x_KA
        clear x_KA
        clear KB
        have KB := x_KB
        clear x_KB
        clear HH
        have HH := x_HH
        clear x_HH
        clear hb
        go_upto_region 11 with fail
        have c_KA0 := KA.out.cell 0 rfl
        have c_KA1 := KA.out.cell 1 rfl
        have c_KN2 := KN.out.cell 2 rfl
        go_wp2_with fail
        refine (RPK.out _ HH.out).mono ?_
        rintro e w12 ⟨rfl, hb⟩
        clear c_KA0 c_KA1 c_KN2
        have x_KN := Lib.hid (KN.out.on hb)
        have x_KA := Lib.hid (KA.out.on hb)
        have x_KB := Lib.hid (KB.out.on hb)
        have x_HH := Lib.hid (bel_on HH.out hb)
        clear KN
        have KN := x_KN
        clear x_KN
        clear KA
        have KA := x_KA
        clear x_KA
        clear KB
        have KB := x_KB
        clear x_KB
        clear HH
        have HH := x_HH
        clear x_HH
        clear hb
        go_upto_region 12 with fail
        have c_KA0 := KA.out.cell 0 rfl
        have c_KA1 := KA.out.cell 1 rfl
        go_wp2_with fail
        refine (ON.out _ HH.out).mono ?_
        rintro e w13 ⟨ao, no, co, rfl, hto, hoo, hb⟩
        clear hoo
        clear c_KA0 c_KA1
        have x_KN := Lib.hid (KN.out.on hb)
        have x_KA := Lib.hid (KA.out.on hb)
        have x_KB := Lib.hid (KB.out.on hb)
        have x_HH := Lib.hid (bel_on HH.out hb)
        clear KN
        have KN := x_KN
        clear x_KN
        clear KA
        have KA := x_KA
        clear x_KA
        clear KB
        have KB := x_KB
        clear x_KB
        clear HH
        have HH := x_HH
        clear x_HH
        clear hb
        go_upto_region 13 with fail
        have TO := Lib.hid hto
        clear hto
        obtain ⟨v13, hv⟩ : ∃ v, (w13.alloc (.cells #[.int .i64 x, .slice ao no co] 27)) = v := ⟨_, rfl⟩
        have hb : Below w13.heap.size w13 v13 := hv ▸ (Below.refl _ _).alloc (Nat.le_refl _) _
        rw [hv]
        obtain ⟨bo, hbo⟩ : ∃ b, w13.heap.size = b := ⟨_, rfl⟩
        have kKO : Blk v13 bo [.int .i64 x, .slice ao no co] := hv ▸ Blk.newAt (by exact hbo) [.int .i64 x, .slice ao no co] 27
        rw [hbo]
        have x_KN := Lib.hid (KN.out.on hb)
        have x_KA := Lib.hid (KA.out.on hb)
        have x_KB := Lib.hid (KB.out.on hb)
        have x_TO := Lib.hid (TO.out.on hb)
        have x_HH := Lib.hid (bel_on HH.out hb)
        clear KN
        have KN := x_KN
        clear x_KN
        clear KA
        have KA := x_KA
        clear x_KA
        clear KB
        have KB := x_KB
        clear x_KB
        clear TO
        have TO := x_TO
        clear x_TO
        clear HH
        have HH := x_HH
        clear x_HH
        have KO := Lib.hid kKO
        clear kKO
        clear hv hb hbo
        have c_KA0 := KA.out.cell 0 rfl
        have c_KA1 := KA.out.cell 1 rfl
        go_wp2_with fail
        refine (RON.out _ HH.out).mono ?_
        rintro e w14 ⟨ap, np, cp, rfl, htp, hop, hb⟩
        clear hop
        clear c_KA0 c_KA1
        have x_KN := Lib.hid (KN.out.on hb)
        have x_KA := Lib.hid (KA.out.on hb)
        have x_KB := Lib.hid (KB.out.on hb)
        have x_TO := Lib.hid (TO.out.on hb)
        have x_KO := Lib.hid (KO.out.on hb)
        have x_HH := Lib.hid (bel_on HH.out hb)
        clear KN
        have KN := x_KN
        clear x_KN
        clear KA
        have KA := x_KA
        clear x_KA
        clear KB
        have KB := x_KB
        clear x_KB
        clear TO
        have TO := x_TO
        clear x_TO
        clear KO
        have KO := x_KO
        clear x_KO
        clear HH
        have HH := x_HH
        clear x_HH
        clear hb
        go_upto_region 14 with fail
        have TP := Lib.hid htp
        clear htp
        obtain ⟨v14, hv⟩ : ∃ v, (w14.alloc (.cells #[.int .i64 x, .slice ap np cp] 27)) = v := ⟨_, rfl⟩
        have hb : Below w14.heap.size w14 v14 := hv ▸ (Below.refl _ _).alloc (Nat.le_refl _) _
        rw [hv]
        obtain ⟨bp, hbp⟩ : ∃ b, w14.heap.size = b := ⟨_, rfl⟩
        have kKP : Blk v14 bp [.int .i64 x, .slice ap np cp] := hv ▸ Blk.newAt (by exact hbp) [.int .i64 x, .slice ap np cp] 27
        rw [hbp]
        have x_KN := Lib.hid (KN.out.on hb)
        have x_KA := Lib.hid (KA.out.on hb)
        have x_KB := Lib.hid (KB.out.on hb)
        have x_TO := Lib.hid (TO.out.on hb)
        have x_KO := Lib.hid (KO.out.on hb)
        have x_TP := Lib.hid (TP.out.on hb)
        have x_HH := Lib.hid (bel_on HH.out hb)
        clear KN
        have KN := x_KN
        clear x_KN
        clear KA
        have KA := x_KA
        clear x_KA
        clear KB
        have KB := x_KB
        clear x_KB
        clear TO
        have TO := x_TO
        clear x_TO
        clear KO
        have KO := x_KO
        clear x_KO
        clear TP
        have TP := x_TP
        clear x_TP
        clear HH
        have HH := x_HH
        clear x_HH
        have KP := Lib.hid kKP
        clear kKP
        clear hv hb hbp
        have c_KA0 := KA.out.cell 0 rfl
        have c_KA1 := KA.out.cell 1 rfl
        have c_KB0 := KB.out.cell 0 rfl
        have c_KB1 := KB.out.cell 1 rfl
        have c_KN2 := KN.out.cell 2 rfl
        go_wp2_with fail
        refine (MV.out _ HH.out).mono ?_
        rintro e w15 ⟨ac, nc, cc, ad, nd, cd, rfl, htc, htd, hoc, hod, hb⟩
        clear hoc hod
        clear c_KA0 c_KA1 c_KB0 c_KB1 c_KN2
        have x_KN := Lib.hid (KN.out.on hb)
        have x_KA := Lib.hid (KA.out.on hb)
        have x_KB := Lib.hid (KB.out.on hb)
        have x_TO := Lib.hid (TO.out.on hb)
        have x_KO := Lib.hid (KO.out.on hb)
        have x_TP := Lib.hid (TP.out.on hb)
        have x_KP := Lib.hid (KP.out.on hb)
        have x_HH := Lib.hid (bel_on HH.out hb)
        clear KN
        have KN := x_KN
        clear x_KN
        clear KA
        have KA := x_KA
        clear x_KA
        clear KB
        have KB := x_KB
        clear x_KB
        clear TO
        have TO := x_TO
        clear x_TO
        clear KO
        have KO := x_KO
        clear x_KO
        clear TP
        have TP := x_TP
        clear x_TP
        clear KP
        have KP := x_KP
        clear x_KP
        clear HH
        have HH := x_HH
        clear x_HH
        clear hb
        go_upto_region 15 with fail
        have TC := Lib.hid htc
        have TD := Lib.hid htd
        clear htc htd
        obtain ⟨v15, hv⟩ : ∃ v, ((w15.alloc (.cells #[.int .i64 x, .slice ac nc cc] 27)).alloc (.cells #[.int .i64 y, .slice ad nd cd] 27)) = v := ⟨_, rfl⟩
        have hb : Below w15.heap.size w15 v15 := hv ▸ ((Below.refl _ _).alloc (Nat.le_refl _) _).alloc (by simp only [World.size_alloc]; omega) _
        rw [hv]
        obtain ⟨bc, hbc⟩ : ∃ b, w15.heap.size = b := ⟨_, rfl⟩
        have kKC : Blk v15 bc [.int .i64 x, .slice ac nc cc] := hv ▸ (Blk.newAt hbc [.int .i64 x, .slice ac nc cc] 27).next _
        obtain ⟨bd, hbd⟩ : ∃ b, (w15.heap.size + 1) = b := ⟨_, rfl⟩
        have kKD : Blk v15 bd [.int .i64 y, .slice ad nd cd] := hv ▸ Blk.newAt (by simp only [World.size_alloc]; exact hbd) [.int .i64 y, .slice ad nd cd] 27
        rw [hbd]
        rw [hbc]
        have x_KN := Lib.hid (KN.out.on hb)
        have x_KA := Lib.hid (KA.out.on hb)
        have x_KB := Lib.hid (KB.out.on hb)
        have x_TO := Lib.hid (TO.out.on hb)
        have x_KO := Lib.hid (KO.out.on hb)
        have x_TP := Lib.hid (TP.out.on hb)
        have x_KP := Lib.hid (KP.out.on hb)
        have x_TC := Lib.hid (TC.out.on hb)
        have x_TD := Lib.hid (TD.out.on hb)
        have x_HH := Lib.hid (bel_on HH.out hb)
        clear KN
        have KN := x_KN
        clear x_KN
        clear KA
        have KA := x_KA
        clear x_KA
        clear KB
        have KB := x_KB
        clear x_KB
        clear TO
        have TO := x_TO
        clear x_TO
        clear KO
        have KO := x_KO
        clear x_KO
        clear TP
        have TP := x_TP
        clear x_TP
        clear KP
        have KP := x_KP
        clear x_KP
        clear TC
        have TC := x_TC
        clear x_TC
        clear TD
        have TD := x_TD
        clear x_TD
        clear HH
        have HH := x_HH
        clear x_HH
        have KC := Lib.hid kKC
        clear kKC
        have KD := Lib.hid kKD
        clear kKD
        clear hv hb hbc hbd
        have c_KA0 := KA.out.cell 0 rfl
        have c_KA1 := KA.out.cell 1 rfl
        have c_KB0 := KB.out.cell 0 rfl
        have c_KB1 := KB.out.cell 1 rfl
        have c_KN2 := KN.out.cell 2 rfl
        go_wp2_with fail
        refine (RMV.out _ HH.out).mono ?_
        rintro e w16 ⟨au, nu, cu, av, nv, cv, rfl, htu, htv, hb⟩
        clear c_KA0 c_KA1 c_KB0 c_KB1 c_KN2
        have x_KN := Lib.hid (KN.out.on hb)
        have x_KA := Lib.hid (KA.out.on hb)
        have x_KB := Lib.hid (KB.out.on hb)
        have x_TO := Lib.hid (TO.out.on hb)
        have x_KO := Lib.hid (KO.out.on hb)
        have x_TP := Lib.hid (TP.out.on hb)
        have x_KP := Lib.hid (KP.out.on hb)
        have x_TC := Lib.hid (TC.out.on hb)
        have x_TD := Lib.hid (TD.out.on hb)
        have x_KC := Lib.hid (KC.out.on hb)
        have x_KD := Lib.hid (KD.out.on hb)
        have x_HH := Lib.hid (bel_on HH.out hb)
        clear KN
        have KN := x_KN
        clear x_KN
        clear KA
        have KA := x_KA
        clear x_KA
        clear KB
        have KB := x_KB
        clear x_KB
        clear TO
        have TO := x_TO
        clear x_TO
        clear KO
        have KO := x_KO
        clear x_KO
        clear TP
        have TP := x_TP
        clear x_TP
        clear KP
        have KP := x_KP
        clear x_KP
        clear TC
        have TC := x_TC
        clear x_TC
        clear TD
        have TD := x_TD
        clear x_TD
        clear KC
        have KC := x_KC
        clear x_KC
        clear KD
        have KD := x_KD
        clear x_KD
        clear HH
        have HH := x_HH
        clear x_HH
        clear hb
        go_upto_region 16 with fail
        have TU := Lib.hid htu
        have TV := Lib.hid htv
        clear htu htv
        obtain ⟨v16, hv⟩ : ∃ v, ((w16.alloc (.cells #[.int .i64 x, .slice au nu cu] 27)).alloc (.cells #[.int .i64 y, .slice av nv cv] 27)) = v := ⟨_, rfl⟩
        have hb : Below w16.heap.size w16 v16 := hv ▸ ((Below.refl _ _).alloc (Nat.le_refl _) _).alloc (by simp only [World.size_alloc]; omega) _
        rw [hv]
        obtain ⟨bu, hbu⟩ : ∃ b, w16.heap.size = b := ⟨_, rfl⟩
        have kKU : Blk v16 bu [.int .i64 x, .slice au nu cu] := hv ▸ (Blk.newAt hbu [.int .i64 x, .slice au nu cu] 27).next _
        obtain ⟨bv, hbv⟩ : ∃ b, (w16.heap.size + 1) = b := ⟨_, rfl⟩
        have kKV : Blk v16 bv [.int .i64 y, .slice av nv cv] := hv ▸ Blk.newAt (by simp only [World.size_alloc]; exact hbv) [.int .i64 y, .slice av nv cv] 27
        rw [hbv]
        rw [hbu]
        have x_KN := Lib.hid (KN.out.on hb)
        have x_KA := Lib.hid (KA.out.on hb)
        have x_KB := Lib.hid (KB.out.on hb)
        have x_TO := Lib.hid (TO.out.on hb)
        have x_KO := Lib.hid (KO.out.on hb)
        have x_TP := Lib.hid (TP.out.on hb)
        have x_KP := Lib.hid (KP.out.on hb)
        have x_TC := Lib.hid (TC.out.on hb)
        have x_TD := Lib.hid (TD.out.on hb)
        have x_KC := Lib.hid (KC.out.on hb)
        have x_KD := Lib.hid (KD.out.on hb)
        have x_TU := Lib.hid (TU.out.on hb)
        have x_TV := Lib.hid (TV.out.on hb)
        have x_HH := Lib.hid (bel_on HH.out hb)
        clear KN
        have KN := x_KN
        clear x_KN
        clear KA
        have KA := x_KA
        clear x_KA
        clear KB
        have KB := x_KB
        clear x_KB
        clear TO
        have TO := x_TO
        clear x_TO
        clear KO
        have KO := x_KO
        clear x_KO
        clear TP
        have TP := x_TP
        clear x_TP
        clear KP
        have KP := x_KP
        clear x_KP
        clear TC
        have TC := x_TC
        clear x_TC
        clear TD
        have TD := x_TD
        clear x_TD
        clear KC
        have KC := x_KC
        clear x_KC
        clear KD
        have KD := x_KD
        clear x_KD
        clear TU
        have TU := x_TU
        clear x_TU
        clear TV
        have TV := x_TV
        clear x_TV
        clear HH
        have HH := x_HH
        clear x_HH
        have KU := Lib.hid kKU
        clear kKU
        have KV := Lib.hid kKV
        clear kKV
        clear hv hb hbu hbv
        obtain rfl : no = np := TO.out.1.symm.trans TP.out.1
        obtain ⟨vv, hvv⟩ : ∃ v, v16 = v := ⟨_, rfl⟩
        have S1 : Hid (From v16 Try.prog 16 #[(.agg #[.int .i64 x, .slice ao no co] : Value), (.agg #[.int .i64 x, .slice ap no cp] : Value)] (.bool true)) := Lib.hid (fun w' hb => rsame_is x x ao ap no co no cp (ones l n) (ones l n) true w' (TO.out.on hb) (TP.out.on hb) (by simp [eqB]))
        have S2 : Hid (From v16 Try.prog 16 #[(.agg #[.int .i64 x, .slice ac nc cc] : Value), (.agg #[.int .i64 x, .slice au nu cu] : Value)] (.bool true)) := Lib.hid (fun w' hb => rsame_is x x ac au nc cc nu cu (l.drop X) (l.drop X) true w' (TC.out.on hb) (TU.out.on hb) (by simp [eqB]))
        have S3 : Hid (From v16 Try.prog 16 #[(.agg #[.int .i64 y, .slice ad nd cd] : Value), (.agg #[.int .i64 y, .slice av nv cv] : Value)] (.bool true)) := Lib.hid (fun w' hb => rsame_is y y ad av nd cd nv cv (m ++ l.take X) (m ++ l.take X) true w' (TD.out.on hb) (TV.out.on hb) (by simp [eqB]))
        have F1 : Hid (From v16 Try.prog 17 #[(.agg #[.int .i64 x, .slice la n lc] : Value), .string S] (.int .i64 J)) := Lib.hid (fun w' hb => FN.out w' (bel_on HH.out hb))
        have F2 : Hid (From v16 Try.prog 18 #[(.agg #[.int .i64 x, .slice la n lc] : Value), .string S] (.int .i64 J)) := Lib.hid (fun w' hb => RFN.out w' (bel_on HH.out hb))
        clear PK RPK FN RFN ON RON MV RMV hvv
        have c_KA0 := cell_regrown (KA.out.cell 0 rfl)
        have c_KA1 := cell_regrown (KA.out.cell 1 rfl)
        have c_KO0 := cell_regrown (KO.out.cell 0 rfl)
        have c_KO1 := cell_regrown (KO.out.cell 1 rfl)
        have c_KP0 := cell_regrown (KP.out.cell 0 rfl)
        have c_KP1 := cell_regrown (KP.out.cell 1 rfl)
        have c_KC0 := cell_regrown (KC.out.cell 0 rfl)
        have c_KC1 := cell_regrown (KC.out.cell 1 rfl)
        have c_KD0 := cell_regrown (KD.out.cell 0 rfl)
        have c_KD1 := cell_regrown (KD.out.cell 1 rfl)
        have c_KU0 := cell_regrown (KU.out.cell 0 rfl)
        have c_KU1 := cell_regrown (KU.out.cell 1 rfl)
        have c_KV0 := cell_regrown (KV.out.cell 0 rfl)
        have c_KV1 := cell_regrown (KV.out.cell 1 rfl)
        have hpb : (PB != PB) = false := by cases PB <;> rfl
        have hpb2 : (PB == PB) = true := by cases PB <;> rfl
        refine wp_region_quiet_below (by kernel_rfl) (by kernel_rfl) ?_
        repeat (first | go_big_quiet_step (first | with_reducible exact S1.out.at _ _ | with_reducible exact S2.out.at _ _ | with_reducible exact S3.out.at _ _ | with_reducible exact F1.out.at _ _ | with_reducible exact F2.out.at _ _) | quiet_step (first | with_reducible exact S1.out.at _ _ | with_reducible exact S2.out.at _ _ | with_reducible exact S3.out.at _ _ | with_reducible exact F1.out.at _ _ | with_reducible exact F2.out.at _ _))
        refine wpQuiet_nil ?_
        intro _ hw'
        obtain ⟨⟨dq, osq⟩, hw''⟩ := hw'
        subst hw''
        clear c_KA0 c_KA1 c_KO0 c_KO1 c_KP0 c_KP1 c_KC0 c_KC1 c_KD0 c_KD1 c_KU0 c_KU1 c_KV0 c_KV1 hpb hpb2 S1 S2 S3 F1 F2 TP TU TV KP KU KV KN KB
        obtain ⟨v17, hv17⟩ : ∃ v, Go.Sort.grow (redrawn v16 dq) osq = v := ⟨_, rfl⟩
        have hb := below_regrown v16 dq osq
        rw [hv17] at hb ⊢
        have x_KA := Lib.hid (KA.out.on hb)
        have x_KO := Lib.hid (KO.out.on hb)
        have x_TO := Lib.hid (TO.out.on hb)
        have x_KC := Lib.hid (KC.out.on hb)
        have x_TC := Lib.hid (TC.out.on hb)
        have x_KD := Lib.hid (KD.out.on hb)
        have x_TD := Lib.hid (TD.out.on hb)
        have x_HH := Lib.hid (bel_on HH.out hb)
        clear KA
        have KA := x_KA
        clear x_KA
        clear KO
        have KO := x_KO
        clear x_KO
        clear TO
        have TO := x_TO
        clear x_TO
        clear KC
        have KC := x_KC
        clear x_KC
        clear TC
        have TC := x_TC
        clear x_TC
        clear KD
        have KD := x_KD
        clear x_KD
        clear TD
        have TD := x_TD
        clear x_TD
        clear HH
        have HH := x_HH
        clear x_HH
        clear hb hv17
        have hnc : nc + X = n := by have h1 := TC.out.1; rw [List.length_drop, HL.out.1] at h1; have := HX.out; omega
        have hnd : k + X = nd := by have h1 := TD.out.1; rw [List.length_append, List.length_take, HM.out.1, HL.out.1] at h1; have := HX.out; omega
        have hX6 : X ≤ 60 := by have := HX.out; have := HN6.out; omega
        have hnc6 : nc ≤ 60 := by have := HN6.out; omega
        have hk6 := HK6.out
        have es1 : (nc : Int) + (X : Int) = (n : Int) := by omega
        have es2 : (k : Int) + (X : Int) = (nd : Int) := by omega
        have HND := Lib.hid hnd
        clear hnc hnd
        have c_KC0 := KC.out.cell 0 rfl
        have c_KC1 := KC.out.cell 1 rfl
        have c_KD0 := KD.out.cell 0 rfl
        have c_KD1 := KD.out.cell 1 rfl
        go_upto_region 21 with fail
        clear es1 es2 c_KC0 c_KC1 c_KD0 c_KD1
        obtain ⟨V, hV⟩ : ∃ v, v17 = v := ⟨_, rfl⟩
        rw [hV]
        rw [hV] at KA KO TO KC TC KD TD HH
        clear hV
        go_loopw [166] (fun u wr => ∃ j : Nat, j ≤ X ∧ u = .int .i64 (j : Int) ∧ ∃ g, wr = V.drewN g) (fun u _ => (X - intOf u).toNat)
        case atStart => exact ⟨0, Nat.zero_le _, rfl, 0, rfl⟩
        case round =>
          obtain ⟨j, hj, rfl, g, hwr⟩ := hrel
          have HWR := Lib.hid hwr
          by_cases hjx : j < X
          · obtain ⟨s, hs⟩ : ∃ s, l[j]? = some s := ⟨_, List.getElem?_eq_getElem (by have := HL.out.1; have := HX.out; omega)⟩
            have hs2 : (m ++ l.take X)[k + j]? = some s := by rw [List.getElem?_append_right (by rw [HM.out.1]; omega), HM.out.1, Nat.add_sub_cancel_left, List.getElem?_take_of_lt hjx, hs]
            obtain ⟨e, he⟩ : ∃ e, k + j = e := ⟨_, rfl⟩
            have hei : (k : Int) + (j : Int) = (e : Int) := by omega
            have hew : IntKind.i64.wrap (e : Int) = (e : Int) := IntWalk.i64_in _ (by omega)
            rw [he] at hs2
            obtain ⟨p1, rfl, hc1⟩ := (HL.out.on (below_drewN HH.out g)).2.2.2.2 j s hs
            obtain ⟨p2, rfl, hc2⟩ := (TD.out.drewN g).2.2.2.2 e s hs2
            have d0 := (KD.out.drewN g).cell 0 rfl
            have d1 := (KD.out.drewN g).cell 1 rfl
            rw [← hwr] at hc1 hc2 d0 d1
            have l0 : (0 : Int) ≤ (j : Int) := by omega
            have l1 : (j : Int) < (n : Int) := by have := HX.out; omega
            have l2 : (0 : Int) ≤ (e : Int) := by omega
            have l3 : (e : Int) < (nd : Int) := by have := HND.out; omega
            have ewj : IntKind.i64.wrap ((j : Int) + 1) = (j : Int) + 1 := IntWalk.i64_in _ (by omega)
            have hjx' : (j : Int) < (X : Int) := by omega
            have HJ := Lib.hid hjx
            clear hs hs2 he hwr hj hjx
            go_upto_region 23 with fail
            go_quiet (fail)
            clear hei hew hc1 hc2 d0 d1 l0 l1 l2 l3
            go_wp2_with fail
            go_roundw
            case rel => exact ⟨j + 1, HJ.out, by go_num, by rw [HWR.out]; exact ⟨_, World.drewN_drewN _ _ _⟩⟩
            case measure => exact meas_k X j _ rfl HJ.out
          · obtain rfl : j = X := by omega
            have hjj : ¬ ((j : Int) < (j : Int)) := by omega
            have hbg : Below V.heap.size V wr := by rw [hwr]; exact below_drewN (Below.refl _ _) g
            have x_KA := Lib.hid (KA.out.on hbg)
            have x_KO := Lib.hid (KO.out.on hbg)
            have x_TO := Lib.hid (TO.out.on hbg)
            have x_KC := Lib.hid (KC.out.on hbg)
            have x_TC := Lib.hid (TC.out.on hbg)
            have x_KD := Lib.hid (KD.out.on hbg)
            have x_TD := Lib.hid (TD.out.on hbg)
            have x_HH := Lib.hid (bel_on HH.out hbg)
            clear KA
            have KA := x_KA
            clear x_KA
            clear KO
            have KO := x_KO
            clear x_KO
            clear TO
            have TO := x_TO
            clear x_TO
            clear KC
            have KC := x_KC
            clear x_KC
            clear TC
            have TC := x_TC
            clear x_TC
            clear KD
            have KD := x_KD
            clear x_KD
            clear TD
            have TD := x_TD
            clear x_TD
            clear HH
            have HH := x_HH
            clear x_HH
            clear hbg hwr hj hjx
            have HNO : Hid (no ≤ 60) := Lib.hid (by have h1 := (ones_all l n).1; have h2 := TO.out.1; have := HN6.out; omega)
            have c_KO0 := KO.out.cell 0 rfl
            have c_KO1 := KO.out.cell 1 rfl
            go_upto_region 27 with fail
            clear c_KO0 c_KO1 hjj
            obtain ⟨V3, hV3⟩ : ∃ v, wr = v := ⟨_, rfl⟩
            rw [hV3]
            rw [hV3] at KA KO TO KC TC KD TD HH
            clear hV3 HWR
            go_loopw [186] (fun u wz => ∃ t : Nat, t ≤ no ∧ u = .int .i64 (t : Int) ∧ Below V3.heap.size V3 wz) (fun u _ => (no - intOf u).toNat)
            case atStart => exact ⟨0, Nat.zero_le _, rfl, Below.refl _ _⟩
            case round =>
              obtain ⟨t, ht, rfl, hbz⟩ := hrel
              have HZ := Lib.hid hbz
              clear hbz
              by_cases htn : t < no
              · obtain ⟨s, hs⟩ : ∃ s, (ones l n)[t]? = some s := ⟨_, List.getElem?_eq_getElem (by have := TO.out.1; omega)⟩
                obtain ⟨p1, rfl, hc1⟩ := (TO.out.on HZ.out).2.2.2.2 t s hs
                have hi1 : idxI (ones l n) s = (t : Int) := nodup_idx (ones_all l n).2.2 hs
                obtain ⟨u, hu⟩ := idx_mem ((ones_all l n).2.1 s (List.mem_of_getElem? hs))
                have FO : Hid (∀ v, Below V3.heap.size V3 v → Calls Try.prog 17 #[(.agg #[.int .i64 x, .slice (some p1) no co] : Value), .string s] v fun e w' => e = .returned (.int .i64 (t : Int)) ∧ Below v.heap.size v w') := Lib.hid (fun v hb => by rw [← hi1]; exact find_any x (some p1) no co (ones l n) s v (TO.out.on hb))
                have FA : Hid (∀ v, Below V3.heap.size V3 v → Calls Try.prog 17 #[(.agg #[.int .i64 x, .slice la n lc] : Value), .string s] v fun e w' => e = .returned (.int .i64 (u : Int)) ∧ Below v.heap.size v w') := Lib.hid (fun v hb => by rw [← hu]; exact find_any x la n lc l s v (HL.out.on (bel_on HH.out hb)))
                have hu0 : decide ((u : Int) < 0) = false := decide_eq_false (by omega)
                have htn' : (t : Int) < (no : Int) := by omega
                have hno6 := HNO.out
                have HT := Lib.hid htn
                have kO := KO.out.on HZ.out
                have kA := KA.out.on HZ.out
                have o0 := kO.cell 0 rfl
                have o1 := kO.cell 1 rfl
                have a0 := kA.cell 0 rfl
                have a1 := kA.cell 1 rfl
                clear hs hi1 hu ht htn kO kA
                go_wp2_with fail
                refine (FO.out _ HZ.out).mono ?_
                rintro e w20 ⟨rfl, hb⟩
                have HZ1 := Lib.hid (bel_on HZ.out hb)
                clear o0 o1 a0 a1 hb hc1
                have kA := KA.out.on HZ1.out
                have a0 := kA.cell 0 rfl
                have a1 := kA.cell 1 rfl
                clear kA
                go_wp2_with fail
                refine (FA.out _ HZ1.out).mono ?_
                rintro e w21 ⟨rfl, hb⟩
                have HZ2 := Lib.hid (bel_on HZ1.out hb)
                clear a0 a1 hb
                go_wp2_with fail
                go_roundw
                case rel => exact ⟨t + 1, HT.out, by go_num, HZ2.out⟩
                case measure => exact meas_k no t _ rfl HT.out
              · have htt : decide (t < no) = false := decide_eq_false htn
                clear ht htn
                go_wp2_with fail
                refine (AW.out _).mono ?_
                rintro e w22 ⟨rfl, hb⟩
                have HF := Lib.hid (bel_on HH.out (bel_on HZ.out hb))
                clear hb
                go_wp2_with fail
                go_ret
                exact ⟨rfl, HF.out⟩

set_option maxRecDepth 100000 in
theorem lifted (os : Os) (started : os.Started) (H : Type) (enc : TypeId × Value → H) :
    ReturnsInHanded {} Try.checked os 4 .any (Rows.ringMovesSpec.pre6 enc Try.prog Try.f4 Rows.ringMovesRow.domain false) (Rows.ringMovesSpec.post enc Try.prog Try.f4 false true false false) := by
  refine returnsInHanded_of_change (C := Try.checked) own started (by kernel_rfl) Try.func4
    (ChangeSpec.witness6 (enc := enc) (C := Try.checked) false ⟨#[], #[.slice none 0 0, .slice none 0 0, .agg #[.int .i64 0, .int .i64 0, .int .i64 0]], []⟩ 8 (by kernel_rfl) (by kernel_rfl) (by kernel_rfl) (by kernel_rfl)) ?_
  intro W base args ds gs before hval0 hW hcnd _
  have hval : ∀ (j : Nat) t v, Try.f4.params[j]? = some t → args[j]? = some v → Value.okWide Try.prog W .any base t v := hval0
  have hW' := hW
  obtain ⟨p, q, hA0, hV, rfl, hfz, hnd⟩ := hW
  have hA : DataW.TrodAll enc Try.prog W 0 (fun _ => true) true Try.f4.params.toList args.toList ds p := hA0
  rw [Try.params4] at hA hval
  obtain ⟨v0, vs0, d0, ds0, p0, q0, hargs, rfl, rfl, h0, r0⟩ := trodAll_cons hA
  obtain ⟨v1, vs1, d1, ds1, p1, q1, rfl, rfl, rfl, h1, r1⟩ := trodAll_cons r0
  obtain ⟨v2, vs2, d2, ds2, p2, q2, rfl, rfl, rfl, h2, r2⟩ := trodAll_cons r1
  obtain ⟨rfl, rfl, rfl⟩ := trodAll_nil r2
  obtain rfl : args = #[v0, v1, v2] := by cases args; simp_all
  obtain ⟨rfl, rfl⟩ := trodVars_none hV
  have k0 := h0
  have lt0 : ∀ x ∈ p0, x.block < W.heap.size := by obtain ⟨m, hm⟩ := k0; exact DataW.trod_lt m _ _ _ hm
  have k1 := h1
  have lt1 : ∀ x ∈ p1, x.block < W.heap.size := by obtain ⟨m, hm⟩ := k1; exact DataW.trod_lt m _ _ _ hm
  have k2 := h2
  have lt2 : ∀ x ∈ p2, x.block < W.heap.size := by obtain ⟨m, hm⟩ := k2; exact DataW.trod_lt m _ _ _ hm
  obtain ⟨al, cl, ll, rfl, hll, hzl⟩ := open_strs (hval 0 25 v0 rfl rfl) h0
  obtain ⟨am, cm, lm, rfl, hlm, hzm⟩ := open_strs (hval 1 25 v1 rfl rfl) h1
  obtain ⟨n0, n1, n2, rfl, hbn0, hbn1, hbn2⟩ := open_int3 (hval 2 37 v2 rfl rfl) h2
  clear hA0 hval0
  refine (walk al cl ll am cm lm n0 n1 n2 hbn1 W hll hlm hzl hzm).mono fun e W' ⟨he, bel⟩ => ?_
  subst he
  exact ⟨_, rfl, _, _, _, [], _, [], hW', trodAll_mk1 (shut_bool Try.underlying4 _),
    (trodAll_cons_mk (Below.trod laidOut (by kernel_rfl) (of_decide_eq_true (by kernel_rfl)) k0 bel lt0)
    (trodAll_cons_mk (Below.trod laidOut (by kernel_rfl) (of_decide_eq_true (by kernel_rfl)) k1 bel lt1)
    (trodAll_cons_mk (Below.trod laidOut (by kernel_rfl) (of_decide_eq_true (by kernel_rfl)) k2 bel lt2)
    trodAll_mk0))), rfl, bel.frame _, fun h => by cases h⟩

theorem proved : Rows.RingMovesSaid :=
  OpenClaim.holds_of_wide 4 Try.f4 rfl rfl rfl rfl rfl rfl rfl ⟨rfl, rfl, rfl, rfl, rfl⟩ rfl rfl rfl rfl rfl (by kernel_rfl) Try.func4 (by kernel_rfl)
    (of_decide_eq_true (by kernel_rfl)) (by unfold Func.isWrapper; first | (rw [if_pos (by decide +kernel)]; kernel_rfl) | (rw [if_neg (by decide +kernel)]; exact ⟨rfl, rfl⟩))
    (fun os started H enc _ => lifted os started H enc)
end Go.Proofs.Ytogmneidfoedbaa.ringMoves
