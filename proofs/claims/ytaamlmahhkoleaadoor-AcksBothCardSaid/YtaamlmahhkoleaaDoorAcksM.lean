/- The document's own answer for package acks, part M: Told, Both. -/
import Derived.Test.YtaamlmahhkoleaaDoorAcksL
namespace Go.Proofs.YtaamlmahhkoleaaDoor
open Go.RowKit Go.Sort

set_option maxRecDepth 100000 in
set_option maxHeartbeats 1000000 in
theorem rtold_in (f a b c d n s : Int) (w : World) (hs : AcksF.seqB n = true) : Calls Tryd.prog 12 #[(.agg #[.int .i64 f, .int .u32 a, .int .u32 b, .int .u32 c, .int .u32 d, .int .i64 n, .int .i64 s] : Value)] w (OwnInts (AcksF.nearL n (AcksF.hasB n s)) w) := by
  obtain ⟨i0, hi, hz0, hz1, hz2⟩ := info_parts info_int
  have HN := Lib.hid (AcksF.nearL_in (AcksF.hasB n s) hs)
  have hin := AcksF.seqB_in hs
  have d1 : decide (0 ≤ n) = true := decide_eq_true hin.1
  have d2 : decide (n ≤ 65535) = true := decide_eq_true hin.2
  have KA := Lib.hid (Blk.new w [.int .i64 f, .int .u32 a, .int .u32 b, .int .u32 c, .int .u32 d, .int .i64 n, .int .i64 s] 30)
  have HA := Lib.hid ((Below.refl w.heap.size w).alloc (Nat.le_refl _) (.cells #[.int .i64 f, .int .u32 a, .int .u32 b, .int .u32 c, .int .u32 d, .int .i64 n, .int .i64 s] 30))
  clear hs
  rw [HN.out]
  go_enter Tryd.func12, Tryd.ntmps12
  go_wp2
  go_loopw [3, 5] (fun u v wr => ∃ k : Nat, v = .int .i64 (k : Int) ∧ k ≤ 8 ∧ wr.ownsRow (w.heap.size + 1) 3 1 u (AcksF.nearK n (AcksF.hasB n s) k).length (intV (AcksF.nearK n (AcksF.hasB n s) k)) ∧ Below w.heap.size w wr ∧ Blk wr w.heap.size [.int .i64 f, .int .u32 a, .int .u32 b, .int .u32 c, .int .u32 d, .int .i64 n, .int .i64 s])
    (fun _ v _ => (8 - intOf v).toNat)
  case atStart => exact ⟨0, rfl, by omega, World.ownsRow_nil _ _ _ _, HA.out, KA.out⟩
  case round =>
    clear KA HA
    obtain ⟨k, rfl, hk, hown, hbel, hblk⟩ := hrel
    have hlen := AcksF.nearK_length n (AcksF.hasB n s) k
    have HBL := Lib.hid hbel
    have KA := Lib.hid hblk
    by_cases h : k < 8
    · have hw1 : wrap64 (n + (k : Int)) = n + (k : Int) := IntWalk.wrap64_in _ (by omega)
      have hw2 : IntKind.i64.wrap (n + (k : Int)) = n + (k : Int) := IntWalk.i64_in _ (by omega)
      have C := Lib.hid (rhas_any f a b c d n s (n + (k : Int)) (by omega) (by omega))
      obtain ⟨b', hb⟩ : ∃ b, AcksF.hasB n s (n + (k : Int)) = b := ⟨_, rfl⟩
      rw [hb] at C
      have HB := Lib.hid hb
      have HO := Lib.hid hown
      have c0 := KA.out.cell 0 rfl
      have c1 := KA.out.cell 1 rfl
      have c2 := KA.out.cell 2 rfl
      have c3 := KA.out.cell 3 rfl
      have c4 := KA.out.cell 4 rfl
      have c5 := KA.out.cell 5 rfl
      have c6 := KA.out.cell 6 rfl
      clear hb hbel hown hblk
      go_wp2_with fail
      refine (C.out _).mono ?_
      rintro e w2 ⟨rfl, hb2⟩
      have hown2 := row_below HO.out hb2
      have HB2 := Lib.hid (bel_on HBL.out hb2)
      have KA2 := Lib.hid (KA.out.on hb2)
      have hsz2 := HB2.out.size
      have e5 := KA2.out.cell 5 rfl
      clear hb2 c0 c1 c2 c3 c4 c5 c6
      cases b' with
      | true =>
        have HK := Lib.hid (AcksF.nearK_yes HB.out)
        go_wp2_with (at_builtin; refine wpList_append_own _ rfl (.tmp 24) (.tmp 29) 22 rfl (w.heap.size + 1) 3 i0 (.int .i64 0) 1 8 Tryd.underlying22 hi hz0 hz1 hz2 rfl (by decide) _ _ _ rfl (hown2.alloc _) ⟨w2.heap.size, 0, none⟩ 1 1 [_] rfl rfl (cell_one_new _ _ _) (by simp [Value.oneCell']) (by unfold maxLen; omega) (by omega) (by simp; omega) ?_; intro v1 w9 hown1 hg1 _)
        go_roundw
        case rel =>
          exact ⟨k + 1, by go_num, by omega, by rw [HK.out, intV_snoc, List.length_append]; exact hown1, (HB2.out.alloc hsz2 _).grown hg1 (by simp; omega) (fun k hk => Nat.le_of_succ_le (hown2.lt k hk).1),
            (KA2.out.next _).grown hg1 (fun k hk => (hown2.lt k hk).1)⟩
        case measure => simp [intOf]; omega
      | false =>
        have HK := Lib.hid (AcksF.nearK_no HB.out)
        go_wp2
        go_roundw
        case rel => exact ⟨k + 1, by go_num, by omega, by rw [HK.out]; exact hown2, HB2.out, KA2.out⟩
        case measure => simp [intOf]; omega
    · obtain rfl : k = 8 := by omega
      go_wp2
      go_ret
      exact ⟨_, rfl, row_lower hown (Nat.le_succ _), HBL.out⟩

set_option maxRecDepth 100000 in
set_option maxHeartbeats 1000000 in
theorem rtold_out (f a b c d n s : Int) (w : World) (hs : AcksF.seqB n = false) : Calls Tryd.prog 12 #[(.agg #[.int .i64 f, .int .u32 a, .int .u32 b, .int .u32 c, .int .u32 d, .int .i64 n, .int .i64 s] : Value)] w (OwnInts (AcksF.nearL n (AcksF.hasB n s)) w) := by
  have HN := Lib.hid (AcksF.nearL_out (AcksF.hasB n s) hs)
  have hout := AcksF.seqB_out hs
  have KA := Lib.hid (Blk.new w [.int .i64 f, .int .u32 a, .int .u32 b, .int .u32 c, .int .u32 d, .int .i64 n, .int .i64 s] 30)
  have HA := Lib.hid ((Below.refl w.heap.size w).alloc (Nat.le_refl _) (.cells #[.int .i64 f, .int .u32 a, .int .u32 b, .int .u32 c, .int .u32 d, .int .i64 n, .int .i64 s] 30))
  have hd : decide (0 ≤ n) = false ∨ (decide (0 ≤ n) = true ∧ decide (n ≤ 65535) = false) := by
    by_cases h : 0 ≤ n
    · exact .inr ⟨decide_eq_true h, decide_eq_false (by omega)⟩
    · exact .inl (decide_eq_false h)
  have HD := Lib.hid hd
  clear hs hd hout
  rw [HN.out]
  go_enter Tryd.func12, Tryd.ntmps12
  go_wp2
  go_loopw [3, 5] (fun u v wr => ∃ k : Nat, v = .int .i64 (k : Int) ∧ k ≤ 8 ∧ u = .slice none 0 0 ∧ Below w.heap.size w wr ∧ Blk wr w.heap.size [.int .i64 f, .int .u32 a, .int .u32 b, .int .u32 c, .int .u32 d, .int .i64 n, .int .i64 s])
    (fun _ v _ => (8 - intOf v).toNat)
  case atStart => exact ⟨0, rfl, by omega, rfl, HA.out, KA.out⟩
  case round =>
    clear KA HA
    obtain ⟨k, rfl, hk, rfl, hbel, hblk⟩ := hrel
    have HBL := Lib.hid hbel
    have KA := Lib.hid hblk
    by_cases h : k < 8
    · have c5 := KA.out.cell 5 rfl
      clear hbel hblk
      rcases HD.out with d1 | ⟨d1, d2⟩
      all_goals
        go_wp2
        go_roundw
        case rel => exact ⟨k + 1, by go_num, by omega, rfl, HBL.out, KA.out⟩
        case measure => simp [intOf]; omega
    · obtain rfl : k = 8 := by omega
      go_wp2
      go_ret
      exact ⟨_, rfl, World.ownsRow_nil _ _ _ _, HBL.out⟩
theorem rtold_any (f a b c d n s : Int) (w : World) : Calls Tryd.prog 12 #[(.agg #[.int .i64 f, .int .u32 a, .int .u32 b, .int .u32 c, .int .u32 d, .int .i64 n, .int .i64 s] : Value)] w (OwnInts (AcksF.nearL n (AcksF.hasB n s)) w) := by
  cases h : AcksF.seqB n with
  | true => exact rtold_in f a b c d n s w h
  | false => exact rtold_out f a b c d n s w h
end Go.Proofs.YtaamlmahhkoleaaDoor
