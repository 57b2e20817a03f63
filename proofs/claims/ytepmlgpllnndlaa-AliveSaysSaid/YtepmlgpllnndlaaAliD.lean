/- Contracts of law 21, part D: the document's own Tick, and the law's rules. -/
import Derived.Test.YtepmlgpllnndlaaAliC
namespace Go.Proofs.Ytepmlgpllnndlaa
open Go.RowKit Go.Sort
attribute [local go_sem ↓] loadAt_prt storeAt_prt loadAt_rul storeAt_rul

set_option maxHeartbeats 1000000 in
theorem rtick_off (st q t : Int) (x : Ends) (h d r s : Int) (hst : st = 0) (w : World) :
    Calls Try.prog 8 #[.agg (prt st q t x).toArray, .agg (rul h d r s).toArray] w fun e w' => e = .returned (.tuple #[(.agg (prt st q t x).toArray), .bool false, .bool false]) ∧ Below w.heap.size w w' := by
  subst hst
  go_enter Try.func8, Try.ntmps8
  go_upto_region 1 with fail
  obtain ⟨B0, B1, B2, BB⟩ := three_ali w 0 q t x h d r s
  obtain ⟨w1, hw1⟩ : ∃ w1, (((w.alloc (.cells (prt 0 q t x).toArray 33)).alloc (.cells (rul h d r s).toArray 35)).alloc (.cells #[.int .i64 0, .int .u32 0, .int .u32 0, .int .u32 0, .int .u32 0, .int .i64 0, .int .i64 0, .int .i64 0, .slice none 0 0, .int .i64 0, .slice none 0 0, .slice none 0 0] 33)) = w1 := ⟨_, rfl⟩
  rw [hw1] at B0 B1 B2 BB ⊢
  clear hw1
  have c0 := B0.cell 0 rfl
  have B0 := Lib.hid B0
  have B1 := Lib.hid B1
  have B2 := Lib.hid B2
  have BB := Lib.hid BB
  have hl := prt_load B0.out
  have hs := prt_store (st' := 0) (q' := q) (t' := t) (x' := x) B2.out
  have hv := prt_var (B2.out.put (prt 0 q t x))
  have HB := below_setRow BB.out (show w.heap.size ≤ w.heap.size + 1 + 1 by omega) (prt 0 q t x).toArray
  go_wp2_with fail
  exact bodyPost_ret (v := .tuple #[.agg (prt 0 q t x).toArray, .bool false, .bool false]) (by simp [results, Try.results8, asAddr, hv]) rfl ⟨rfl, HB⟩

set_option maxHeartbeats 1000000 in
theorem rtick_try_due (st q t : Int) (x : Ends) (h d r s : Int) (h0 : st ≠ 0) (h2 : st ≠ 2) (hT : decide (t ≤ 1) = true) (w : World) :
    Calls Try.prog 8 #[.agg (prt st q t x).toArray, .agg (rul h d r s).toArray] w fun e w' => e = .returned (.tuple #[.agg (prt st q (max 1 h) x).toArray, .bool true, .bool false]) ∧ Below w.heap.size w w' := by
  have D := Lib.hid (rdue_any st q t x)
  rw [show dueF st t = true by rw [dueF, hT]; simp [h0]] at D
  have e0 : (st == 0) = false := by simp [h0]
  have e2 : (st != 2) = true := by simp [h2]
  obtain ⟨wv, e1⟩ : ∃ wv, max 1 h = wv := ⟨_, rfl⟩
  rw [e1]
  clear h0 h2 hT
  go_enter Try.func8, Try.ntmps8
  go_upto_region 1 with fail
  obtain ⟨B0, B1, B2, BB⟩ := three_ali w st q t x h d r s
  obtain ⟨w1, hw1⟩ : ∃ w1, (((w.alloc (.cells (prt st q t x).toArray 33)).alloc (.cells (rul h d r s).toArray 35)).alloc (.cells #[.int .i64 0, .int .u32 0, .int .u32 0, .int .u32 0, .int .u32 0, .int .i64 0, .int .i64 0, .int .i64 0, .slice none 0 0, .int .i64 0, .slice none 0 0, .slice none 0 0] 33)) = w1 := ⟨_, rfl⟩
  rw [hw1] at B0 B1 B2 BB ⊢
  clear hw1
  have c0 := B0.cell 0 rfl
  have B0 := Lib.hid B0
  have B1 := Lib.hid B1
  have B2 := Lib.hid B2
  have BB := Lib.hid BB
  have hl := prt_load B0.out
  go_wp2_with fail
  refine (D.out _).mono ?_
  rintro e w2 ⟨rfl, hb⟩
  clear hl c0
  have BB := Lib.hid (bel_on BB.out hb)
  have B0 := Lib.hid (B0.out.on hb)
  have B1 := Lib.hid (B1.out.on hb)
  have B2 := Lib.hid (B2.out.on hb)
  clear hb
  have ch := B1.out.cell 0 rfl
  have c1 := B0.out.cell 6 rfl
  have g1 := B0.out.thaw 6
  go_upto_region 7 with fail
  try rw [e1]
  have d0 := B0.out.set 6 (.int .i64 wv)
  rw [prt_wait] at d0
  have d1 := B1.out.other ⟨w.heap.size, 6, none⟩ (.int .i64 wv) (by simp)
  have d2 := B2.out.other ⟨w.heap.size, 6, none⟩ (.int .i64 wv) (show w.heap.size + 1 + 1 ≠ w.heap.size by omega)
  have HB := BB.out.setCell (p := ⟨w.heap.size, 6, none⟩) (Nat.le_refl w.heap.size) (.int .i64 wv)
  obtain ⟨w4, hwm⟩ : ∃ w4, w2.setCell ⟨w.heap.size, 6, none⟩ (.int .i64 wv) = w4 := ⟨_, rfl⟩
  rw [hwm] at d0 d1 d2 HB ⊢
  clear hwm c1 g1 B0 B1 B2 BB
  have B0 := Lib.hid d0
  have B1 := Lib.hid d1
  have B2 := Lib.hid d2
  have BB := Lib.hid HB
  clear d0 d1 d2 HB
  clear ch
  clear e1
  have hl := prt_load B0.out
  have c0 := B0.out.cell 0 rfl
  have hs := prt_store (st' := st) (q' := q) (t' := wv) (x' := x) B2.out
  have hv := prt_var (B2.out.put (prt st q wv x))
  have HB := below_setRow BB.out (show w.heap.size ≤ w.heap.size + 1 + 1 by omega) (prt st q wv x).toArray
  go_wp2_with fail
  exact bodyPost_ret (v := .tuple #[.agg (prt st q wv x).toArray, .bool true, .bool false]) (by simp [results, Try.results8, asAddr, hv]) rfl ⟨rfl, HB⟩

set_option maxHeartbeats 1000000 in
theorem rtick_up_due_add (st q t : Int) (x : Ends) (h d r s : Int) (h0 : st ≠ 0) (h2 : st = 2) (hT : decide (t ≤ 1) = true) (hQ : decide (q < d) = true) (hd : d < 9223372036854775808) (hq : -9223372036854775808 ≤ q) (w : World) :
    Calls Try.prog 8 #[.agg (prt st q t x).toArray, .agg (rul h d r s).toArray] w fun e w' => e = .returned (.tuple #[.agg (prt st (q + 1) (max 1 h) x).toArray, .bool true, .bool (decide (d ≤ (q + 1)))]) ∧ Below w.heap.size w w' := by
  have D := Lib.hid (rdue_any st q t x)
  rw [show dueF st t = true by rw [dueF, hT]; simp [h0]] at D
  have e0 : (st == 0) = false := by simp [h0]
  have e2 : (st != 2) = false := by simp [h2]
  obtain ⟨wv, e1⟩ : ∃ wv, max 1 h = wv := ⟨_, rfl⟩
  rw [e1]
  obtain ⟨qv, hqv⟩ : ∃ qv, q + 1 = qv := ⟨_, rfl⟩
  have e3 : wrap64 (q + 1) = qv := by have := of_decide_eq_true hQ; rw [← hqv]; exact IntWalk.wrap64_in _ (by omega)
  rw [hqv]
  clear hqv
  obtain ⟨dv, e4⟩ : ∃ dv, decide (d ≤ qv) = dv := ⟨_, rfl⟩
  rw [e4]
  clear h0 h2 hT hd hq
  go_enter Try.func8, Try.ntmps8
  go_upto_region 1 with fail
  obtain ⟨B0, B1, B2, BB⟩ := three_ali w st q t x h d r s
  obtain ⟨w1, hw1⟩ : ∃ w1, (((w.alloc (.cells (prt st q t x).toArray 33)).alloc (.cells (rul h d r s).toArray 35)).alloc (.cells #[.int .i64 0, .int .u32 0, .int .u32 0, .int .u32 0, .int .u32 0, .int .i64 0, .int .i64 0, .int .i64 0, .slice none 0 0, .int .i64 0, .slice none 0 0, .slice none 0 0] 33)) = w1 := ⟨_, rfl⟩
  rw [hw1] at B0 B1 B2 BB ⊢
  clear hw1
  have c0 := B0.cell 0 rfl
  have B0 := Lib.hid B0
  have B1 := Lib.hid B1
  have B2 := Lib.hid B2
  have BB := Lib.hid BB
  have hl := prt_load B0.out
  go_wp2_with fail
  refine (D.out _).mono ?_
  rintro e w2 ⟨rfl, hb⟩
  clear hl c0
  have BB := Lib.hid (bel_on BB.out hb)
  have B0 := Lib.hid (B0.out.on hb)
  have B1 := Lib.hid (B1.out.on hb)
  have B2 := Lib.hid (B2.out.on hb)
  clear hb
  have ch := B1.out.cell 0 rfl
  have c1 := B0.out.cell 6 rfl
  have g1 := B0.out.thaw 6
  go_upto_region 7 with fail
  try rw [e1]
  have d0 := B0.out.set 6 (.int .i64 wv)
  rw [prt_wait] at d0
  have d1 := B1.out.other ⟨w.heap.size, 6, none⟩ (.int .i64 wv) (by simp)
  have d2 := B2.out.other ⟨w.heap.size, 6, none⟩ (.int .i64 wv) (show w.heap.size + 1 + 1 ≠ w.heap.size by omega)
  have HB := BB.out.setCell (p := ⟨w.heap.size, 6, none⟩) (Nat.le_refl w.heap.size) (.int .i64 wv)
  obtain ⟨w4, hwm⟩ : ∃ w4, w2.setCell ⟨w.heap.size, 6, none⟩ (.int .i64 wv) = w4 := ⟨_, rfl⟩
  rw [hwm] at d0 d1 d2 HB ⊢
  clear hwm c1 g1 B0 B1 B2 BB
  have B0 := Lib.hid d0
  have B1 := Lib.hid d1
  have B2 := Lib.hid d2
  have BB := Lib.hid HB
  clear d0 d1 d2 HB
  clear ch
  clear e1
  have c0 := B0.out.cell 0 rfl
  have c5 := B0.out.cell 5 rfl
  have r1 := B1.out.cell 1 rfl
  have g1 := B0.out.thaw 5
  go_upto_region 11 with fail
  try rw [e3]
  have d0 := B0.out.set 5 (.int .i64 qv)
  rw [prt_quiet] at d0
  have d1 := B1.out.other ⟨w.heap.size, 5, none⟩ (.int .i64 qv) (by simp)
  have d2 := B2.out.other ⟨w.heap.size, 5, none⟩ (.int .i64 qv) (show w.heap.size + 1 + 1 ≠ w.heap.size by omega)
  have HB := BB.out.setCell (p := ⟨w.heap.size, 5, none⟩) (Nat.le_refl w.heap.size) (.int .i64 qv)
  obtain ⟨w6, hwm⟩ : ∃ w6, w4.setCell ⟨w.heap.size, 5, none⟩ (.int .i64 qv) = w6 := ⟨_, rfl⟩
  rw [hwm] at d0 d1 d2 HB ⊢
  clear hwm c0 c5 r1 g1 B0 B1 B2 BB
  have B0 := Lib.hid d0
  have B1 := Lib.hid d1
  have B2 := Lib.hid d2
  have BB := Lib.hid HB
  clear d0 d1 d2 HB
  refine wp_region_tail (fun w' => Blk w' w.heap.size (prt st qv wv x) ∧ Blk w' (w.heap.size + 1) (rul h d r s)) (fun _ => false) (by kernel_rfl) ⟨B0.out.drew, B1.out.drew⟩ (fun hS => ?_)
  refine wpAnyT_take 0 rfl (by kernel_rfl) (by kernel_rfl) (by kernel_rfl) (by kernel_rfl) (fun _ _ _ h => h) (by rfl) (by intro w hSw; (have hl := prt_load hSw.1); (have k0 := hSw.1.cell 5 rfl); (have k1 := hSw.2.cell 1 rfl); clear hSw; go_simp <;> with_reducible rfl) (by assumption) ?_
  try simp only [Act.put]
  try simp only [List.setIfInBounds_toArray]
  try simp only [List.set]
  refine wpAnyT_take 1 rfl (by kernel_rfl) (by kernel_rfl) (by kernel_rfl) (by kernel_rfl) (fun _ _ _ h => h) (by rfl) (by intro w hSw; (have hl := prt_load hSw.1); (have k0 := hSw.1.cell 5 rfl); (have k1 := hSw.2.cell 1 rfl); clear hSw; go_simp <;> with_reducible rfl) (by assumption) ?_
  try simp only [Act.put]
  try simp only [List.setIfInBounds_toArray]
  try simp only [List.set]
  refine wpAnyT_take 2 rfl (by kernel_rfl) (by kernel_rfl) (by kernel_rfl) (by kernel_rfl) (fun _ _ _ h => h) (by rfl) (by intro w hSw; (have hl := prt_load hSw.1); (have k0 := hSw.1.cell 5 rfl); (have k1 := hSw.2.cell 1 rfl); clear hSw; go_simp <;> with_reducible rfl) (by assumption) ?_
  try simp only [Act.put]
  try simp only [List.setIfInBounds_toArray]
  try simp only [List.set]
  refine wpAnyT_take 3 rfl (by kernel_rfl) (by kernel_rfl) (by kernel_rfl) (by kernel_rfl) (fun _ _ _ h => h) (by rfl) (by intro w hSw; (have hl := prt_load hSw.1); (have k0 := hSw.1.cell 5 rfl); (have k1 := hSw.2.cell 1 rfl); clear hSw; go_simp <;> with_reducible rfl) (by assumption) ?_
  try simp only [Act.put]
  try simp only [List.setIfInBounds_toArray]
  try simp only [List.set]
  refine wpAnyT_take 4 rfl (by kernel_rfl) (by kernel_rfl) (by kernel_rfl) (by kernel_rfl) (fun _ _ _ h => h) (by rfl) (by intro w hSw; (have hl := prt_load hSw.1); (have k0 := hSw.1.cell 5 rfl); (have k1 := hSw.2.cell 1 rfl); clear hSw; go_simp <;> with_reducible rfl) (by assumption) ?_
  try simp only [Act.put]
  try simp only [List.setIfInBounds_toArray]
  try simp only [List.set]
  refine wpAnyT_take 5 rfl (by kernel_rfl) (by kernel_rfl) (by kernel_rfl) (by kernel_rfl) (fun _ _ _ h => h) (by rfl) (by intro w hSw; (have hl := prt_load hSw.1); (have k0 := hSw.1.cell 5 rfl); (have k1 := hSw.2.cell 1 rfl); clear hSw; go_simp <;> with_reducible rfl) (by assumption) ?_
  try simp only [Act.put]
  try simp only [List.setIfInBounds_toArray]
  try simp only [List.set]
  refine wpAnyT_take 6 rfl (by kernel_rfl) (by kernel_rfl) (by kernel_rfl) (by kernel_rfl) (fun _ _ _ h => h) (by rfl) (by intro w hSw; (have hl := prt_load hSw.1); (have k0 := hSw.1.cell 5 rfl); (have k1 := hSw.2.cell 1 rfl); clear hSw; go_simp <;> with_reducible rfl) (by assumption) ?_
  try simp only [Act.put]
  try simp only [List.setIfInBounds_toArray]
  try simp only [List.set]
  have B2 := Lib.hid B2.out.drew
  have BB := Lib.hid BB.out.drew
  have hs := prt_store (st' := st) (q' := qv) (t' := wv) (x' := x) B2.out
  refine wpAnyT_one 7 rfl (by kernel_rfl) (fun K hK => ?_)
  go_simp
  have hS := And.intro (hS.1.beside (w.heap.size + 1 + 1) (by omega) (prt st qv wv x).toArray) (hS.2.beside (w.heap.size + 1 + 1) (by omega) (prt st qv wv x).toArray)
  refine hK.out _ _ (fun _ => hS) (fun _ => ?_)
  clear hK K hs
  try simp only [Act.put]
  try simp only [List.setIfInBounds_toArray]
  try simp only [List.set]
  refine wpAnyT_one 8 rfl (by kernel_rfl) (fun K hK => ?_)
  go_simp
  refine hK.out _ _ (fun _ => hS) (fun _ => ?_)
  clear hK K
  try simp only [Act.put]
  try simp only [List.setIfInBounds_toArray]
  try simp only [List.set]
  refine wpAnyT_one 9 rfl (by kernel_rfl) (fun K hK => ?_)
  go_simp
  refine hK.out _ _ (fun _ => hS) (fun _ => ?_)
  clear hK K
  try simp only [Act.put]
  try simp only [List.setIfInBounds_toArray]
  try simp only [List.set]
  refine wpAnyT_done (by kernel_rfl) ?_ _
  have hv := prt_var (B2.out.put (prt st qv wv x))
  have HB := below_setRow BB.out (show w.heap.size ≤ w.heap.size + 1 + 1 by omega) (prt st qv wv x).toArray
  go_wp2_with fail
  exact bodyPost_ret (v := .tuple #[.agg (prt st qv wv x).toArray, .bool true, .bool dv]) (by simp [results, Try.results8, asAddr, hv]) rfl ⟨rfl, HB⟩

set_option maxHeartbeats 1000000 in
theorem rtick_up_due_stay (st q t : Int) (x : Ends) (h d r s : Int) (h0 : st ≠ 0) (h2 : st = 2) (hT : decide (t ≤ 1) = true) (hQ : decide (q < d) = false) (w : World) :
    Calls Try.prog 8 #[.agg (prt st q t x).toArray, .agg (rul h d r s).toArray] w fun e w' => e = .returned (.tuple #[.agg (prt st q (max 1 h) x).toArray, .bool true, .bool (decide (d ≤ q))]) ∧ Below w.heap.size w w' := by
  have D := Lib.hid (rdue_any st q t x)
  rw [show dueF st t = true by rw [dueF, hT]; simp [h0]] at D
  have e0 : (st == 0) = false := by simp [h0]
  have e2 : (st != 2) = false := by simp [h2]
  obtain ⟨wv, e1⟩ : ∃ wv, max 1 h = wv := ⟨_, rfl⟩
  rw [e1]
  obtain ⟨dv, e4⟩ : ∃ dv, decide (d ≤ q) = dv := ⟨_, rfl⟩
  rw [e4]
  clear h0 h2 hT
  go_enter Try.func8, Try.ntmps8
  go_upto_region 1 with fail
  obtain ⟨B0, B1, B2, BB⟩ := three_ali w st q t x h d r s
  obtain ⟨w1, hw1⟩ : ∃ w1, (((w.alloc (.cells (prt st q t x).toArray 33)).alloc (.cells (rul h d r s).toArray 35)).alloc (.cells #[.int .i64 0, .int .u32 0, .int .u32 0, .int .u32 0, .int .u32 0, .int .i64 0, .int .i64 0, .int .i64 0, .slice none 0 0, .int .i64 0, .slice none 0 0, .slice none 0 0] 33)) = w1 := ⟨_, rfl⟩
  rw [hw1] at B0 B1 B2 BB ⊢
  clear hw1
  have c0 := B0.cell 0 rfl
  have B0 := Lib.hid B0
  have B1 := Lib.hid B1
  have B2 := Lib.hid B2
  have BB := Lib.hid BB
  have hl := prt_load B0.out
  go_wp2_with fail
  refine (D.out _).mono ?_
  rintro e w2 ⟨rfl, hb⟩
  clear hl c0
  have BB := Lib.hid (bel_on BB.out hb)
  have B0 := Lib.hid (B0.out.on hb)
  have B1 := Lib.hid (B1.out.on hb)
  have B2 := Lib.hid (B2.out.on hb)
  clear hb
  have ch := B1.out.cell 0 rfl
  have c1 := B0.out.cell 6 rfl
  have g1 := B0.out.thaw 6
  go_upto_region 7 with fail
  try rw [e1]
  have d0 := B0.out.set 6 (.int .i64 wv)
  rw [prt_wait] at d0
  have d1 := B1.out.other ⟨w.heap.size, 6, none⟩ (.int .i64 wv) (by simp)
  have d2 := B2.out.other ⟨w.heap.size, 6, none⟩ (.int .i64 wv) (show w.heap.size + 1 + 1 ≠ w.heap.size by omega)
  have HB := BB.out.setCell (p := ⟨w.heap.size, 6, none⟩) (Nat.le_refl w.heap.size) (.int .i64 wv)
  obtain ⟨w4, hwm⟩ : ∃ w4, w2.setCell ⟨w.heap.size, 6, none⟩ (.int .i64 wv) = w4 := ⟨_, rfl⟩
  rw [hwm] at d0 d1 d2 HB ⊢
  clear hwm c1 g1 B0 B1 B2 BB
  have B0 := Lib.hid d0
  have B1 := Lib.hid d1
  have B2 := Lib.hid d2
  have BB := Lib.hid HB
  clear d0 d1 d2 HB
  clear ch
  clear e1
  have c0 := B0.out.cell 0 rfl
  have c5 := B0.out.cell 5 rfl
  have r1 := B1.out.cell 1 rfl
  go_upto_region 11 with fail
  clear c0 c5 r1
  refine wp_region_tail (fun w' => Blk w' w.heap.size (prt st q wv x) ∧ Blk w' (w.heap.size + 1) (rul h d r s)) (fun _ => false) (by kernel_rfl) ⟨B0.out.drew, B1.out.drew⟩ (fun hS => ?_)
  refine wpAnyT_take 0 rfl (by kernel_rfl) (by kernel_rfl) (by kernel_rfl) (by kernel_rfl) (fun _ _ _ h => h) (by rfl) (by intro w hSw; (have hl := prt_load hSw.1); (have k0 := hSw.1.cell 5 rfl); (have k1 := hSw.2.cell 1 rfl); clear hSw; go_simp <;> with_reducible rfl) (by assumption) ?_
  try simp only [Act.put]
  try simp only [List.setIfInBounds_toArray]
  try simp only [List.set]
  refine wpAnyT_take 1 rfl (by kernel_rfl) (by kernel_rfl) (by kernel_rfl) (by kernel_rfl) (fun _ _ _ h => h) (by rfl) (by intro w hSw; (have hl := prt_load hSw.1); (have k0 := hSw.1.cell 5 rfl); (have k1 := hSw.2.cell 1 rfl); clear hSw; go_simp <;> with_reducible rfl) (by assumption) ?_
  try simp only [Act.put]
  try simp only [List.setIfInBounds_toArray]
  try simp only [List.set]
  refine wpAnyT_take 2 rfl (by kernel_rfl) (by kernel_rfl) (by kernel_rfl) (by kernel_rfl) (fun _ _ _ h => h) (by rfl) (by intro w hSw; (have hl := prt_load hSw.1); (have k0 := hSw.1.cell 5 rfl); (have k1 := hSw.2.cell 1 rfl); clear hSw; go_simp <;> with_reducible rfl) (by assumption) ?_
  try simp only [Act.put]
  try simp only [List.setIfInBounds_toArray]
  try simp only [List.set]
  refine wpAnyT_take 3 rfl (by kernel_rfl) (by kernel_rfl) (by kernel_rfl) (by kernel_rfl) (fun _ _ _ h => h) (by rfl) (by intro w hSw; (have hl := prt_load hSw.1); (have k0 := hSw.1.cell 5 rfl); (have k1 := hSw.2.cell 1 rfl); clear hSw; go_simp <;> with_reducible rfl) (by assumption) ?_
  try simp only [Act.put]
  try simp only [List.setIfInBounds_toArray]
  try simp only [List.set]
  refine wpAnyT_take 4 rfl (by kernel_rfl) (by kernel_rfl) (by kernel_rfl) (by kernel_rfl) (fun _ _ _ h => h) (by rfl) (by intro w hSw; (have hl := prt_load hSw.1); (have k0 := hSw.1.cell 5 rfl); (have k1 := hSw.2.cell 1 rfl); clear hSw; go_simp <;> with_reducible rfl) (by assumption) ?_
  try simp only [Act.put]
  try simp only [List.setIfInBounds_toArray]
  try simp only [List.set]
  refine wpAnyT_take 5 rfl (by kernel_rfl) (by kernel_rfl) (by kernel_rfl) (by kernel_rfl) (fun _ _ _ h => h) (by rfl) (by intro w hSw; (have hl := prt_load hSw.1); (have k0 := hSw.1.cell 5 rfl); (have k1 := hSw.2.cell 1 rfl); clear hSw; go_simp <;> with_reducible rfl) (by assumption) ?_
  try simp only [Act.put]
  try simp only [List.setIfInBounds_toArray]
  try simp only [List.set]
  refine wpAnyT_take 6 rfl (by kernel_rfl) (by kernel_rfl) (by kernel_rfl) (by kernel_rfl) (fun _ _ _ h => h) (by rfl) (by intro w hSw; (have hl := prt_load hSw.1); (have k0 := hSw.1.cell 5 rfl); (have k1 := hSw.2.cell 1 rfl); clear hSw; go_simp <;> with_reducible rfl) (by assumption) ?_
  try simp only [Act.put]
  try simp only [List.setIfInBounds_toArray]
  try simp only [List.set]
  have B2 := Lib.hid B2.out.drew
  have BB := Lib.hid BB.out.drew
  have hs := prt_store (st' := st) (q' := q) (t' := wv) (x' := x) B2.out
  refine wpAnyT_one 7 rfl (by kernel_rfl) (fun K hK => ?_)
  go_simp
  have hS := And.intro (hS.1.beside (w.heap.size + 1 + 1) (by omega) (prt st q wv x).toArray) (hS.2.beside (w.heap.size + 1 + 1) (by omega) (prt st q wv x).toArray)
  refine hK.out _ _ (fun _ => hS) (fun _ => ?_)
  clear hK K hs
  try simp only [Act.put]
  try simp only [List.setIfInBounds_toArray]
  try simp only [List.set]
  refine wpAnyT_one 8 rfl (by kernel_rfl) (fun K hK => ?_)
  go_simp
  refine hK.out _ _ (fun _ => hS) (fun _ => ?_)
  clear hK K
  try simp only [Act.put]
  try simp only [List.setIfInBounds_toArray]
  try simp only [List.set]
  refine wpAnyT_one 9 rfl (by kernel_rfl) (fun K hK => ?_)
  go_simp
  refine hK.out _ _ (fun _ => hS) (fun _ => ?_)
  clear hK K
  try simp only [Act.put]
  try simp only [List.setIfInBounds_toArray]
  try simp only [List.set]
  refine wpAnyT_done (by kernel_rfl) ?_ _
  have hv := prt_var (B2.out.put (prt st q wv x))
  have HB := below_setRow BB.out (show w.heap.size ≤ w.heap.size + 1 + 1 by omega) (prt st q wv x).toArray
  go_wp2_with fail
  exact bodyPost_ret (v := .tuple #[.agg (prt st q wv x).toArray, .bool true, .bool dv]) (by simp [results, Try.results8, asAddr, hv]) rfl ⟨rfl, HB⟩

set_option maxHeartbeats 1000000 in
theorem rtick_try_not (st q t : Int) (x : Ends) (h d r s : Int) (h0 : st ≠ 0) (h2 : st ≠ 2) (hT : decide (t ≤ 1) = false) (ht : t < 9223372036854775808) (w : World) :
    Calls Try.prog 8 #[.agg (prt st q t x).toArray, .agg (rul h d r s).toArray] w fun e w' => e = .returned (.tuple #[.agg (prt st q (t - 1) x).toArray, .bool false, .bool false]) ∧ Below w.heap.size w w' := by
  have D := Lib.hid (rdue_any st q t x)
  rw [show dueF st t = false by rw [dueF, hT]; simp] at D
  have e0 : (st == 0) = false := by simp [h0]
  have e2 : (st != 2) = true := by simp [h2]
  obtain ⟨wv, hwv⟩ : ∃ wv, t - 1 = wv := ⟨_, rfl⟩
  have e1 : wrap64 (t - 1) = wv := by have := of_decide_eq_false hT; rw [← hwv]; exact IntWalk.wrap64_in _ (by omega)
  rw [hwv]
  clear hwv
  clear h0 h2 hT ht
  go_enter Try.func8, Try.ntmps8
  go_upto_region 1 with fail
  obtain ⟨B0, B1, B2, BB⟩ := three_ali w st q t x h d r s
  obtain ⟨w1, hw1⟩ : ∃ w1, (((w.alloc (.cells (prt st q t x).toArray 33)).alloc (.cells (rul h d r s).toArray 35)).alloc (.cells #[.int .i64 0, .int .u32 0, .int .u32 0, .int .u32 0, .int .u32 0, .int .i64 0, .int .i64 0, .int .i64 0, .slice none 0 0, .int .i64 0, .slice none 0 0, .slice none 0 0] 33)) = w1 := ⟨_, rfl⟩
  rw [hw1] at B0 B1 B2 BB ⊢
  clear hw1
  have c0 := B0.cell 0 rfl
  have B0 := Lib.hid B0
  have B1 := Lib.hid B1
  have B2 := Lib.hid B2
  have BB := Lib.hid BB
  have hl := prt_load B0.out
  go_wp2_with fail
  refine (D.out _).mono ?_
  rintro e w2 ⟨rfl, hb⟩
  clear hl c0
  have BB := Lib.hid (bel_on BB.out hb)
  have B0 := Lib.hid (B0.out.on hb)
  have B1 := Lib.hid (B1.out.on hb)
  have B2 := Lib.hid (B2.out.on hb)
  clear hb
  have c1 := B0.out.cell 6 rfl
  have g1 := B0.out.thaw 6
  go_upto_region 7 with fail
  try rw [e1]
  have d0 := B0.out.set 6 (.int .i64 wv)
  rw [prt_wait] at d0
  have d1 := B1.out.other ⟨w.heap.size, 6, none⟩ (.int .i64 wv) (by simp)
  have d2 := B2.out.other ⟨w.heap.size, 6, none⟩ (.int .i64 wv) (show w.heap.size + 1 + 1 ≠ w.heap.size by omega)
  have HB := BB.out.setCell (p := ⟨w.heap.size, 6, none⟩) (Nat.le_refl w.heap.size) (.int .i64 wv)
  obtain ⟨w4, hwm⟩ : ∃ w4, w2.setCell ⟨w.heap.size, 6, none⟩ (.int .i64 wv) = w4 := ⟨_, rfl⟩
  rw [hwm] at d0 d1 d2 HB ⊢
  clear hwm c1 g1 B0 B1 B2 BB
  have B0 := Lib.hid d0
  have B1 := Lib.hid d1
  have B2 := Lib.hid d2
  have BB := Lib.hid HB
  clear d0 d1 d2 HB
  clear e1
  have hl := prt_load B0.out
  have c0 := B0.out.cell 0 rfl
  have hs := prt_store (st' := st) (q' := q) (t' := wv) (x' := x) B2.out
  have hv := prt_var (B2.out.put (prt st q wv x))
  have HB := below_setRow BB.out (show w.heap.size ≤ w.heap.size + 1 + 1 by omega) (prt st q wv x).toArray
  go_wp2_with fail
  exact bodyPost_ret (v := .tuple #[.agg (prt st q wv x).toArray, .bool false, .bool false]) (by simp [results, Try.results8, asAddr, hv]) rfl ⟨rfl, HB⟩

set_option maxHeartbeats 1000000 in
theorem rtick_up_not_add (st q t : Int) (x : Ends) (h d r s : Int) (h0 : st ≠ 0) (h2 : st = 2) (hT : decide (t ≤ 1) = false) (ht : t < 9223372036854775808) (hQ : decide (q < d) = true) (hd : d < 9223372036854775808) (hq : -9223372036854775808 ≤ q) (w : World) :
    Calls Try.prog 8 #[.agg (prt st q t x).toArray, .agg (rul h d r s).toArray] w fun e w' => e = .returned (.tuple #[.agg (prt st (q + 1) (t - 1) x).toArray, .bool false, .bool (decide (d ≤ (q + 1)))]) ∧ Below w.heap.size w w' := by
  have D := Lib.hid (rdue_any st q t x)
  rw [show dueF st t = false by rw [dueF, hT]; simp] at D
  have e0 : (st == 0) = false := by simp [h0]
  have e2 : (st != 2) = false := by simp [h2]
  obtain ⟨wv, hwv⟩ : ∃ wv, t - 1 = wv := ⟨_, rfl⟩
  have e1 : wrap64 (t - 1) = wv := by have := of_decide_eq_false hT; rw [← hwv]; exact IntWalk.wrap64_in _ (by omega)
  rw [hwv]
  clear hwv
  obtain ⟨qv, hqv⟩ : ∃ qv, q + 1 = qv := ⟨_, rfl⟩
  have e3 : wrap64 (q + 1) = qv := by have := of_decide_eq_true hQ; rw [← hqv]; exact IntWalk.wrap64_in _ (by omega)
  rw [hqv]
  clear hqv
  obtain ⟨dv, e4⟩ : ∃ dv, decide (d ≤ qv) = dv := ⟨_, rfl⟩
  rw [e4]
  clear h0 h2 hT ht hd hq
  go_enter Try.func8, Try.ntmps8
  go_upto_region 1 with fail
  obtain ⟨B0, B1, B2, BB⟩ := three_ali w st q t x h d r s
  obtain ⟨w1, hw1⟩ : ∃ w1, (((w.alloc (.cells (prt st q t x).toArray 33)).alloc (.cells (rul h d r s).toArray 35)).alloc (.cells #[.int .i64 0, .int .u32 0, .int .u32 0, .int .u32 0, .int .u32 0, .int .i64 0, .int .i64 0, .int .i64 0, .slice none 0 0, .int .i64 0, .slice none 0 0, .slice none 0 0] 33)) = w1 := ⟨_, rfl⟩
  rw [hw1] at B0 B1 B2 BB ⊢
  clear hw1
  have c0 := B0.cell 0 rfl
  have B0 := Lib.hid B0
  have B1 := Lib.hid B1
  have B2 := Lib.hid B2
  have BB := Lib.hid BB
  have hl := prt_load B0.out
  go_wp2_with fail
  refine (D.out _).mono ?_
  rintro e w2 ⟨rfl, hb⟩
  clear hl c0
  have BB := Lib.hid (bel_on BB.out hb)
  have B0 := Lib.hid (B0.out.on hb)
  have B1 := Lib.hid (B1.out.on hb)
  have B2 := Lib.hid (B2.out.on hb)
  clear hb
  have c1 := B0.out.cell 6 rfl
  have g1 := B0.out.thaw 6
  go_upto_region 7 with fail
  try rw [e1]
  have d0 := B0.out.set 6 (.int .i64 wv)
  rw [prt_wait] at d0
  have d1 := B1.out.other ⟨w.heap.size, 6, none⟩ (.int .i64 wv) (by simp)
  have d2 := B2.out.other ⟨w.heap.size, 6, none⟩ (.int .i64 wv) (show w.heap.size + 1 + 1 ≠ w.heap.size by omega)
  have HB := BB.out.setCell (p := ⟨w.heap.size, 6, none⟩) (Nat.le_refl w.heap.size) (.int .i64 wv)
  obtain ⟨w4, hwm⟩ : ∃ w4, w2.setCell ⟨w.heap.size, 6, none⟩ (.int .i64 wv) = w4 := ⟨_, rfl⟩
  rw [hwm] at d0 d1 d2 HB ⊢
  clear hwm c1 g1 B0 B1 B2 BB
  have B0 := Lib.hid d0
  have B1 := Lib.hid d1
  have B2 := Lib.hid d2
  have BB := Lib.hid HB
  clear d0 d1 d2 HB
  clear e1
  have c0 := B0.out.cell 0 rfl
  have c5 := B0.out.cell 5 rfl
  have r1 := B1.out.cell 1 rfl
  have g1 := B0.out.thaw 5
  go_upto_region 11 with fail
  try rw [e3]
  have d0 := B0.out.set 5 (.int .i64 qv)
  rw [prt_quiet] at d0
  have d1 := B1.out.other ⟨w.heap.size, 5, none⟩ (.int .i64 qv) (by simp)
  have d2 := B2.out.other ⟨w.heap.size, 5, none⟩ (.int .i64 qv) (show w.heap.size + 1 + 1 ≠ w.heap.size by omega)
  have HB := BB.out.setCell (p := ⟨w.heap.size, 5, none⟩) (Nat.le_refl w.heap.size) (.int .i64 qv)
  obtain ⟨w6, hwm⟩ : ∃ w6, w4.setCell ⟨w.heap.size, 5, none⟩ (.int .i64 qv) = w6 := ⟨_, rfl⟩
  rw [hwm] at d0 d1 d2 HB ⊢
  clear hwm c0 c5 r1 g1 B0 B1 B2 BB
  have B0 := Lib.hid d0
  have B1 := Lib.hid d1
  have B2 := Lib.hid d2
  have BB := Lib.hid HB
  clear d0 d1 d2 HB
  refine wp_region_tail (fun w' => Blk w' w.heap.size (prt st qv wv x) ∧ Blk w' (w.heap.size + 1) (rul h d r s)) (fun _ => false) (by kernel_rfl) ⟨B0.out.drew, B1.out.drew⟩ (fun hS => ?_)
  refine wpAnyT_take 0 rfl (by kernel_rfl) (by kernel_rfl) (by kernel_rfl) (by kernel_rfl) (fun _ _ _ h => h) (by rfl) (by intro w hSw; (have hl := prt_load hSw.1); (have k0 := hSw.1.cell 5 rfl); (have k1 := hSw.2.cell 1 rfl); clear hSw; go_simp <;> with_reducible rfl) (by assumption) ?_
  try simp only [Act.put]
  try simp only [List.setIfInBounds_toArray]
  try simp only [List.set]
  refine wpAnyT_take 1 rfl (by kernel_rfl) (by kernel_rfl) (by kernel_rfl) (by kernel_rfl) (fun _ _ _ h => h) (by rfl) (by intro w hSw; (have hl := prt_load hSw.1); (have k0 := hSw.1.cell 5 rfl); (have k1 := hSw.2.cell 1 rfl); clear hSw; go_simp <;> with_reducible rfl) (by assumption) ?_
  try simp only [Act.put]
  try simp only [List.setIfInBounds_toArray]
  try simp only [List.set]
  refine wpAnyT_take 2 rfl (by kernel_rfl) (by kernel_rfl) (by kernel_rfl) (by kernel_rfl) (fun _ _ _ h => h) (by rfl) (by intro w hSw; (have hl := prt_load hSw.1); (have k0 := hSw.1.cell 5 rfl); (have k1 := hSw.2.cell 1 rfl); clear hSw; go_simp <;> with_reducible rfl) (by assumption) ?_
  try simp only [Act.put]
  try simp only [List.setIfInBounds_toArray]
  try simp only [List.set]
  refine wpAnyT_take 3 rfl (by kernel_rfl) (by kernel_rfl) (by kernel_rfl) (by kernel_rfl) (fun _ _ _ h => h) (by rfl) (by intro w hSw; (have hl := prt_load hSw.1); (have k0 := hSw.1.cell 5 rfl); (have k1 := hSw.2.cell 1 rfl); clear hSw; go_simp <;> with_reducible rfl) (by assumption) ?_
  try simp only [Act.put]
  try simp only [List.setIfInBounds_toArray]
  try simp only [List.set]
  refine wpAnyT_take 4 rfl (by kernel_rfl) (by kernel_rfl) (by kernel_rfl) (by kernel_rfl) (fun _ _ _ h => h) (by rfl) (by intro w hSw; (have hl := prt_load hSw.1); (have k0 := hSw.1.cell 5 rfl); (have k1 := hSw.2.cell 1 rfl); clear hSw; go_simp <;> with_reducible rfl) (by assumption) ?_
  try simp only [Act.put]
  try simp only [List.setIfInBounds_toArray]
  try simp only [List.set]
  refine wpAnyT_take 5 rfl (by kernel_rfl) (by kernel_rfl) (by kernel_rfl) (by kernel_rfl) (fun _ _ _ h => h) (by rfl) (by intro w hSw; (have hl := prt_load hSw.1); (have k0 := hSw.1.cell 5 rfl); (have k1 := hSw.2.cell 1 rfl); clear hSw; go_simp <;> with_reducible rfl) (by assumption) ?_
  try simp only [Act.put]
  try simp only [List.setIfInBounds_toArray]
  try simp only [List.set]
  refine wpAnyT_take 6 rfl (by kernel_rfl) (by kernel_rfl) (by kernel_rfl) (by kernel_rfl) (fun _ _ _ h => h) (by rfl) (by intro w hSw; (have hl := prt_load hSw.1); (have k0 := hSw.1.cell 5 rfl); (have k1 := hSw.2.cell 1 rfl); clear hSw; go_simp <;> with_reducible rfl) (by assumption) ?_
  try simp only [Act.put]
  try simp only [List.setIfInBounds_toArray]
  try simp only [List.set]
  have B2 := Lib.hid B2.out.drew
  have BB := Lib.hid BB.out.drew
  have hs := prt_store (st' := st) (q' := qv) (t' := wv) (x' := x) B2.out
  refine wpAnyT_one 7 rfl (by kernel_rfl) (fun K hK => ?_)
  go_simp
  have hS := And.intro (hS.1.beside (w.heap.size + 1 + 1) (by omega) (prt st qv wv x).toArray) (hS.2.beside (w.heap.size + 1 + 1) (by omega) (prt st qv wv x).toArray)
  refine hK.out _ _ (fun _ => hS) (fun _ => ?_)
  clear hK K hs
  try simp only [Act.put]
  try simp only [List.setIfInBounds_toArray]
  try simp only [List.set]
  refine wpAnyT_one 8 rfl (by kernel_rfl) (fun K hK => ?_)
  go_simp
  refine hK.out _ _ (fun _ => hS) (fun _ => ?_)
  clear hK K
  try simp only [Act.put]
  try simp only [List.setIfInBounds_toArray]
  try simp only [List.set]
  refine wpAnyT_one 9 rfl (by kernel_rfl) (fun K hK => ?_)
  go_simp
  refine hK.out _ _ (fun _ => hS) (fun _ => ?_)
  clear hK K
  try simp only [Act.put]
  try simp only [List.setIfInBounds_toArray]
  try simp only [List.set]
  refine wpAnyT_done (by kernel_rfl) ?_ _
  have hv := prt_var (B2.out.put (prt st qv wv x))
  have HB := below_setRow BB.out (show w.heap.size ≤ w.heap.size + 1 + 1 by omega) (prt st qv wv x).toArray
  go_wp2_with fail
  exact bodyPost_ret (v := .tuple #[.agg (prt st qv wv x).toArray, .bool false, .bool dv]) (by simp [results, Try.results8, asAddr, hv]) rfl ⟨rfl, HB⟩

set_option maxHeartbeats 1000000 in
theorem rtick_up_not_stay (st q t : Int) (x : Ends) (h d r s : Int) (h0 : st ≠ 0) (h2 : st = 2) (hT : decide (t ≤ 1) = false) (ht : t < 9223372036854775808) (hQ : decide (q < d) = false) (w : World) :
    Calls Try.prog 8 #[.agg (prt st q t x).toArray, .agg (rul h d r s).toArray] w fun e w' => e = .returned (.tuple #[.agg (prt st q (t - 1) x).toArray, .bool false, .bool (decide (d ≤ q))]) ∧ Below w.heap.size w w' := by
  have D := Lib.hid (rdue_any st q t x)
  rw [show dueF st t = false by rw [dueF, hT]; simp] at D
  have e0 : (st == 0) = false := by simp [h0]
  have e2 : (st != 2) = false := by simp [h2]
  obtain ⟨wv, hwv⟩ : ∃ wv, t - 1 = wv := ⟨_, rfl⟩
  have e1 : wrap64 (t - 1) = wv := by have := of_decide_eq_false hT; rw [← hwv]; exact IntWalk.wrap64_in _ (by omega)
  rw [hwv]
  clear hwv
  obtain ⟨dv, e4⟩ : ∃ dv, decide (d ≤ q) = dv := ⟨_, rfl⟩
  rw [e4]
  clear h0 h2 hT ht
  go_enter Try.func8, Try.ntmps8
  go_upto_region 1 with fail
  obtain ⟨B0, B1, B2, BB⟩ := three_ali w st q t x h d r s
  obtain ⟨w1, hw1⟩ : ∃ w1, (((w.alloc (.cells (prt st q t x).toArray 33)).alloc (.cells (rul h d r s).toArray 35)).alloc (.cells #[.int .i64 0, .int .u32 0, .int .u32 0, .int .u32 0, .int .u32 0, .int .i64 0, .int .i64 0, .int .i64 0, .slice none 0 0, .int .i64 0, .slice none 0 0, .slice none 0 0] 33)) = w1 := ⟨_, rfl⟩
  rw [hw1] at B0 B1 B2 BB ⊢
  clear hw1
  have c0 := B0.cell 0 rfl
  have B0 := Lib.hid B0
  have B1 := Lib.hid B1
  have B2 := Lib.hid B2
  have BB := Lib.hid BB
  have hl := prt_load B0.out
  go_wp2_with fail
  refine (D.out _).mono ?_
  rintro e w2 ⟨rfl, hb⟩
  clear hl c0
  have BB := Lib.hid (bel_on BB.out hb)
  have B0 := Lib.hid (B0.out.on hb)
  have B1 := Lib.hid (B1.out.on hb)
  have B2 := Lib.hid (B2.out.on hb)
  clear hb
  have c1 := B0.out.cell 6 rfl
  have g1 := B0.out.thaw 6
  go_upto_region 7 with fail
  try rw [e1]
  have d0 := B0.out.set 6 (.int .i64 wv)
  rw [prt_wait] at d0
  have d1 := B1.out.other ⟨w.heap.size, 6, none⟩ (.int .i64 wv) (by simp)
  have d2 := B2.out.other ⟨w.heap.size, 6, none⟩ (.int .i64 wv) (show w.heap.size + 1 + 1 ≠ w.heap.size by omega)
  have HB := BB.out.setCell (p := ⟨w.heap.size, 6, none⟩) (Nat.le_refl w.heap.size) (.int .i64 wv)
  obtain ⟨w4, hwm⟩ : ∃ w4, w2.setCell ⟨w.heap.size, 6, none⟩ (.int .i64 wv) = w4 := ⟨_, rfl⟩
  rw [hwm] at d0 d1 d2 HB ⊢
  clear hwm c1 g1 B0 B1 B2 BB
  have B0 := Lib.hid d0
  have B1 := Lib.hid d1
  have B2 := Lib.hid d2
  have BB := Lib.hid HB
  clear d0 d1 d2 HB
  clear e1
  have c0 := B0.out.cell 0 rfl
  have c5 := B0.out.cell 5 rfl
  have r1 := B1.out.cell 1 rfl
  go_upto_region 11 with fail
  clear c0 c5 r1
  refine wp_region_tail (fun w' => Blk w' w.heap.size (prt st q wv x) ∧ Blk w' (w.heap.size + 1) (rul h d r s)) (fun _ => false) (by kernel_rfl) ⟨B0.out.drew, B1.out.drew⟩ (fun hS => ?_)
  refine wpAnyT_take 0 rfl (by kernel_rfl) (by kernel_rfl) (by kernel_rfl) (by kernel_rfl) (fun _ _ _ h => h) (by rfl) (by intro w hSw; (have hl := prt_load hSw.1); (have k0 := hSw.1.cell 5 rfl); (have k1 := hSw.2.cell 1 rfl); clear hSw; go_simp <;> with_reducible rfl) (by assumption) ?_
  try simp only [Act.put]
  try simp only [List.setIfInBounds_toArray]
  try simp only [List.set]
  refine wpAnyT_take 1 rfl (by kernel_rfl) (by kernel_rfl) (by kernel_rfl) (by kernel_rfl) (fun _ _ _ h => h) (by rfl) (by intro w hSw; (have hl := prt_load hSw.1); (have k0 := hSw.1.cell 5 rfl); (have k1 := hSw.2.cell 1 rfl); clear hSw; go_simp <;> with_reducible rfl) (by assumption) ?_
  try simp only [Act.put]
  try simp only [List.setIfInBounds_toArray]
  try simp only [List.set]
  refine wpAnyT_take 2 rfl (by kernel_rfl) (by kernel_rfl) (by kernel_rfl) (by kernel_rfl) (fun _ _ _ h => h) (by rfl) (by intro w hSw; (have hl := prt_load hSw.1); (have k0 := hSw.1.cell 5 rfl); (have k1 := hSw.2.cell 1 rfl); clear hSw; go_simp <;> with_reducible rfl) (by assumption) ?_
  try simp only [Act.put]
  try simp only [List.setIfInBounds_toArray]
  try simp only [List.set]
  refine wpAnyT_take 3 rfl (by kernel_rfl) (by kernel_rfl) (by kernel_rfl) (by kernel_rfl) (fun _ _ _ h => h) (by rfl) (by intro w hSw; (have hl := prt_load hSw.1); (have k0 := hSw.1.cell 5 rfl); (have k1 := hSw.2.cell 1 rfl); clear hSw; go_simp <;> with_reducible rfl) (by assumption) ?_
  try simp only [Act.put]
  try simp only [List.setIfInBounds_toArray]
  try simp only [List.set]
  refine wpAnyT_take 4 rfl (by kernel_rfl) (by kernel_rfl) (by kernel_rfl) (by kernel_rfl) (fun _ _ _ h => h) (by rfl) (by intro w hSw; (have hl := prt_load hSw.1); (have k0 := hSw.1.cell 5 rfl); (have k1 := hSw.2.cell 1 rfl); clear hSw; go_simp <;> with_reducible rfl) (by assumption) ?_
  try simp only [Act.put]
  try simp only [List.setIfInBounds_toArray]
  try simp only [List.set]
  refine wpAnyT_take 5 rfl (by kernel_rfl) (by kernel_rfl) (by kernel_rfl) (by kernel_rfl) (fun _ _ _ h => h) (by rfl) (by intro w hSw; (have hl := prt_load hSw.1); (have k0 := hSw.1.cell 5 rfl); (have k1 := hSw.2.cell 1 rfl); clear hSw; go_simp <;> with_reducible rfl) (by assumption) ?_
  try simp only [Act.put]
  try simp only [List.setIfInBounds_toArray]
  try simp only [List.set]
  refine wpAnyT_take 6 rfl (by kernel_rfl) (by kernel_rfl) (by kernel_rfl) (by kernel_rfl) (fun _ _ _ h => h) (by rfl) (by intro w hSw; (have hl := prt_load hSw.1); (have k0 := hSw.1.cell 5 rfl); (have k1 := hSw.2.cell 1 rfl); clear hSw; go_simp <;> with_reducible rfl) (by assumption) ?_
  try simp only [Act.put]
  try simp only [List.setIfInBounds_toArray]
  try simp only [List.set]
  have B2 := Lib.hid B2.out.drew
  have BB := Lib.hid BB.out.drew
  have hs := prt_store (st' := st) (q' := q) (t' := wv) (x' := x) B2.out
  refine wpAnyT_one 7 rfl (by kernel_rfl) (fun K hK => ?_)
  go_simp
  have hS := And.intro (hS.1.beside (w.heap.size + 1 + 1) (by omega) (prt st q wv x).toArray) (hS.2.beside (w.heap.size + 1 + 1) (by omega) (prt st q wv x).toArray)
  refine hK.out _ _ (fun _ => hS) (fun _ => ?_)
  clear hK K hs
  try simp only [Act.put]
  try simp only [List.setIfInBounds_toArray]
  try simp only [List.set]
  refine wpAnyT_one 8 rfl (by kernel_rfl) (fun K hK => ?_)
  go_simp
  refine hK.out _ _ (fun _ => hS) (fun _ => ?_)
  clear hK K
  try simp only [Act.put]
  try simp only [List.setIfInBounds_toArray]
  try simp only [List.set]
  refine wpAnyT_one 9 rfl (by kernel_rfl) (fun K hK => ?_)
  go_simp
  refine hK.out _ _ (fun _ => hS) (fun _ => ?_)
  clear hK K
  try simp only [Act.put]
  try simp only [List.setIfInBounds_toArray]
  try simp only [List.set]
  refine wpAnyT_done (by kernel_rfl) ?_ _
  have hv := prt_var (B2.out.put (prt st q wv x))
  have HB := below_setRow BB.out (show w.heap.size ≤ w.heap.size + 1 + 1 by omega) (prt st q wv x).toArray
  go_wp2_with fail
  exact bodyPost_ret (v := .tuple #[.agg (prt st q wv x).toArray, .bool false, .bool dv]) (by simp [results, Try.results8, asAddr, hv]) rfl ⟨rfl, HB⟩

theorem rtick_any (st q t : Int) (x : Ends) (h d r s : Int) (ht : t < 9223372036854775808) (hd : d < 9223372036854775808) (hq : -9223372036854775808 ≤ q) :
    Gives Try.prog 8 #[.agg (prt st q t x).toArray, .agg (rul h d r s).toArray] (.tuple #[.agg (prt st (tickQ st q d) (tickW st t h) x).toArray, .bool (tickS st t), .bool (tickD st q d)]) := fun w => by
  by_cases h0 : st = 0
  · have H := rtick_off st q t x h d r s h0 w
    subst h0
    exact H
  by_cases h2 : st = 2
  · rw [show tickD st q d = decide (d ≤ quietF q d) by simp [tickD, h2], show tickQ st q d = quietF q d by simp [tickQ, h2]]
    cases hT : decide (t ≤ 1) with
    | true =>
      rw [show tickW st t h = max 1 h by simp [tickW, waitF, h0, of_decide_eq_true hT, Int.max_comm], show tickS st t = true by rw [tickS, dueF, hT]; simp [h0]]
      cases hQ : decide (q < d) with
      | true =>
        rw [show quietF q d = q + 1 by have := of_decide_eq_true hQ; simp [quietF]; omega]
        exact rtick_up_due_add st q t x h d r s h0 h2 hT hQ hd hq w
      | false =>
        rw [show quietF q d = q by have := of_decide_eq_false hQ; simp [quietF]; omega]
        exact rtick_up_due_stay st q t x h d r s h0 h2 hT hQ w
    | false =>
      rw [show tickW st t h = t - 1 by have := of_decide_eq_false hT; simp [tickW, waitF, h0]; omega, show tickS st t = false by rw [tickS, dueF, hT]; simp]
      cases hQ : decide (q < d) with
      | true =>
        rw [show quietF q d = q + 1 by have := of_decide_eq_true hQ; simp [quietF]; omega]
        exact rtick_up_not_add st q t x h d r s h0 h2 hT ht hQ hd hq w
      | false =>
        rw [show quietF q d = q by have := of_decide_eq_false hQ; simp [quietF]; omega]
        exact rtick_up_not_stay st q t x h d r s h0 h2 hT ht hQ w
  · rw [show tickD st q d = false by simp [tickD, h2], show tickQ st q d = q by simp [tickQ, h2]]
    cases hT : decide (t ≤ 1) with
    | true =>
      rw [show tickW st t h = max 1 h by simp [tickW, waitF, h0, of_decide_eq_true hT, Int.max_comm], show tickS st t = true by rw [tickS, dueF, hT]; simp [h0]]
      exact rtick_try_due st q t x h d r s h0 h2 hT w
    | false =>
      rw [show tickW st t h = t - 1 by have := of_decide_eq_false hT; simp [tickW, waitF, h0]; omega, show tickS st t = false by rw [tickS, dueF, hT]; simp]
      exact rtick_try_not st q t x h d r s h0 h2 hT ht w

theorem rul_var {w : World} {b : Nat} {h d r s : Int} (H : Blk w b (rul h d r s)) : (loadVar 35 ⟨b, 0, none⟩).run Try.prog w = .ok (.agg (rul h d r s).toArray) w :=
  run_loadVar_mid w b 0 _ (rul h d r s) _ (fun j v hv => H.cell (0 + j) (by rw [Nat.zero_add]; exact hv)) Try.underlying35 rfl rul_size
/-- New rules, and what is put into them at once. -/
theorem rul_new {w : World} {b : Nat} {h d r s : Int} (hb : w.heap.size = b) :
    (wholeStore 35 (.pointer (some ⟨b, 0, none⟩)) (.agg (rul h d r s).toArray)).run Try.prog (w.alloc (.cells #[.int .i64 0, .int .i64 0, .int .i64 0, .int .i64 0] 35)) = .ok () (w.alloc (.cells (rul h d r s).toArray 35)) := by
  subst hb
  have H := rul_store (h' := h) (d' := d) (r' := r) (s' := s) (Blk.new w (rul 0 0 0 0) 35)
  rw [World.setRow_alloc_new] at H
  exact H
theorem rules_any : Gives Try.prog 14 #[] (.agg (rul 2 5 2 3).toArray) := by
  intro w
  go_enter Try.func14, Try.ntmps14
  go_upto_region 1 with fail
  have B0 : Blk (w.alloc (.cells #[.int .i64 0, .int .i64 0, .int .i64 0, .int .i64 0] 35)) w.heap.size (rul 0 0 0 0) := Blk.new w (rul 0 0 0 0) _
  have BB := (Below.refl w.heap.size w).alloc (Nat.le_refl _) (.cells #[.int .i64 0, .int .i64 0, .int .i64 0, .int .i64 0] 35)
  obtain ⟨w1, hw1⟩ : ∃ w1, (w.alloc (.cells #[.int .i64 0, .int .i64 0, .int .i64 0, .int .i64 0] 35)) = w1 := ⟨_, rfl⟩
  rw [hw1] at B0 BB ⊢
  clear hw1
  have hs := rul_store (h' := 2) (d' := 5) (r' := 2) (s' := 3) B0
  simp only [rul] at hs
  have hv := rul_var (B0.put (rul 2 5 2 3))
  simp only [rul] at hv
  have HB := below_setRow BB (Nat.le_refl _) (rul 2 5 2 3).toArray
  go_wp2_with fail
  exact bodyPost_ret (v := .agg (rul 2 5 2 3).toArray) (by simp [results, Try.results14, asAddr, hv, rul]) rfl ⟨rfl, HB⟩
end Go.Proofs.Ytepmlgpllnndlaa
