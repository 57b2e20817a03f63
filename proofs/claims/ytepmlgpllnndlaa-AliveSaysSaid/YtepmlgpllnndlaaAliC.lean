/- Contracts of package alive, part C: Heard and Tick, and the document's own. -/
import Derived.Test.YtepmlgpllnndlaaAliB
import Derived.Test.YtepmlgpllnndlaaTail
import Derived.StillTailTactics
namespace Go.Proofs.Ytepmlgpllnndlaa
open Go.RowKit Go.Sort
attribute [local go_sem ↓] loadAt_prt storeAt_prt loadAt_rul storeAt_rul

/-- The cells of no end. -/
def zeroC : List Value := [.int .i64 0, .int .u32 0, .int .u32 0, .int .u32 0, .int .u32 0, .int .i64 0, .int .i64 0, .int .i64 0, .slice none 0 0, .int .i64 0, .slice none 0 0, .slice none 0 0]
theorem zeroC_prt : zeroC = prt 0 0 0 ends0 := rfl
/-- A box of an end, and a new end. -/
theorem box_new (w : World) (st q t : Int) (x : Ends) :
    Blk ((w.alloc (.cells (prt st q t x).toArray 33)).alloc (.cells #[.int .i64 0, .int .u32 0, .int .u32 0, .int .u32 0, .int .u32 0, .int .i64 0, .int .i64 0, .int .i64 0, .slice none 0 0, .int .i64 0, .slice none 0 0, .slice none 0 0] 33)) w.heap.size (prt st q t x) ∧
    Blk ((w.alloc (.cells (prt st q t x).toArray 33)).alloc (.cells #[.int .i64 0, .int .u32 0, .int .u32 0, .int .u32 0, .int .u32 0, .int .i64 0, .int .i64 0, .int .i64 0, .slice none 0 0, .int .i64 0, .slice none 0 0, .slice none 0 0] 33)) (w.heap.size + 1) (prt 0 0 0 ends0) ∧
    Below w.heap.size w ((w.alloc (.cells (prt st q t x).toArray 33)).alloc (.cells #[.int .i64 0, .int .u32 0, .int .u32 0, .int .u32 0, .int .u32 0, .int .i64 0, .int .i64 0, .int .i64 0, .slice none 0 0, .int .i64 0, .slice none 0 0, .slice none 0 0] 33)) :=
  ⟨(Blk.new w _ _).next _, Blk.newAt (by simp only [World.size_alloc]) (prt 0 0 0 ends0) _, ((Below.refl _ w).alloc (Nat.le_refl _) _).alloc (by simp only [World.size_alloc]; omega) _⟩
/-- A box of an end, one of rules, and a new end. -/
theorem three_ali (w : World) (st q t : Int) (x : Ends) (h d r s : Int) :
    Blk (((w.alloc (.cells (prt st q t x).toArray 33)).alloc (.cells (rul h d r s).toArray 35)).alloc (.cells #[.int .i64 0, .int .u32 0, .int .u32 0, .int .u32 0, .int .u32 0, .int .i64 0, .int .i64 0, .int .i64 0, .slice none 0 0, .int .i64 0, .slice none 0 0, .slice none 0 0] 33)) w.heap.size (prt st q t x) ∧
    Blk (((w.alloc (.cells (prt st q t x).toArray 33)).alloc (.cells (rul h d r s).toArray 35)).alloc (.cells #[.int .i64 0, .int .u32 0, .int .u32 0, .int .u32 0, .int .u32 0, .int .i64 0, .int .i64 0, .int .i64 0, .slice none 0 0, .int .i64 0, .slice none 0 0, .slice none 0 0] 33)) (w.heap.size + 1) (rul h d r s) ∧
    Blk (((w.alloc (.cells (prt st q t x).toArray 33)).alloc (.cells (rul h d r s).toArray 35)).alloc (.cells #[.int .i64 0, .int .u32 0, .int .u32 0, .int .u32 0, .int .u32 0, .int .i64 0, .int .i64 0, .int .i64 0, .slice none 0 0, .int .i64 0, .slice none 0 0, .slice none 0 0] 33)) (w.heap.size + 1 + 1) (prt 0 0 0 ends0) ∧
    Below w.heap.size w (((w.alloc (.cells (prt st q t x).toArray 33)).alloc (.cells (rul h d r s).toArray 35)).alloc (.cells #[.int .i64 0, .int .u32 0, .int .u32 0, .int .u32 0, .int .u32 0, .int .i64 0, .int .i64 0, .int .i64 0, .slice none 0 0, .int .i64 0, .slice none 0 0, .slice none 0 0] 33)) :=
  ⟨((Blk.new w _ _).next _).next _, (Blk.newAt (by simp only [World.size_alloc]) _ _).next _, Blk.newAt (by simp only [World.size_alloc]) (prt 0 0 0 ends0) _,
    (((Below.refl _ w).alloc (Nat.le_refl _) _).alloc (by simp only [World.size_alloc]; omega) _).alloc (by simp only [World.size_alloc]; omega) _⟩

theorem heard_any (st q t : Int) (x : Ends) :
    Gives Try.prog 12 #[.agg (prt st q t x).toArray] (.agg (prt st 0 t x).toArray) := by
  intro w
  go_enter Try.func12, Try.ntmps12
  go_upto_region 1 with fail
  obtain ⟨B0, B1, BB⟩ := box_new w st q t x
  obtain ⟨w1, hw1⟩ : ∃ w1, ((w.alloc (.cells (prt st q t x).toArray 33)).alloc (.cells #[.int .i64 0, .int .u32 0, .int .u32 0, .int .u32 0, .int .u32 0, .int .i64 0, .int .i64 0, .int .i64 0, .slice none 0 0, .int .i64 0, .slice none 0 0, .slice none 0 0] 33)) = w1 := ⟨_, rfl⟩
  rw [hw1] at B0 B1 BB ⊢
  clear hw1
  have c0 := B0.cell 5 rfl
  have g0 := B0.thaw 5
  have B0 := Lib.hid B0
  have B1 := Lib.hid B1
  go_upto_region 2 with fail
  have d0 := B0.out.set 5 (.int .i64 0)
  rw [prt_quiet] at d0
  have d1 := B1.out.other ⟨w.heap.size, 5, none⟩ (.int .i64 0) (by simp)
  have HB := BB.setCell (p := ⟨w.heap.size, 5, none⟩) (Nat.le_refl w.heap.size) (.int .i64 0)
  obtain ⟨w2, hw2⟩ : ∃ w2, w1.setCell ⟨w.heap.size, 5, none⟩ (.int .i64 0) = w2 := ⟨_, rfl⟩
  rw [hw2] at d0 d1 HB ⊢
  clear hw2 c0 g0
  have hl := prt_load d0
  have hs := prt_store (st' := st) (q' := 0) (t' := t) (x' := x) d1
  have hv := prt_var (d1.put (prt st 0 t x))
  have HB := below_setRow HB (Nat.le_succ _) (prt st 0 t x).toArray
  go_wp2_with fail
  exact bodyPost_ret (v := .agg (prt st 0 t x).toArray) (by simp [results, Try.results12, asAddr, hv]) rfl ⟨rfl, HB⟩

theorem rheard_any (st q t : Int) (x : Ends) :
    Gives Try.prog 13 #[.agg (prt st q t x).toArray] (.agg (prt st 0 t x).toArray) := by
  intro w
  go_enter Try.func13, Try.ntmps13
  go_upto_region 1 with fail
  obtain ⟨B0, B1, BB⟩ := box_new w st q t x
  obtain ⟨w1, hw1⟩ : ∃ w1, ((w.alloc (.cells (prt st q t x).toArray 33)).alloc (.cells #[.int .i64 0, .int .u32 0, .int .u32 0, .int .u32 0, .int .u32 0, .int .i64 0, .int .i64 0, .int .i64 0, .slice none 0 0, .int .i64 0, .slice none 0 0, .slice none 0 0] 33)) = w1 := ⟨_, rfl⟩
  rw [hw1] at B0 B1 BB ⊢
  clear hw1
  have c0 := B0.cell 5 rfl
  have g0 := B0.thaw 5
  have B0 := Lib.hid B0
  have B1 := Lib.hid B1
  go_upto_region 2 with fail
  have d0 := B0.out.set 5 (.int .i64 0)
  rw [prt_quiet] at d0
  have d1 := B1.out.other ⟨w.heap.size, 5, none⟩ (.int .i64 0) (by simp)
  have HB := BB.setCell (p := ⟨w.heap.size, 5, none⟩) (Nat.le_refl w.heap.size) (.int .i64 0)
  obtain ⟨w2, hw2⟩ : ∃ w2, w1.setCell ⟨w.heap.size, 5, none⟩ (.int .i64 0) = w2 := ⟨_, rfl⟩
  rw [hw2] at d0 d1 HB ⊢
  clear hw2 c0 g0
  have hl := prt_load d0
  have hs := prt_store (st' := st) (q' := 0) (t' := t) (x' := x) d1
  have hv := prt_var (d1.put (prt st 0 t x))
  have HB := below_setRow HB (Nat.le_succ _) (prt st 0 t x).toArray
  go_wp2_with fail
  exact bodyPost_ret (v := .agg (prt st 0 t x).toArray) (by simp [results, Try.results13, asAddr, hv]) rfl ⟨rfl, HB⟩

set_option maxHeartbeats 1000000 in
theorem tick_off (st q t : Int) (x : Ends) (h d r s : Int) (hst : st = 0) (w : World) :
    Calls Try.prog 7 #[.agg (prt st q t x).toArray, .agg (rul h d r s).toArray] w fun e w' => e = .returned (.tuple #[(.agg (prt st q t x).toArray), .bool false, .bool false]) ∧ Below w.heap.size w w' := by
  subst hst
  go_enter Try.func7, Try.ntmps7
  go_upto_region 1 with fail
  obtain ⟨B0, B1, B2, BB⟩ := three_ali w 0 q t x h d r s
  obtain ⟨w1, hw1⟩ : ∃ w1, (((w.alloc (.cells (prt 0 q t x).toArray 33)).alloc (.cells (rul h d r s).toArray 35)).alloc (.cells #[.int .i64 0, .int .u32 0, .int .u32 0, .int .u32 0, .int .u32 0, .int .i64 0, .int .i64 0, .int .i64 0, .slice none 0 0, .int .i64 0, .slice none 0 0, .slice none 0 0] 33)) = w1 := ⟨_, rfl⟩
  rw [hw1] at B0 B1 B2 BB ⊢
  clear hw1
  have c0 := B0.cell 0 rfl
  have B0 := Lib.hid B0
  have B1 := Lib.hid B1
  have B2 := Lib.hid B2
  have BB := Lib.hid BB
  have hl := prt_load B0.out
  have hs := prt_store (st' := 0) (q' := q) (t' := t) (x' := x) B2.out
  have hv := prt_var (B2.out.put (prt 0 q t x))
  have HB := below_setRow BB.out (show w.heap.size ≤ w.heap.size + 1 + 1 by omega) (prt 0 q t x).toArray
  go_wp2_with fail
  exact bodyPost_ret (v := .tuple #[.agg (prt 0 q t x).toArray, .bool false, .bool false]) (by simp [results, Try.results7, asAddr, hv]) rfl ⟨rfl, HB⟩

set_option maxHeartbeats 1000000 in
theorem tick_try (st q t : Int) (x : Ends) (h d r s : Int) (h0 : st ≠ 0) (h2 : st ≠ 2) (ht : t < 9223372036854775808) (w : World) :
    Calls Try.prog 7 #[.agg (prt st q t x).toArray, .agg (rul h d r s).toArray] w fun e w' => e = .returned (.tuple #[.agg (prt st q (waitF t h) x).toArray, .bool (dueF st t), .bool false]) ∧ Below w.heap.size w w' := by
  have D := Lib.hid (due_any st q t x)
  have WA := Lib.hid (wait_any st q t x h d r s h0 ht)
  have e0 : (st == 0) = false := by simp [h0]
  have e2 : (st != 2) = true := by simp [h2]
  generalize hwv : waitF t h = wv at *
  generalize dueF st t = du at *
  clear h0 h2 ht hwv
  go_enter Try.func7, Try.ntmps7
  go_upto_region 1 with fail
  obtain ⟨B0, B1, B2, BB⟩ := three_ali w st q t x h d r s
  obtain ⟨w1, hw1⟩ : ∃ w1, (((w.alloc (.cells (prt st q t x).toArray 33)).alloc (.cells (rul h d r s).toArray 35)).alloc (.cells #[.int .i64 0, .int .u32 0, .int .u32 0, .int .u32 0, .int .u32 0, .int .i64 0, .int .i64 0, .int .i64 0, .slice none 0 0, .int .i64 0, .slice none 0 0, .slice none 0 0] 33)) = w1 := ⟨_, rfl⟩
  rw [hw1] at B0 B1 B2 BB ⊢
  clear hw1
  have c0 := B0.cell 0 rfl
  have B0 := Lib.hid B0
  have B1 := Lib.hid B1
  have B2 := Lib.hid B2
  have BB := Lib.hid BB
  have hl := prt_load B0.out
  go_wp2_with fail
  refine (D.out _).mono ?_
  rintro e w2 ⟨rfl, hb⟩
  clear hl c0
  have BB := Lib.hid (bel_on BB.out hb)
  have B0 := Lib.hid (B0.out.on hb)
  have B1 := Lib.hid (B1.out.on hb)
  have B2 := Lib.hid (B2.out.on hb)
  clear hb
  have hl := prt_load B0.out
  have hm := rul_load B1.out
  go_wp2_with fail
  refine (WA.out _).mono ?_
  rintro e w3 ⟨rfl, hb⟩
  clear hl hm
  have BB := Lib.hid (bel_on BB.out hb)
  have B0 := Lib.hid (B0.out.on hb)
  have B1 := Lib.hid (B1.out.on hb)
  have B2 := Lib.hid (B2.out.on hb)
  clear hb
  have c1 := B0.out.cell 6 rfl
  have g1 := B0.out.thaw 6
  go_upto_region 5 with fail
  have d0 := B0.out.set 6 (.int .i64 wv)
  rw [prt_wait] at d0
  have d1 := B1.out.other ⟨w.heap.size, 6, none⟩ (.int .i64 wv) (by simp)
  have d2 := B2.out.other ⟨w.heap.size, 6, none⟩ (.int .i64 wv) (show w.heap.size + 1 + 1 ≠ w.heap.size by omega)
  have HB := BB.out.setCell (p := ⟨w.heap.size, 6, none⟩) (Nat.le_refl w.heap.size) (.int .i64 wv)
  obtain ⟨w4, hwm⟩ : ∃ w4, w3.setCell ⟨w.heap.size, 6, none⟩ (.int .i64 wv) = w4 := ⟨_, rfl⟩
  rw [hwm] at d0 d1 d2 HB ⊢
  clear hwm c1 g1 B0 B1 B2 BB
  have B0 := Lib.hid d0
  have B1 := Lib.hid d1
  have B2 := Lib.hid d2
  have BB := Lib.hid HB
  clear d0 d1 d2 HB
  have hl := prt_load B0.out
  have c0 := B0.out.cell 0 rfl
  have hs := prt_store (st' := st) (q' := q) (t' := wv) (x' := x) B2.out
  have hv := prt_var (B2.out.put (prt st q wv x))
  have HB := below_setRow BB.out (show w.heap.size ≤ w.heap.size + 1 + 1 by omega) (prt st q wv x).toArray
  go_wp2_with fail
  exact bodyPost_ret (v := .tuple #[.agg (prt st q wv x).toArray, .bool du, .bool false]) (by simp [results, Try.results7, asAddr, hv]) rfl ⟨rfl, HB⟩

set_option maxHeartbeats 1000000 in
theorem tick_up (st q t : Int) (x : Ends) (h d r s : Int) (h0 : st ≠ 0) (h2 : st = 2) (ht : t < 9223372036854775808) (hd : d < 9223372036854775808) (hq : -9223372036854775808 ≤ q) (w : World) :
    Calls Try.prog 7 #[.agg (prt st q t x).toArray, .agg (rul h d r s).toArray] w fun e w' => e = .returned (.tuple #[.agg (prt st (quietF q d) (waitF t h) x).toArray, .bool (dueF st t), .bool (decide (d ≤ quietF q d))]) ∧ Below w.heap.size w w' := by
  have D := Lib.hid (due_any st q t x)
  have WA := Lib.hid (wait_any st q t x h d r s h0 ht)
  have QU := Lib.hid (quiet_any st q (waitF t h) x h d r s hd hq)
  have DE := Lib.hid (dead_any st (quietF q d) (waitF t h) x h d r s)
  have e0 : (st == 0) = false := by simp [h0]
  have e2 : (st != 2) = false := by simp [h2]
  generalize hwv : waitF t h = wv at *
  generalize dueF st t = du at *
  generalize hqv : quietF q d = qv at *
  generalize hdv : decide (d ≤ qv) = dv at *
  clear hqv hdv
  clear h0 h2 ht hwv hd hq
  go_enter Try.func7, Try.ntmps7
  go_upto_region 1 with fail
  obtain ⟨B0, B1, B2, BB⟩ := three_ali w st q t x h d r s
  obtain ⟨w1, hw1⟩ : ∃ w1, (((w.alloc (.cells (prt st q t x).toArray 33)).alloc (.cells (rul h d r s).toArray 35)).alloc (.cells #[.int .i64 0, .int .u32 0, .int .u32 0, .int .u32 0, .int .u32 0, .int .i64 0, .int .i64 0, .int .i64 0, .slice none 0 0, .int .i64 0, .slice none 0 0, .slice none 0 0] 33)) = w1 := ⟨_, rfl⟩
  rw [hw1] at B0 B1 B2 BB ⊢
  clear hw1
  have c0 := B0.cell 0 rfl
  have B0 := Lib.hid B0
  have B1 := Lib.hid B1
  have B2 := Lib.hid B2
  have BB := Lib.hid BB
  have hl := prt_load B0.out
  go_wp2_with fail
  refine (D.out _).mono ?_
  rintro e w2 ⟨rfl, hb⟩
  clear hl c0
  have BB := Lib.hid (bel_on BB.out hb)
  have B0 := Lib.hid (B0.out.on hb)
  have B1 := Lib.hid (B1.out.on hb)
  have B2 := Lib.hid (B2.out.on hb)
  clear hb
  have hl := prt_load B0.out
  have hm := rul_load B1.out
  go_wp2_with fail
  refine (WA.out _).mono ?_
  rintro e w3 ⟨rfl, hb⟩
  clear hl hm
  have BB := Lib.hid (bel_on BB.out hb)
  have B0 := Lib.hid (B0.out.on hb)
  have B1 := Lib.hid (B1.out.on hb)
  have B2 := Lib.hid (B2.out.on hb)
  clear hb
  have c1 := B0.out.cell 6 rfl
  have g1 := B0.out.thaw 6
  go_upto_region 5 with fail
  have d0 := B0.out.set 6 (.int .i64 wv)
  rw [prt_wait] at d0
  have d1 := B1.out.other ⟨w.heap.size, 6, none⟩ (.int .i64 wv) (by simp)
  have d2 := B2.out.other ⟨w.heap.size, 6, none⟩ (.int .i64 wv) (show w.heap.size + 1 + 1 ≠ w.heap.size by omega)
  have HB := BB.out.setCell (p := ⟨w.heap.size, 6, none⟩) (Nat.le_refl w.heap.size) (.int .i64 wv)
  obtain ⟨w4, hwm⟩ : ∃ w4, w3.setCell ⟨w.heap.size, 6, none⟩ (.int .i64 wv) = w4 := ⟨_, rfl⟩
  rw [hwm] at d0 d1 d2 HB ⊢
  clear hwm c1 g1 B0 B1 B2 BB
  have B0 := Lib.hid d0
  have B1 := Lib.hid d1
  have B2 := Lib.hid d2
  have BB := Lib.hid HB
  clear d0 d1 d2 HB
  have hl := prt_load B0.out
  have hm := rul_load B1.out
  have c0 := B0.out.cell 0 rfl
  go_wp2_with fail
  refine (QU.out _).mono ?_
  rintro e w5 ⟨rfl, hb⟩
  clear hl hm c0
  have BB := Lib.hid (bel_on BB.out hb)
  have B0 := Lib.hid (B0.out.on hb)
  have B1 := Lib.hid (B1.out.on hb)
  have B2 := Lib.hid (B2.out.on hb)
  clear hb
  have c1 := B0.out.cell 5 rfl
  have g1 := B0.out.thaw 5
  go_upto_region 8 with fail
  have d0 := B0.out.set 5 (.int .i64 qv)
  rw [prt_quiet] at d0
  have d1 := B1.out.other ⟨w.heap.size, 5, none⟩ (.int .i64 qv) (by simp)
  have d2 := B2.out.other ⟨w.heap.size, 5, none⟩ (.int .i64 qv) (show w.heap.size + 1 + 1 ≠ w.heap.size by omega)
  have HB := BB.out.setCell (p := ⟨w.heap.size, 5, none⟩) (Nat.le_refl w.heap.size) (.int .i64 qv)
  obtain ⟨w6, hwm⟩ : ∃ w6, w5.setCell ⟨w.heap.size, 5, none⟩ (.int .i64 qv) = w6 := ⟨_, rfl⟩
  rw [hwm] at d0 d1 d2 HB ⊢
  clear hwm c1 g1 B0 B1 B2 BB
  have B0 := Lib.hid d0
  have B1 := Lib.hid d1
  have B2 := Lib.hid d2
  have BB := Lib.hid HB
  clear d0 d1 d2 HB
  refine wp_region_tail (fun w' => Blk w' w.heap.size (prt st qv wv x) ∧ Blk w' (w.heap.size + 1) (rul h d r s)) (fun _ => false) (by kernel_rfl) ⟨B0.out.drew, B1.out.drew⟩ (fun hS => ?_)
  refine wpAnyT_take 0 rfl (by kernel_rfl) (by kernel_rfl) (by kernel_rfl) (by kernel_rfl) (fun _ _ _ h => h) (by rfl) (by intro w hSw; (have hl := prt_load hSw.1); (have hm := rul_load hSw.2); clear hSw; go_simp <;> with_reducible rfl) (by assumption) ?_
  try simp only [Act.put]
  try simp only [List.setIfInBounds_toArray]
  try simp only [List.set]
  refine wpAnyT_take 1 rfl (by kernel_rfl) (by kernel_rfl) (by kernel_rfl) (by kernel_rfl) (fun _ _ _ h => h) (by rfl) (by intro w hSw; (have hl := prt_load hSw.1); (have hm := rul_load hSw.2); clear hSw; go_simp <;> with_reducible rfl) (by assumption) ?_
  try simp only [Act.put]
  try simp only [List.setIfInBounds_toArray]
  try simp only [List.set]
  refine wpAnyT_take 2 rfl (by kernel_rfl) (by kernel_rfl) (by kernel_rfl) (by kernel_rfl) (fun _ _ _ h => h) (by rfl) (by intro w hSw; (have hl := prt_load hSw.1); (have hm := rul_load hSw.2); clear hSw; go_simp <;> with_reducible rfl) (by assumption) ?_
  try simp only [Act.put]
  try simp only [List.setIfInBounds_toArray]
  try simp only [List.set]
  refine wpAnyT_take 3 rfl (by kernel_rfl) (by kernel_rfl) (by kernel_rfl) (by kernel_rfl) (fun _ _ _ h => h) (by rfl) (by intro w hSw; (have hl := prt_load hSw.1); (have hm := rul_load hSw.2); clear hSw; go_simp <;> with_reducible rfl) (by assumption) ?_
  try simp only [Act.put]
  try simp only [List.setIfInBounds_toArray]
  try simp only [List.set]
  refine wpAnyT_one 4 rfl (by kernel_rfl) (fun K hK => ?_)
  go_simp
  refine (DE.out _).mono ?_
  rintro e w7 ⟨rfl, hb⟩
  go_simp
  have hS' := And.intro (hS.1.on hb) (hS.2.on hb)
  have B2 := Lib.hid (B2.out.drew.on hb)
  have BB := Lib.hid (bel_on BB.out.drew hb)
  refine hK.out _ _ (fun _ => hS') (fun _ => ?_)
  clear hK K hS hb
  try simp only [Act.put]
  try simp only [List.setIfInBounds_toArray]
  try simp only [List.set]
  have hs := prt_store (st' := st) (q' := qv) (t' := wv) (x' := x) B2.out
  refine wpAnyT_one 5 rfl (by kernel_rfl) (fun K hK => ?_)
  go_simp
  have hS := And.intro (hS'.1.beside (w.heap.size + 1 + 1) (by omega) (prt st qv wv x).toArray) (hS'.2.beside (w.heap.size + 1 + 1) (by omega) (prt st qv wv x).toArray)
  refine hK.out _ _ (fun _ => hS) (fun _ => ?_)
  clear hK K hS' hs
  try simp only [Act.put]
  try simp only [List.setIfInBounds_toArray]
  try simp only [List.set]
  refine wpAnyT_one 6 rfl (by kernel_rfl) (fun K hK => ?_)
  go_simp
  refine hK.out _ _ (fun _ => hS) (fun _ => ?_)
  clear hK K
  try simp only [Act.put]
  try simp only [List.setIfInBounds_toArray]
  try simp only [List.set]
  refine wpAnyT_one 7 rfl (by kernel_rfl) (fun K hK => ?_)
  go_simp
  refine hK.out _ _ (fun _ => hS) (fun _ => ?_)
  clear hK K
  try simp only [Act.put]
  try simp only [List.setIfInBounds_toArray]
  try simp only [List.set]
  refine wpAnyT_done (by kernel_rfl) ?_ _
  have hv := prt_var (B2.out.put (prt st qv wv x))
  have HB := below_setRow BB.out (show w.heap.size ≤ w.heap.size + 1 + 1 by omega) (prt st qv wv x).toArray
  go_wp2_with fail
  exact bodyPost_ret (v := .tuple #[.agg (prt st qv wv x).toArray, .bool du, .bool dv]) (by simp [results, Try.results7, asAddr, hv]) rfl ⟨rfl, HB⟩

theorem tick_any (st q t : Int) (x : Ends) (h d r s : Int) (ht : t < 9223372036854775808) (hd : d < 9223372036854775808) (hq : -9223372036854775808 ≤ q) :
    Gives Try.prog 7 #[.agg (prt st q t x).toArray, .agg (rul h d r s).toArray] (.tuple #[.agg (prt st (tickQ st q d) (tickW st t h) x).toArray, .bool (tickS st t), .bool (tickD st q d)]) := fun w => by
  by_cases h0 : st = 0
  · have H := tick_off st q t x h d r s h0 w
    subst h0
    exact H
  by_cases h2 : st = 2
  · have H := tick_up st q t x h d r s h0 h2 ht hd hq w
    subst h2
    exact H
  · have H := tick_try st q t x h d r s h0 h2 ht w
    rw [show tickQ st q d = q by simp [tickQ, h2], show tickW st t h = waitF t h by simp [tickW, h0], show tickS st t = dueF st t from rfl, show tickD st q d = false by simp [tickD, h2]]
    exact H
end Go.Proofs.Ytepmlgpllnndlaa
