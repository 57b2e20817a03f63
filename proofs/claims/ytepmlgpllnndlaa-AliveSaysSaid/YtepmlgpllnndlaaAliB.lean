/- Contracts of package alive, part B: dead, a channel with room and a select in one goroutine. -/
import Derived.Test.YtepmlgpllnndlaaAliA
import Derived.Conc.LoneCalls
import Derived.Conc.LoneSelect
import Derived.KernelRfl
import Derived.Laws.Rows
namespace Go.Proofs.Ytepmlgpllnndlaa
open Go.RowKit Go.Sort Go.Conc

theorem int_bytes : ∃ i, Try.prog.info? 3 = some i ∧ i.bytes = 8 := by
  have h : (Try.prog.info? 3).map (·.bytes) = some 8 := by kernel_rfl
  obtain ⟨i, hi, hb⟩ := Option.map_eq_some_iff.1 h
  exact ⟨i, hi, hb⟩
theorem mk_told (w : World) : (Instr.makeChan 55 (.int .i64 1)).run Try.prog w = .ok (.chan (some w.heap.size)) (w.alloc (.chan 1 #[] false 0 0 false)) := by
  obtain ⟨i, hi, hb⟩ := int_bytes
  simpa using run_makeChan (P := Try.prog) (w := w) Try.underlying55 hi .i64 1 (by omega) (by rw [hb]; omega)

/-- Behind both boxes and the channel. -/
def wTold (w : World) (P R : List Value) : World := ((w.alloc (.cells P.toArray 33)).alloc (.cells R.toArray 35)).alloc (.chan 1 #[] false 0 0 false)
theorem wTold_chan (w : World) (P R : List Value) : (wTold w P R).heap[w.heap.size + 1 + 1]? = some (.chan 1 #[] false 0 0 false) := by
  have := heap_alloc_new ((w.alloc (.cells P.toArray 33)).alloc (.cells R.toArray 35)) (.chan 1 #[] false 0 0 false)
  unfold wTold
  simpa only [World.size_alloc] using this
theorem wTold_below (w : World) (P R : List Value) : Below w.heap.size w (wTold w P R) :=
  (((Below.refl _ w).alloc (Nat.le_refl _) _).alloc (by simp only [World.size_alloc]; omega) _).alloc (by simp only [World.size_alloc]; omega) _
theorem wTold_size (w : World) (P R : List Value) : (wTold w P R).heap.size = w.heap.size + 1 + 1 + 1 := by simp only [wTold, World.size_alloc]

set_option maxRecDepth 100000 in
theorem dead_yes (st q t : Int) (x : Ends) (h d r s : Int) (w : World) (hd : decide (d ≤ q) = true) :
    Calls Try.prog 18 #[.agg (prt st q t x).toArray, .agg (rul h d r s).toArray] w fun e w' => e = .returned (.bool true) ∧ Below w.heap.size w w' := by
  refine calls_of_loneTo fun cs => ?_
  have e : Frame.enter Try.prog 18 #[.agg (prt st q t x).toArray, .agg (rul h d r s).toArray] .normal = (base 18).at ⟨#[.agg (prt st q t x).toArray, .agg (rul h d r s).toArray, undef, undef, undef, undef, undef, undef, undef, undef, undef, undef, undef, undef, undef, undef, undef, undef, undef], []⟩ [.code (Try.f18.body.getD .skip)] := by
    simp [Frame.enter, Frame.at, Try.func18, base, Try.f18]
  rw [e]
  have hmc := mk_told
  refine LoneTo.goes (n := 10) ?_
  simp only [Try.f18, Option.getD_some]
  s_c stepG_seq
  s_reg
  s_op
  s_op
  s_op
  s_c stepG_region_end
  s_c stepG_seq
  s_reg
  s_op
  s_op
  s_stop
  clear hmc
  have k5 : (wTold w (prt st q t x) (rul h d r s)).cell? ⟨w.heap.size, 5, none⟩ = some (.int .i64 q) := (((Blk.new w (prt st q t x) 33).next _).next _).cell 5 rfl
  have k1 : (wTold w (prt st q t x) (rul h d r s)).cell? ⟨w.heap.size + 1, 1, none⟩ = some (.int .i64 d) := ((Blk.newAt (by simp only [World.size_alloc]) (rul h d r s) 35).next _).cell 1 rfl
  have hB := wTold_below w (prt st q t x) (rul h d r s)
  have hC := wTold_chan w (prt st q t x) (rul h d r s)
  have hS := wTold_size w (prt st q t x) (rul h d r s)
  rw [show ((w.alloc (.cells (prt st q t x).toArray 33)).alloc (.cells (rul h d r s).toArray 35)).alloc (.chan 1 #[] false 0 0 false) = wTold w (prt st q t x) (rul h d r s) from rfl]
  generalize wTold w (prt st q t x) (rul h d r s) = W at *
  refine LoneTo.goes (n := 15) ?_
  s_c stepG_region_end
  s_c stepG_seq
  s_c stepG_seq
  s_reg
  s_op
  s_op
  s_op
  s_op
  s_op
  s_c stepG_region_end
  s_cond true
  s_reg
  s_op
  s_op
  s_op
  s_stop
  refine LoneTo.step (step_lone_send_room (c := w.heap.size + 1 + 1) (cap := 1) (buf := #[]) (s := 0) (r := 0) (tm := false) (stepG_comm (cases := #[scase (w.heap.size + 1 + 1) (.int .i64 q) (.tuple #[])]) (blocking := true) (shape := .send) (w' := W) rfl rfl (by decide) (by simp [execOp, scase, Act.eval])) hC (by simp)) ?_
  rw [Frame.finish_at]
  walk_nrm
  refine LoneTo.goes (n := 7) ?_
  s_c stepG_region_end
  s_c stepG_seq
  s_reg
  s_op
  s_c stepG_region_end
  s_c stepG_seq
  s_reg
  s_stop
  refine LoneTo.step (step_lone_select_recv_buf (c := w.heap.size + 1 + 1) (cap := 1) (buf := #[.int .i64 q]) (closed := false) (s := 1) (r := 0) (tm := false) (stepG_comm (cases := #[rcase (w.heap.size + 1 + 1) (.int .i64 0)]) (blocking := false) (shape := .select) (w' := W.setChan (w.heap.size + 1 + 1) 1 #[.int .i64 q] false 1 0 false) rfl rfl (by decide) (by simp [go_sem, execOp, rcase, Act.eval])) (heap_setChan W (w.heap.size + 1 + 1) 1 #[.int .i64 q] false 1 0 false (by omega)) (by simp)) ?_
  rw [Frame.finish_at]
  walk_nrm
  refine LoneTo.goes (n := 10) ?_
  s_op
  s_op
  s_c stepG_region_end
  s_c stepG_block
  s_cond true
  s_c stepG_seq
  s_reg
  s_op
  s_c stepG_region_end
  s_c stepG_ret'
  s_stop
  refine LoneTo.done ⟨.returned (.bool true), _, rfl, ⟨rfl, ?_⟩, rfl, rfl, rfl, rfl, _, Try.func18, by simp [results, Try.f18, Frame.at]⟩
  exact below_setChan (below_setChan hB (by omega) _ _ _ _ _ _) (by omega) _ _ _ _ _ _

set_option maxRecDepth 100000 in
theorem dead_no (st q t : Int) (x : Ends) (h d r s : Int) (w : World) (hd : decide (d ≤ q) = false) :
    Calls Try.prog 18 #[.agg (prt st q t x).toArray, .agg (rul h d r s).toArray] w fun e w' => e = .returned (.bool false) ∧ Below w.heap.size w w' := by
  refine calls_of_loneTo fun cs => ?_
  have e : Frame.enter Try.prog 18 #[.agg (prt st q t x).toArray, .agg (rul h d r s).toArray] .normal = (base 18).at ⟨#[.agg (prt st q t x).toArray, .agg (rul h d r s).toArray, undef, undef, undef, undef, undef, undef, undef, undef, undef, undef, undef, undef, undef, undef, undef, undef, undef], []⟩ [.code (Try.f18.body.getD .skip)] := by
    simp [Frame.enter, Frame.at, Try.func18, base, Try.f18]
  rw [e]
  have hmc := mk_told
  refine LoneTo.goes (n := 10) ?_
  simp only [Try.f18, Option.getD_some]
  s_c stepG_seq
  s_reg
  s_op
  s_op
  s_op
  s_c stepG_region_end
  s_c stepG_seq
  s_reg
  s_op
  s_op
  s_stop
  clear hmc
  have k5 : (wTold w (prt st q t x) (rul h d r s)).cell? ⟨w.heap.size, 5, none⟩ = some (.int .i64 q) := (((Blk.new w (prt st q t x) 33).next _).next _).cell 5 rfl
  have k1 : (wTold w (prt st q t x) (rul h d r s)).cell? ⟨w.heap.size + 1, 1, none⟩ = some (.int .i64 d) := ((Blk.newAt (by simp only [World.size_alloc]) (rul h d r s) 35).next _).cell 1 rfl
  have hB := wTold_below w (prt st q t x) (rul h d r s)
  have hC := wTold_chan w (prt st q t x) (rul h d r s)
  have hS := wTold_size w (prt st q t x) (rul h d r s)
  rw [show ((w.alloc (.cells (prt st q t x).toArray 33)).alloc (.cells (rul h d r s).toArray 35)).alloc (.chan 1 #[] false 0 0 false) = wTold w (prt st q t x) (rul h d r s) from rfl]
  generalize wTold w (prt st q t x) (rul h d r s) = W at *
  refine LoneTo.goes (n := 18) ?_
  s_c stepG_region_end
  s_c stepG_seq
  s_c stepG_seq
  s_reg
  s_op
  s_op
  s_op
  s_op
  s_op
  s_c stepG_region_end
  s_cond false
  s_c stepG_skip
  s_c stepG_seq
  s_reg
  s_op
  s_c stepG_region_end
  s_c stepG_seq
  s_reg
  s_stop
  refine LoneTo.step (step_lone_select_default (c := w.heap.size + 1 + 1) (z := .int .i64 0) (cap := 1) (s := 0) (r := 0) (tm := false) (stepG_comm (cases := #[rcase (w.heap.size + 1 + 1) (.int .i64 0)]) (blocking := false) (shape := .select) (w' := W) rfl rfl (by decide) (by simp [go_sem, execOp, rcase, Act.eval])) hC) ?_
  rw [Frame.finish_at]
  walk_nrm
  refine LoneTo.goes (n := 10) ?_
  s_op
  s_op
  s_c stepG_region_end
  s_c stepG_block
  s_cond false
  s_c stepG_seq
  s_reg
  s_op
  s_c stepG_region_end
  s_c stepG_ret'
  s_stop
  refine LoneTo.done ⟨.returned (.bool false), _, rfl, ⟨rfl, ?_⟩, rfl, rfl, rfl, rfl, _, Try.func18, by simp [results, Try.f18, Frame.at]⟩
  exact hB

theorem dead_any (st q t : Int) (x : Ends) (h d r s : Int) :
    Gives Try.prog 18 #[.agg (prt st q t x).toArray, .agg (rul h d r s).toArray] (.bool (decide (d ≤ q))) := fun w => by
  cases hd : decide (d ≤ q) with
  | true => exact dead_yes st q t x h d r s w hd
  | false => exact dead_no st q t x h d r s w hd
end Go.Proofs.Ytepmlgpllnndlaa
