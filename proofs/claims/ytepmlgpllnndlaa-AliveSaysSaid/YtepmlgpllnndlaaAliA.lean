/- Contracts of package alive, part A: Due, wait, quiet, and the document's own Due; ends as a whole block. -/
import Derived.Test.YtepmlgpllnndlaaAliF
import Derived.Lib.MinMax
namespace Go.Proofs.Ytepmlgpllnndlaa
open Go.RowKit Go.Sort

theorem loadAt_prt (v : Value) : Instr.loadAt 33 v = wholeLoad 33 v := rfl
theorem storeAt_prt (v x : Value) : Instr.storeAt 33 v x = wholeStore 33 v x := rfl
theorem loadAt_rul (v : Value) : Instr.loadAt 35 v = wholeLoad 35 v := rfl
theorem storeAt_rul (v x : Value) : Instr.storeAt 35 v x = wholeStore 35 v x := rfl
theorem prt_size : (Try.prog.info? 33).map (·.size) = some 12 := by kernel_rfl
theorem rul_size : (Try.prog.info? 35).map (·.size) = some 4 := by kernel_rfl
theorem prt_load {w : World} {b : Nat} {st q t : Int} {x : Ends} (h : Blk w b (prt st q t x)) :
    (wholeLoad 33 (.pointer (some ⟨b, 0, none⟩))).run Try.prog w = .ok (.agg (prt st q t x).toArray) w :=
  h.loads Try.underlying33 rfl prt_size
theorem rul_load {w : World} {b : Nat} {h d r s : Int} (H : Blk w b (rul h d r s)) :
    (wholeLoad 35 (.pointer (some ⟨b, 0, none⟩))).run Try.prog w = .ok (.agg (rul h d r s).toArray) w :=
  H.loads Try.underlying35 rfl rul_size
theorem prt_store {w : World} {b : Nat} {st q t st' q' t' : Int} {x x' : Ends} (h : Blk w b (prt st q t x)) :
    (wholeStore 33 (.pointer (some ⟨b, 0, none⟩)) (.agg (prt st' q' t' x').toArray)).run Try.prog w = .ok () (w.setRow b (prt st' q' t' x').toArray) :=
  h.stores prt_size rfl (prt_one _ _ _ _)
theorem rul_store {w : World} {b : Nat} {h d r s h' d' r' s' : Int} (H : Blk w b (rul h d r s)) :
    (wholeStore 35 (.pointer (some ⟨b, 0, none⟩)) (.agg (rul h' d' r' s').toArray)).run Try.prog w = .ok () (w.setRow b (rul h' d' r' s').toArray) :=
  H.stores rul_size rfl (rul_one _ _ _ _)
theorem prt_var {w : World} {b : Nat} {st q t : Int} {x : Ends} (h : Blk w b (prt st q t x)) : (loadVar 33 ⟨b, 0, none⟩).run Try.prog w = .ok (.agg (prt st q t x).toArray) w :=
  run_loadVar_mid w b 0 _ (prt st q t x) _ (fun j v hv => h.cell (0 + j) (by rw [Nat.zero_add]; exact hv)) Try.underlying33 rfl prt_size

attribute [local go_sem ↓] loadAt_prt storeAt_prt loadAt_rul storeAt_rul

theorem due_any (st q t : Int) (x : Ends) :
    Gives Try.prog 10 #[.agg (prt st q t x).toArray] (.bool (dueF st t)) := by
  intro w
  unfold dueF
  obtain ⟨a, ha⟩ : ∃ a, (st != 0) = a := ⟨_, rfl⟩
  obtain ⟨b, hb⟩ : ∃ b, decide (t ≤ 1) = b := ⟨_, rfl⟩
  rw [ha, hb]
  go_enter Try.func10, Try.ntmps10
  go_upto_region 1 with fail
  have k0 := Blk.new w (prt st q t x) 33
  have c0 := k0.cell 0 rfl
  have c6 := k0.cell 6 rfl
  clear k0
  cases a <;> cases b <;> (
    go_wp2
    go_ret
    exact ⟨rfl, (Below.refl _ _).alloc (Nat.le_refl _) _⟩)

theorem rdue_any (st q t : Int) (x : Ends) :
    Gives Try.prog 11 #[.agg (prt st q t x).toArray] (.bool (dueF st t)) := by
  intro w
  unfold dueF
  obtain ⟨a, ha⟩ : ∃ a, (st != 0) = a := ⟨_, rfl⟩
  obtain ⟨b, hb⟩ : ∃ b, decide (t ≤ 1) = b := ⟨_, rfl⟩
  rw [ha, hb]
  go_enter Try.func11, Try.ntmps11
  go_upto_region 1 with fail
  have k0 := Blk.new w (prt st q t x) 33
  have c0 := k0.cell 0 rfl
  have c6 := k0.cell 6 rfl
  clear k0
  cases a <;> cases b <;> (
    go_wp2
    go_ret
    exact ⟨rfl, (Below.refl _ _).alloc (Nat.le_refl _) _⟩)

/-- A box of an end, and one of rules. -/
theorem two_ali (w : World) (st q t : Int) (x : Ends) (h d r s : Int) :
    Blk ((w.alloc (.cells (prt st q t x).toArray 33)).alloc (.cells (rul h d r s).toArray 35)) w.heap.size (prt st q t x) ∧
    Blk ((w.alloc (.cells (prt st q t x).toArray 33)).alloc (.cells (rul h d r s).toArray 35)) (w.heap.size + 1) (rul h d r s) ∧
    Below w.heap.size w ((w.alloc (.cells (prt st q t x).toArray 33)).alloc (.cells (rul h d r s).toArray 35)) :=
  ⟨(Blk.new w _ _).next _, Blk.newAt (by simp only [World.size_alloc]) _ _, ((Below.refl _ w).alloc (Nat.le_refl _) _).alloc (by simp only [World.size_alloc]; omega) _⟩

theorem quiet_any (st q t : Int) (x : Ends) (h d r s : Int) (hd : d < 9223372036854775808) (hq : -9223372036854775808 ≤ q) :
    Gives Try.prog 17 #[.agg (prt st q t x).toArray, .agg (rul h d r s).toArray] (.int .i64 (quietF q d)) := by
  intro w
  have HV : Hid (quietF q d = if decide (d ≤ q) then q else q + 1) := Lib.hid (by simp [quietF])
  obtain ⟨a, ha⟩ : ∃ a, decide (d ≤ q) = a := ⟨_, rfl⟩
  rw [ha] at HV
  obtain ⟨k, hk⟩ : ∃ k, q + 1 = k := ⟨_, rfl⟩
  have e1 : a = false → wrap64 (q + 1) = k := fun e => by subst e; have := of_decide_eq_false ha; rw [← hk]; exact IntWalk.wrap64_in _ (by omega)
  rw [hk] at HV
  clear hd hq
  go_enter Try.func17, Try.ntmps17
  go_upto_region 1 with fail
  obtain ⟨B0, B1, BB⟩ := two_ali w st q t x h d r s
  obtain ⟨w1, hw1⟩ : ∃ w1, ((w.alloc (.cells (prt st q t x).toArray 33)).alloc (.cells (rul h d r s).toArray 35)) = w1 := ⟨_, rfl⟩
  rw [hw1] at B0 B1 BB ⊢
  clear hw1
  have c0 := B0.cell 5 rfl
  have c1 := B1.cell 1 rfl
  have BB := Lib.hid BB
  clear B0 B1
  cases a with
  | true =>
    clear e1 hk
    go_wp2
    go_ret
    exact ⟨by rw [HV.out]; rfl, BB.out⟩
  | false =>
    have e2 := e1 rfl
    clear e1
    clear hk
    go_wp2
    go_ret
    exact ⟨by rw [HV.out, ← e2]; rfl, BB.out⟩

theorem wait_any (st q t : Int) (x : Ends) (h d r s : Int) (hst : st ≠ 0) (ht : t < 9223372036854775808) :
    Gives Try.prog 16 #[.agg (prt st q t x).toArray, .agg (rul h d r s).toArray] (.int .i64 (waitF t h)) := by
  intro w
  have D := Lib.hid (due_any st q t x)
  have HV : Hid (waitF t h = if decide (t ≤ 1) then max h 1 else t - 1) := Lib.hid (by simp [waitF])
  rw [show dueF st t = decide (t ≤ 1) by simp [dueF, hst]] at D
  obtain ⟨a, ha⟩ : ∃ a, decide (t ≤ 1) = a := ⟨_, rfl⟩
  rw [ha] at HV D
  obtain ⟨k, hk⟩ : ∃ k, t - 1 = k := ⟨_, rfl⟩
  obtain ⟨m, hm⟩ : ∃ m, max h 1 = m := ⟨_, rfl⟩
  have e1 : a = false → wrap64 (t - 1) = k := fun e => by subst e; have := of_decide_eq_false ha; rw [← hk]; exact IntWalk.wrap64_in _ (by omega)
  rw [hk, hm] at HV
  clear hst ht
  go_enter Try.func16, Try.ntmps16
  go_upto_region 1 with fail
  obtain ⟨B0, B1, BB⟩ := two_ali w st q t x h d r s
  obtain ⟨w1, hw1⟩ : ∃ w1, ((w.alloc (.cells (prt st q t x).toArray 33)).alloc (.cells (rul h d r s).toArray 35)) = w1 := ⟨_, rfl⟩
  rw [hw1] at B0 B1 BB ⊢
  clear hw1
  have BB := Lib.hid BB
  have hl := prt_load B0
  have B0 := Lib.hid B0
  have B1 := Lib.hid B1
  go_wp2_with fail
  refine (D.out _).mono ?_
  rintro e w2 ⟨rfl, hb⟩
  have BB := Lib.hid (bel_on BB.out hb)
  have c0 := (B0.out.on hb).cell 6 rfl
  have c1 := (B1.out.on hb).cell 0 rfl
  clear hl B0 B1 hb
  cases a with
  | true =>
    clear e1 hk
    go_wp2
    go_ret
    exact ⟨by rw [HV.out]; rfl, BB.out⟩
  | false =>
    have e2 := e1 rfl
    clear e1
    clear hk hm
    go_wp2
    go_ret
    exact ⟨by rw [HV.out, ← e2]; rfl, BB.out⟩
end Go.Proofs.Ytepmlgpllnndlaa
