/- Contracts of package costs, part D: Up, and the document's own. -/
import Derived.Test.YtnbbepelagdenaaDoorCosA
import Derived.Test.YtnbbepelagdenaaDoorNodesC
import Derived.Test.YtnbbepelagdenaaDoorRNodesA
import Derived.Test.YtnbbepelagdenaaDoorInts
namespace Go.Proofs.YtnbbepelagdenaaDoor
open Go.RowKit Go.Sort CosF
attribute [local go_sem ↓] loadAt_cos loadAt_row storeAt_cos
set_option maxRecDepth 100000 in
set_option maxHeartbeats 400000 in
theorem rlist_any (s : Int) (w : World) : Calls Tryd.prog 33 #[.int .i64 s] w (OwnNats (NodesF.nodesN (NodesF.lowN s) 16) w) := by
  obtain ⟨i0, hi, hz0, hz1, hz2⟩ := info_parts Tryd.info3
  go_enter Tryd.func33, Tryd.ntmps33
  go_wp2
  go_loopw [3, 5] (fun v c wr => ∃ (pre : List Nat) (k : Nat), c = .int .i64 (k : Int) ∧ k ≤ 16 ∧ pre.length ≤ k ∧ pre ++ NodesF.nodesN (NodesF.lowN s) (16 - k) = NodesF.nodesN (NodesF.lowN s) 16 ∧
      wr.ownsRow w.heap.size 3 1 v pre.length (natV pre) ∧ Below w.heap.size w wr)
    (fun _ c _ => (16 - intOf c).toNat)
  case atStart => exact ⟨[], 0, rfl, by omega, by simp, rfl, World.ownsRow_nil _ _ _ _, Below.refl _ _⟩
  case round =>
    obtain ⟨pre, k, rfl, hk, hpk, heq, hown, hbel⟩ := hrel
    have HEQ := Lib.hid heq
    have hsz := hbel.size
    have HBL := Lib.hid hbel
    clear heq hbel
    by_cases h : k < 16
    · have HS := Lib.hid (NodesF.nodes_step (NodesF.lowN s) k h)
      have HL := Lib.hid (NodesF.has_low s k h)
      obtain ⟨b, hb⟩ : ∃ b, NodesF.hasN s k = b := ⟨_, rfl⟩
      have HB := Lib.hid hb
      clear hb
      go_wp2_with fail
      refine (rhas_in s k _ h).mono ?_
      rintro e w1 ⟨rfl, rfl⟩
      rw [HB.out]
      cases b with
      | true =>
        have HN : Hid (NodesF.nodesN (NodesF.lowN s) (16 - k) = k :: NodesF.nodesN (NodesF.lowN s) (16 - (k + 1))) := by
          rw [HS.out, if_pos (by have := HL.out; rw [HB.out] at this; exact of_decide_eq_true this.symm)]; trivial
        go_wp2_with (at_builtin; refine wpList_append_own _ rfl (.tmp 11) (.tmp 13) 29 rfl w.heap.size 3 i0 (.int .i64 0) 1 8 Tryd.underlying29 hi hz0 hz1 hz2 rfl (by decide) _ _ _ rfl (hown.alloc _) ⟨wr.heap.size, 0, none⟩ 1 1 [_] rfl rfl (cell_one_new _ _ _) (by simp [Value.oneCell']) (by unfold maxLen; omega) (by omega) (by simp; omega) ?_; intro v1 w1 hown1 hg1 _)
        go_roundw
        case rel =>
          exact ⟨pre ++ [k], k + 1, by go_num, by omega, by rw [List.length_append]; simp; omega, by rw [← HEQ.out, HN.out]; simp, by rw [natV_snoc, List.length_append]; exact hown1,
            (HBL.out.alloc hsz _).grown hg1 (by simp; omega) (fun k hk => (hown.lt k hk).1)⟩
        case measure => simp [intOf]; omega
      | false =>
        have HN : Hid (NodesF.nodesN (NodesF.lowN s) (16 - k) = NodesF.nodesN (NodesF.lowN s) (16 - (k + 1))) := by
          rw [HS.out, if_neg (by have := HL.out; rw [HB.out] at this; exact of_decide_eq_false this.symm)]; trivial
        go_wp2
        go_roundw
        case rel => exact ⟨pre, k + 1, by go_num, by omega, by omega, by rw [← HEQ.out, HN.out], hown, HBL.out⟩
        case measure => simp [intOf]; omega
    · obtain rfl : k = 16 := by omega
      go_wp2
      go_ret
      have e : pre = NodesF.nodesN (NodesF.lowN s) 16 := by rw [← HEQ.out]; simp [NodesF.nodesN]
      subst e
      exact ⟨_, rfl, hown, HBL.out⟩

theorem cup_any (c : Pt) (w : World) : Calls Tryd.prog 8 #[.agg (cosP c).toArray] w (OwnNats (upC c) w) := by
  have R := Lib.hid (fun w => list_any c.1 w)
  go_enter Tryd.func8, Tryd.ntmps8
  go_upto_region 1 with fail
  obtain ⟨B0, BB⟩ := one_cos w c
  obtain ⟨w1, hw1⟩ : ∃ w1, (w.alloc (.cells (cosP c).toArray 25)) = w1 := ⟨_, rfl⟩
  rw [hw1] at B0 BB ⊢
  clear hw1
  have c0 := B0.cell 0 rfl
  go_wp2_with fail
  refine (R.out _).mono ?_
  rintro e w2 ⟨v, rfl, hv, hb⟩
  go_wp2_with fail
  go_ret
  exact ⟨v, rfl, row_lower hv BB.size, bel_on BB hb⟩

theorem rup_any (c : Pt) (w : World) : Calls Tryd.prog 9 #[.agg (cosP c).toArray] w (OwnNats (upC c) w) := by
  have R := Lib.hid (fun w => rlist_any c.1 w)
  go_enter Tryd.func9, Tryd.ntmps9
  go_upto_region 1 with fail
  obtain ⟨B0, BB⟩ := one_cos w c
  obtain ⟨w1, hw1⟩ : ∃ w1, (w.alloc (.cells (cosP c).toArray 25)) = w1 := ⟨_, rfl⟩
  rw [hw1] at B0 BB ⊢
  clear hw1
  have c0 := B0.cell 0 rfl
  go_wp2_with fail
  refine (R.out _).mono ?_
  rintro e w2 ⟨v, rfl, hv, hb⟩
  go_wp2_with fail
  go_ret
  exact ⟨v, rfl, row_lower hv BB.size, bel_on BB hb⟩
end Go.Proofs.YtnbbepelagdenaaDoor
