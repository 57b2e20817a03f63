/- The document's own list of a set's nodes. For any seat that has it. -/
import Derived.Test.YtjpbglbbeepmnaaNodesC
import Derived.Test.YtjpbglbbeepmnaaRNodesA
namespace Go.Proofs.Ytjpbglbbeepmnaa
open Go.RowKit
set_option maxRecDepth 100000 in
set_option maxHeartbeats 400000 in
theorem rlist_any (s : Int) (w : World) : Calls Try.prog 39 #[.int .i64 s] w (OwnNats (NodesF.nodesN (NodesF.lowN s) 16) w) := by
  obtain ⟨i0, hi, hz0, hz1, hz2⟩ := info_parts Try.info3
  go_enter Try.func39, Try.ntmps39
  go_wp2
  go_loopw [3, 5] (fun v c wr => ∃ (pre : List Nat) (k : Nat), c = .int .i64 (k : Int) ∧ k ≤ 16 ∧ pre.length ≤ k ∧ pre ++ NodesF.nodesN (NodesF.lowN s) (16 - k) = NodesF.nodesN (NodesF.lowN s) 16 ∧
      wr.ownsRow w.heap.size 3 1 v pre.length (natV pre) ∧ Below w.heap.size w wr)
    (fun _ c _ => (16 - intOf c).toNat)
  case atStart => exact ⟨[], 0, rfl, by omega, by simp, rfl, World.ownsRow_nil _ _ _ _, Below.refl _ _⟩
  case round =>
    obtain ⟨pre, k, rfl, hk, hpk, heq, hown, hbel⟩ := hrel
    have HEQ := Lib.hid heq
    have hsz := hbel.size
    have HBL := Lib.hid hbel
    clear heq hbel
    by_cases h : k < 16
    · have HS := Lib.hid (NodesF.nodes_step (NodesF.lowN s) k h)
      have HL := Lib.hid (NodesF.has_low s k h)
      obtain ⟨b, hb⟩ : ∃ b, NodesF.hasN s k = b := ⟨_, rfl⟩
      have HB := Lib.hid hb
      clear hb
      go_wp2_with fail
      refine (rhas_in s k _ h).mono ?_
      rintro e w1 ⟨rfl, rfl⟩
      rw [HB.out]
      cases b with
      | true =>
        have HN : Hid (NodesF.nodesN (NodesF.lowN s) (16 - k) = k :: NodesF.nodesN (NodesF.lowN s) (16 - (k + 1))) := by
          rw [HS.out, if_pos (by have := HL.out; rw [HB.out] at this; exact of_decide_eq_true this.symm)]; trivial
        go_wp2_with (at_builtin; refine wpList_append_own _ rfl (.tmp 11) (.tmp 13) 27 rfl w.heap.size 3 i0 (.int .i64 0) 1 8 Try.underlying27 hi hz0 hz1 hz2 rfl (by decide) _ _ _ rfl (hown.alloc _) ⟨wr.heap.size, 0, none⟩ 1 1 [_] rfl rfl (cell_one_new _ _ _) (by simp [Value.oneCell']) (by unfold maxLen; omega) (by omega) (by simp; omega) ?_; intro v1 w1 hown1 hg1 _)
        go_roundw
        case rel =>
          exact ⟨pre ++ [k], k + 1, by go_num, by omega, by rw [List.length_append]; simp; omega, by rw [← HEQ.out, HN.out]; simp, by rw [natV_snoc, List.length_append]; exact hown1,
            (HBL.out.alloc hsz _).grown hg1 (by simp; omega) (fun k hk => (hown.lt k hk).1)⟩
        case measure => simp [intOf]; omega
      | false =>
        have HN : Hid (NodesF.nodesN (NodesF.lowN s) (16 - k) = NodesF.nodesN (NodesF.lowN s) (16 - (k + 1))) := by
          rw [HS.out, if_neg (by have := HL.out; rw [HB.out] at this; exact of_decide_eq_false this.symm)]; trivial
        go_wp2
        go_roundw
        case rel => exact ⟨pre, k + 1, by go_num, by omega, by omega, by rw [← HEQ.out, HN.out], hown, HBL.out⟩
        case measure => simp [intOf]; omega
    · obtain rfl : k = 16 := by omega
      go_wp2
      go_ret
      have e : pre = NodesF.nodesN (NodesF.lowN s) 16 := by rw [← HEQ.out]; simp [NodesF.nodesN]
      subst e
      exact ⟨_, rfl, hown, HBL.out⟩
end Go.Proofs.Ytjpbglbbeepmnaa
