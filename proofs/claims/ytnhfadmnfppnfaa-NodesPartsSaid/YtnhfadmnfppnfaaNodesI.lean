/- Contracts of package nodes, part I: Subsets, and the document's own. -/
import Derived.Test.YtnhfadmnfppnfaaNodesH
namespace Go.Proofs.Ytnhfadmnfppnfaa
open Go.RowKit

/-- The first k sets within x. -/
def subP (x k : Nat) : List Nat := (List.range k).map (NodesF.subN 16 x)
theorem subP_length (x k : Nat) : (subP x k).length = k := by simp [subP]
theorem subP_snoc (x k : Nat) : subP x (k + 1) = subP x k ++ [NodesF.subN 16 x k] := by simp [subP, List.range_succ]
theorem subP_all (x many : Nat) : subP x (min many (2 ^ NodesF.popN 16 x)) = NodesF.subsL x many := rfl
/-- Ahead of the last one no set within x is x. -/
theorem sub_ne (x k : Nat) (hx : x < 65536) (h : k + 1 < 2 ^ NodesF.popN 16 x) : ((NodesF.subN 16 x k : Int) == (x : Int)) = false := by
  have h1 := NodesF.sub_last 16 x hx
  have h2 := NodesF.sub_rise 16 x k (2 ^ NodesF.popN 16 x - 1) (by omega) (by omega)
  rw [h1] at h2
  exact beq_eq_false_iff_ne.2 (by omega)
theorem sub_eq (x k : Nat) (hx : x < 65536) (h : k + 1 = 2 ^ NodesF.popN 16 x) : ((NodesF.subN 16 x k : Int) == (x : Int)) = true := by
  have h1 := NodesF.sub_last 16 x hx
  have e : k = 2 ^ NodesF.popN 16 x - 1 := by omega
  rw [e, h1]; simp

set_option maxRecDepth 100000 in
set_option maxHeartbeats 800000 in
theorem subsets_any (s : Int) (many : Nat) (w : World) (hm : many ≤ 65536) : Calls Try.prog 12 #[.int .i64 s, .int .i64 (many : Int)] w (OwnNats (NodesF.subsL (NodesF.lowN s) many) w) := by
  obtain ⟨i0, hi, hz0, hz1, hz2⟩ := info_parts Try.info3
  have hl : IntKind.u16.wrap s = (NodesF.lowN s : Int) := by rw [NodesF.lowN_int]; simp [IntKind.wrap, IntKind.bits, IntKind.signed]
  have hlt := NodesF.lowN_lt s
  generalize NodesF.lowN s = x at *
  have hp16 : 2 ^ NodesF.popN 16 x ≤ 2 ^ 16 := Nat.pow_le_pow_right (by omega) (NodesF.popN_le 16 x)
  have hp0 := Nat.two_pow_pos (NodesF.popN 16 x)
  have hA := subP_all x many
  obtain ⟨N, hN⟩ : ∃ N, 2 ^ NodesF.popN 16 x = N := ⟨_, rfl⟩
  rw [hN] at hp16 hp0 hA
  have HA := Lib.hid hA
  have HN := Lib.hid hN
  clear hA hN
  go_enter Try.func12, Try.ntmps12
  go_wp2
  clear hl
  go_loopw [6, 7] (fun v c wr => ∃ (k : Nat), c = .int .i64 (NodesF.subN 16 x k : Int) ∧ k ≤ many ∧ k < N ∧
      wr.ownsRow w.heap.size 3 1 v k (natV (subP x k)) ∧ Below w.heap.size w wr)
    (fun v _ _ => match v with | .slice _ n _ => many - n | _ => many)
  case atStart => exact ⟨0, by rw [NodesF.sub_zero]; rfl, by omega, by omega, World.ownsRow_nil _ _ _ _, Below.refl _ _⟩
  case round =>
    obtain ⟨k, rfl, hk, hkN, hown, hbel⟩ := hrel
    have hsz := hbel.size
    have HBL := Lib.hid hbel
    have HOWN := Lib.hid hown
    clear hbel
    obtain ⟨a, c, rfl⟩ := own_slice hown
    by_cases h : k < many
    · have hs := NodesF.sub_lt 16 x k
      by_cases hlast : k + 1 = N
      · have hq := sub_eq x k hlt (by rw [HN.out]; exact hlast)
        have HE : Hid (NodesF.subsL x many = subP x (k + 1)) := by
          rw [← HA.out, show min many N = k + 1 by omega]; exact Lib.hid rfl
        generalize hS : NodesF.subN 16 x k = S at *
        have HS := Lib.hid hS
        clear hS
        go_wp2_with (at_builtin; refine wpList_append_own _ rfl (.tmp 15) (.tmp 17) 32 rfl w.heap.size 3 i0 (.int .i64 0) 1 8 Try.underlying32 hi hz0 hz1 hz2 rfl (by decide) _ _ _ rfl (hown.alloc _) ⟨wr.heap.size, 0, none⟩ 1 1 [_] rfl rfl (cell_one_new _ _ _) (by simp [Value.oneCell']) (by unfold maxLen; omega) (by omega) (by simp; omega) ?_; intro v1 w1 hown1 hg1 _; have HO1 := Lib.hid hown1; have HG1 := Lib.hid hg1; clear hown1 hg1)
        go_ret
        refine ⟨_, rfl, ?_, (HBL.out.alloc hsz _).grown HG1.out (by simp; omega) (fun k hk => (HOWN.out.lt k hk).1)⟩
        rw [HE.out, subP_length, subP_snoc, natV_snoc, HS.out]
        exact HO1.out
      · have hq := sub_ne x k hlt (by rw [HN.out]; omega)
        have hn := NodesF.sub_next 16 x k hlt (by rw [HN.out]; omega)
        have hb := NodesF.next_i64 (NodesF.subN 16 x k) x hs hlt
        rw [hn] at hb
        have HSN := Lib.hid (subP_snoc x k)
        clear hn
        generalize hS : NodesF.subN 16 x k = S at *
        generalize hS2 : NodesF.subN 16 x (k + 1) = S2 at *
        have HS := Lib.hid hS
        have HS2 := Lib.hid hS2
        clear hS hS2
        go_wp2_with (at_builtin; refine wpList_append_own _ rfl (.tmp 15) (.tmp 17) 32 rfl w.heap.size 3 i0 (.int .i64 0) 1 8 Try.underlying32 hi hz0 hz1 hz2 rfl (by decide) _ _ _ rfl (hown.alloc _) ⟨wr.heap.size, 0, none⟩ 1 1 [_] rfl rfl (cell_one_new _ _ _) (by simp [Value.oneCell']) (by unfold maxLen; omega) (by omega) (by simp; omega) ?_; intro v1 w1 hown1 hg1 _; have HO1 := Lib.hid hown1; have HG1 := Lib.hid hg1; clear hown1 hg1; obtain ⟨a1, c1, hv1⟩ := own_slice HO1.out; subst hv1)
        go_roundw
        case rel =>
          refine ⟨k + 1, by rw [HS2.out], by omega, by omega, ?_, (HBL.out.alloc hsz _).grown HG1.out (by simp; omega) (fun k hk => (HOWN.out.lt k hk).1)⟩
          rw [HSN.out, natV_snoc]; exact HO1.out
        case measure => simp only; omega
    · obtain rfl : k = many := by omega
      have HE : Hid (NodesF.subsL x k = subP x k) := by
        rw [← HA.out, show min k N = k by omega]; exact Lib.hid rfl
      clear hown
      go_wp2
      go_ret
      refine ⟨_, rfl, ?_, HBL.out⟩
      rw [HE.out, subP_length]
      exact HOWN.out

set_option maxRecDepth 100000 in
set_option maxHeartbeats 800000 in
theorem refsubsets_any (s : Int) (many : Nat) (w : World) (hm : many ≤ 65536) : Calls Try.prog 13 #[.int .i64 s, .int .i64 (many : Int)] w (OwnNats (NodesF.subsL (NodesF.lowN s) many) w) := by
  obtain ⟨i0, hi, hz0, hz1, hz2⟩ := info_parts Try.info3
  have hl0 := NodesF.and_low s
  have hl : bits BinOp.and IntKind.i64 s 65535 = (NodesF.lowN s : Int) := by rw [NodesF.lowN_int]; exact hl0
  have hlt := NodesF.lowN_lt s
  clear hl0
  generalize NodesF.lowN s = x at *
  have hp16 : 2 ^ NodesF.popN 16 x ≤ 2 ^ 16 := Nat.pow_le_pow_right (by omega) (NodesF.popN_le 16 x)
  have hp0 := Nat.two_pow_pos (NodesF.popN 16 x)
  have hA := subP_all x many
  obtain ⟨N, hN⟩ : ∃ N, 2 ^ NodesF.popN 16 x = N := ⟨_, rfl⟩
  rw [hN] at hp16 hp0 hA
  have HA := Lib.hid hA
  have HN := Lib.hid hN
  clear hA hN
  have hmx : max (many : Int) 0 = (many : Int) := by omega
  have hmn : min (many : Int) 65536 = (many : Int) := by omega
  go_enter Try.func13, Try.ntmps13
  go_wp2
  clear hl
  go_loopw [5, 6] (fun v c wr => ∃ (k : Nat), c = .int .i64 (NodesF.subN 16 x k : Int) ∧ k ≤ many ∧ k < N ∧
      wr.ownsRow w.heap.size 3 1 v k (natV (subP x k)) ∧ Below w.heap.size w wr)
    (fun v _ _ => match v with | .slice _ n _ => many - n | _ => many)
  case atStart => exact ⟨0, by rw [NodesF.sub_zero]; rfl, by omega, by omega, World.ownsRow_nil _ _ _ _, Below.refl _ _⟩
  case round =>
    obtain ⟨k, rfl, hk, hkN, hown, hbel⟩ := hrel
    have hsz := hbel.size
    have HBL := Lib.hid hbel
    have HOWN := Lib.hid hown
    clear hbel
    obtain ⟨a, c, rfl⟩ := own_slice hown
    by_cases h : k < many
    · have hs := NodesF.sub_lt 16 x k
      by_cases hlast : k + 1 = N
      · have hq := sub_eq x k hlt (by rw [HN.out]; exact hlast)
        have HE : Hid (NodesF.subsL x many = subP x (k + 1)) := by
          rw [← HA.out, show min many N = k + 1 by omega]; exact Lib.hid rfl
        generalize hS : NodesF.subN 16 x k = S at *
        have HS := Lib.hid hS
        clear hS
        go_wp2_with (at_builtin; refine wpList_append_own _ rfl (.tmp 15) (.tmp 17) 32 rfl w.heap.size 3 i0 (.int .i64 0) 1 8 Try.underlying32 hi hz0 hz1 hz2 rfl (by decide) _ _ _ rfl (hown.alloc _) ⟨wr.heap.size, 0, none⟩ 1 1 [_] rfl rfl (cell_one_new _ _ _) (by simp [Value.oneCell']) (by unfold maxLen; omega) (by omega) (by simp; omega) ?_; intro v1 w1 hown1 hg1 _; have HO1 := Lib.hid hown1; have HG1 := Lib.hid hg1; clear hown1 hg1)
        go_ret
        refine ⟨_, rfl, ?_, (HBL.out.alloc hsz _).grown HG1.out (by simp; omega) (fun k hk => (HOWN.out.lt k hk).1)⟩
        rw [HE.out, subP_length, subP_snoc, natV_snoc, HS.out]
        exact HO1.out
      · have hq := sub_ne x k hlt (by rw [HN.out]; omega)
        have hn := NodesF.sub_next 16 x k hlt (by rw [HN.out]; omega)
        have hb := NodesF.next_i64 (NodesF.subN 16 x k) x hs hlt
        rw [hn] at hb
        have HSN := Lib.hid (subP_snoc x k)
        clear hn
        generalize hS : NodesF.subN 16 x k = S at *
        generalize hS2 : NodesF.subN 16 x (k + 1) = S2 at *
        have HS := Lib.hid hS
        have HS2 := Lib.hid hS2
        clear hS hS2
        go_wp2_with (at_builtin; refine wpList_append_own _ rfl (.tmp 15) (.tmp 17) 32 rfl w.heap.size 3 i0 (.int .i64 0) 1 8 Try.underlying32 hi hz0 hz1 hz2 rfl (by decide) _ _ _ rfl (hown.alloc _) ⟨wr.heap.size, 0, none⟩ 1 1 [_] rfl rfl (cell_one_new _ _ _) (by simp [Value.oneCell']) (by unfold maxLen; omega) (by omega) (by simp; omega) ?_; intro v1 w1 hown1 hg1 _; have HO1 := Lib.hid hown1; have HG1 := Lib.hid hg1; clear hown1 hg1; obtain ⟨a1, c1, hv1⟩ := own_slice HO1.out; subst hv1)
        go_roundw
        case rel =>
          refine ⟨k + 1, by rw [HS2.out], by omega, by omega, ?_, (HBL.out.alloc hsz _).grown HG1.out (by simp; omega) (fun k hk => (HOWN.out.lt k hk).1)⟩
          rw [HSN.out, natV_snoc]; exact HO1.out
        case measure => simp only; omega
    · obtain rfl : k = many := by omega
      have HE : Hid (NodesF.subsL x k = subP x k) := by
        rw [← HA.out, show min k N = k by omega]; exact Lib.hid rfl
      clear hown
      go_wp2
      go_ret
      refine ⟨_, rfl, ?_, HBL.out⟩
      rw [HE.out, subP_length]
      exact HOWN.out
end Go.Proofs.Ytnhfadmnfppnfaa
