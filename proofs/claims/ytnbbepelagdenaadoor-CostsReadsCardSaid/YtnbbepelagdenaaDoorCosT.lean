/- Contracts of package costs, part T: Total, Least, and the document's own. -/
import Derived.Test.YtnbbepelagdenaaDoorCosI
import Derived.Test.YtnbbepelagdenaaDoorCosS
namespace Go.Proofs.YtnbbepelagdenaaDoor
open Go.RowKit Go.Sort CosF
attribute [local go_sem ↓] loadAt_cos loadAt_row storeAt_cos

set_option maxHeartbeats 1000000 in
theorem ctotal_any (c : Pt) (hc : Cos c) : Gives Tryd.prog 23 #[.agg (cosP c).toArray] (.int .u64 (totalC c : Nat)) := fun w => by
  have HC := Lib.hid hc
  have UP := Lib.hid (fun w => cup_any c w)
  have HM : Hid ((upC c).length ≤ 16) := Lib.hid (NodesF.nodes_len _ _)
  have HU : Hid (∀ x ∈ upC c, x < 16 ∧ NodesF.hasN c.1 x = true) := Lib.hid (fun x hx => up_has c x hx)
  have HX : Hid (totalC c = sumF c (upC c)) := Lib.hid rfl
  obtain ⟨l, hl⟩ : ∃ l, upC c = l := ⟨_, rfl⟩
  rw [hl] at UP HX HM HU
  clear hl hc
  go_enter Tryd.func23, Tryd.ntmps23
  go_upto_region 1 with fail
  obtain ⟨B0, BB⟩ := one_cos w c
  obtain ⟨wa, hwa⟩ : ∃ wa, (w.alloc (.cells (cosP c).toArray 25)) = wa := ⟨_, rfl⟩
  rw [hwa] at B0 BB ⊢
  clear hwa
  have hq := cos_load B0 HC.out
  go_wp2_with fail
  refine (UP.out _).mono ?_
  rintro e w1 hown
  obtain ⟨a, cp, rfl, hna, hb⟩ := nats_slice hown
  have K1 := Lib.hid (B0.on hb)
  have KB := Lib.hid (bel_on BB hb)
  have KN := Lib.hid hna
  obtain ⟨n, hn⟩ : ∃ n, l.length = n := ⟨_, rfl⟩
  rw [hn] at HM ⊢
  have HNL := Lib.hid hn
  have hn64 : n ≤ 16 := HM.out
  clear hown hna hb B0 BB hq hn
  go_wp2_with fail
  go_loopw [9, 3] (fun v t wr => ∃ k s : Nat, v = .int .i64 (k : Int) ∧ k ≤ n ∧ t = .int .u64 (s : Int) ∧ s + sumF c (l.drop k) = sumF c l ∧ Blk wr w.heap.size (cosP c) ∧ NatAt wr a wa.heap.size l ∧ Below w.heap.size w wr) (fun v _ _ => (n - intOf v).toNat)
  case atStart => exact ⟨0, 0, rfl, Nat.zero_le _, rfl, by simp, K1.out, KN.out, KB.out⟩
  case round =>
    obtain ⟨k, s, rfl, hk, rfl, hs, k1, na, kb⟩ := hrel
    have HB := Lib.hid kb
    have NA := Lib.hid na
    have B1 := Lib.hid k1
    clear kb na k1
    by_cases hkn : k < n
    · obtain ⟨x, hx⟩ : ∃ x, l[k]? = some x := ⟨_, List.getElem?_eq_getElem (by have := HNL.out; omega)⟩
      obtain ⟨g, rfl, hg, hcell⟩ := NA.out.read hx
      obtain ⟨hx16, hxh⟩ := HU.out x (List.mem_of_getElem? hx)
      have hdrop : l.drop k = x :: l.drop (k + 1) := by
        have hlt := (List.getElem?_eq_some_iff.1 hx).1
        rw [List.drop_eq_getElem_cons hlt, (List.getElem?_eq_some_iff.1 hx).2]
      rw [hdrop, sumF] at hs
      have hsb := sum_bound HC.out l
      have h32 := HC.out.of (x : Int)
      have OF := Lib.hid (cof_any c (x : Int) HC.out)
      obtain ⟨q, hq⟩ : ∃ q, ofC c (x : Int) = q := ⟨_, rfl⟩
      rw [hq] at OF hs h32
      have hb37 : sumF c l ≤ 68719476736 := by have := HNL.out; have := Nat.mul_le_mul_right 4294967296 (show l.length ≤ 16 by omega); omega
      have HS : Hid (s + q + sumF c (l.drop (k + 1)) = sumF c l) := Lib.hid (by omega)
      have e2 : IntKind.u64.wrap (q : Int) = (q : Int) := by rw [IntKind.wrap_u64]; omega
      have e3 : IntKind.u64.wrap ((s : Int) + (q : Int)) = ((s + q : Nat) : Int) := by rw [IntKind.wrap_u64]; omega
      have hkn' : (k : Int) < (n : Int) := by omega
      have HK := Lib.hid hkn
      have e1 : wrap64 ((k : Int) + 1) = (k : Int) + 1 := IntWalk.wrap64_in _ (by omega)
      clear hx hq hg hkn hk hs hsb h32 hb37 hdrop hxh
      have hld := cos_load B1.out HC.out
      clear hx16
      go_wp2_with fail
      refine (OF.out _).mono ?_
      rintro e wn ⟨rfl, hb⟩
      have B1' := Lib.hid (B1.out.on hb)
      have NA' := Lib.hid (NA.out.on hb)
      have HB' := Lib.hid (bel_on HB.out hb)
      clear hcell hb hld
      go_wp2_with fail
      go_roundw
      case rel => exact ⟨k + 1, s + q, by go_num, HK.out, by first | rfl | go_num, HS.out, B1'.out, NA'.out, HB'.out⟩
      case measure => exact meas_up n k _ rfl HK.out
    · obtain rfl : k = n := by omega
      have hlt : l.drop k = [] := List.drop_eq_nil_of_le (by rw [HNL.out]; exact Nat.le_refl _)
      rw [hlt] at hs
      have HS : Hid (totalC c = s) := Lib.hid (by rw [HX.out, ← hs]; rfl)
      clear hlt hk hs
      go_wp2_with fail
      go_ret
      exact ⟨by rw [HS.out]; rfl, HB.out⟩

set_option maxHeartbeats 1000000 in
theorem rtotal_any (c : Pt) (hc : Cos c) : Gives Tryd.prog 24 #[.agg (cosP c).toArray] (.int .u64 (totalC c : Nat)) := fun w => by
  have HC := Lib.hid hc
  have UP := Lib.hid (fun w => rup_any c w)
  have HM : Hid ((upC c).length ≤ 16) := Lib.hid (NodesF.nodes_len _ _)
  have HU : Hid (∀ x ∈ upC c, x < 16 ∧ NodesF.hasN c.1 x = true) := Lib.hid (fun x hx => up_has c x hx)
  have HX : Hid (totalC c = sumF c (upC c)) := Lib.hid rfl
  obtain ⟨l, hl⟩ : ∃ l, upC c = l := ⟨_, rfl⟩
  rw [hl] at UP HX HM HU
  clear hl hc
  go_enter Tryd.func24, Tryd.ntmps24
  go_upto_region 1 with fail
  obtain ⟨B0, BB⟩ := one_cos w c
  obtain ⟨wa, hwa⟩ : ∃ wa, (w.alloc (.cells (cosP c).toArray 25)) = wa := ⟨_, rfl⟩
  rw [hwa] at B0 BB ⊢
  clear hwa
  have hq := cos_load B0 HC.out
  go_wp2_with fail
  refine (UP.out _).mono ?_
  rintro e w1 hown
  obtain ⟨a, cp, rfl, hna, hb⟩ := nats_slice hown
  have K1 := Lib.hid (B0.on hb)
  have KB := Lib.hid (bel_on BB hb)
  have KN := Lib.hid hna
  obtain ⟨n, hn⟩ : ∃ n, l.length = n := ⟨_, rfl⟩
  rw [hn] at HM ⊢
  have HNL := Lib.hid hn
  have hn64 : n ≤ 16 := HM.out
  clear hown hna hb B0 BB hq hn
  go_wp2_with fail
  go_loopw [9, 3] (fun v t wr => ∃ k s : Nat, v = .int .i64 (k : Int) ∧ k ≤ n ∧ t = .int .u64 (s : Int) ∧ s + sumF c (l.drop k) = sumF c l ∧ Blk wr w.heap.size (cosP c) ∧ NatAt wr a wa.heap.size l ∧ Below w.heap.size w wr) (fun v _ _ => (n - intOf v).toNat)
  case atStart => exact ⟨0, 0, rfl, Nat.zero_le _, rfl, by simp, K1.out, KN.out, KB.out⟩
  case round =>
    obtain ⟨k, s, rfl, hk, rfl, hs, k1, na, kb⟩ := hrel
    have HB := Lib.hid kb
    have NA := Lib.hid na
    have B1 := Lib.hid k1
    clear kb na k1
    by_cases hkn : k < n
    · obtain ⟨x, hx⟩ : ∃ x, l[k]? = some x := ⟨_, List.getElem?_eq_getElem (by have := HNL.out; omega)⟩
      obtain ⟨g, rfl, hg, hcell⟩ := NA.out.read hx
      obtain ⟨hx16, hxh⟩ := HU.out x (List.mem_of_getElem? hx)
      have hdrop : l.drop k = x :: l.drop (k + 1) := by
        have hlt := (List.getElem?_eq_some_iff.1 hx).1
        rw [List.drop_eq_getElem_cons hlt, (List.getElem?_eq_some_iff.1 hx).2]
      rw [hdrop, sumF] at hs
      have hsb := sum_bound HC.out l
      have h32 := HC.out.of (x : Int)
      obtain ⟨m, hm⟩ : ∃ m, c.2[x]? = some m := ⟨_, List.getElem?_eq_getElem (by have := HC.out.1; omega)⟩
      have hofm : ofC c (x : Int) = m := by rw [of_ok c x hx16 hxh, List.getD_eq_getElem?_getD, hm]; rfl
      have cx := B1.out.cell (1 + x) (cosP_at hm)
      have x0 : (0 : Int) ≤ (x : Int) := by omega
      have x1 : (x : Int) < 16 := by omega
      obtain ⟨q, hq⟩ : ∃ q, ofC c (x : Int) = q := ⟨_, rfl⟩
      rw [hq] at hs h32
      obtain rfl : m = q := hofm.symm.trans hq
      have hb37 : sumF c l ≤ 68719476736 := by have := HNL.out; have := Nat.mul_le_mul_right 4294967296 (show l.length ≤ 16 by omega); omega
      have HS : Hid (s + m + sumF c (l.drop (k + 1)) = sumF c l) := Lib.hid (by omega)
      have e2 : IntKind.u64.wrap (m : Int) = (m : Int) := by rw [IntKind.wrap_u64]; omega
      have e3 : IntKind.u64.wrap ((s : Int) + (m : Int)) = ((s + m : Nat) : Int) := by rw [IntKind.wrap_u64]; omega
      have hkn' : (k : Int) < (n : Int) := by omega
      have HK := Lib.hid hkn
      have e1 : wrap64 ((k : Int) + 1) = (k : Int) + 1 := IntWalk.wrap64_in _ (by omega)
      clear hx hq hg hkn hk hs hsb h32 hb37 hdrop hxh
      clear hofm hm hx16
      go_wp2_with fail
      go_roundw
      case rel => exact ⟨k + 1, s + m, by go_num, HK.out, by first | rfl | go_num, HS.out, B1.out, NA.out, HB.out⟩
      case measure => exact meas_up n k _ rfl HK.out
    · obtain rfl : k = n := by omega
      have hlt : l.drop k = [] := List.drop_eq_nil_of_le (by rw [HNL.out]; exact Nat.le_refl _)
      rw [hlt] at hs
      have HS : Hid (totalC c = s) := Lib.hid (by rw [HX.out, ← hs]; rfl)
      clear hlt hk hs
      go_wp2_with fail
      go_ret
      exact ⟨by rw [HS.out]; rfl, HB.out⟩

set_option maxHeartbeats 2000000 in
theorem cleast_any (c : Pt) (hc : Cos c) : Gives Tryd.prog 21 #[.agg (cosP c).toArray] (.int .i64 (leastC c)) := fun w => by
  have HC := Lib.hid hc
  have UP := Lib.hid (fun w => cup_any c w)
  have HM : Hid ((upC c).length ≤ 16) := Lib.hid (NodesF.nodes_len _ _)
  have HU : Hid (∀ x ∈ upC c, x < 16 ∧ NodesF.hasN c.1 x = true) := Lib.hid (fun x hx => up_has c x hx)
  have HX : Hid (leastC c = leastF c (upC c) (-1)) := Lib.hid rfl
  obtain ⟨l, hl⟩ : ∃ l, upC c = l := ⟨_, rfl⟩
  rw [hl] at UP HX HM HU
  clear hl hc
  go_enter Tryd.func21, Tryd.ntmps21
  go_upto_region 1 with fail
  obtain ⟨B0, BB⟩ := one_cos w c
  obtain ⟨wa, hwa⟩ : ∃ wa, (w.alloc (.cells (cosP c).toArray 25)) = wa := ⟨_, rfl⟩
  rw [hwa] at B0 BB ⊢
  clear hwa
  have hq := cos_load B0 HC.out
  go_wp2_with fail
  refine (UP.out _).mono ?_
  rintro e w1 hown
  obtain ⟨a, cp, rfl, hna, hb⟩ := nats_slice hown
  have K1 := Lib.hid (B0.on hb)
  have KB := Lib.hid (bel_on BB hb)
  have KN := Lib.hid hna
  obtain ⟨n, hn⟩ : ∃ n, l.length = n := ⟨_, rfl⟩
  rw [hn] at HM ⊢
  have HNL := Lib.hid hn
  have hn64 : n ≤ 16 := HM.out
  clear hown hna hb B0 BB hq hn
  go_wp2_with fail
  go_loopw [9, 3] (fun v t wr => ∃ (k : Nat) (s : Int), v = .int .i64 (k : Int) ∧ k ≤ n ∧ t = .int .i64 s ∧ leastF c (l.drop k) s = leastF c l (-1) ∧ (s = -1 ∨ ∃ y, s = (y : Nat) ∧ y ∈ l) ∧ Blk wr w.heap.size (cosP c) ∧ NatAt wr a wa.heap.size l ∧ Below w.heap.size w wr) (fun v _ _ => (n - intOf v).toNat)
  case atStart => exact ⟨0, -1, rfl, Nat.zero_le _, rfl, rfl, .inl rfl, K1.out, KN.out, KB.out⟩
  case round =>
    obtain ⟨k, s, rfl, hk, rfl, hs, hy, k1, na, kb⟩ := hrel
    have HB := Lib.hid kb
    have NA := Lib.hid na
    have B1 := Lib.hid k1
    clear kb na k1
    by_cases hkn : k < n
    · obtain ⟨x, hx⟩ : ∃ x, l[k]? = some x := ⟨_, List.getElem?_eq_getElem (by have := HNL.out; omega)⟩
      obtain ⟨g, rfl, hg, hcell⟩ := NA.out.read hx
      have HXL := Lib.hid (List.mem_of_getElem? hx)
      obtain ⟨hx16, hxh⟩ := HU.out x (List.mem_of_getElem? hx)
      have hdrop : l.drop k = x :: l.drop (k + 1) := by
        have hlt := (List.getElem?_eq_some_iff.1 hx).1
        rw [List.drop_eq_getElem_cons hlt, (List.getElem?_eq_some_iff.1 hx).2]
      rw [hdrop, leastF] at hs
      have hkn' : (k : Int) < (n : Int) := by omega
      have HK := Lib.hid hkn
      have e1 : wrap64 ((k : Int) + 1) = (k : Int) + 1 := IntWalk.wrap64_in _ (by omega)
      clear hx hg hkn hk hdrop
      rcases hy with rfl | ⟨y, rfl, hyl⟩
      · have HS : Hid (leastF c (l.drop (k + 1)) (x : Int) = leastF c l (-1)) := Lib.hid (by rw [← hs]; rfl)
        clear hs hx16 hxh
        go_upto_region 5 with fail
        clear hcell
        have l1 := fun dd os => cos_load (B1.out.on (below_regrown _ dd os)) HC.out
        refine wp_region_quiet_below (by kernel_rfl) (by kernel_rfl) ?_
        repeat (first | go_big_quiet_step (fail) | quiet_step (fail))
        refine wpQuiet_nil ?_
        intro _ hw'
        obtain ⟨⟨dq, osq⟩, hw''⟩ := hw'
        subst hw''
        clear l1
        have hb := below_regrown wr dq osq
        have B1' := Lib.hid (B1.out.on hb)
        have NA' := Lib.hid (NA.out.on hb)
        have HB' := Lib.hid (bel_on HB.out hb)
        clear hb
        obtain ⟨wn, hwn⟩ : ∃ v, grow (redrawn wr dq) osq = v := ⟨_, rfl⟩
        rw [hwn] at B1' NA' HB' ⊢
        clear hwn
        go_wp2_with fail
        go_roundw
        case rel => exact ⟨k + 1, (x : Int), by go_num, HK.out, rfl, HS.out, .inr ⟨x, rfl, HXL.out⟩, B1'.out, NA'.out, HB'.out⟩
        case measure => exact meas_up n k _ rfl HK.out
      · obtain ⟨hy16, hyh⟩ := HU.out y hyl
        have HYL := Lib.hid hyl
        have y0 : decide ((y : Int) < 0) = false := decide_eq_false (by omega)
        rw [y0, Bool.false_or] at hs
        have OF := Lib.hid (cof_any c (x : Int) HC.out)
        have OG := Lib.hid (cof_any c (y : Int) HC.out)
        obtain ⟨q, hq⟩ : ∃ q, ofC c (x : Int) = q := ⟨_, rfl⟩
        obtain ⟨q', hq'⟩ : ∃ q, ofC c (y : Int) = q := ⟨_, rfl⟩
        rw [hq, hq'] at hs
        rw [hq] at OF
        rw [hq'] at OG
        obtain ⟨lt, hlt⟩ : ∃ b, decide (q < q') = b := ⟨_, rfl⟩
        rw [hlt] at hs
        have HS := Lib.hid hs
        clear hs hq hq' hx16 hxh hy16 hyh hyl
        go_upto_region 5 with fail
        clear hcell
        have l1 := fun dd os => cos_load (B1.out.on (below_regrown _ dd os)) HC.out
        refine wp_region_quiet_below (by kernel_rfl) (by kernel_rfl) ?_
        repeat (first | go_big_quiet_step (first | with_reducible exact OF.out.at _ _ _ | with_reducible exact OG.out.at _ _ _) | quiet_step (first | with_reducible exact OF.out.at _ _ _ | with_reducible exact OG.out.at _ _ _))
        refine wpQuiet_nil ?_
        intro _ hw'
        obtain ⟨⟨dq, osq⟩, hw''⟩ := hw'
        subst hw''
        clear l1
        have hb := below_regrown wr dq osq
        have B1' := Lib.hid (B1.out.on hb)
        have NA' := Lib.hid (NA.out.on hb)
        have HB' := Lib.hid (bel_on HB.out hb)
        clear hb
        obtain ⟨wn, hwn⟩ : ∃ v, grow (redrawn wr dq) osq = v := ⟨_, rfl⟩
        rw [hwn] at B1' NA' HB' ⊢
        clear hwn
        cases lt with
        | true =>
          go_wp2_with fail
          go_roundw
          case rel => exact ⟨k + 1, (x : Int), by go_num, HK.out, rfl, HS.out, .inr ⟨x, rfl, HXL.out⟩, B1'.out, NA'.out, HB'.out⟩
          case measure => exact meas_up n k _ rfl HK.out
        | false =>
          go_wp2_with fail
          go_roundw
          case rel => exact ⟨k + 1, (y : Int), by go_num, HK.out, rfl, HS.out, .inr ⟨y, rfl, HYL.out⟩, B1'.out, NA'.out, HB'.out⟩
          case measure => exact meas_up n k _ rfl HK.out
    · obtain rfl : k = n := by omega
      have hlt : l.drop k = [] := List.drop_eq_nil_of_le (by rw [HNL.out]; exact Nat.le_refl _)
      rw [hlt] at hs
      have HS : Hid (leastC c = s) := Lib.hid (by rw [HX.out, ← hs]; rfl)
      clear hlt hk hs
      go_wp2_with fail
      go_ret
      exact ⟨by rw [HS.out]; rfl, HB.out⟩

set_option maxHeartbeats 2000000 in
theorem rleast_any (c : Pt) (hc : Cos c) : Gives Tryd.prog 22 #[.agg (cosP c).toArray] (.int .i64 (leastC c)) := fun w => by
  have HC := Lib.hid hc
  have UP := Lib.hid (fun w => rup_any c w)
  have HM : Hid ((upC c).length ≤ 16) := Lib.hid (NodesF.nodes_len _ _)
  have HU : Hid (∀ x ∈ upC c, x < 16 ∧ NodesF.hasN c.1 x = true) := Lib.hid (fun x hx => up_has c x hx)
  have HX : Hid (leastC c = leastF c (upC c) (-1)) := Lib.hid rfl
  obtain ⟨l, hl⟩ : ∃ l, upC c = l := ⟨_, rfl⟩
  rw [hl] at UP HX HM HU
  clear hl hc
  go_enter Tryd.func22, Tryd.ntmps22
  go_upto_region 1 with fail
  obtain ⟨B0, BB⟩ := one_cos w c
  obtain ⟨wa, hwa⟩ : ∃ wa, (w.alloc (.cells (cosP c).toArray 25)) = wa := ⟨_, rfl⟩
  rw [hwa] at B0 BB ⊢
  clear hwa
  have hq := cos_load B0 HC.out
  go_wp2_with fail
  refine (UP.out _).mono ?_
  rintro e w1 hown
  obtain ⟨a, cp, rfl, hna, hb⟩ := nats_slice hown
  have K1 := Lib.hid (B0.on hb)
  have KB := Lib.hid (bel_on BB hb)
  have KN := Lib.hid hna
  obtain ⟨n, hn⟩ : ∃ n, l.length = n := ⟨_, rfl⟩
  rw [hn] at HM ⊢
  have HNL := Lib.hid hn
  have hn64 : n ≤ 16 := HM.out
  clear hown hna hb B0 BB hq hn
  go_wp2_with fail
  go_loopw [9, 3] (fun v t wr => ∃ (k : Nat) (s : Int), v = .int .i64 (k : Int) ∧ k ≤ n ∧ t = .int .i64 s ∧ leastF c (l.drop k) s = leastF c l (-1) ∧ (s = -1 ∨ ∃ y, s = (y : Nat) ∧ y ∈ l) ∧ Blk wr w.heap.size (cosP c) ∧ NatAt wr a wa.heap.size l ∧ Below w.heap.size w wr) (fun v _ _ => (n - intOf v).toNat)
  case atStart => exact ⟨0, -1, rfl, Nat.zero_le _, rfl, rfl, .inl rfl, K1.out, KN.out, KB.out⟩
  case round =>
    obtain ⟨k, s, rfl, hk, rfl, hs, hy, k1, na, kb⟩ := hrel
    have HB := Lib.hid kb
    have NA := Lib.hid na
    have B1 := Lib.hid k1
    clear kb na k1
    by_cases hkn : k < n
    · obtain ⟨x, hx⟩ : ∃ x, l[k]? = some x := ⟨_, List.getElem?_eq_getElem (by have := HNL.out; omega)⟩
      obtain ⟨g, rfl, hg, hcell⟩ := NA.out.read hx
      have HXL := Lib.hid (List.mem_of_getElem? hx)
      obtain ⟨hx16, hxh⟩ := HU.out x (List.mem_of_getElem? hx)
      have hdrop : l.drop k = x :: l.drop (k + 1) := by
        have hlt := (List.getElem?_eq_some_iff.1 hx).1
        rw [List.drop_eq_getElem_cons hlt, (List.getElem?_eq_some_iff.1 hx).2]
      rw [hdrop, leastF] at hs
      have hkn' : (k : Int) < (n : Int) := by omega
      have HK := Lib.hid hkn
      have e1 : wrap64 ((k : Int) + 1) = (k : Int) + 1 := IntWalk.wrap64_in _ (by omega)
      clear hx hg hkn hk hdrop
      rcases hy with rfl | ⟨y, rfl, hyl⟩
      · have HS : Hid (leastF c (l.drop (k + 1)) (x : Int) = leastF c l (-1)) := Lib.hid (by rw [← hs]; rfl)
        clear hs hx16 hxh
        go_upto_region 5 with fail
        clear hcell
        refine wp_region_quiet_below (by kernel_rfl) (by kernel_rfl) ?_
        repeat (first | go_big_quiet_step (fail) | quiet_step (fail))
        refine wpQuiet_nil ?_
        intro _ hw'
        obtain ⟨⟨dq, osq⟩, hw''⟩ := hw'
        subst hw''
        have hb := below_regrown wr dq osq
        have B1' := Lib.hid (B1.out.on hb)
        have NA' := Lib.hid (NA.out.on hb)
        have HB' := Lib.hid (bel_on HB.out hb)
        clear hb
        obtain ⟨wn, hwn⟩ : ∃ v, grow (redrawn wr dq) osq = v := ⟨_, rfl⟩
        rw [hwn] at B1' NA' HB' ⊢
        clear hwn
        go_wp2_with fail
        go_roundw
        case rel => exact ⟨k + 1, (x : Int), by go_num, HK.out, rfl, HS.out, .inr ⟨x, rfl, HXL.out⟩, B1'.out, NA'.out, HB'.out⟩
        case measure => exact meas_up n k _ rfl HK.out
      · obtain ⟨hy16, hyh⟩ := HU.out y hyl
        have HYL := Lib.hid hyl
        have y0 : decide ((y : Int) < 0) = false := decide_eq_false (by omega)
        rw [y0, Bool.false_or] at hs
        obtain ⟨m, hm⟩ : ∃ m, c.2[x]? = some m := ⟨_, List.getElem?_eq_getElem (by have := HC.out.1; omega)⟩
        have hofm : ofC c (x : Int) = m := by rw [of_ok c x hx16 hxh, List.getD_eq_getElem?_getD, hm]; rfl
        obtain ⟨m', hm'⟩ : ∃ m, c.2[y]? = some m := ⟨_, List.getElem?_eq_getElem (by have := HC.out.1; omega)⟩
        have hofm' : ofC c (y : Int) = m' := by rw [of_ok c y hy16 hyh, List.getD_eq_getElem?_getD, hm']; rfl
        have cx := cell_regrown (B1.out.cell (1 + x) (cosP_at hm))
        have cy := cell_regrown (B1.out.cell (1 + y) (cosP_at hm'))
        have x0 : (0 : Int) ≤ (x : Int) := by omega
        have x1 : (x : Int) < 16 := by omega
        have yy0 : (0 : Int) ≤ (y : Int) := by omega
        have yy1 : (y : Int) < 16 := by omega
        obtain ⟨q, hq⟩ : ∃ q, ofC c (x : Int) = q := ⟨_, rfl⟩
        obtain ⟨q', hq'⟩ : ∃ q, ofC c (y : Int) = q := ⟨_, rfl⟩
        rw [hq, hq'] at hs
        obtain rfl : m = q := hofm.symm.trans hq
        obtain rfl : m' = q' := hofm'.symm.trans hq'
        clear hofm hofm' hm hm'
        obtain ⟨lt, hlt⟩ : ∃ b, decide (m < m') = b := ⟨_, rfl⟩
        rw [hlt] at hs
        have HS := Lib.hid hs
        clear hs hq hq' hx16 hxh hy16 hyh hyl
        go_upto_region 5 with fail
        clear hcell
        refine wp_region_quiet_below (by kernel_rfl) (by kernel_rfl) ?_
        repeat (first | go_big_quiet_step (fail) | quiet_step (fail))
        refine wpQuiet_nil ?_
        intro _ hw'
        obtain ⟨⟨dq, osq⟩, hw''⟩ := hw'
        subst hw''
        have hb := below_regrown wr dq osq
        have B1' := Lib.hid (B1.out.on hb)
        have NA' := Lib.hid (NA.out.on hb)
        have HB' := Lib.hid (bel_on HB.out hb)
        clear hb
        obtain ⟨wn, hwn⟩ : ∃ v, grow (redrawn wr dq) osq = v := ⟨_, rfl⟩
        rw [hwn] at B1' NA' HB' ⊢
        clear hwn
        cases lt with
        | true =>
          go_wp2_with fail
          go_roundw
          case rel => exact ⟨k + 1, (x : Int), by go_num, HK.out, rfl, HS.out, .inr ⟨x, rfl, HXL.out⟩, B1'.out, NA'.out, HB'.out⟩
          case measure => exact meas_up n k _ rfl HK.out
        | false =>
          go_wp2_with fail
          go_roundw
          case rel => exact ⟨k + 1, (y : Int), by go_num, HK.out, rfl, HS.out, .inr ⟨y, rfl, HYL.out⟩, B1'.out, NA'.out, HB'.out⟩
          case measure => exact meas_up n k _ rfl HK.out
    · obtain rfl : k = n := by omega
      have hlt : l.drop k = [] := List.drop_eq_nil_of_le (by rw [HNL.out]; exact Nat.le_refl _)
      rw [hlt] at hs
      have HS : Hid (leastC c = s) := Lib.hid (by rw [HX.out, ← hs]; rfl)
      clear hlt hk hs
      go_wp2_with fail
      go_ret
      exact ⟨by rw [HS.out]; rfl, HB.out⟩

end Go.Proofs.YtnbbepelagdenaaDoor
