/- Contracts of package costs, part H: again, Sound, and the document's own. -/
import Derived.Test.YtnbbepelagdenaaDoorCosB
import Derived.Test.YtnbbepelagdenaaDoorCosC
import Derived.Test.YtnbbepelagdenaaDoorCosD
import Derived.Test.YtnbbepelagdenaaDoorCosE
import Derived.Test.YtnbbepelagdenaaDoorCosG
import Derived.Test.YtnbbepelagdenaaDoorNatAt
import Derived.Test.YtnbbepelagdenaaDoorUntil
namespace Go.Proofs.YtnbbepelagdenaaDoor
open Go.RowKit Go.Sort CosF
attribute [local go_sem ↓] loadAt_cos loadAt_row storeAt_cos

def againV (c : Pt) : Pt × Int := match againF c (upC c) none16 with
  | some s => (s, 0)
  | none => (none16, 1)
theorem meas_up (m i : Nat) (h : Value) (hv : h = .int .i64 ((i + 1 : Nat) : Int)) (hi : i < m) : (m - intOf h).toNat < (m - intOf (.int .i64 (i : Int))).toNat := by
  subst hv; simp [intOf]; omega
theorem three_cos (w : World) (c : Pt) : Blk (((w.alloc (.cells (cosP c).toArray 25)).alloc (.cells #[.int .i64 0, .int .u32 0, .int .u32 0, .int .u32 0, .int .u32 0, .int .u32 0, .int .u32 0, .int .u32 0, .int .u32 0, .int .u32 0, .int .u32 0, .int .u32 0, .int .u32 0, .int .u32 0, .int .u32 0, .int .u32 0, .int .u32 0] 25)).alloc (.cells #[.int .i64 0, .int .u32 0, .int .u32 0, .int .u32 0, .int .u32 0, .int .u32 0, .int .u32 0, .int .u32 0, .int .u32 0, .int .u32 0, .int .u32 0, .int .u32 0, .int .u32 0, .int .u32 0, .int .u32 0, .int .u32 0, .int .u32 0] 25)) w.heap.size (cosP c) ∧ Blk (((w.alloc (.cells (cosP c).toArray 25)).alloc (.cells #[.int .i64 0, .int .u32 0, .int .u32 0, .int .u32 0, .int .u32 0, .int .u32 0, .int .u32 0, .int .u32 0, .int .u32 0, .int .u32 0, .int .u32 0, .int .u32 0, .int .u32 0, .int .u32 0, .int .u32 0, .int .u32 0, .int .u32 0] 25)).alloc (.cells #[.int .i64 0, .int .u32 0, .int .u32 0, .int .u32 0, .int .u32 0, .int .u32 0, .int .u32 0, .int .u32 0, .int .u32 0, .int .u32 0, .int .u32 0, .int .u32 0, .int .u32 0, .int .u32 0, .int .u32 0, .int .u32 0, .int .u32 0] 25)) (w.heap.size + 1) (cosP none16) ∧ Blk (((w.alloc (.cells (cosP c).toArray 25)).alloc (.cells #[.int .i64 0, .int .u32 0, .int .u32 0, .int .u32 0, .int .u32 0, .int .u32 0, .int .u32 0, .int .u32 0, .int .u32 0, .int .u32 0, .int .u32 0, .int .u32 0, .int .u32 0, .int .u32 0, .int .u32 0, .int .u32 0, .int .u32 0] 25)).alloc (.cells #[.int .i64 0, .int .u32 0, .int .u32 0, .int .u32 0, .int .u32 0, .int .u32 0, .int .u32 0, .int .u32 0, .int .u32 0, .int .u32 0, .int .u32 0, .int .u32 0, .int .u32 0, .int .u32 0, .int .u32 0, .int .u32 0, .int .u32 0] 25)) (w.heap.size + 2) (cosP none16) ∧ Below w.heap.size w (((w.alloc (.cells (cosP c).toArray 25)).alloc (.cells #[.int .i64 0, .int .u32 0, .int .u32 0, .int .u32 0, .int .u32 0, .int .u32 0, .int .u32 0, .int .u32 0, .int .u32 0, .int .u32 0, .int .u32 0, .int .u32 0, .int .u32 0, .int .u32 0, .int .u32 0, .int .u32 0, .int .u32 0] 25)).alloc (.cells #[.int .i64 0, .int .u32 0, .int .u32 0, .int .u32 0, .int .u32 0, .int .u32 0, .int .u32 0, .int .u32 0, .int .u32 0, .int .u32 0, .int .u32 0, .int .u32 0, .int .u32 0, .int .u32 0, .int .u32 0, .int .u32 0, .int .u32 0] 25)) := by
  obtain ⟨h0, h1, hb⟩ := two_cos w c
  exact ⟨h0.next _, h1.next _, Blk.newAt (by simp only [World.size_alloc]) (cosP none16) _, hb.alloc (by simp only [World.size_alloc]; omega) _⟩

set_option maxHeartbeats 1000000 in
theorem again_any (c : Pt) (hc : Cos c) : Gives Tryd.prog 38 #[.agg (cosP c).toArray] (.tuple #[.agg (cosP (againV c).1).toArray, .int .i64 (againV c).2]) := fun w => by
  have HC := Lib.hid hc
  have UP := Lib.hid (fun w => cup_any c w)
  obtain ⟨l, hl⟩ : ∃ l, upC c = l := ⟨_, rfl⟩
  rw [hl] at UP
  have HL := Lib.hid hl
  have HM : Hid (l.length ≤ 16) := Lib.hid (by rw [← hl]; exact NodesF.nodes_len _ _)
  clear hl hc
  go_enter Tryd.func38, Tryd.ntmps38
  go_upto_region 2 with fail
  obtain ⟨B1, B2, B4, BB⟩ := three_cos w c
  obtain ⟨w0, hw0⟩ : ∃ w0, (((w.alloc (.cells (cosP c).toArray 25)).alloc (.cells #[.int .i64 0, .int .u32 0, .int .u32 0, .int .u32 0, .int .u32 0, .int .u32 0, .int .u32 0, .int .u32 0, .int .u32 0, .int .u32 0, .int .u32 0, .int .u32 0, .int .u32 0, .int .u32 0, .int .u32 0, .int .u32 0, .int .u32 0] 25)).alloc (.cells #[.int .i64 0, .int .u32 0, .int .u32 0, .int .u32 0, .int .u32 0, .int .u32 0, .int .u32 0, .int .u32 0, .int .u32 0, .int .u32 0, .int .u32 0, .int .u32 0, .int .u32 0, .int .u32 0, .int .u32 0, .int .u32 0, .int .u32 0] 25)) = w0 := ⟨_, rfl⟩
  rw [hw0] at B1 B2 B4 BB ⊢
  clear hw0
  have hq := cos_load B1 HC.out
  go_wp2_with fail
  refine (UP.out _).mono ?_
  rintro e w1 hown
  obtain ⟨a, cp, rfl, hna, hb⟩ := nats_slice hown
  have K1 := Lib.hid (B1.on hb)
  have K2 := Lib.hid (B2.on hb)
  have K4 := Lib.hid (B4.on hb)
  have KB := Lib.hid (bel_on BB hb)
  have HN := Lib.hid hna
  have HW : Hid (w.heap.size + 3 ≤ w0.heap.size) := Lib.hid (by have := B4.lt; omega)
  obtain ⟨n, hn⟩ : ∃ n, l.length = n := ⟨_, rfl⟩
  rw [hn] at HM ⊢
  have HNL := Lib.hid hn
  have hn64 : n ≤ 16 := HM.out
  clear hown hna hb B1 B2 B4 BB hq hn
  go_wp2_with fail
  go_loopw [11] (fun v wr => ∃ (k : Nat) (s : Pt), v = .int .i64 (k : Int) ∧ k ≤ n ∧ againF c (l.drop k) s = againF c l none16 ∧ Cos s ∧ Blk wr w.heap.size (cosP c) ∧ Blk wr (w.heap.size + 1) (cosP none16) ∧ Blk wr (w.heap.size + 2) (cosP s) ∧ NatAt wr a w0.heap.size l ∧ Below w.heap.size w wr) (fun v _ => (n - intOf v).toNat)
  case atStart => exact ⟨0, none16, rfl, Nat.zero_le _, rfl, Cos.zero, K1.out, K2.out, K4.out, HN.out, KB.out⟩
  case round =>
    obtain ⟨k, s, rfl, hk, hag, hs, k1, k2, k4, na, kb⟩ := hrel
    have HAG := Lib.hid hag
    have HS := Lib.hid hs
    have HB := Lib.hid kb
    have HK2 := Lib.hid k2
    have HNA := Lib.hid na
    have K1 := Lib.hid k1
    have K4 := Lib.hid k4
    clear hag hs kb k2 k1 k4 na
    by_cases hkn : k < n
    · obtain ⟨x, hx⟩ : ∃ x, l[k]? = some x := ⟨_, List.getElem?_eq_getElem (by have := HNL.out; omega)⟩
      obtain ⟨g, rfl, hg, hcell⟩ := HNA.out.read hx
      have hdrop : l.drop k = x :: l.drop (k + 1) := by
        have hlt := (List.getElem?_eq_some_iff.1 hx).1
        rw [List.drop_eq_getElem_cons hlt, (List.getElem?_eq_some_iff.1 hx).2]
      have HST : Hid (againF c l none16 = if okB (x : Int) (ofC c (x : Int)) then againF c (l.drop (k + 1)) (setC s (x : Int) (ofC c (x : Int))) else none) := Lib.hid (by rw [← HAG.out, hdrop]; rfl)
      have hkn' : (k : Int) < (n : Int) := by omega
      have HK := Lib.hid hkn
      have OF := Lib.hid (cof_any c (x : Int) HC.out)
      obtain ⟨q, hq⟩ : ∃ q, ofC c (x : Int) = q := ⟨_, rfl⟩
      rw [hq] at OF HST
      have SE := Lib.hid (cset_any s (x : Int) q HS.out)
      obtain ⟨s', hs'⟩ : ∃ s', setC s (x : Int) q = s' := ⟨_, rfl⟩
      rw [hs'] at SE HST
      have HS' : Hid (Cos s') := Lib.hid (by rw [← hs']; exact HS.out.set _ _)
      obtain ⟨r, hr⟩ : ∃ r, setE (x : Int) q = r := ⟨_, rfl⟩
      rw [hr] at SE
      have HR := Lib.hid hr
      clear hx hdrop hq hs' hr hg hkn
      go_upto_region 6 with fail
      have s0 : (wholeLoad 25 (.pointer (some ⟨w.heap.size + 2, 0, none⟩))).run Tryd.prog wr.drew = .ok (.agg (cosP s).toArray) wr.drew ∧ (wholeLoad 25 (.pointer (some ⟨w.heap.size, 0, none⟩))).run Tryd.prog wr.drew = .ok (.agg (cosP c).toArray) wr.drew ∧ Blk wr.drew (w.heap.size + 2) (cosP s) ∧ Blk wr.drew w.heap.size (cosP c) ∧ Below wr.heap.size wr wr.drew := ⟨cos_load K4.out.drew HS.out, cos_load K1.out.drew HC.out, K4.out.drew, K1.out.drew, (Below.refl _ _).drew⟩
      refine wp_region_until (fun w' => (wholeLoad 25 (.pointer (some ⟨w.heap.size + 2, 0, none⟩))).run Tryd.prog w' = .ok (.agg (cosP s).toArray) w' ∧ (wholeLoad 25 (.pointer (some ⟨w.heap.size, 0, none⟩))).run Tryd.prog w' = .ok (.agg (cosP c).toArray) w' ∧ Blk w' (w.heap.size + 2) (cosP s) ∧ Blk w' w.heap.size (cosP c) ∧ Below wr.heap.size wr w') 9 (by kernel_rfl) s0 (fun hS => ?_)
      clear s0
      refine wpAnyU_take 0 rfl (by kernel_rfl) (by kernel_rfl) (by kernel_rfl) (by decide) (by kernel_rfl) (by kernel_rfl) (fun _ _ _ h => h) (by rfl) (by intro w hSw; (try dsimp only at hSw); go_simp <;> with_reducible rfl) (by assumption) ?_
      try simp only [Act.put]
      try simp only [List.setIfInBounds_toArray]
      try simp only [List.set]
      refine wpAnyU_take 1 rfl (by kernel_rfl) (by kernel_rfl) (by kernel_rfl) (by decide) (by kernel_rfl) (by kernel_rfl) (fun _ _ _ h => h) (by rfl) (by intro w hSw; (try dsimp only at hSw); go_simp <;> with_reducible rfl) (by assumption) ?_
      try simp only [Act.put]
      try simp only [List.setIfInBounds_toArray]
      try simp only [List.set]
      refine wpAnyU_take 2 rfl (by kernel_rfl) (by kernel_rfl) (by kernel_rfl) (by decide) (by kernel_rfl) (by kernel_rfl) (fun _ _ _ h => h) (by rfl) (by intro w hSw; (try dsimp only at hSw); go_simp <;> with_reducible rfl) (by assumption) ?_
      try simp only [Act.put]
      try simp only [List.setIfInBounds_toArray]
      try simp only [List.set]
      refine wpAnyU_take 3 rfl (by kernel_rfl) (by kernel_rfl) (by kernel_rfl) (by decide) (by kernel_rfl) (by kernel_rfl) (fun _ _ _ h => h) (by rfl) (by intro w hSw; (try dsimp only at hSw); go_simp <;> with_reducible rfl) (by assumption) ?_
      try simp only [Act.put]
      try simp only [List.setIfInBounds_toArray]
      try simp only [List.set]
      refine wpAnyU_one 4 rfl (by kernel_rfl) (fun K hK => ?_)
      go_simp
      refine (OF.out _).mono ?_
      rintro e w1 ⟨rfl, hb⟩
      go_simp
      obtain ⟨_, _, q4, q1, qb⟩ := hS
      have hS' : (wholeLoad 25 (.pointer (some ⟨w.heap.size + 2, 0, none⟩))).run Tryd.prog w1 = .ok (.agg (cosP s).toArray) w1 ∧ (wholeLoad 25 (.pointer (some ⟨w.heap.size, 0, none⟩))).run Tryd.prog w1 = .ok (.agg (cosP c).toArray) w1 ∧ Blk w1 (w.heap.size + 2) (cosP s) ∧ Blk w1 w.heap.size (cosP c) ∧ Below wr.heap.size wr w1 := ⟨cos_load (q4.on hb) HS.out, cos_load (q1.on hb) HC.out, q4.on hb, q1.on hb, bel_on qb hb⟩
      clear q4 q1 qb hb
      refine hK.out _ _ (fun _ => hS') (fun _ => ?_)
      clear hK K
      have hS := hS'
      clear hS'
      try simp only [Act.put]
      try simp only [List.setIfInBounds_toArray]
      try simp only [List.set]
      refine wpAnyU_one 5 rfl (by kernel_rfl) (fun K hK => ?_)
      go_simp
      refine (SE.out _).mono ?_
      rintro e w1 ⟨rfl, hb⟩
      go_simp
      obtain ⟨_, _, q4, q1, qb⟩ := hS
      have hS' : (wholeLoad 25 (.pointer (some ⟨w.heap.size + 2, 0, none⟩))).run Tryd.prog w1 = .ok (.agg (cosP s).toArray) w1 ∧ (wholeLoad 25 (.pointer (some ⟨w.heap.size, 0, none⟩))).run Tryd.prog w1 = .ok (.agg (cosP c).toArray) w1 ∧ Blk w1 (w.heap.size + 2) (cosP s) ∧ Blk w1 w.heap.size (cosP c) ∧ Below wr.heap.size wr w1 := ⟨cos_load (q4.on hb) HS.out, cos_load (q1.on hb) HC.out, q4.on hb, q1.on hb, bel_on qb hb⟩
      clear q4 q1 qb hb
      refine hK.out _ _ (fun _ => hS') (fun _ => ?_)
      clear hK K
      have hS := hS'
      clear hS'
      try simp only [Act.put]
      try simp only [List.setIfInBounds_toArray]
      try simp only [List.set]
      refine wpAnyU_one 6 rfl (by kernel_rfl) (fun K hK => ?_)
      go_simp
      refine hK.out _ _ (fun _ => hS) (fun _ => ?_)
      clear hK K
      try simp only [Act.put]
      try simp only [List.setIfInBounds_toArray]
      try simp only [List.set]
      refine wpAnyU_take 7 rfl (by kernel_rfl) (by kernel_rfl) (by kernel_rfl) (by decide) (by kernel_rfl) (by kernel_rfl) (fun _ _ _ h => h) (by rfl) (by intro w hSw; (try dsimp only at hSw); go_simp <;> with_reducible rfl) (by assumption) ?_
      try simp only [Act.put]
      try simp only [List.setIfInBounds_toArray]
      try simp only [List.set]
      obtain ⟨l4, l1, q4, q1, qb⟩ := hS
      have hst := cos_store q4 HS.out HS'.out
      have G4 := Lib.hid (q4.put (cosP s'))
      have G1 := Lib.hid (q1.beside (w.heap.size + 2) (by omega) (cosP s').toArray)
      have G2 := Lib.hid ((HK2.out.on qb).beside (w.heap.size + 2) (by omega) (cosP s').toArray)
      have GN := Lib.hid ((HNA.out.on qb).beside (w.heap.size + 2) (by have := HW.out; omega) (cosP s').toArray)
      have GB := Lib.hid (below_setRow (bel_on HB.out qb) (show w.heap.size ≤ w.heap.size + 2 by omega) (cosP s').toArray)
      have hS : (wholeLoad 25 (.pointer (some ⟨w.heap.size + 2, 0, none⟩))).run Tryd.prog w1 = .ok (.agg (cosP s).toArray) w1 ∧ (wholeLoad 25 (.pointer (some ⟨w.heap.size, 0, none⟩))).run Tryd.prog w1 = .ok (.agg (cosP c).toArray) w1 ∧ Blk w1 (w.heap.size + 2) (cosP s) ∧ Blk w1 w.heap.size (cosP c) ∧ Below wr.heap.size wr w1 := ⟨l4, l1, q4, q1, qb⟩
      clear l4 l1 q4 q1 qb
      refine wpAnyU_two 8 9 rfl rfl (by kernel_rfl) (fun K hK => ?_) (fun K hK => ?_)
      · go_simp
        refine hK.out _ _ (fun _ => hS) (fun _ => ?_)
        clear hK K
        try simp only [Act.put]
        try simp only [List.setIfInBounds_toArray]
        try simp only [List.set]
        refine wpAnyU_one 9 rfl (by kernel_rfl) (fun K hK => ?_)
        go_simp
        refine hK.out _ _ (fun hno => by cases hno) (fun _ => ?_)
        clear hK K
        try simp only [Act.put]
        try simp only [List.setIfInBounds_toArray]
        try simp only [List.set]
        refine wpAnyU_one 10 rfl (by kernel_rfl) (fun K hK => ?_)
        go_simp
        refine hK.out _ _ (fun hno => by cases hno) (fun _ => ?_)
        clear hK K
        try simp only [Act.put]
        try simp only [List.setIfInBounds_toArray]
        try simp only [List.set]
        refine wpAnyU_done (by kernel_rfl) ?_ _
        obtain ⟨ww, hww⟩ : ∃ ww, (w1.setRow (w.heap.size + 2) (cosP s').toArray) = ww := ⟨_, rfl⟩
        rw [hww] at G4 G1 G2 GN GB ⊢
        clear hww hst hS
        cases ho : okB (x : Int) q with
        | true =>
          rw [ho] at HST
          obtain rfl : r = 0 := by rw [← HR.out]; simp [setE, ho]
          clear ho
          go_wp2_with fail
          go_roundw
          case rel => exact ⟨k + 1, s', by go_num, HK.out, HST.out.symm, HS'.out, G1.out, G2.out, G4.out, GN.out, GB.out⟩
          case measure => exact meas_up n k _ rfl HK.out
        | false =>
          rw [ho] at HST
          obtain rfl : r = 1 := by rw [← HR.out]; simp [setE, ho]
          have hv0 : againV c = (none16, 1) := by unfold againV; rw [HL.out, HST.out]; rfl
          have hst := zero_store G2.out Cos.zero
          have hv := cos_var (zero_var G2.out) Cos.zero
          have HB := below_setRow GB.out (show w.heap.size ≤ w.heap.size + 1 by omega) #[.int .i64 0, .int .u32 0, .int .u32 0, .int .u32 0, .int .u32 0, .int .u32 0, .int .u32 0, .int .u32 0, .int .u32 0, .int .u32 0, .int .u32 0, .int .u32 0, .int .u32 0, .int .u32 0, .int .u32 0, .int .u32 0, .int .u32 0]
          clear ho
          go_wp2_with fail
          rw [hv0]
          exact bodyPost_ret (v := .tuple #[.agg (cosP none16).toArray, .int .i64 1]) (by simp [results, Tryd.results38, asAddr, hv]) rfl ⟨rfl, HB⟩
      · go_simp
        refine hK.out _ _ (fun hno => by cases hno) (fun _ => ?_)
        clear hK K
        try simp only [Act.put]
        try simp only [List.setIfInBounds_toArray]
        try simp only [List.set]
        refine wpAnyU_one 8 rfl (by kernel_rfl) (fun K hK => ?_)
        go_simp
        refine hK.out _ _ (fun hno => by cases hno) (fun _ => ?_)
        clear hK K
        try simp only [Act.put]
        try simp only [List.setIfInBounds_toArray]
        try simp only [List.set]
        refine wpAnyU_one 10 rfl (by kernel_rfl) (fun K hK => ?_)
        go_simp
        refine hK.out _ _ (fun hno => by cases hno) (fun _ => ?_)
        clear hK K
        try simp only [Act.put]
        try simp only [List.setIfInBounds_toArray]
        try simp only [List.set]
        refine wpAnyU_done (by kernel_rfl) ?_ _
        obtain ⟨ww, hww⟩ : ∃ ww, (w1.setRow (w.heap.size + 2) (cosP s').toArray) = ww := ⟨_, rfl⟩
        rw [hww] at G4 G1 G2 GN GB ⊢
        clear hww hst hS
        cases ho : okB (x : Int) q with
        | true =>
          rw [ho] at HST
          obtain rfl : r = 0 := by rw [← HR.out]; simp [setE, ho]
          clear ho
          go_wp2_with fail
          go_roundw
          case rel => exact ⟨k + 1, s', by go_num, HK.out, HST.out.symm, HS'.out, G1.out, G2.out, G4.out, GN.out, GB.out⟩
          case measure => exact meas_up n k _ rfl HK.out
        | false =>
          rw [ho] at HST
          obtain rfl : r = 1 := by rw [← HR.out]; simp [setE, ho]
          have hv0 : againV c = (none16, 1) := by unfold againV; rw [HL.out, HST.out]; rfl
          have hst := zero_store G2.out Cos.zero
          have hv := cos_var (zero_var G2.out) Cos.zero
          have HB := below_setRow GB.out (show w.heap.size ≤ w.heap.size + 1 by omega) #[.int .i64 0, .int .u32 0, .int .u32 0, .int .u32 0, .int .u32 0, .int .u32 0, .int .u32 0, .int .u32 0, .int .u32 0, .int .u32 0, .int .u32 0, .int .u32 0, .int .u32 0, .int .u32 0, .int .u32 0, .int .u32 0, .int .u32 0]
          clear ho
          go_wp2_with fail
          rw [hv0]
          exact bodyPost_ret (v := .tuple #[.agg (cosP none16).toArray, .int .i64 1]) (by simp [results, Tryd.results38, asAddr, hv]) rfl ⟨rfl, HB⟩
    · obtain rfl : k = n := by omega
      have hag : againF c l none16 = some s := by
        rw [← HAG.out, List.drop_eq_nil_of_le (by rw [HNL.out]; exact Nat.le_refl _)]; rfl
      have hv0 : againV c = (s, 0) := by unfold againV; rw [HL.out, hag]
      have hl := cos_load K4.out HS.out
      have hst := cos_store HK2.out Cos.zero HS.out
      have hv := cos_var (HK2.out.put (cosP s)) HS.out
      have HB := below_setRow HB.out (show w.heap.size ≤ w.heap.size + 1 by omega) (cosP s).toArray
      clear hag hk
      go_wp2_with fail
      rw [hv0]
      exact bodyPost_ret (v := .tuple #[.agg (cosP s).toArray, .int .i64 0]) (by simp [results, Tryd.results38, asAddr, hv]) rfl ⟨rfl, HB⟩
end Go.Proofs.YtnbbepelagdenaaDoor
