/- Contracts of package costs, part B: Set, and the document's own. -/
import Derived.Test.YtnbbepelagdenaaDoorCosA
import Derived.Test.YtnbbepelagdenaaDoorNodesA
import Derived.Test.YtnbbepelagdenaaDoorRNodesA
namespace Go.Proofs.YtnbbepelagdenaaDoor
open Go.RowKit Go.Sort CosF
attribute [local go_sem ↓] loadAt_cos loadAt_row storeAt_cos

theorem cset_ok (c : Pt) (n k : Nat) (w : World) (hc : Cos c) (hn : n < 16) (h1 : 1 ≤ k) (h2 : k ≤ 65536) :
    Calls Tryd.prog 6 #[.agg (cosP c).toArray, .int .i64 (n : Int), .int .u32 (k : Int)] w fun e w' => e = .returned (.tuple #[.agg (cosP (NodesF.withN c.1 n, c.2.set n k)).toArray, .int .i64 0]) ∧ Below w.heap.size w w' := by
  have W := Lib.hid (fun w => with_in c.1 n w hn hc.2.2.1 hc.2.2.2)
  have R := Lib.hid (fun w => right_in n w hn)
  have HD := hc.set n k
  rw [set_ok c n k (ok_nat hn h1 h2)] at HD
  obtain ⟨d, hd⟩ : ∃ d, (NodesF.withN c.1 n, c.2.set n k) = d := ⟨_, rfl⟩
  rw [hd] at HD ⊢
  have k1 : decide ((k : Int) < 1) = false := decide_eq_false (by omega)
  have k2 : decide ((65536 : Int) < (k : Int)) = false := decide_eq_false (by omega)
  have n0 : (0 : Int) ≤ (n : Int) := by omega
  have n1 : (n : Int) < 16 := by omega
  have HC := Lib.hid hc
  have HD := Lib.hid HD
  have hd := Lib.hid hd
  obtain ⟨m, hm⟩ : ∃ m, c.2[n]? = some m := ⟨c.2[n]'(by have := hc.1; omega), by simp⟩
  have hm := Lib.hid hm
  clear hc h1 h2
  go_enter Tryd.func6, Tryd.ntmps6
  go_upto_region 1 with fail
  obtain ⟨B0, B1, BB⟩ := two_cos w c
  obtain ⟨w1, hw1⟩ : ∃ w1, ((w.alloc (.cells (cosP c).toArray 25)).alloc (.cells #[.int .i64 0, .int .u32 0, .int .u32 0, .int .u32 0, .int .u32 0, .int .u32 0, .int .u32 0, .int .u32 0, .int .u32 0, .int .u32 0, .int .u32 0, .int .u32 0, .int .u32 0, .int .u32 0, .int .u32 0, .int .u32 0, .int .u32 0] 25)) = w1 := ⟨_, rfl⟩
  rw [hw1] at B0 B1 BB ⊢
  clear hw1
  have c0 := B0.cell 0 rfl
  have g0 := B0.thaw 0
  have B0 := Lib.hid B0
  have B1 := Lib.hid B1
  go_wp2_with fail
  refine (R.out _).mono ?_
  rintro e w2 ⟨rfl, rfl⟩
  go_wp2_with fail
  refine (W.out _).mono ?_
  rintro e w2 ⟨rfl, rfl⟩
  go_upto_region 4 with fail
  have d0 := B0.out.set 0 (.int .i64 (NodesF.withN c.1 n))
  rw [cosP_up] at d0
  have c1 := d0.cell (1 + n) (cosP_at hm.out)
  have g1 := d0.thaw (1 + n)
  have d0 := Lib.hid d0
  go_upto_region 5 with fail
  have d1 := d0.out.set (1 + n) (.int .u32 (k : Int))
  rw [cosP_set, hd.out] at d1
  have e1 := (B1.out.other ⟨w.heap.size, 0, none⟩ (.int .i64 (NodesF.withN c.1 n)) (by simp)).other ⟨w.heap.size, 1 + n, none⟩ (.int .u32 (k : Int)) (by simp)
  have HB := (BB.setCell (p := ⟨w.heap.size, 0, none⟩) (Nat.le_refl w.heap.size) (.int .i64 (NodesF.withN c.1 n))).setCell (p := ⟨w.heap.size, 1 + n, none⟩) (Nat.le_refl w.heap.size) (.int .u32 (k : Int))
  obtain ⟨w2, hw2⟩ : ∃ w2, (w1.setCell ⟨w.heap.size, 0, none⟩ (.int .i64 (NodesF.withN c.1 n))).setCell ⟨w.heap.size, 1 + n, none⟩ (.int .u32 (k : Int)) = w2 := ⟨_, rfl⟩
  rw [hw2] at d1 e1 HB ⊢
  clear hw2 c0 g0 c1 g1 d0
  have hl := cos_load d1 HD.out
  have hs := cos_store e1 Cos.zero HD.out
  have hv := cos_var (e1.put (cosP d)) HD.out
  have HB := below_setRow HB (Nat.le_succ _) (cosP d).toArray
  go_wp2_with fail
  exact bodyPost_ret (v := .tuple #[.agg (cosP d).toArray, .int .i64 0]) (by simp [results, Tryd.results6, asAddr, hv]) rfl ⟨rfl, HB⟩

theorem cset_err (c : Pt) (n : Int) (k : Nat) (w : World) (hc : Cos c) (ho : okB n k = false) :
    Calls Tryd.prog 6 #[.agg (cosP c).toArray, .int .i64 n, .int .u32 (k : Int)] w fun e w' => e = .returned (.tuple #[.agg (cosP c).toArray, .int .i64 1]) ∧ Below w.heap.size w w' := by
  have HC := Lib.hid hc
  rcases not_ok ho with hn | ⟨⟨m, rfl, hm⟩, hk⟩
  · have R := Lib.hid (fun w => right_out n w (node_out hn))
    clear hc ho hn
    go_enter Tryd.func6, Tryd.ntmps6
    go_upto_region 1 with fail
    obtain ⟨B0, B1, BB⟩ := two_cos w c
    obtain ⟨w1, hw1⟩ : ∃ w1, ((w.alloc (.cells (cosP c).toArray 25)).alloc (.cells #[.int .i64 0, .int .u32 0, .int .u32 0, .int .u32 0, .int .u32 0, .int .u32 0, .int .u32 0, .int .u32 0, .int .u32 0, .int .u32 0, .int .u32 0, .int .u32 0, .int .u32 0, .int .u32 0, .int .u32 0, .int .u32 0, .int .u32 0] 25)) = w1 := ⟨_, rfl⟩
    rw [hw1] at B0 B1 BB ⊢
    clear hw1
    have c0 := B0.cell 0 rfl
    have g0 := B0.thaw 0
    have B0 := Lib.hid B0
    have B1 := Lib.hid B1
    have hl := cos_load B0.out HC.out
    have hs := cos_store B1.out Cos.zero HC.out
    have hv := cos_var (B1.out.put (cosP c)) HC.out
    have HB := below_setRow BB (Nat.le_succ _) (cosP c).toArray
    go_wp2_with fail
    refine (R.out _).mono ?_
    rintro e w2 ⟨rfl, rfl⟩
    go_wp2_with fail
    exact bodyPost_ret (v := .tuple #[.agg (cosP c).toArray, .int .i64 1]) (by simp [results, Tryd.results6, asAddr, hv]) rfl ⟨rfl, HB⟩
  · have R := Lib.hid (fun w => right_in m w hm)
    obtain ⟨q1, hq1⟩ : ∃ q1, decide ((k : Int) < 1) = q1 := ⟨_, rfl⟩
    obtain ⟨q2, hq2⟩ : ∃ q2, decide ((65536 : Int) < (k : Int)) = q2 := ⟨_, rfl⟩
    have hq : q1 = true ∨ q1 = false ∧ q2 = true := by
      by_cases h1 : k < 1
      · exact .inl (hq1.symm.trans (decide_eq_true (by omega)))
      · exact .inr ⟨hq1.symm.trans (decide_eq_false (by omega)), hq2.symm.trans (decide_eq_true (by omega))⟩
    clear hc ho hk hm
    go_enter Tryd.func6, Tryd.ntmps6
    go_upto_region 1 with fail
    obtain ⟨B0, B1, BB⟩ := two_cos w c
    obtain ⟨w1, hw1⟩ : ∃ w1, ((w.alloc (.cells (cosP c).toArray 25)).alloc (.cells #[.int .i64 0, .int .u32 0, .int .u32 0, .int .u32 0, .int .u32 0, .int .u32 0, .int .u32 0, .int .u32 0, .int .u32 0, .int .u32 0, .int .u32 0, .int .u32 0, .int .u32 0, .int .u32 0, .int .u32 0, .int .u32 0, .int .u32 0] 25)) = w1 := ⟨_, rfl⟩
    rw [hw1] at B0 B1 BB ⊢
    clear hw1
    have c0 := B0.cell 0 rfl
    have g0 := B0.thaw 0
    have B0 := Lib.hid B0
    have B1 := Lib.hid B1
    have hl := cos_load B0.out HC.out
    have hs := cos_store B1.out Cos.zero HC.out
    have hv := cos_var (B1.out.put (cosP c)) HC.out
    have HB := below_setRow BB (Nat.le_succ _) (cosP c).toArray
    go_wp2_with fail
    refine (R.out _).mono ?_
    rintro e w2 ⟨rfl, rfl⟩
    rcases hq with rfl | ⟨rfl, rfl⟩ <;>
      (go_wp2_with fail
       exact bodyPost_ret (v := .tuple #[.agg (cosP c).toArray, .int .i64 1]) (by simp [results, Tryd.results6, asAddr, hv]) rfl ⟨rfl, HB⟩)

theorem cset_any (c : Pt) (n : Int) (k : Nat) (hc : Cos c) :
    Gives Tryd.prog 6 #[.agg (cosP c).toArray, .int .i64 n, .int .u32 (k : Int)] (.tuple #[.agg (cosP (setC c n k)).toArray, .int .i64 (setE n k)]) := fun w => by
  cases ho : okB n k with
  | true =>
    obtain ⟨m, rfl, hm, h1, h2⟩ := ok_in ho
    rw [set_ok c m k ho, show setE (m : Int) k = 0 by simp [setE, ho]]
    exact cset_ok c m k w hc hm h1 h2
  | false =>
    rw [set_no c n k ho, show setE n k = 1 by simp [setE, ho]]
    exact cset_err c n k w hc ho

theorem rset_ok (c : Pt) (n k : Nat) (w : World) (hc : Cos c) (hn : n < 16) (h1 : 1 ≤ k) (h2 : k ≤ 65536) :
    Calls Tryd.prog 7 #[.agg (cosP c).toArray, .int .i64 (n : Int), .int .u32 (k : Int)] w fun e w' => e = .returned (.tuple #[.agg (cosP (NodesF.withN c.1 n, c.2.set n k)).toArray, .int .i64 0]) ∧ Below w.heap.size w w' := by
  have W := Lib.hid (fun w => rwith_in c.1 n w hn hc.2.2.1 hc.2.2.2)
  have R := Lib.hid (fun w => rright_in n w hn)
  have HD := hc.set n k
  rw [set_ok c n k (ok_nat hn h1 h2)] at HD
  obtain ⟨d, hd⟩ : ∃ d, (NodesF.withN c.1 n, c.2.set n k) = d := ⟨_, rfl⟩
  rw [hd] at HD ⊢
  have k1 : decide ((k : Int) < 1) = false := decide_eq_false (by omega)
  have k2 : decide ((65536 : Int) < (k : Int)) = false := decide_eq_false (by omega)
  have n0 : (0 : Int) ≤ (n : Int) := by omega
  have n1 : (n : Int) < 16 := by omega
  have HC := Lib.hid hc
  have HD := Lib.hid HD
  have hd := Lib.hid hd
  obtain ⟨m, hm⟩ : ∃ m, c.2[n]? = some m := ⟨c.2[n]'(by have := hc.1; omega), by simp⟩
  have hm := Lib.hid hm
  clear hc h1 h2
  go_enter Tryd.func7, Tryd.ntmps7
  go_upto_region 1 with fail
  obtain ⟨B0, B1, BB⟩ := two_cos w c
  obtain ⟨w1, hw1⟩ : ∃ w1, ((w.alloc (.cells (cosP c).toArray 25)).alloc (.cells #[.int .i64 0, .int .u32 0, .int .u32 0, .int .u32 0, .int .u32 0, .int .u32 0, .int .u32 0, .int .u32 0, .int .u32 0, .int .u32 0, .int .u32 0, .int .u32 0, .int .u32 0, .int .u32 0, .int .u32 0, .int .u32 0, .int .u32 0] 25)) = w1 := ⟨_, rfl⟩
  rw [hw1] at B0 B1 BB ⊢
  clear hw1
  have c0 := B0.cell 0 rfl
  have g0 := B0.thaw 0
  have B0 := Lib.hid B0
  have B1 := Lib.hid B1
  go_wp2_with fail
  refine (R.out _).mono ?_
  rintro e w2 ⟨rfl, rfl⟩
  go_wp2_with fail
  refine (W.out _).mono ?_
  rintro e w2 ⟨rfl, rfl⟩
  go_upto_region 4 with fail
  have d0 := B0.out.set 0 (.int .i64 (NodesF.withN c.1 n))
  rw [cosP_up] at d0
  have c1 := d0.cell (1 + n) (cosP_at hm.out)
  have g1 := d0.thaw (1 + n)
  have d0 := Lib.hid d0
  go_upto_region 5 with fail
  have d1 := d0.out.set (1 + n) (.int .u32 (k : Int))
  rw [cosP_set, hd.out] at d1
  have e1 := (B1.out.other ⟨w.heap.size, 0, none⟩ (.int .i64 (NodesF.withN c.1 n)) (by simp)).other ⟨w.heap.size, 1 + n, none⟩ (.int .u32 (k : Int)) (by simp)
  have HB := (BB.setCell (p := ⟨w.heap.size, 0, none⟩) (Nat.le_refl w.heap.size) (.int .i64 (NodesF.withN c.1 n))).setCell (p := ⟨w.heap.size, 1 + n, none⟩) (Nat.le_refl w.heap.size) (.int .u32 (k : Int))
  obtain ⟨w2, hw2⟩ : ∃ w2, (w1.setCell ⟨w.heap.size, 0, none⟩ (.int .i64 (NodesF.withN c.1 n))).setCell ⟨w.heap.size, 1 + n, none⟩ (.int .u32 (k : Int)) = w2 := ⟨_, rfl⟩
  rw [hw2] at d1 e1 HB ⊢
  clear hw2 c0 g0 c1 g1 d0
  have hl := cos_load d1 HD.out
  have hs := cos_store e1 Cos.zero HD.out
  have hv := cos_var (e1.put (cosP d)) HD.out
  have HB := below_setRow HB (Nat.le_succ _) (cosP d).toArray
  go_wp2_with fail
  exact bodyPost_ret (v := .tuple #[.agg (cosP d).toArray, .int .i64 0]) (by simp [results, Tryd.results7, asAddr, hv]) rfl ⟨rfl, HB⟩

theorem rset_err (c : Pt) (n : Int) (k : Nat) (w : World) (hc : Cos c) (ho : okB n k = false) :
    Calls Tryd.prog 7 #[.agg (cosP c).toArray, .int .i64 n, .int .u32 (k : Int)] w fun e w' => e = .returned (.tuple #[.agg (cosP c).toArray, .int .i64 1]) ∧ Below w.heap.size w w' := by
  have HC := Lib.hid hc
  rcases not_ok ho with hn | ⟨⟨m, rfl, hm⟩, hk⟩
  · have R := Lib.hid (fun w => rright_out n w (node_out hn))
    clear hc ho hn
    go_enter Tryd.func7, Tryd.ntmps7
    go_upto_region 1 with fail
    obtain ⟨B0, B1, BB⟩ := two_cos w c
    obtain ⟨w1, hw1⟩ : ∃ w1, ((w.alloc (.cells (cosP c).toArray 25)).alloc (.cells #[.int .i64 0, .int .u32 0, .int .u32 0, .int .u32 0, .int .u32 0, .int .u32 0, .int .u32 0, .int .u32 0, .int .u32 0, .int .u32 0, .int .u32 0, .int .u32 0, .int .u32 0, .int .u32 0, .int .u32 0, .int .u32 0, .int .u32 0] 25)) = w1 := ⟨_, rfl⟩
    rw [hw1] at B0 B1 BB ⊢
    clear hw1
    have c0 := B0.cell 0 rfl
    have g0 := B0.thaw 0
    have B0 := Lib.hid B0
    have B1 := Lib.hid B1
    have hl := cos_load B0.out HC.out
    have hs := cos_store B1.out Cos.zero HC.out
    have hv := cos_var (B1.out.put (cosP c)) HC.out
    have HB := below_setRow BB (Nat.le_succ _) (cosP c).toArray
    go_wp2_with fail
    refine (R.out _).mono ?_
    rintro e w2 ⟨rfl, rfl⟩
    go_wp2_with fail
    exact bodyPost_ret (v := .tuple #[.agg (cosP c).toArray, .int .i64 1]) (by simp [results, Tryd.results7, asAddr, hv]) rfl ⟨rfl, HB⟩
  · have R := Lib.hid (fun w => rright_in m w hm)
    obtain ⟨q1, hq1⟩ : ∃ q1, decide ((k : Int) < 1) = q1 := ⟨_, rfl⟩
    obtain ⟨q2, hq2⟩ : ∃ q2, decide ((65536 : Int) < (k : Int)) = q2 := ⟨_, rfl⟩
    have hq : q1 = true ∨ q1 = false ∧ q2 = true := by
      by_cases h1 : k < 1
      · exact .inl (hq1.symm.trans (decide_eq_true (by omega)))
      · exact .inr ⟨hq1.symm.trans (decide_eq_false (by omega)), hq2.symm.trans (decide_eq_true (by omega))⟩
    clear hc ho hk hm
    go_enter Tryd.func7, Tryd.ntmps7
    go_upto_region 1 with fail
    obtain ⟨B0, B1, BB⟩ := two_cos w c
    obtain ⟨w1, hw1⟩ : ∃ w1, ((w.alloc (.cells (cosP c).toArray 25)).alloc (.cells #[.int .i64 0, .int .u32 0, .int .u32 0, .int .u32 0, .int .u32 0, .int .u32 0, .int .u32 0, .int .u32 0, .int .u32 0, .int .u32 0, .int .u32 0, .int .u32 0, .int .u32 0, .int .u32 0, .int .u32 0, .int .u32 0, .int .u32 0] 25)) = w1 := ⟨_, rfl⟩
    rw [hw1] at B0 B1 BB ⊢
    clear hw1
    have c0 := B0.cell 0 rfl
    have g0 := B0.thaw 0
    have B0 := Lib.hid B0
    have B1 := Lib.hid B1
    have hl := cos_load B0.out HC.out
    have hs := cos_store B1.out Cos.zero HC.out
    have hv := cos_var (B1.out.put (cosP c)) HC.out
    have HB := below_setRow BB (Nat.le_succ _) (cosP c).toArray
    go_wp2_with fail
    refine (R.out _).mono ?_
    rintro e w2 ⟨rfl, rfl⟩
    rcases hq with rfl | ⟨rfl, rfl⟩ <;>
      (go_wp2_with fail
       exact bodyPost_ret (v := .tuple #[.agg (cosP c).toArray, .int .i64 1]) (by simp [results, Tryd.results7, asAddr, hv]) rfl ⟨rfl, HB⟩)

theorem rset_any (c : Pt) (n : Int) (k : Nat) (hc : Cos c) :
    Gives Tryd.prog 7 #[.agg (cosP c).toArray, .int .i64 n, .int .u32 (k : Int)] (.tuple #[.agg (cosP (setC c n k)).toArray, .int .i64 (setE n k)]) := fun w => by
  cases ho : okB n k with
  | true =>
    obtain ⟨m, rfl, hm, h1, h2⟩ := ok_in ho
    rw [set_ok c m k ho, show setE (m : Int) k = 0 by simp [setE, ho]]
    exact rset_ok c m k w hc hm h1 h2
  | false =>
    rw [set_no c n k ho, show setE n k = 1 by simp [setE, ho]]
    exact rset_err c n k w hc ho
end Go.Proofs.YtnbbepelagdenaaDoor
