/- Contracts of package costs, part C: Cut, Of, and the document's own. -/
import Derived.Test.YtnbbepelagdenaaDoorCosA
import Derived.Test.YtnbbepelagdenaaDoorNodesA
import Derived.Test.YtnbbepelagdenaaDoorRNodesA
namespace Go.Proofs.YtnbbepelagdenaaDoor
open Go.RowKit Go.Sort CosF
attribute [local go_sem ↓] loadAt_cos loadAt_row storeAt_cos

theorem ccut_in (c : Pt) (n : Nat) (w : World) (hc : Cos c) (hn : n < 16) :
    Calls Tryd.prog 10 #[.agg (cosP c).toArray, .int .i64 (n : Int)] w fun e w' => e = .returned (.agg (cosP (NodesF.withoutN c.1 n, c.2.set n 0)).toArray) ∧ Below w.heap.size w w' := by
  have W := Lib.hid (fun w => without_in c.1 n w hn hc.2.2.1 hc.2.2.2)
  have R := Lib.hid (fun w => right_in n w hn)
  have HD := hc.cut n
  rw [cut_ok c n hn] at HD
  obtain ⟨d, hd⟩ : ∃ d, (NodesF.withoutN c.1 n, c.2.set n 0) = d := ⟨_, rfl⟩
  rw [hd] at HD ⊢
  have n0 : (0 : Int) ≤ (n : Int) := by omega
  have n1 : (n : Int) < 16 := by omega
  have HC := Lib.hid hc
  have HD := Lib.hid HD
  have hd := Lib.hid hd
  obtain ⟨m, hm⟩ : ∃ m, c.2[n]? = some m := ⟨c.2[n]'(by have := hc.1; omega), by simp⟩
  have hm := Lib.hid hm
  clear hc
  go_enter Tryd.func10, Tryd.ntmps10
  go_upto_region 1 with fail
  obtain ⟨B0, B1, BB⟩ := two_cos w c
  obtain ⟨w1, hw1⟩ : ∃ w1, ((w.alloc (.cells (cosP c).toArray 25)).alloc (.cells #[.int .i64 0, .int .u32 0, .int .u32 0, .int .u32 0, .int .u32 0, .int .u32 0, .int .u32 0, .int .u32 0, .int .u32 0, .int .u32 0, .int .u32 0, .int .u32 0, .int .u32 0, .int .u32 0, .int .u32 0, .int .u32 0, .int .u32 0] 25)) = w1 := ⟨_, rfl⟩
  rw [hw1] at B0 B1 BB ⊢
  clear hw1
  have c0 := B0.cell 0 rfl
  have g0 := B0.thaw 0
  have B0 := Lib.hid B0
  have B1 := Lib.hid B1
  go_wp2_with fail
  refine (R.out _).mono ?_
  rintro e w2 ⟨rfl, rfl⟩
  go_wp2_with fail
  refine (W.out _).mono ?_
  rintro e w2 ⟨rfl, rfl⟩
  go_upto_region 3 with fail
  have d0 := B0.out.set 0 (.int .i64 (NodesF.withoutN c.1 n))
  rw [cosP_up] at d0
  have c1 := d0.cell (1 + n) (cosP_at hm.out)
  have g1 := d0.thaw (1 + n)
  have d0 := Lib.hid d0
  go_upto_region 4 with fail
  have d1 := d0.out.set (1 + n) (.int .u32 ((0 : Nat) : Int))
  rw [cosP_set, hd.out] at d1
  have e1 := (B1.out.other ⟨w.heap.size, 0, none⟩ (.int .i64 (NodesF.withoutN c.1 n)) (by simp)).other ⟨w.heap.size, 1 + n, none⟩ (.int .u32 0) (by simp)
  have HB := (BB.setCell (p := ⟨w.heap.size, 0, none⟩) (Nat.le_refl w.heap.size) (.int .i64 (NodesF.withoutN c.1 n))).setCell (p := ⟨w.heap.size, 1 + n, none⟩) (Nat.le_refl w.heap.size) (.int .u32 0)
  obtain ⟨w2, hw2⟩ : ∃ w2, (w1.setCell ⟨w.heap.size, 0, none⟩ (.int .i64 (NodesF.withoutN c.1 n))).setCell ⟨w.heap.size, 1 + n, none⟩ (.int .u32 0) = w2 := ⟨_, rfl⟩
  rw [show ((0 : Nat) : Int) = 0 from rfl, hw2] at d1
  rw [hw2] at e1 HB ⊢
  clear hw2 c0 g0 c1 g1 d0
  have hl := cos_load d1 HD.out
  have hs := cos_store e1 Cos.zero HD.out
  have hv := cos_var (e1.put (cosP d)) HD.out
  have HB := below_setRow HB (Nat.le_succ _) (cosP d).toArray
  go_wp2_with fail
  exact bodyPost_ret (v := .agg (cosP d).toArray) (by simp [results, Tryd.results10, asAddr, hv]) rfl ⟨rfl, HB⟩

theorem ccut_out (c : Pt) (n : Int) (w : World) (hc : Cos c) (hn : nodeB n = false) :
    Calls Tryd.prog 10 #[.agg (cosP c).toArray, .int .i64 n] w fun e w' => e = .returned (.agg (cosP c).toArray) ∧ Below w.heap.size w w' := by
  have HC := Lib.hid hc
  have R := Lib.hid (fun w => right_out n w (node_out hn))
  clear hc hn
  go_enter Tryd.func10, Tryd.ntmps10
  go_upto_region 1 with fail
  obtain ⟨B0, B1, BB⟩ := two_cos w c
  obtain ⟨w1, hw1⟩ : ∃ w1, ((w.alloc (.cells (cosP c).toArray 25)).alloc (.cells #[.int .i64 0, .int .u32 0, .int .u32 0, .int .u32 0, .int .u32 0, .int .u32 0, .int .u32 0, .int .u32 0, .int .u32 0, .int .u32 0, .int .u32 0, .int .u32 0, .int .u32 0, .int .u32 0, .int .u32 0, .int .u32 0, .int .u32 0] 25)) = w1 := ⟨_, rfl⟩
  rw [hw1] at B0 B1 BB ⊢
  clear hw1
  have c0 := B0.cell 0 rfl
  have g0 := B0.thaw 0
  have B0 := Lib.hid B0
  have B1 := Lib.hid B1
  have hl := cos_load B0.out HC.out
  have hs := cos_store B1.out Cos.zero HC.out
  have hv := cos_var (B1.out.put (cosP c)) HC.out
  have HB := below_setRow BB (Nat.le_succ _) (cosP c).toArray
  go_wp2_with fail
  refine (R.out _).mono ?_
  rintro e w2 ⟨rfl, rfl⟩
  go_wp2_with fail
  exact bodyPost_ret (v := .agg (cosP c).toArray) (by simp [results, Tryd.results10, asAddr, hv]) rfl ⟨rfl, HB⟩

theorem ccut_any (c : Pt) (n : Int) (hc : Cos c) :
    Gives Tryd.prog 10 #[.agg (cosP c).toArray, .int .i64 n] (.agg (cosP (cutC c n)).toArray) := fun w => by
  cases ho : nodeB n with
  | true =>
    obtain ⟨m, rfl, hm⟩ := node_in ho
    rw [cut_ok c m hm]
    exact ccut_in c m w hc hm
  | false =>
    rw [cut_no c n ho]
    exact ccut_out c n w hc ho

theorem rcut_in (c : Pt) (n : Nat) (w : World) (hc : Cos c) (hn : n < 16) :
    Calls Tryd.prog 11 #[.agg (cosP c).toArray, .int .i64 (n : Int)] w fun e w' => e = .returned (.agg (cosP (NodesF.withoutN c.1 n, c.2.set n 0)).toArray) ∧ Below w.heap.size w w' := by
  have W := Lib.hid (fun w => rwithout_in c.1 n w hn hc.2.2.1 hc.2.2.2)
  have R := Lib.hid (fun w => rright_in n w hn)
  have HD := hc.cut n
  rw [cut_ok c n hn] at HD
  obtain ⟨d, hd⟩ : ∃ d, (NodesF.withoutN c.1 n, c.2.set n 0) = d := ⟨_, rfl⟩
  rw [hd] at HD ⊢
  have n0 : (0 : Int) ≤ (n : Int) := by omega
  have n1 : (n : Int) < 16 := by omega
  have HC := Lib.hid hc
  have HD := Lib.hid HD
  have hd := Lib.hid hd
  obtain ⟨m, hm⟩ : ∃ m, c.2[n]? = some m := ⟨c.2[n]'(by have := hc.1; omega), by simp⟩
  have hm := Lib.hid hm
  clear hc
  go_enter Tryd.func11, Tryd.ntmps11
  go_upto_region 1 with fail
  obtain ⟨B0, B1, BB⟩ := two_cos w c
  obtain ⟨w1, hw1⟩ : ∃ w1, ((w.alloc (.cells (cosP c).toArray 25)).alloc (.cells #[.int .i64 0, .int .u32 0, .int .u32 0, .int .u32 0, .int .u32 0, .int .u32 0, .int .u32 0, .int .u32 0, .int .u32 0, .int .u32 0, .int .u32 0, .int .u32 0, .int .u32 0, .int .u32 0, .int .u32 0, .int .u32 0, .int .u32 0] 25)) = w1 := ⟨_, rfl⟩
  rw [hw1] at B0 B1 BB ⊢
  clear hw1
  have c0 := B0.cell 0 rfl
  have g0 := B0.thaw 0
  have B0 := Lib.hid B0
  have B1 := Lib.hid B1
  go_wp2_with fail
  refine (R.out _).mono ?_
  rintro e w2 ⟨rfl, rfl⟩
  go_wp2_with fail
  refine (W.out _).mono ?_
  rintro e w2 ⟨rfl, rfl⟩
  go_upto_region 4 with fail
  have d0 := B0.out.set 0 (.int .i64 (NodesF.withoutN c.1 n))
  rw [cosP_up] at d0
  have c1 := d0.cell (1 + n) (cosP_at hm.out)
  have g1 := d0.thaw (1 + n)
  have d0 := Lib.hid d0
  go_upto_region 5 with fail
  have d1 := d0.out.set (1 + n) (.int .u32 ((0 : Nat) : Int))
  rw [cosP_set, hd.out] at d1
  have e1 := (B1.out.other ⟨w.heap.size, 0, none⟩ (.int .i64 (NodesF.withoutN c.1 n)) (by simp)).other ⟨w.heap.size, 1 + n, none⟩ (.int .u32 0) (by simp)
  have HB := (BB.setCell (p := ⟨w.heap.size, 0, none⟩) (Nat.le_refl w.heap.size) (.int .i64 (NodesF.withoutN c.1 n))).setCell (p := ⟨w.heap.size, 1 + n, none⟩) (Nat.le_refl w.heap.size) (.int .u32 0)
  obtain ⟨w2, hw2⟩ : ∃ w2, (w1.setCell ⟨w.heap.size, 0, none⟩ (.int .i64 (NodesF.withoutN c.1 n))).setCell ⟨w.heap.size, 1 + n, none⟩ (.int .u32 0) = w2 := ⟨_, rfl⟩
  rw [show ((0 : Nat) : Int) = 0 from rfl, hw2] at d1
  rw [hw2] at e1 HB ⊢
  clear hw2 c0 g0 c1 g1 d0
  have hl := cos_load d1 HD.out
  have hs := cos_store e1 Cos.zero HD.out
  have hv := cos_var (e1.put (cosP d)) HD.out
  have HB := below_setRow HB (Nat.le_succ _) (cosP d).toArray
  go_wp2_with fail
  exact bodyPost_ret (v := .agg (cosP d).toArray) (by simp [results, Tryd.results11, asAddr, hv]) rfl ⟨rfl, HB⟩

theorem rcut_out (c : Pt) (n : Int) (w : World) (hc : Cos c) (hn : nodeB n = false) :
    Calls Tryd.prog 11 #[.agg (cosP c).toArray, .int .i64 n] w fun e w' => e = .returned (.agg (cosP c).toArray) ∧ Below w.heap.size w w' := by
  have HC := Lib.hid hc
  have R := Lib.hid (fun w => rright_out n w (node_out hn))
  clear hc hn
  go_enter Tryd.func11, Tryd.ntmps11
  go_upto_region 1 with fail
  obtain ⟨B0, B1, BB⟩ := two_cos w c
  obtain ⟨w1, hw1⟩ : ∃ w1, ((w.alloc (.cells (cosP c).toArray 25)).alloc (.cells #[.int .i64 0, .int .u32 0, .int .u32 0, .int .u32 0, .int .u32 0, .int .u32 0, .int .u32 0, .int .u32 0, .int .u32 0, .int .u32 0, .int .u32 0, .int .u32 0, .int .u32 0, .int .u32 0, .int .u32 0, .int .u32 0, .int .u32 0] 25)) = w1 := ⟨_, rfl⟩
  rw [hw1] at B0 B1 BB ⊢
  clear hw1
  have c0 := B0.cell 0 rfl
  have g0 := B0.thaw 0
  have B0 := Lib.hid B0
  have B1 := Lib.hid B1
  have hl := cos_load B0.out HC.out
  have hs := cos_store B1.out Cos.zero HC.out
  have hv := cos_var (B1.out.put (cosP c)) HC.out
  have HB := below_setRow BB (Nat.le_succ _) (cosP c).toArray
  go_wp2_with fail
  refine (R.out _).mono ?_
  rintro e w2 ⟨rfl, rfl⟩
  go_wp2_with fail
  exact bodyPost_ret (v := .agg (cosP c).toArray) (by simp [results, Tryd.results11, asAddr, hv]) rfl ⟨rfl, HB⟩

theorem rcut_any (c : Pt) (n : Int) (hc : Cos c) :
    Gives Tryd.prog 11 #[.agg (cosP c).toArray, .int .i64 n] (.agg (cosP (cutC c n)).toArray) := fun w => by
  cases ho : nodeB n with
  | true =>
    obtain ⟨m, rfl, hm⟩ := node_in ho
    rw [cut_ok c m hm]
    exact rcut_in c m w hc hm
  | false =>
    rw [cut_no c n ho]
    exact rcut_out c n w hc ho

theorem cof_any (c : Pt) (n : Int) (hc : Cos c) :
    Gives Tryd.prog 12 #[.agg (cosP c).toArray, .int .i64 n] (.int .u32 (ofC c n : Nat)) := fun w => by
  cases ho : nodeB n with
  | true =>
    obtain ⟨n, rfl, hm⟩ := node_in ho
    have R := Lib.hid (fun w => has_in c.1 n w hm)
    obtain ⟨r, hr⟩ : ∃ r, NodesF.hasN c.1 n = r := ⟨_, rfl⟩
    rw [hr] at R
    obtain ⟨m, hx⟩ : ∃ m, c.2[n]? = some m := ⟨c.2[n]'(by have := hc.1; omega), by simp⟩
    have n0 : (0 : Int) ≤ (n : Int) := by omega
    have n1 : (n : Int) < 16 := by omega
    have hq : Hid (ofC c (n : Int) = if r then m else 4294967295) := Lib.hid (by
      cases r with
      | true => rw [of_ok c n hm hr, List.getD_eq_getElem?_getD, hx]; rfl
      | false => rw [of_far c n hr]; rfl)
    obtain ⟨q, hq'⟩ : ∃ q, ofC c (n : Int) = q := ⟨_, rfl⟩
    rw [hq'] at hq ⊢
    clear ho hr hq' hm
    go_enter Tryd.func12, Tryd.ntmps12
    go_upto_region 1 with fail
    obtain ⟨B0, BB⟩ := one_cos w c
    obtain ⟨w1, hw1⟩ : ∃ w1, (w.alloc (.cells (cosP c).toArray 25)) = w1 := ⟨_, rfl⟩
    rw [hw1] at B0 BB ⊢
    clear hw1
    have c0 := B0.cell 0 rfl
    have c1 := B0.cell (1 + n) (cosP_at hx)
    clear hx
    go_wp2_with fail
    refine (R.out _).mono ?_
    rintro e w2 ⟨rfl, rfl⟩
    cases r <;>
      (go_wp2_with fail
       go_ret
       exact ⟨by rw [hq.out]; rfl, BB⟩)
  | false =>
    have R := Lib.hid (fun w => has_out c.1 n w (node_out ho))
    rw [of_no c n ho]
    clear ho
    go_enter Tryd.func12, Tryd.ntmps12
    go_upto_region 1 with fail
    obtain ⟨B0, BB⟩ := one_cos w c
    obtain ⟨w1, hw1⟩ : ∃ w1, (w.alloc (.cells (cosP c).toArray 25)) = w1 := ⟨_, rfl⟩
    rw [hw1] at B0 BB ⊢
    clear hw1
    have c0 := B0.cell 0 rfl
    go_wp2_with fail
    refine (R.out _).mono ?_
    rintro e w2 ⟨rfl, rfl⟩
    go_wp2_with fail
    go_ret
    exact ⟨rfl, BB⟩

theorem rof_any (c : Pt) (n : Int) (hc : Cos c) :
    Gives Tryd.prog 13 #[.agg (cosP c).toArray, .int .i64 n] (.int .u32 (ofC c n : Nat)) := fun w => by
  cases ho : nodeB n with
  | true =>
    obtain ⟨n, rfl, hm⟩ := node_in ho
    have R := Lib.hid (fun w => rhas_in c.1 n w hm)
    obtain ⟨r, hr⟩ : ∃ r, NodesF.hasN c.1 n = r := ⟨_, rfl⟩
    rw [hr] at R
    obtain ⟨m, hx⟩ : ∃ m, c.2[n]? = some m := ⟨c.2[n]'(by have := hc.1; omega), by simp⟩
    have n0 : (0 : Int) ≤ (n : Int) := by omega
    have n1 : (n : Int) < 16 := by omega
    have hq : Hid (ofC c (n : Int) = if r then m else 4294967295) := Lib.hid (by
      cases r with
      | true => rw [of_ok c n hm hr, List.getD_eq_getElem?_getD, hx]; rfl
      | false => rw [of_far c n hr]; rfl)
    obtain ⟨q, hq'⟩ : ∃ q, ofC c (n : Int) = q := ⟨_, rfl⟩
    rw [hq'] at hq ⊢
    clear ho hr hq' hm
    go_enter Tryd.func13, Tryd.ntmps13
    go_upto_region 1 with fail
    obtain ⟨B0, BB⟩ := one_cos w c
    obtain ⟨w1, hw1⟩ : ∃ w1, (w.alloc (.cells (cosP c).toArray 25)) = w1 := ⟨_, rfl⟩
    rw [hw1] at B0 BB ⊢
    clear hw1
    have c0 := B0.cell 0 rfl
    have c1 := B0.cell (1 + n) (cosP_at hx)
    clear hx
    go_wp2_with fail
    refine (R.out _).mono ?_
    rintro e w2 ⟨rfl, rfl⟩
    cases r <;>
      (go_wp2_with fail
       go_ret
       exact ⟨by rw [hq.out]; rfl, BB⟩)
  | false =>
    have R := Lib.hid (fun w => rhas_out c.1 n w (node_out ho))
    rw [of_no c n ho]
    clear ho
    go_enter Tryd.func13, Tryd.ntmps13
    go_upto_region 1 with fail
    obtain ⟨B0, BB⟩ := one_cos w c
    obtain ⟨w1, hw1⟩ : ∃ w1, (w.alloc (.cells (cosP c).toArray 25)) = w1 := ⟨_, rfl⟩
    rw [hw1] at B0 BB ⊢
    clear hw1
    have c0 := B0.cell 0 rfl
    go_wp2_with fail
    refine (R.out _).mono ?_
    rintro e w2 ⟨rfl, rfl⟩
    go_wp2_with fail
    go_ret
    exact ⟨rfl, BB⟩
end Go.Proofs.YtnbbepelagdenaaDoor
