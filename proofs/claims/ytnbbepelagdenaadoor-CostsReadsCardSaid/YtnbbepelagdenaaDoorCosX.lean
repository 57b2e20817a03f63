/- Contracts of package costs, part X: the document's own Parse. -/
import Derived.Test.YtnbbepelagdenaaDoorCosW
import Derived.Test.YtnbbepelagdenaaDoorCosO
namespace Go.Proofs.YtnbbepelagdenaaDoor
open Go.RowKit Go.Sort CosF Go.Joins
attribute [local go_sem ↓] loadAt_cos loadAt_row storeAt_cos

theorem step_letter {c : Pt} {node : Int} {t : Nat} {y : UInt8} (h : (97 ≤ y.toNat ∧ y.toNat ≤ 112) ∧ node < 0) : stepR c node t y = some (c, ((y.toNat - 97 : Nat) : Int), 0) := if_pos h
theorem step_digit {c : Pt} {node : Int} {t : Nat} {y : UInt8} (h : ¬ ((97 ≤ y.toNat ∧ y.toNat ≤ 112) ∧ node < 0)) (h2 : ((48 ≤ y.toNat ∧ y.toNat ≤ 57) ∧ 0 ≤ node) ∧ t ≤ 65536) : stepR c node t y = some (c, node, 10 * t + (y.toNat - 48)) := (if_neg h).trans (if_pos h2)
theorem step_blank {c : Pt} {node : Int} {t : Nat} {y : UInt8} (h : ¬ ((97 ≤ y.toNat ∧ y.toNat ≤ 112) ∧ node < 0)) (h2 : ¬ (((48 ≤ y.toNat ∧ y.toNat ≤ 57) ∧ 0 ≤ node) ∧ t ≤ 65536)) (h3 : y.toNat = 32 ∧ 0 ≤ node) : stepR c node t y = if okB node t then some (setC c node t, -1, t) else none := (if_neg h).trans ((if_neg h2).trans (if_pos h3))
theorem step_none {c : Pt} {node : Int} {t : Nat} {y : UInt8} (h : ¬ ((97 ≤ y.toNat ∧ y.toNat ≤ 112) ∧ node < 0)) (h2 : ¬ (((48 ≤ y.toNat ∧ y.toNat ≤ 57) ∧ 0 ≤ node) ∧ t ≤ 65536)) (h3 : ¬ (y.toNat = 32 ∧ 0 ≤ node)) : stepR c node t y = none := (if_neg h).trans ((if_neg h2).trans (if_neg h3))

set_option maxRecDepth 100000 in
set_option maxHeartbeats 1000000 in
theorem rparse_long (s : ByteArray) (w : World) (hl : 300 < s.size) : Calls Tryd.prog 20 #[.string s] w fun e w' => e = .returned (.tuple #[.agg (cosP (parseD s.data.toList).1).toArray, .int .i64 (parseD s.data.toList).2]) ∧ Below w.heap.size w w' := by
  have HV : Hid (parseD s.data.toList = (none16, 4)) := Lib.hid (by unfold parseD; rw [if_pos (by rw [size_list]; exact hl)])
  have d1 : decide ((300 : Int) < (s.size : Int)) = true := decide_eq_true (by omega)
  rw [HV.out]
  clear hl
  have k0 := (one_new w).next (.cells #[.int .i64 0, .int .u32 0, .int .u32 0, .int .u32 0, .int .u32 0, .int .u32 0, .int .u32 0, .int .u32 0, .int .u32 0, .int .u32 0, .int .u32 0, .int .u32 0, .int .u32 0, .int .u32 0, .int .u32 0, .int .u32 0, .int .u32 0] 25)
  have h0 := ((Below.refl w.heap.size w).alloc (Nat.le_refl _) (.cells #[.int .i64 0, .int .u32 0, .int .u32 0, .int .u32 0, .int .u32 0, .int .u32 0, .int .u32 0, .int .u32 0, .int .u32 0, .int .u32 0, .int .u32 0, .int .u32 0, .int .u32 0, .int .u32 0, .int .u32 0, .int .u32 0, .int .u32 0] 25)).alloc (by simp only [World.size_alloc]; omega) (.cells #[.int .i64 0, .int .u32 0, .int .u32 0, .int .u32 0, .int .u32 0, .int .u32 0, .int .u32 0, .int .u32 0, .int .u32 0, .int .u32 0, .int .u32 0, .int .u32 0, .int .u32 0, .int .u32 0, .int .u32 0, .int .u32 0, .int .u32 0] 25)
  go_enter Tryd.func20, Tryd.ntmps20
  go_upto_region 2 with fail
  obtain ⟨wa, hwa⟩ : ∃ v, (w.alloc (.cells #[.int .i64 0, .int .u32 0, .int .u32 0, .int .u32 0, .int .u32 0, .int .u32 0, .int .u32 0, .int .u32 0, .int .u32 0, .int .u32 0, .int .u32 0, .int .u32 0, .int .u32 0, .int .u32 0, .int .u32 0, .int .u32 0, .int .u32 0] 25)).alloc (.cells #[.int .i64 0, .int .u32 0, .int .u32 0, .int .u32 0, .int .u32 0, .int .u32 0, .int .u32 0, .int .u32 0, .int .u32 0, .int .u32 0, .int .u32 0, .int .u32 0, .int .u32 0, .int .u32 0, .int .u32 0, .int .u32 0, .int .u32 0] 25) = v := ⟨_, rfl⟩
  rw [hwa] at k0 h0 ⊢
  clear hwa
  have hst := zero_store k0 Cos.zero
  have hv := cos_var (zero_var k0) Cos.zero
  have hb := below_setRow h0 (Nat.le_refl _) #[.int .i64 0, .int .u32 0, .int .u32 0, .int .u32 0, .int .u32 0, .int .u32 0, .int .u32 0, .int .u32 0, .int .u32 0, .int .u32 0, .int .u32 0, .int .u32 0, .int .u32 0, .int .u32 0, .int .u32 0, .int .u32 0, .int .u32 0]
  go_wp2_with fail
  exact bodyPost_ret (v := .tuple #[.agg (cosP none16).toArray, .int .i64 4]) (by simp [results, Tryd.results20, asAddr, hv]) rfl ⟨rfl, hb⟩

set_option maxRecDepth 100000 in
set_option maxHeartbeats 4000000 in
theorem rparse_short (s : ByteArray) (w : World) (hl : s.size ≤ 300) : Calls Tryd.prog 20 #[.string s] w fun e w' => e = .returned (.tuple #[.agg (cosP (parseD s.data.toList).1).toArray, .int .i64 (parseD s.data.toList).2]) ∧ Below w.heap.size w w' := by
  have HV : Hid (parseD s.data.toList = doneV s.data.toList (runR s.data.toList none16 (-1) 0)) := Lib.hid (by unfold parseD; rw [if_neg (by rw [size_list]; omega)])
  have d1 : decide ((300 : Int) < (s.size : Int)) = false := decide_eq_false (by omega)
  have HSS : Hid (str s.data.toList = s) := Lib.hid (str_of s)
  obtain ⟨sl, hsl⟩ : ∃ sl, s.data.toList = sl := ⟨_, rfl⟩
  have HSL := Lib.hid hsl
  obtain ⟨m, hm⟩ : ∃ m, s.size = m := ⟨_, rfl⟩
  have HM : Hid (m ≤ 300) := Lib.hid (by omega)
  rw [hm] at d1
  have HNL : Hid (sl.length = m) := Lib.hid (by rw [← hsl, size_list, hm])
  rw [hsl] at HV
  rw [hsl]
  obtain ⟨pv, hpv⟩ : ∃ pv, parseD sl = pv := ⟨_, rfl⟩
  rw [hpv] at HV ⊢
  clear hl hpv
  have k2 := (one_new w).next (.cells #[.int .i64 0, .int .u32 0, .int .u32 0, .int .u32 0, .int .u32 0, .int .u32 0, .int .u32 0, .int .u32 0, .int .u32 0, .int .u32 0, .int .u32 0, .int .u32 0, .int .u32 0, .int .u32 0, .int .u32 0, .int .u32 0, .int .u32 0] 25)
  have k4 : Blk ((w.alloc (.cells #[.int .i64 0, .int .u32 0, .int .u32 0, .int .u32 0, .int .u32 0, .int .u32 0, .int .u32 0, .int .u32 0, .int .u32 0, .int .u32 0, .int .u32 0, .int .u32 0, .int .u32 0, .int .u32 0, .int .u32 0, .int .u32 0, .int .u32 0] 25)).alloc (.cells #[.int .i64 0, .int .u32 0, .int .u32 0, .int .u32 0, .int .u32 0, .int .u32 0, .int .u32 0, .int .u32 0, .int .u32 0, .int .u32 0, .int .u32 0, .int .u32 0, .int .u32 0, .int .u32 0, .int .u32 0, .int .u32 0, .int .u32 0] 25)) (w.heap.size + 1) (cosP none16) := by
    have h := one_new (w.alloc (.cells #[.int .i64 0, .int .u32 0, .int .u32 0, .int .u32 0, .int .u32 0, .int .u32 0, .int .u32 0, .int .u32 0, .int .u32 0, .int .u32 0, .int .u32 0, .int .u32 0, .int .u32 0, .int .u32 0, .int .u32 0, .int .u32 0, .int .u32 0] 25))
    rw [World.size_alloc] at h
    exact h
  have h0 := ((Below.refl w.heap.size w).alloc (Nat.le_refl _) (.cells #[.int .i64 0, .int .u32 0, .int .u32 0, .int .u32 0, .int .u32 0, .int .u32 0, .int .u32 0, .int .u32 0, .int .u32 0, .int .u32 0, .int .u32 0, .int .u32 0, .int .u32 0, .int .u32 0, .int .u32 0, .int .u32 0, .int .u32 0] 25)).alloc (by simp only [World.size_alloc]; omega) (.cells #[.int .i64 0, .int .u32 0, .int .u32 0, .int .u32 0, .int .u32 0, .int .u32 0, .int .u32 0, .int .u32 0, .int .u32 0, .int .u32 0, .int .u32 0, .int .u32 0, .int .u32 0, .int .u32 0, .int .u32 0, .int .u32 0, .int .u32 0] 25)
  go_enter Tryd.func20, Tryd.ntmps20
  go_upto_region 4 with fail
  obtain ⟨wa, hwa⟩ : ∃ v, (w.alloc (.cells #[.int .i64 0, .int .u32 0, .int .u32 0, .int .u32 0, .int .u32 0, .int .u32 0, .int .u32 0, .int .u32 0, .int .u32 0, .int .u32 0, .int .u32 0, .int .u32 0, .int .u32 0, .int .u32 0, .int .u32 0, .int .u32 0, .int .u32 0] 25)).alloc (.cells #[.int .i64 0, .int .u32 0, .int .u32 0, .int .u32 0, .int .u32 0, .int .u32 0, .int .u32 0, .int .u32 0, .int .u32 0, .int .u32 0, .int .u32 0, .int .u32 0, .int .u32 0, .int .u32 0, .int .u32 0, .int .u32 0, .int .u32 0] 25) = v := ⟨_, rfl⟩
  rw [hwa] at k2 k4 h0 ⊢
  clear hwa
  have K2 := Lib.hid k2
  have K4 := Lib.hid k4
  have HB := Lib.hid h0
  have hm64 : m ≤ 300 := HM.out
  clear k2 k4 h0
  go_wp2_with fail
  go_loopw [17, 5, 6] (fun v nd nn wr => ∃ (k : Nat) (c : Pt) (node : Int) (t : Nat), v = .int .i64 (k : Int) ∧ nd = .int .i64 node ∧ nn = .int .u32 (t : Int) ∧ k ≤ m ∧ -1 ≤ node ∧ node < 16 ∧ t < 4000000 ∧ runR (sl.drop k) c node t = runR sl none16 (-1) 0 ∧ Cos c ∧ Blk wr w.heap.size (cosP none16) ∧ Blk wr (w.heap.size + 1) (cosP c) ∧ Below w.heap.size w wr) (fun v _ _ _ => (m - intOf v).toNat)
  case atStart => exact ⟨0, none16, -1, 0, rfl, rfl, rfl, Nat.zero_le _, by omega, by omega, by omega, rfl, Cos.zero, K2.out, K4.out, HB.out⟩
  case round =>
    obtain ⟨k, c, node, t, rfl, rfl, rfl, hk, hn0, hn1, ht, hrd, hcc, k2, k4, kb⟩ := hrel
    have HB := Lib.hid kb
    have K2 := Lib.hid k2
    have K4 := Lib.hid k4
    have HC := Lib.hid hcc
    clear kb k2 k4 hcc
    by_cases hkn : k < m
    · obtain ⟨x, hx⟩ : ∃ x, sl[k]? = some x := ⟨_, List.getElem?_eq_getElem (by have := HNL.out; omega)⟩
      have hdrop : sl.drop k = x :: sl.drop (k + 1) := by
        have hlt := (List.getElem?_eq_some_iff.1 hx).1
        rw [List.drop_eq_getElem_cons hlt, (List.getElem?_eq_some_iff.1 hx).2]
      rw [hdrop, runR] at hrd
      have hkn' : (k : Int) < (m : Int) := by omega
      have HK := Lib.hid hkn
      have e1 : wrap64 ((k : Int) + 1) = (k : Int) + 1 := IntWalk.wrap64_in _ (by omega)
      clear hdrop hkn hk
      go_upto_region 10 with fail
      have hks : k < s.size := by omega
      obtain ⟨y, hy⟩ : ∃ y, s[k]'hks = y := ⟨_, rfl⟩
      rw [hy]
      have hyx : y = x := by
        have h := hx
        rw [← HSL.out, Array.getElem?_toList, Array.getElem?_eq_getElem (show k < s.data.size from hks)] at h
        exact hy.symm.trans (Option.some.inj h)
      clear hy hks
      subst hyx
      have HX := Lib.hid hx
      clear hx
      obtain ⟨A, hA⟩ : ∃ b, decide ((97 ≤ y.toNat ∧ y.toNat ≤ 112) ∧ node < 0) = b := ⟨_, rfl⟩
      go_cut [24] (fun v wx => v = .bool A ∧ wr = wx)
      case first =>
        go_wp2_with fail
        all_goals go_meet
        all_goals refine ⟨congrArg Value.bool ?_, rfl⟩
        all_goals rw [← hA]
        all_goals first | exact decide_eq_decide.2 (by omega) | exact (decide_eq_false (by omega)).symm
      case rest =>
        obtain ⟨rfl, rfl⟩ := hcut
        cases A with
        | true =>
          have hA' := of_decide_eq_true hA
          have HR : Hid (runR (sl.drop (k + 1)) c ((y.toNat - 97 : Nat) : Int) 0 = runR sl none16 (-1) 0) := Lib.hid (by rw [← hrd, step_letter hA'])
          clear hrd hA
          obtain ⟨⟨h1, h2⟩, h3⟩ := hA'
          obtain ⟨z, hz⟩ : ∃ z, y.toNat = z + 97 := ⟨y.toNat - 97, by omega⟩
          rw [hz] at HR h2 ⊢
          go_wp2_with fail
          go_roundw
          case rel => exact ⟨k + 1, c, _, 0, by go_num, rfl, rfl, HK.out, by omega, by omega, by omega, HR.out, HC.out, K2.out, K4.out, HB.out⟩
          case measure => exact meas_up m k _ rfl HK.out
        | false =>
          have NA := Lib.hid (of_decide_eq_false hA)
          obtain ⟨B, hB⟩ : ∃ b, decide (((48 ≤ y.toNat ∧ y.toNat ≤ 57) ∧ 0 ≤ node) ∧ t ≤ 65536) = b := ⟨_, rfl⟩
          clear hA
          go_upto_region 12 with fail
          go_cut [38] (fun v wx => v = .bool B ∧ wr = wx)
          case first =>
            go_wp2_with fail
            all_goals go_meet
            all_goals refine ⟨congrArg Value.bool ?_, rfl⟩
            all_goals rw [← hB]
            all_goals first | exact decide_eq_decide.2 (by omega) | exact (decide_eq_false (by omega)).symm
          case rest =>
            obtain ⟨rfl, rfl⟩ := hcut
            cases B with
            | true =>
              have hB' := of_decide_eq_true hB
              have HR : Hid (runR (sl.drop (k + 1)) c node (10 * t + (y.toNat - 48)) = runR sl none16 (-1) 0) := Lib.hid (by rw [← hrd, step_digit NA.out hB'])
              clear hrd hB
              obtain ⟨⟨⟨h1, h2⟩, h3⟩, h4⟩ := hB'
              obtain ⟨z, hz⟩ : ∃ z, y.toNat = z + 48 := ⟨y.toNat - 48, by omega⟩
              rw [hz] at HR h2 ⊢
              go_wp2_with fail
              go_roundw
              case rel => exact ⟨k + 1, c, node, 10 * t + z, by go_num, rfl, by go_num, HK.out, hn0, hn1, by omega, HR.out, HC.out, K2.out, K4.out, HB.out⟩
              case measure => exact meas_up m k _ rfl HK.out
            | false =>
              have NB := Lib.hid (of_decide_eq_false hB)
              obtain ⟨C, hC⟩ : ∃ b, decide (y.toNat = 32 ∧ 0 ≤ node) = b := ⟨_, rfl⟩
              clear hB
              go_upto_region 14 with fail
              go_cut [59] (fun v wx => v = .bool C ∧ wr = wx)
              case first =>
                obtain ⟨b1, hb1⟩ : ∃ b, ((y.toNat : Int) == 32) = b := ⟨_, rfl⟩
                have HY : Hid (decide (y.toNat = 32) = b1) := Lib.hid (by
                  rw [← hb1, show (((y.toNat : Int) == 32) = decide ((y.toNat : Int) = 32)) from rfl]
                  exact decide_eq_decide.2 (by omega))
                cases b1
                case false =>
                  go_wp2_with fail
                  all_goals go_meet
                  all_goals refine ⟨congrArg Value.bool ?_, rfl⟩
                  all_goals rw [← hC]
                  all_goals have := of_decide_eq_false HY.out
                  all_goals exact (decide_eq_false (by omega)).symm
                case true =>
                  go_wp2_with fail
                  all_goals go_meet
                  all_goals refine ⟨congrArg Value.bool ?_, rfl⟩
                  all_goals rw [← hC]
                  all_goals have := of_decide_eq_true HY.out
                  all_goals exact decide_eq_decide.2 (by omega)
              case rest =>
                obtain ⟨rfl, rfl⟩ := hcut
                cases C with
                | true =>
                  have hC' := of_decide_eq_true hC
                  have HR : Hid ((if okB node t then runR (sl.drop (k + 1)) (setC c node t) (-1) t else none) = runR sl none16 (-1) 0) := Lib.hid (by
                    rw [← hrd, step_blank NA.out NB.out hC']
                    cases okB node t <;> rfl)
                  have ST := Lib.hid (rset_any c node t HC.out)
                  have HSC : Hid (Cos (setC c node t)) := Lib.hid (HC.out.set _ _)
                  have HSE : Hid (setE node t = if okB node t then 0 else 1) := Lib.hid rfl
                  obtain ⟨d, hd⟩ : ∃ d, setC c node t = d := ⟨_, rfl⟩
                  obtain ⟨r, hr⟩ : ∃ r, setE node t = r := ⟨_, rfl⟩
                  rw [hd] at ST HR HSC
                  rw [hr] at ST HSE
                  obtain ⟨b, hbq⟩ : ∃ b, (r == 0) = b := ⟨_, rfl⟩
                  have HO : Hid (okB node t = b) := Lib.hid (by rw [← hbq, HSE.out]; cases okB node t <;> rfl)
                  rw [HO.out] at HR
                  clear hrd hC hC' hd hr HSE
                  have hld := cos_load K4.out HC.out
                  go_wp2_with fail
                  refine (ST.out _).mono ?_
                  rintro e wn ⟨rfl, hb⟩
                  clear hld
                  have hst := new_store (w := wn) rfl HSC.out
                  go_upto_region 16 with fail
                  clear hst
                  have k9 := Blk.new wn (cosP d) 25
                  have k2 := (K2.out.on hb).next (.cells (cosP d).toArray 25)
                  have k4 := (K4.out.on hb).next (.cells (cosP d).toArray 25)
                  have kb := (bel_on HB.out hb).alloc (bel_on HB.out hb).size (.cells (cosP d).toArray 25)
                  have hne : wn.heap.size ≠ w.heap.size + 1 := by have := (K4.out.on hb).lt; omega
                  obtain ⟨g, hg⟩ : ∃ g, wn.heap.size = g := ⟨_, rfl⟩
                  rw [hg] at k9 hne ⊢
                  obtain ⟨wz, hwz⟩ : ∃ wz, (wn.alloc (.cells (cosP d).toArray 25)) = wz := ⟨_, rfl⟩
                  rw [hwz] at k9 k2 k4 kb ⊢
                  clear hwz hg hb
                  cases b with
                  | true =>
                    have HR' : Hid (runR (sl.drop (k + 1)) d (-1) t = runR sl none16 (-1) 0) := Lib.hid (by rw [← HR.out, if_pos rfl])
                    have hl := cos_load k9 HSC.out
                    have hst := cos_store k4 HC.out HSC.out
                    have K4' := Lib.hid (k4.put (cosP d))
                    have K2' := Lib.hid (k2.beside (w.heap.size + 1) (by omega) (cosP d).toArray)
                    have KB' := Lib.hid (below_setRow kb (show w.heap.size ≤ w.heap.size + 1 by omega) (cosP d).toArray)
                    clear k9 k2 k4 kb HR
                    go_wp2_with fail
                    go_roundw
                    case rel => exact ⟨k + 1, d, -1, t, by go_num, rfl, rfl, HK.out, by omega, by omega, ht, HR'.out, HSC.out, K2'.out, K4'.out, KB'.out⟩
                    case measure => exact meas_up m k _ rfl HK.out
                  | false =>
                    have HN : Hid (pv = (none16, 3)) := Lib.hid (by rw [HV.out, ← HR.out, if_neg (by decide)]; rfl)
                    have hst := zero_store k2 Cos.zero
                    have hv := cos_var (zero_var k2) Cos.zero
                    have hb := below_setRow kb (Nat.le_refl _) #[.int .i64 0, .int .u32 0, .int .u32 0, .int .u32 0, .int .u32 0, .int .u32 0, .int .u32 0, .int .u32 0, .int .u32 0, .int .u32 0, .int .u32 0, .int .u32 0, .int .u32 0, .int .u32 0, .int .u32 0, .int .u32 0, .int .u32 0]
                    clear k9 k2 k4 kb HR
                    go_wp2_with fail
                    rw [HN.out]
                    exact bodyPost_ret (v := .tuple #[.agg (cosP none16).toArray, .int .i64 3]) (by simp [results, Tryd.results20, asAddr, hv]) rfl ⟨rfl, hb⟩
                | false =>
                  have hC' := of_decide_eq_false hC
                  have HN : Hid (pv = (none16, 3)) := Lib.hid (by rw [HV.out, ← hrd, step_none NA.out NB.out hC']; rfl)
                  clear hrd hC hC'
                  have hst := zero_store K2.out Cos.zero
                  have hv := cos_var (zero_var K2.out) Cos.zero
                  have hb := below_setRow HB.out (Nat.le_refl _) #[.int .i64 0, .int .u32 0, .int .u32 0, .int .u32 0, .int .u32 0, .int .u32 0, .int .u32 0, .int .u32 0, .int .u32 0, .int .u32 0, .int .u32 0, .int .u32 0, .int .u32 0, .int .u32 0, .int .u32 0, .int .u32 0, .int .u32 0]
                  go_wp2_with fail
                  rw [HN.out]
                  exact bodyPost_ret (v := .tuple #[.agg (cosP none16).toArray, .int .i64 3]) (by simp [results, Tryd.results20, asAddr, hv]) rfl ⟨rfl, hb⟩
    · obtain rfl : k = m := by omega
      have hnil : sl.drop k = [] := List.drop_eq_nil_of_le (by rw [HNL.out]; exact Nat.le_refl _)
      rw [hnil] at hrd
      have HRD : Hid (pv = doneV sl (some c)) := Lib.hid (by rw [HV.out, ← hrd]; rfl)
      have TX := Lib.hid (fun w => rtext_any c HC.out w)
      have HTL : Hid ((str (textC c)).toList = textC c ∧ s.toList = sl) := Lib.hid ⟨by rw [Lib.toList_data, str_list], by rw [Lib.toList_data, HSL.out]⟩
      obtain ⟨q, hq⟩ : ∃ q, str (textC c) = q := ⟨_, rfl⟩
      rw [hq] at TX HTL
      obtain ⟨b, hbq⟩ : ∃ b, (q.toList == s.toList) = b := ⟨_, rfl⟩
      have hld := cos_load K4.out HC.out
      clear hnil hk hrd hq
      go_wp2_with fail
      refine (TX.out _).mono ?_
      rintro e wn ⟨rfl, hb⟩
      clear hld
      have K2' := Lib.hid (K2.out.on hb)
      have K4' := Lib.hid (K4.out.on hb)
      have HB' := Lib.hid (bel_on HB.out hb)
      clear hb
      cases b with
      | true =>
        have HN : Hid (pv = (c, 0)) := Lib.hid (by
          have h := eq_of_beq hbq
          rw [HTL.out.1, HTL.out.2] at h
          rw [HRD.out, done_yes h])
        have hl := cos_load K4'.out HC.out
        have hst := cos_store K2'.out Cos.zero HC.out
        have hv := cos_var (K2'.out.put (cosP c)) HC.out
        have hb := below_setRow HB'.out (Nat.le_refl _) (cosP c).toArray
        go_wp2_with fail
        rw [HN.out]
        exact bodyPost_ret (v := .tuple #[.agg (cosP c).toArray, .int .i64 0]) (by simp [results, Tryd.results20, asAddr, hv]) rfl ⟨rfl, hb⟩
      | false =>
        have HN : Hid (pv = (none16, 3)) := Lib.hid (by
          have h := ne_of_beq_false hbq
          rw [HTL.out.1, HTL.out.2] at h
          rw [HRD.out, done_no h])
        have hst := zero_store K2'.out Cos.zero
        have hv := cos_var (zero_var K2'.out) Cos.zero
        have hb := below_setRow HB'.out (Nat.le_refl _) #[.int .i64 0, .int .u32 0, .int .u32 0, .int .u32 0, .int .u32 0, .int .u32 0, .int .u32 0, .int .u32 0, .int .u32 0, .int .u32 0, .int .u32 0, .int .u32 0, .int .u32 0, .int .u32 0, .int .u32 0, .int .u32 0, .int .u32 0]
        go_wp2_with fail
        rw [HN.out]
        exact bodyPost_ret (v := .tuple #[.agg (cosP none16).toArray, .int .i64 3]) (by simp [results, Tryd.results20, asAddr, hv]) rfl ⟨rfl, hb⟩
theorem rparse_any (s : ByteArray) (w : World) : Calls Tryd.prog 20 #[.string s] w fun e w' => e = .returned (.tuple #[.agg (cosP (parseD s.data.toList).1).toArray, .int .i64 (parseD s.data.toList).2]) ∧ Below w.heap.size w w' := by
  by_cases h : s.size ≤ 300
  · exact rparse_short s w h
  · exact rparse_long s w (by omega)
end Go.Proofs.YtnbbepelagdenaaDoor
