/- Contracts of package tree, part X: the document's own Parse. -/
import Derived.Test.YtelfbkfmngjheaaDoorTreW
import Derived.Test.YtelfbkfmngjheaaDoorTreO
namespace Go.Proofs.YtelfbkfmngjheaaDoor
open Go.RowKit Go.Sort TreF NumF
attribute [local go_sem ↓] loadAt_tre storeAt_tre loadAt_ent storeAt_ent

set_option maxRecDepth 100000 in
theorem rtparse_long (s : ByteArray) (w : World) (hl : 300 < s.size) : Calls Tryd.prog 21 #[.string s] w fun e w' => e = .returned (.tuple #[.agg (treC (parseD s.data.toList).1).toArray, .int .i64 (parseD s.data.toList).2]) ∧ Below w.heap.size w w' := by
  have HV : Hid (parseD s.data.toList = (zero16, 4)) := Lib.hid (by unfold parseD; rw [if_pos (by rw [size_list]; exact hl)])
  have d1 : decide ((300 : Int) < (s.size : Int)) = true := decide_eq_true (by omega)
  have NW : Hid (Gives Tryd.prog 7 #[.int .i64 (-1)] (.agg (treC far16).toArray)) := Lib.hid (by
    have h := rnew_any (-1)
    rw [show newT (-1) = far16 from put_no _ _ (by decide)] at h
    exact h)
  rw [HV.out]
  clear hl
  go_enter Tryd.func21, Tryd.ntmps21
  go_upto_region 1 with fail
  have k0 := tzero_new w
  have h0 := (Below.refl w.heap.size w).alloc (Nat.le_refl _) (.cells #[.int .u32 0, .int .i64 0, .int .u32 0, .int .i64 0, .int .u32 0, .int .i64 0, .int .u32 0, .int .i64 0, .int .u32 0, .int .i64 0, .int .u32 0, .int .i64 0, .int .u32 0, .int .i64 0, .int .u32 0, .int .i64 0, .int .u32 0, .int .i64 0, .int .u32 0, .int .i64 0, .int .u32 0, .int .i64 0, .int .u32 0, .int .i64 0, .int .u32 0, .int .i64 0, .int .u32 0, .int .i64 0, .int .u32 0, .int .i64 0, .int .u32 0, .int .i64 0] 26)
  obtain ⟨wa, hwa⟩ : ∃ v, w.alloc (.cells #[.int .u32 0, .int .i64 0, .int .u32 0, .int .i64 0, .int .u32 0, .int .i64 0, .int .u32 0, .int .i64 0, .int .u32 0, .int .i64 0, .int .u32 0, .int .i64 0, .int .u32 0, .int .i64 0, .int .u32 0, .int .i64 0, .int .u32 0, .int .i64 0, .int .u32 0, .int .i64 0, .int .u32 0, .int .i64 0, .int .u32 0, .int .i64 0, .int .u32 0, .int .i64 0, .int .u32 0, .int .i64 0, .int .u32 0, .int .i64 0, .int .u32 0, .int .i64 0] 26) = v := ⟨_, rfl⟩
  rw [hwa] at k0 h0 ⊢
  clear hwa
  go_wp2_with fail
  refine (NW.out _).mono ?_
  rintro e w1 ⟨rfl, hb⟩
  have hst := new_tre (w := w1) rfl Tre.far
  have K0 := Lib.hid ((k0.on hb).next (.cells (treC far16).toArray 26))
  have HB := Lib.hid ((bel_on h0 hb).alloc (bel_on h0 hb).size (.cells (treC far16).toArray 26))
  clear k0 h0 hb
  go_upto_region 2 with fail
  clear hst
  obtain ⟨w2, hw2⟩ : ∃ v, w1.alloc (.cells (treC far16).toArray 26) = v := ⟨_, rfl⟩
  rw [hw2] at K0 HB ⊢
  clear hw2
  have hst := tzero_store K0.out Tre.zero
  have hv := tre_var (K0.out.put (treC zero16)) Tre.zero
  have hb := below_setRow HB.out (Nat.le_refl _) (treC zero16).toArray
  rw [zero_cells] at hv hb
  go_wp2_with fail
  exact bodyPost_ret (v := .tuple #[.agg #[.int .u32 0, .int .i64 0, .int .u32 0, .int .i64 0, .int .u32 0, .int .i64 0, .int .u32 0, .int .i64 0, .int .u32 0, .int .i64 0, .int .u32 0, .int .i64 0, .int .u32 0, .int .i64 0, .int .u32 0, .int .i64 0, .int .u32 0, .int .i64 0, .int .u32 0, .int .i64 0, .int .u32 0, .int .i64 0, .int .u32 0, .int .i64 0, .int .u32 0, .int .i64 0, .int .u32 0, .int .i64 0, .int .u32 0, .int .i64 0, .int .u32 0, .int .i64 0], .int .i64 4]) (by simp [results, Tryd.results21, asAddr, hv]) rfl ⟨rfl, hb⟩

set_option maxRecDepth 100000 in
set_option maxHeartbeats 8000000 in
theorem rtparse_short (s : ByteArray) (w : World) (hl : s.size ≤ 300) : Calls Tryd.prog 21 #[.string s] w fun e w' => e = .returned (.tuple #[.agg (treC (parseD s.data.toList).1).toArray, .int .i64 (parseD s.data.toList).2]) ∧ Below w.heap.size w w' := by
  have HV : Hid (parseD s.data.toList = doneD s.data.toList (runD s.data.toList far16 0 0 0)) := Lib.hid (by unfold parseD; rw [if_neg (by rw [size_list]; omega)])
  have d1 : decide ((300 : Int) < (s.size : Int)) = false := decide_eq_false (by omega)
  have NW : Hid (Gives Tryd.prog 7 #[.int .i64 (-1)] (.agg (treC far16).toArray)) := Lib.hid (by
    have h := rnew_any (-1)
    rw [show newT (-1) = far16 from put_no _ _ (by decide)] at h
    exact h)
  obtain ⟨sl, hsl⟩ : ∃ sl, s.data.toList = sl := ⟨_, rfl⟩
  have HSL := Lib.hid hsl
  obtain ⟨m, hm⟩ : ∃ m, s.size = m := ⟨_, rfl⟩
  have HM : Hid (m ≤ 300) := Lib.hid (by omega)
  rw [hm] at d1
  have HNL : Hid (sl.length = m) := Lib.hid (by rw [← hsl, size_list, hm])
  rw [hsl] at HV
  rw [hsl]
  obtain ⟨pv, hpv⟩ : ∃ pv, parseD sl = pv := ⟨_, rfl⟩
  rw [hpv] at HV ⊢
  obtain ⟨RUN, hRUN⟩ : ∃ r, runD sl far16 0 0 0 = r := ⟨_, rfl⟩
  have HRUN := Lib.hid hRUN
  rw [hRUN] at HV
  clear hl hpv hRUN hsl
  go_enter Tryd.func21, Tryd.ntmps21
  go_upto_region 1 with fail
  have k0 := tzero_new w
  have h0 := (Below.refl w.heap.size w).alloc (Nat.le_refl _) (.cells #[.int .u32 0, .int .i64 0, .int .u32 0, .int .i64 0, .int .u32 0, .int .i64 0, .int .u32 0, .int .i64 0, .int .u32 0, .int .i64 0, .int .u32 0, .int .i64 0, .int .u32 0, .int .i64 0, .int .u32 0, .int .i64 0, .int .u32 0, .int .i64 0, .int .u32 0, .int .i64 0, .int .u32 0, .int .i64 0, .int .u32 0, .int .i64 0, .int .u32 0, .int .i64 0, .int .u32 0, .int .i64 0, .int .u32 0, .int .i64 0, .int .u32 0, .int .i64 0] 26)
  obtain ⟨wa, hwa⟩ : ∃ v, w.alloc (.cells #[.int .u32 0, .int .i64 0, .int .u32 0, .int .i64 0, .int .u32 0, .int .i64 0, .int .u32 0, .int .i64 0, .int .u32 0, .int .i64 0, .int .u32 0, .int .i64 0, .int .u32 0, .int .i64 0, .int .u32 0, .int .i64 0, .int .u32 0, .int .i64 0, .int .u32 0, .int .i64 0, .int .u32 0, .int .i64 0, .int .u32 0, .int .i64 0, .int .u32 0, .int .i64 0, .int .u32 0, .int .i64 0, .int .u32 0, .int .i64 0, .int .u32 0, .int .i64 0] 26) = v := ⟨_, rfl⟩
  rw [hwa] at k0 h0 ⊢
  clear hwa
  go_wp2_with fail
  refine (NW.out _).mono ?_
  rintro e w1 ⟨rfl, hb⟩
  have hst := new_tre (w := w1) rfl Tre.far
  have K0 := Lib.hid ((k0.on hb).next (.cells (treC far16).toArray 26))
  have HB := Lib.hid ((bel_on h0 hb).alloc (bel_on h0 hb).size (.cells (treC far16).toArray 26))
  have hlt : w.heap.size < w1.heap.size := (k0.on hb).lt
  clear k0 h0 hb
  go_upto_region 2 with fail
  clear hst
  have K4 := Lib.hid (Blk.new w1 (treC far16) 26)
  obtain ⟨w2, hw2⟩ : ∃ v, w1.alloc (.cells (treC far16).toArray 26) = v := ⟨_, rfl⟩
  rw [hw2] at K0 K4 HB ⊢
  obtain ⟨g4, hg4⟩ : ∃ g, w1.heap.size = g := ⟨_, rfl⟩
  rw [hg4] at K4 hlt ⊢
  have HLT := Lib.hid hlt
  have hm64 : m ≤ 300 := HM.out
  clear hw2 hg4 hlt
  go_wp2_with fail
  go_loopw [18, 5, 6, 7] (fun v jd nn ss wr => ∃ (k : Nat) (t : Tr) (j n st : Nat), v = .int .i64 (k : Int) ∧ jd = .int .i64 (j : Int) ∧ nn = .int .u64 (n : Int) ∧ ss = .int .i64 (st : Int) ∧ k ≤ m ∧ (j < 16 ∧ n < 1000000000000 ∧ st ≤ 3) ∧ runD (sl.drop k) t j n st = RUN ∧ Tre t ∧ Blk wr w.heap.size (treC zero16) ∧ Blk wr g4 (treC t) ∧ Below w.heap.size w wr) (fun v _ _ _ _ => (m - intOf v).toNat)
  case atStart => exact ⟨0, far16, 0, 0, 0, rfl, rfl, rfl, rfl, Nat.zero_le _, ⟨by omega, by omega, by omega⟩, HRUN.out, Tre.far, K0.out, K4.out, HB.out⟩
  case round =>
    obtain ⟨k, t, j, n, st, rfl, rfl, rfl, rfl, hk, hjn, hrd, htt, k0, k4, kb⟩ := hrel
    have HB := Lib.hid kb
    have K0 := Lib.hid k0
    have K4 := Lib.hid k4
    have HC := Lib.hid htt
    clear kb k0 k4 htt
    by_cases hkn : k < m
    · obtain ⟨x, hx⟩ : ∃ x, sl[k]? = some x := ⟨_, List.getElem?_eq_getElem (by have := HNL.out; omega)⟩
      have hdrop : sl.drop k = x :: sl.drop (k + 1) := by
        have hlt := (List.getElem?_eq_some_iff.1 hx).1
        rw [List.drop_eq_getElem_cons hlt, (List.getElem?_eq_some_iff.1 hx).2]
      rw [hdrop] at hrd
      have hkn' : (k : Int) < (m : Int) := by omega
      have HK := Lib.hid hkn
      have HJN := Lib.hid hjn
      have e1 : wrap64 ((k : Int) + 1) = (k : Int) + 1 := IntWalk.wrap64_in _ (by omega)
      clear hdrop hkn hk hjn
      go_upto_region 10 with fail
      have hks : k < s.size := by have := HK.out; omega
      obtain ⟨y, hy⟩ : ∃ y, s[k]'hks = y := ⟨_, rfl⟩
      rw [hy]
      have hyx : y = x := by
        have h := hx
        rw [← HSL.out, Array.getElem?_toList, Array.getElem?_eq_getElem (show k < s.data.size from hks)] at h
        exact hy.symm.trans (Option.some.inj h)
      clear hy hks
      subst hyx
      clear hx
      have HRD := Lib.hid hrd
      clear hrd
      rcases (show st = 0 ∨ st = 1 ∨ st = 2 ∨ st = 3 by have := HJN.out.2.2; omega) with rfl | rfl | rfl | rfl
      · obtain ⟨a1, ha1⟩ : ∃ b, decide ((97 : Int) ≤ (y.toNat : Int)) = b := ⟨_, rfl⟩
        obtain ⟨a2, ha2⟩ : ∃ b, decide ((y.toNat : Int) ≤ 112) = b := ⟨_, rfl⟩
        cases a1 with
        | true =>
          cases a2 with
          | true =>
            have h1 := of_decide_eq_true ha1
            have h2 := of_decide_eq_true ha2
            obtain ⟨c, hc⟩ : ∃ c, y.toNat - 97 = c := ⟨_, rfl⟩
            have HR : Hid (runD (sl.drop (k + 1)) t c 0 1 = RUN) := Lib.hid (by rw [← HRD.out, run_step _ (step_A ⟨rfl, by omega, by omega⟩), hc])
            have w97 : IntKind.u8.wrap ((y.toNat : Int) - 97) = (c : Int) := by rw [IntKind.wrap_u8]; omega
            have wi : wrap64 (c : Int) = (c : Int) := IntWalk.wrap64_in _ (by omega)
            have HCC : Hid (c < 16) := Lib.hid (by omega)
            clear h1 h2 hc
            go_wp2_with fail
            go_roundw
            case rel => exact ⟨k + 1, t, c, 0, 1, by go_num, by rw [wi], rfl, rfl, HK.out, ⟨HCC.out, by omega, by omega⟩, HR.out, HC.out, K0.out, K4.out, HB.out⟩
            case measure => exact meas_up m k _ rfl HK.out
          | false =>
            have h2 := of_decide_eq_false ha2
            have HN : Hid (pv = (zero16, 3)) := Lib.hid (by rw [HV.out, ← HRD.out, run_stop _ (step_N (by omega) (by omega) (by omega) (by omega))]; rfl)
            clear h2
            have hst := tzero_store K0.out Tre.zero
            have hv := tre_var (K0.out.put (treC zero16)) Tre.zero
            have hb := below_setRow HB.out (Nat.le_refl _) (treC zero16).toArray
            rw [zero_cells] at hv hb
            go_wp2_with fail
            rw [HN.out]
            exact bodyPost_ret (v := .tuple #[.agg #[.int .u32 0, .int .i64 0, .int .u32 0, .int .i64 0, .int .u32 0, .int .i64 0, .int .u32 0, .int .i64 0, .int .u32 0, .int .i64 0, .int .u32 0, .int .i64 0, .int .u32 0, .int .i64 0, .int .u32 0, .int .i64 0, .int .u32 0, .int .i64 0, .int .u32 0, .int .i64 0, .int .u32 0, .int .i64 0, .int .u32 0, .int .i64 0, .int .u32 0, .int .i64 0, .int .u32 0, .int .i64 0, .int .u32 0, .int .i64 0, .int .u32 0, .int .i64 0], .int .i64 3]) (by simp [results, Tryd.results21, asAddr, hv]) rfl ⟨rfl, hb⟩
        | false =>
          have h1 := of_decide_eq_false ha1
          have HN : Hid (pv = (zero16, 3)) := Lib.hid (by rw [HV.out, ← HRD.out, run_stop _ (step_N (by omega) (by omega) (by omega) (by omega))]; rfl)
          clear h1
          have hst := tzero_store K0.out Tre.zero
          have hv := tre_var (K0.out.put (treC zero16)) Tre.zero
          have hb := below_setRow HB.out (Nat.le_refl _) (treC zero16).toArray
          rw [zero_cells] at hv hb
          go_wp2_with fail
          rw [HN.out]
          exact bodyPost_ret (v := .tuple #[.agg #[.int .u32 0, .int .i64 0, .int .u32 0, .int .i64 0, .int .u32 0, .int .i64 0, .int .u32 0, .int .i64 0, .int .u32 0, .int .i64 0, .int .u32 0, .int .i64 0, .int .u32 0, .int .i64 0, .int .u32 0, .int .i64 0, .int .u32 0, .int .i64 0, .int .u32 0, .int .i64 0, .int .u32 0, .int .i64 0, .int .u32 0, .int .i64 0, .int .u32 0, .int .i64 0, .int .u32 0, .int .i64 0, .int .u32 0, .int .i64 0, .int .u32 0, .int .i64 0], .int .i64 3]) (by simp [results, Tryd.results21, asAddr, hv]) rfl ⟨rfl, hb⟩
      · obtain ⟨b1, hb1⟩ : ∃ b, decide ((48 : Int) ≤ (y.toNat : Int)) = b := ⟨_, rfl⟩
        obtain ⟨b2, hb2⟩ : ∃ b, decide ((y.toNat : Int) ≤ 57) = b := ⟨_, rfl⟩
        obtain ⟨b3, hb3⟩ : ∃ b, decide ((n : Int) < 4294967296) = b := ⟨_, rfl⟩
        cases b1 with
        | true =>
          cases b2 with
          | true =>
            cases b3 with
            | true =>
              have h1 := of_decide_eq_true hb1
              have h2 := of_decide_eq_true hb2
              have h3 := of_decide_eq_true hb3
              obtain ⟨c, hc⟩ : ∃ c, y.toNat - 48 = c := ⟨_, rfl⟩
              have HR : Hid (runD (sl.drop (k + 1)) t j (10 * n + c) 2 = RUN) := Lib.hid (by rw [← HRD.out, run_step _ (step_B (by omega) (by omega)), hc])
              have w48 : IntKind.u8.wrap ((y.toNat : Int) - 48) = (c : Int) := by rw [IntKind.wrap_u8]; omega
              have wc : IntKind.u64.wrap (c : Int) = (c : Int) := by rw [IntKind.wrap_u64]; omega
              have wm : IntKind.u64.wrap (10 * (n : Int)) = ((10 * n : Nat) : Int) := by rw [IntKind.wrap_u64]; omega
              have ws : IntKind.u64.wrap (((10 * n : Nat) : Int) + (c : Int)) = ((10 * n + c : Nat) : Int) := by rw [IntKind.wrap_u64]; omega
              have HNN : Hid (10 * n + c < 1000000000000) := Lib.hid (by omega)
              obtain ⟨n10, hn10⟩ : ∃ q, 10 * n = q := ⟨_, rfl⟩
              rw [hn10] at wm ws HNN HR
              obtain ⟨n2, hn2⟩ : ∃ q, n10 + c = q := ⟨_, rfl⟩
              rw [hn2] at ws HNN HR
              clear h1 h2 h3 hc hn10 hn2
              go_wp2_with fail
              go_roundw
              case rel => exact ⟨k + 1, t, j, n2, 2, by go_num, rfl, rfl, rfl, HK.out, ⟨HJN.out.1, HNN.out, by omega⟩, HR.out, HC.out, K0.out, K4.out, HB.out⟩
              case measure => exact meas_up m k _ rfl HK.out
            | false =>
              have HNB : Hid (¬ n < 4294967296) := Lib.hid (by have := of_decide_eq_false hb3; omega)
              have HN : Hid (pv = (zero16, 3)) := Lib.hid (by rw [HV.out, ← HRD.out, run_stop _ (step_N (by omega) (by have := HNB.out; omega) (by omega) (by omega))]; rfl)
              have hst := tzero_store K0.out Tre.zero
              have hv := tre_var (K0.out.put (treC zero16)) Tre.zero
              have hb := below_setRow HB.out (Nat.le_refl _) (treC zero16).toArray
              rw [zero_cells] at hv hb
              go_wp2_with fail
              rw [HN.out]
              exact bodyPost_ret (v := .tuple #[.agg #[.int .u32 0, .int .i64 0, .int .u32 0, .int .i64 0, .int .u32 0, .int .i64 0, .int .u32 0, .int .i64 0, .int .u32 0, .int .i64 0, .int .u32 0, .int .i64 0, .int .u32 0, .int .i64 0, .int .u32 0, .int .i64 0, .int .u32 0, .int .i64 0, .int .u32 0, .int .i64 0, .int .u32 0, .int .i64 0, .int .u32 0, .int .i64 0, .int .u32 0, .int .i64 0, .int .u32 0, .int .i64 0, .int .u32 0, .int .i64 0, .int .u32 0, .int .i64 0], .int .i64 3]) (by simp [results, Tryd.results21, asAddr, hv]) rfl ⟨rfl, hb⟩
          | false =>
            have HNB : Hid (57 < y.toNat) := Lib.hid (by have := of_decide_eq_false hb2; omega)
            have HN : Hid (pv = (zero16, 3)) := Lib.hid (by rw [HV.out, ← HRD.out, run_stop _ (step_N (by omega) (by have := HNB.out; omega) (by omega) (by omega))]; rfl)
            have hst := tzero_store K0.out Tre.zero
            have hv := tre_var (K0.out.put (treC zero16)) Tre.zero
            have hb := below_setRow HB.out (Nat.le_refl _) (treC zero16).toArray
            rw [zero_cells] at hv hb
            go_wp2_with fail
            rw [HN.out]
            exact bodyPost_ret (v := .tuple #[.agg #[.int .u32 0, .int .i64 0, .int .u32 0, .int .i64 0, .int .u32 0, .int .i64 0, .int .u32 0, .int .i64 0, .int .u32 0, .int .i64 0, .int .u32 0, .int .i64 0, .int .u32 0, .int .i64 0, .int .u32 0, .int .i64 0, .int .u32 0, .int .i64 0, .int .u32 0, .int .i64 0, .int .u32 0, .int .i64 0, .int .u32 0, .int .i64 0, .int .u32 0, .int .i64 0, .int .u32 0, .int .i64 0, .int .u32 0, .int .i64 0, .int .u32 0, .int .i64 0], .int .i64 3]) (by simp [results, Tryd.results21, asAddr, hv]) rfl ⟨rfl, hb⟩
        | false =>
          have HNB : Hid (y.toNat < 48) := Lib.hid (by have := of_decide_eq_false hb1; omega)
          have HN : Hid (pv = (zero16, 3)) := Lib.hid (by rw [HV.out, ← HRD.out, run_stop _ (step_N (by omega) (by have := HNB.out; omega) (by omega) (by omega))]; rfl)
          have hst := tzero_store K0.out Tre.zero
          have hv := tre_var (K0.out.put (treC zero16)) Tre.zero
          have hb := below_setRow HB.out (Nat.le_refl _) (treC zero16).toArray
          rw [zero_cells] at hv hb
          go_wp2_with fail
          rw [HN.out]
          exact bodyPost_ret (v := .tuple #[.agg #[.int .u32 0, .int .i64 0, .int .u32 0, .int .i64 0, .int .u32 0, .int .i64 0, .int .u32 0, .int .i64 0, .int .u32 0, .int .i64 0, .int .u32 0, .int .i64 0, .int .u32 0, .int .i64 0, .int .u32 0, .int .i64 0, .int .u32 0, .int .i64 0, .int .u32 0, .int .i64 0, .int .u32 0, .int .i64 0, .int .u32 0, .int .i64 0, .int .u32 0, .int .i64 0, .int .u32 0, .int .i64 0, .int .u32 0, .int .i64 0, .int .u32 0, .int .i64 0], .int .i64 3]) (by simp [results, Tryd.results21, asAddr, hv]) rfl ⟨rfl, hb⟩
      · obtain ⟨b1, hb1⟩ : ∃ b, decide ((48 : Int) ≤ (y.toNat : Int)) = b := ⟨_, rfl⟩
        obtain ⟨b2, hb2⟩ : ∃ b, decide ((y.toNat : Int) ≤ 57) = b := ⟨_, rfl⟩
        obtain ⟨b3, hb3⟩ : ∃ b, decide ((n : Int) < 4294967296) = b := ⟨_, rfl⟩
        cases b1 with
        | true =>
          cases b2 with
          | true =>
            cases b3 with
            | true =>
              have h1 := of_decide_eq_true hb1
              have h2 := of_decide_eq_true hb2
              have h3 := of_decide_eq_true hb3
              obtain ⟨c, hc⟩ : ∃ c, y.toNat - 48 = c := ⟨_, rfl⟩
              have HR : Hid (runD (sl.drop (k + 1)) t j (10 * n + c) 2 = RUN) := Lib.hid (by rw [← HRD.out, run_step _ (step_B (by omega) (by omega)), hc])
              have w48 : IntKind.u8.wrap ((y.toNat : Int) - 48) = (c : Int) := by rw [IntKind.wrap_u8]; omega
              have wc : IntKind.u64.wrap (c : Int) = (c : Int) := by rw [IntKind.wrap_u64]; omega
              have wm : IntKind.u64.wrap (10 * (n : Int)) = ((10 * n : Nat) : Int) := by rw [IntKind.wrap_u64]; omega
              have ws : IntKind.u64.wrap (((10 * n : Nat) : Int) + (c : Int)) = ((10 * n + c : Nat) : Int) := by rw [IntKind.wrap_u64]; omega
              have HNN : Hid (10 * n + c < 1000000000000) := Lib.hid (by omega)
              obtain ⟨n10, hn10⟩ : ∃ q, 10 * n = q := ⟨_, rfl⟩
              rw [hn10] at wm ws HNN HR
              obtain ⟨n2, hn2⟩ : ∃ q, n10 + c = q := ⟨_, rfl⟩
              rw [hn2] at ws HNN HR
              clear h1 h2 h3 hc hn10 hn2
              go_wp2_with fail
              go_roundw
              case rel => exact ⟨k + 1, t, j, n2, 2, by go_num, rfl, rfl, rfl, HK.out, ⟨HJN.out.1, HNN.out, by omega⟩, HR.out, HC.out, K0.out, K4.out, HB.out⟩
              case measure => exact meas_up m k _ rfl HK.out
            | false =>
              have HNB : Hid (¬ n < 4294967296) := Lib.hid (by have := of_decide_eq_false hb3; omega)
              obtain ⟨c4, hc4⟩ : ∃ b, ((y.toNat : Int) == 46) = b := ⟨_, rfl⟩
              have hc5 : ((y.toNat : Int) != 46) = !c4 := by rw [← hc4]; rfl
              have HC4 : Hid (decide (y.toNat = 46) = c4) := Lib.hid (by
                rw [← hc4, show (((y.toNat : Int) == 46) = decide ((y.toNat : Int) = 46)) from rfl]
                exact decide_eq_decide.2 (by omega))
              obtain ⟨a1, ha1⟩ : ∃ b, decide ((97 : Int) ≤ (y.toNat : Int)) = b := ⟨_, rfl⟩
              obtain ⟨a2, ha2⟩ : ∃ b, decide ((y.toNat : Int) ≤ 112) = b := ⟨_, rfl⟩
              obtain ⟨d4, hd4⟩ : ∃ b, decide ((n : Int) < 4294967295) = b := ⟨_, rfl⟩
              cases d4 with
              | true =>
                have HN4 : Hid (n < 4294967295) := Lib.hid (by have := of_decide_eq_true hd4; omega)
                cases c4 with
                | true =>
                  have HY := Lib.hid (of_decide_eq_true HC4.out)
                  have HR : Hid (runD (sl.drop (k + 1)) (t.set j (n, -1)) j n 3 = RUN) := Lib.hid (by
                    rw [← HRD.out, run_step _ (step_C (by omega) (by have := HNB.out; omega) ⟨⟨rfl, .inl HY.out⟩, HN4.out⟩), if_pos HY.out])
                  have w32 : IntKind.u32.wrap (n : Int) = (n : Int) := by have := HN4.out; rw [IntKind.wrap_u32]; omega
                  have hst := new_ent (w := wr) (d := (n : Int)) (p := -1) rfl
                  go_upto_region 16 with fail
                  clear hst
                  have KE := Lib.hid (Blk.new wr [.int .u32 (n : Int), .int .i64 (-1)] 24)
                  have K0' := Lib.hid (K0.out.next (.cells #[.int .u32 (n : Int), .int .i64 (-1)] 24))
                  have K4' := Lib.hid (K4.out.next (.cells #[.int .u32 (n : Int), .int .i64 (-1)] 24))
                  have HB' := Lib.hid (HB.out.alloc HB.out.size (.cells #[.int .u32 (n : Int), .int .i64 (-1)] 24))
                  have hge : w.heap.size < wr.heap.size ∧ g4 < wr.heap.size := ⟨K0.out.lt, K4.out.lt⟩
                  clear K0 K4 HB
                  obtain ⟨w3, hw3⟩ : ∃ v, wr.alloc (.cells #[.int .u32 (n : Int), .int .i64 (-1)] 24) = v := ⟨_, rfl⟩
                  rw [hw3] at KE K0' K4' HB' ⊢
                  obtain ⟨ge, hge2⟩ : ∃ g, wr.heap.size = g := ⟨_, rfl⟩
                  rw [hge2] at KE hge ⊢
                  have HGE := Lib.hid hge
                  clear hw3 hge hge2
                  have K0 := K0'
                  have K4 := K4'
                  have HB := HB'
                  clear K0' K4' HB'
                  have HOK : Hid (Ok (n, (-1))) := Lib.hid (ok_node (by have := HN4.out; omega) (.inl rfl))
                  have HS := Lib.hid (HC.out.set j HOK.out)
                  have PU := Lib.hid (fun w => rput_in t j n (-1) w HC.out HJN.out.1 HOK.out)
                  obtain ⟨u, hu⟩ : ∃ u, t.set j (n, (-1)) = u := ⟨_, rfl⟩
                  rw [hu] at HS PU HR
                  clear hu
                  have l4 := tre_load K4.out HC.out
                  have le := one_load KE.out
                  go_wp2_with fail
                  refine (PU.out _).mono ?_
                  rintro e w5 ⟨rfl, hb⟩
                  clear l4 le
                  have s4 := tre_store (K4.out.on hb) HC.out HS.out
                  have C4 := Lib.hid ((K4.out.on hb).put (treC u))
                  have C0 := Lib.hid ((K0.out.on hb).beside g4 (by have := HLT.out; omega) (treC u).toArray)
                  have CB := Lib.hid (below_setRow (bel_on HB.out hb) (show w.heap.size ≤ g4 by have := HLT.out; omega) (treC u).toArray)
                  clear hb K0 K4 HB KE
                  go_wp2_with fail
                  clear s4
                  obtain ⟨w6, hw6⟩ : ∃ v, w5.setRow g4 (treC u).toArray = v := ⟨_, rfl⟩
                  rw [hw6] at C4 C0 CB ⊢
                  clear hw6
                  go_roundw
                  case rel => exact ⟨k + 1, u, j, n, 3, by go_num, rfl, rfl, rfl, HK.out, ⟨HJN.out.1, HJN.out.2.1, by omega⟩, HR.out, HS.out, C0.out, C4.out, CB.out⟩
                  case measure => exact meas_up m k _ rfl HK.out
                | false =>
                  have HY := Lib.hid (of_decide_eq_false HC4.out)
                  cases a1 with
                  | true =>
                    cases a2 with
                    | true =>
                      have h1 := of_decide_eq_true ha1
                      have h2 := of_decide_eq_true ha2
                      obtain ⟨c, hc⟩ : ∃ c, y.toNat - 97 = c := ⟨_, rfl⟩
                      have HR : Hid (runD (sl.drop (k + 1)) (t.set j (n, (c : Int))) j n 3 = RUN) := Lib.hid (by
                        rw [← HRD.out, run_step _ (step_C (by omega) (by have := HNB.out; omega) ⟨⟨rfl, .inr ⟨by omega, by omega⟩⟩, HN4.out⟩), if_neg HY.out, hc])
                      have w97 : IntKind.u8.wrap ((y.toNat : Int) - 97) = (c : Int) := by rw [IntKind.wrap_u8]; omega
                      have wi : wrap64 (c : Int) = (c : Int) := IntWalk.wrap64_in _ (by omega)
                      have HCC : Hid (c < 16) := Lib.hid (by omega)
                      clear h1 h2 hc
                      have w32 : IntKind.u32.wrap (n : Int) = (n : Int) := by have := HN4.out; rw [IntKind.wrap_u32]; omega
                      have hst := new_ent (w := wr) (d := (n : Int)) (p := -1) rfl
                      go_upto_region 16 with fail
                      clear hst
                      have KE := Lib.hid (Blk.new wr [.int .u32 (n : Int), .int .i64 (-1)] 24)
                      have K0' := Lib.hid (K0.out.next (.cells #[.int .u32 (n : Int), .int .i64 (-1)] 24))
                      have K4' := Lib.hid (K4.out.next (.cells #[.int .u32 (n : Int), .int .i64 (-1)] 24))
                      have HB' := Lib.hid (HB.out.alloc HB.out.size (.cells #[.int .u32 (n : Int), .int .i64 (-1)] 24))
                      have hge : w.heap.size < wr.heap.size ∧ g4 < wr.heap.size := ⟨K0.out.lt, K4.out.lt⟩
                      clear K0 K4 HB
                      obtain ⟨w3, hw3⟩ : ∃ v, wr.alloc (.cells #[.int .u32 (n : Int), .int .i64 (-1)] 24) = v := ⟨_, rfl⟩
                      rw [hw3] at KE K0' K4' HB' ⊢
                      obtain ⟨ge, hge2⟩ : ∃ g, wr.heap.size = g := ⟨_, rfl⟩
                      rw [hge2] at KE hge ⊢
                      have HGE := Lib.hid hge
                      clear hw3 hge hge2
                      have K0 := K0'
                      have K4 := K4'
                      have HB := HB'
                      clear K0' K4' HB'
                      have c1 := KE.out.cell 1 rfl
                      have g1 := KE.out.thaw 1
                      go_upto_region 18 with fail
                      clear c1 g1
                      have KE' := Lib.hid (KE.out.set 1 (.int .i64 (c : Int)))
                      have K0' := Lib.hid (K0.out.other ⟨ge, 1, none⟩ (.int .i64 (c : Int)) (by have := HGE.out.1; show w.heap.size ≠ ge; omega))
                      have K4' := Lib.hid (K4.out.other ⟨ge, 1, none⟩ (.int .i64 (c : Int)) (by have := HGE.out.2; show g4 ≠ ge; omega))
                      have HB' := Lib.hid (HB.out.setCell (p := ⟨ge, 1, none⟩) (show w.heap.size ≤ ge by have := HGE.out.1; omega) (.int .i64 (c : Int)))
                      clear KE K0 K4 HB
                      obtain ⟨w4, hw4⟩ : ∃ v, w3.setCell ⟨ge, 1, none⟩ (.int .i64 (c : Int)) = v := ⟨_, rfl⟩
                      rw [hw4] at KE' K0' K4' HB' ⊢
                      clear hw4
                      have KE : Hid (Blk w4 ge [.int .u32 (n : Int), .int .i64 (c : Int)]) := Lib.hid KE'.out
                      have K0 := K0'
                      have K4 := K4'
                      have HB := HB'
                      clear KE' K0' K4' HB'
                      have HOK : Hid (Ok (n, (c : Int))) := Lib.hid (ok_node (by have := HN4.out; omega) (.inr (node_nat HCC.out)))
                      have HS := Lib.hid (HC.out.set j HOK.out)
                      have PU := Lib.hid (fun w => rput_in t j n (c : Int) w HC.out HJN.out.1 HOK.out)
                      obtain ⟨u, hu⟩ : ∃ u, t.set j (n, (c : Int)) = u := ⟨_, rfl⟩
                      rw [hu] at HS PU HR
                      clear hu
                      have l4 := tre_load K4.out HC.out
                      have le := one_load KE.out
                      go_wp2_with fail
                      refine (PU.out _).mono ?_
                      rintro e w5 ⟨rfl, hb⟩
                      clear l4 le
                      have s4 := tre_store (K4.out.on hb) HC.out HS.out
                      have C4 := Lib.hid ((K4.out.on hb).put (treC u))
                      have C0 := Lib.hid ((K0.out.on hb).beside g4 (by have := HLT.out; omega) (treC u).toArray)
                      have CB := Lib.hid (below_setRow (bel_on HB.out hb) (show w.heap.size ≤ g4 by have := HLT.out; omega) (treC u).toArray)
                      clear hb K0 K4 HB KE
                      go_wp2_with fail
                      clear s4
                      obtain ⟨w6, hw6⟩ : ∃ v, w5.setRow g4 (treC u).toArray = v := ⟨_, rfl⟩
                      rw [hw6] at C4 C0 CB ⊢
                      clear hw6
                      go_roundw
                      case rel => exact ⟨k + 1, u, j, n, 3, by go_num, rfl, rfl, rfl, HK.out, ⟨HJN.out.1, HJN.out.2.1, by omega⟩, HR.out, HS.out, C0.out, C4.out, CB.out⟩
                      case measure => exact meas_up m k _ rfl HK.out
                    | false =>
                      have HNC : Hid (112 < y.toNat) := Lib.hid (by have := of_decide_eq_false ha2; omega)
                      have HN : Hid (pv = (zero16, 3)) := Lib.hid (by rw [HV.out, ← HRD.out, run_stop _ (step_N (by omega) (by have := HNB.out; omega) (by have := HY.out; have := HNC.out; omega) (by omega))]; rfl)
                      have hst := tzero_store K0.out Tre.zero
                      have hv := tre_var (K0.out.put (treC zero16)) Tre.zero
                      have hb := below_setRow HB.out (Nat.le_refl _) (treC zero16).toArray
                      rw [zero_cells] at hv hb
                      go_wp2_with fail
                      rw [HN.out]
                      exact bodyPost_ret (v := .tuple #[.agg #[.int .u32 0, .int .i64 0, .int .u32 0, .int .i64 0, .int .u32 0, .int .i64 0, .int .u32 0, .int .i64 0, .int .u32 0, .int .i64 0, .int .u32 0, .int .i64 0, .int .u32 0, .int .i64 0, .int .u32 0, .int .i64 0, .int .u32 0, .int .i64 0, .int .u32 0, .int .i64 0, .int .u32 0, .int .i64 0, .int .u32 0, .int .i64 0, .int .u32 0, .int .i64 0, .int .u32 0, .int .i64 0, .int .u32 0, .int .i64 0, .int .u32 0, .int .i64 0], .int .i64 3]) (by simp [results, Tryd.results21, asAddr, hv]) rfl ⟨rfl, hb⟩
                  | false =>
                    have HNC : Hid (y.toNat < 97) := Lib.hid (by have := of_decide_eq_false ha1; omega)
                    have HN : Hid (pv = (zero16, 3)) := Lib.hid (by rw [HV.out, ← HRD.out, run_stop _ (step_N (by omega) (by have := HNB.out; omega) (by have := HY.out; have := HNC.out; omega) (by omega))]; rfl)
                    have hst := tzero_store K0.out Tre.zero
                    have hv := tre_var (K0.out.put (treC zero16)) Tre.zero
                    have hb := below_setRow HB.out (Nat.le_refl _) (treC zero16).toArray
                    rw [zero_cells] at hv hb
                    go_wp2_with fail
                    rw [HN.out]
                    exact bodyPost_ret (v := .tuple #[.agg #[.int .u32 0, .int .i64 0, .int .u32 0, .int .i64 0, .int .u32 0, .int .i64 0, .int .u32 0, .int .i64 0, .int .u32 0, .int .i64 0, .int .u32 0, .int .i64 0, .int .u32 0, .int .i64 0, .int .u32 0, .int .i64 0, .int .u32 0, .int .i64 0, .int .u32 0, .int .i64 0, .int .u32 0, .int .i64 0, .int .u32 0, .int .i64 0, .int .u32 0, .int .i64 0, .int .u32 0, .int .i64 0, .int .u32 0, .int .i64 0, .int .u32 0, .int .i64 0], .int .i64 3]) (by simp [results, Tryd.results21, asAddr, hv]) rfl ⟨rfl, hb⟩
              | false =>
                have HNC : Hid (¬ n < 4294967295) := Lib.hid (by have := of_decide_eq_false hd4; omega)
                have HN : Hid (pv = (zero16, 3)) := Lib.hid (by rw [HV.out, ← HRD.out, run_stop _ (step_N (by omega) (by have := HNB.out; omega) (by have := HNC.out; omega) (by omega))]; rfl)
                cases c4 with
                | true =>
                  have hst := tzero_store K0.out Tre.zero
                  have hv := tre_var (K0.out.put (treC zero16)) Tre.zero
                  have hb := below_setRow HB.out (Nat.le_refl _) (treC zero16).toArray
                  rw [zero_cells] at hv hb
                  go_wp2_with fail
                  rw [HN.out]
                  exact bodyPost_ret (v := .tuple #[.agg #[.int .u32 0, .int .i64 0, .int .u32 0, .int .i64 0, .int .u32 0, .int .i64 0, .int .u32 0, .int .i64 0, .int .u32 0, .int .i64 0, .int .u32 0, .int .i64 0, .int .u32 0, .int .i64 0, .int .u32 0, .int .i64 0, .int .u32 0, .int .i64 0, .int .u32 0, .int .i64 0, .int .u32 0, .int .i64 0, .int .u32 0, .int .i64 0, .int .u32 0, .int .i64 0, .int .u32 0, .int .i64 0, .int .u32 0, .int .i64 0, .int .u32 0, .int .i64 0], .int .i64 3]) (by simp [results, Tryd.results21, asAddr, hv]) rfl ⟨rfl, hb⟩
                | false =>
                  cases a1 with
                  | true =>
                    cases a2 with
                    | true =>
                      have hst := tzero_store K0.out Tre.zero
                      have hv := tre_var (K0.out.put (treC zero16)) Tre.zero
                      have hb := below_setRow HB.out (Nat.le_refl _) (treC zero16).toArray
                      rw [zero_cells] at hv hb
                      go_wp2_with fail
                      rw [HN.out]
                      exact bodyPost_ret (v := .tuple #[.agg #[.int .u32 0, .int .i64 0, .int .u32 0, .int .i64 0, .int .u32 0, .int .i64 0, .int .u32 0, .int .i64 0, .int .u32 0, .int .i64 0, .int .u32 0, .int .i64 0, .int .u32 0, .int .i64 0, .int .u32 0, .int .i64 0, .int .u32 0, .int .i64 0, .int .u32 0, .int .i64 0, .int .u32 0, .int .i64 0, .int .u32 0, .int .i64 0, .int .u32 0, .int .i64 0, .int .u32 0, .int .i64 0, .int .u32 0, .int .i64 0, .int .u32 0, .int .i64 0], .int .i64 3]) (by simp [results, Tryd.results21, asAddr, hv]) rfl ⟨rfl, hb⟩
                    | false =>
                      have hst := tzero_store K0.out Tre.zero
                      have hv := tre_var (K0.out.put (treC zero16)) Tre.zero
                      have hb := below_setRow HB.out (Nat.le_refl _) (treC zero16).toArray
                      rw [zero_cells] at hv hb
                      go_wp2_with fail
                      rw [HN.out]
                      exact bodyPost_ret (v := .tuple #[.agg #[.int .u32 0, .int .i64 0, .int .u32 0, .int .i64 0, .int .u32 0, .int .i64 0, .int .u32 0, .int .i64 0, .int .u32 0, .int .i64 0, .int .u32 0, .int .i64 0, .int .u32 0, .int .i64 0, .int .u32 0, .int .i64 0, .int .u32 0, .int .i64 0, .int .u32 0, .int .i64 0, .int .u32 0, .int .i64 0, .int .u32 0, .int .i64 0, .int .u32 0, .int .i64 0, .int .u32 0, .int .i64 0, .int .u32 0, .int .i64 0, .int .u32 0, .int .i64 0], .int .i64 3]) (by simp [results, Tryd.results21, asAddr, hv]) rfl ⟨rfl, hb⟩
                  | false =>
                    have hst := tzero_store K0.out Tre.zero
                    have hv := tre_var (K0.out.put (treC zero16)) Tre.zero
                    have hb := below_setRow HB.out (Nat.le_refl _) (treC zero16).toArray
                    rw [zero_cells] at hv hb
                    go_wp2_with fail
                    rw [HN.out]
                    exact bodyPost_ret (v := .tuple #[.agg #[.int .u32 0, .int .i64 0, .int .u32 0, .int .i64 0, .int .u32 0, .int .i64 0, .int .u32 0, .int .i64 0, .int .u32 0, .int .i64 0, .int .u32 0, .int .i64 0, .int .u32 0, .int .i64 0, .int .u32 0, .int .i64 0, .int .u32 0, .int .i64 0, .int .u32 0, .int .i64 0, .int .u32 0, .int .i64 0, .int .u32 0, .int .i64 0, .int .u32 0, .int .i64 0, .int .u32 0, .int .i64 0, .int .u32 0, .int .i64 0, .int .u32 0, .int .i64 0], .int .i64 3]) (by simp [results, Tryd.results21, asAddr, hv]) rfl ⟨rfl, hb⟩
          | false =>
            have HNB : Hid (57 < y.toNat) := Lib.hid (by have := of_decide_eq_false hb2; omega)
            obtain ⟨c4, hc4⟩ : ∃ b, ((y.toNat : Int) == 46) = b := ⟨_, rfl⟩
            have hc5 : ((y.toNat : Int) != 46) = !c4 := by rw [← hc4]; rfl
            have HC4 : Hid (decide (y.toNat = 46) = c4) := Lib.hid (by
              rw [← hc4, show (((y.toNat : Int) == 46) = decide ((y.toNat : Int) = 46)) from rfl]
              exact decide_eq_decide.2 (by omega))
            obtain ⟨a1, ha1⟩ : ∃ b, decide ((97 : Int) ≤ (y.toNat : Int)) = b := ⟨_, rfl⟩
            obtain ⟨a2, ha2⟩ : ∃ b, decide ((y.toNat : Int) ≤ 112) = b := ⟨_, rfl⟩
            obtain ⟨d4, hd4⟩ : ∃ b, decide ((n : Int) < 4294967295) = b := ⟨_, rfl⟩
            cases d4 with
            | true =>
              have HN4 : Hid (n < 4294967295) := Lib.hid (by have := of_decide_eq_true hd4; omega)
              cases c4 with
              | true =>
                have HY := Lib.hid (of_decide_eq_true HC4.out)
                have HR : Hid (runD (sl.drop (k + 1)) (t.set j (n, -1)) j n 3 = RUN) := Lib.hid (by
                  rw [← HRD.out, run_step _ (step_C (by omega) (by have := HNB.out; omega) ⟨⟨rfl, .inl HY.out⟩, HN4.out⟩), if_pos HY.out])
                have w32 : IntKind.u32.wrap (n : Int) = (n : Int) := by have := HN4.out; rw [IntKind.wrap_u32]; omega
                have hst := new_ent (w := wr) (d := (n : Int)) (p := -1) rfl
                go_upto_region 16 with fail
                clear hst
                have KE := Lib.hid (Blk.new wr [.int .u32 (n : Int), .int .i64 (-1)] 24)
                have K0' := Lib.hid (K0.out.next (.cells #[.int .u32 (n : Int), .int .i64 (-1)] 24))
                have K4' := Lib.hid (K4.out.next (.cells #[.int .u32 (n : Int), .int .i64 (-1)] 24))
                have HB' := Lib.hid (HB.out.alloc HB.out.size (.cells #[.int .u32 (n : Int), .int .i64 (-1)] 24))
                have hge : w.heap.size < wr.heap.size ∧ g4 < wr.heap.size := ⟨K0.out.lt, K4.out.lt⟩
                clear K0 K4 HB
                obtain ⟨w3, hw3⟩ : ∃ v, wr.alloc (.cells #[.int .u32 (n : Int), .int .i64 (-1)] 24) = v := ⟨_, rfl⟩
                rw [hw3] at KE K0' K4' HB' ⊢
                obtain ⟨ge, hge2⟩ : ∃ g, wr.heap.size = g := ⟨_, rfl⟩
                rw [hge2] at KE hge ⊢
                have HGE := Lib.hid hge
                clear hw3 hge hge2
                have K0 := K0'
                have K4 := K4'
                have HB := HB'
                clear K0' K4' HB'
                have HOK : Hid (Ok (n, (-1))) := Lib.hid (ok_node (by have := HN4.out; omega) (.inl rfl))
                have HS := Lib.hid (HC.out.set j HOK.out)
                have PU := Lib.hid (fun w => rput_in t j n (-1) w HC.out HJN.out.1 HOK.out)
                obtain ⟨u, hu⟩ : ∃ u, t.set j (n, (-1)) = u := ⟨_, rfl⟩
                rw [hu] at HS PU HR
                clear hu
                have l4 := tre_load K4.out HC.out
                have le := one_load KE.out
                go_wp2_with fail
                refine (PU.out _).mono ?_
                rintro e w5 ⟨rfl, hb⟩
                clear l4 le
                have s4 := tre_store (K4.out.on hb) HC.out HS.out
                have C4 := Lib.hid ((K4.out.on hb).put (treC u))
                have C0 := Lib.hid ((K0.out.on hb).beside g4 (by have := HLT.out; omega) (treC u).toArray)
                have CB := Lib.hid (below_setRow (bel_on HB.out hb) (show w.heap.size ≤ g4 by have := HLT.out; omega) (treC u).toArray)
                clear hb K0 K4 HB KE
                go_wp2_with fail
                clear s4
                obtain ⟨w6, hw6⟩ : ∃ v, w5.setRow g4 (treC u).toArray = v := ⟨_, rfl⟩
                rw [hw6] at C4 C0 CB ⊢
                clear hw6
                go_roundw
                case rel => exact ⟨k + 1, u, j, n, 3, by go_num, rfl, rfl, rfl, HK.out, ⟨HJN.out.1, HJN.out.2.1, by omega⟩, HR.out, HS.out, C0.out, C4.out, CB.out⟩
                case measure => exact meas_up m k _ rfl HK.out
              | false =>
                have HY := Lib.hid (of_decide_eq_false HC4.out)
                cases a1 with
                | true =>
                  cases a2 with
                  | true =>
                    have h1 := of_decide_eq_true ha1
                    have h2 := of_decide_eq_true ha2
                    obtain ⟨c, hc⟩ : ∃ c, y.toNat - 97 = c := ⟨_, rfl⟩
                    have HR : Hid (runD (sl.drop (k + 1)) (t.set j (n, (c : Int))) j n 3 = RUN) := Lib.hid (by
                      rw [← HRD.out, run_step _ (step_C (by omega) (by have := HNB.out; omega) ⟨⟨rfl, .inr ⟨by omega, by omega⟩⟩, HN4.out⟩), if_neg HY.out, hc])
                    have w97 : IntKind.u8.wrap ((y.toNat : Int) - 97) = (c : Int) := by rw [IntKind.wrap_u8]; omega
                    have wi : wrap64 (c : Int) = (c : Int) := IntWalk.wrap64_in _ (by omega)
                    have HCC : Hid (c < 16) := Lib.hid (by omega)
                    clear h1 h2 hc
                    have w32 : IntKind.u32.wrap (n : Int) = (n : Int) := by have := HN4.out; rw [IntKind.wrap_u32]; omega
                    have hst := new_ent (w := wr) (d := (n : Int)) (p := -1) rfl
                    go_upto_region 16 with fail
                    clear hst
                    have KE := Lib.hid (Blk.new wr [.int .u32 (n : Int), .int .i64 (-1)] 24)
                    have K0' := Lib.hid (K0.out.next (.cells #[.int .u32 (n : Int), .int .i64 (-1)] 24))
                    have K4' := Lib.hid (K4.out.next (.cells #[.int .u32 (n : Int), .int .i64 (-1)] 24))
                    have HB' := Lib.hid (HB.out.alloc HB.out.size (.cells #[.int .u32 (n : Int), .int .i64 (-1)] 24))
                    have hge : w.heap.size < wr.heap.size ∧ g4 < wr.heap.size := ⟨K0.out.lt, K4.out.lt⟩
                    clear K0 K4 HB
                    obtain ⟨w3, hw3⟩ : ∃ v, wr.alloc (.cells #[.int .u32 (n : Int), .int .i64 (-1)] 24) = v := ⟨_, rfl⟩
                    rw [hw3] at KE K0' K4' HB' ⊢
                    obtain ⟨ge, hge2⟩ : ∃ g, wr.heap.size = g := ⟨_, rfl⟩
                    rw [hge2] at KE hge ⊢
                    have HGE := Lib.hid hge
                    clear hw3 hge hge2
                    have K0 := K0'
                    have K4 := K4'
                    have HB := HB'
                    clear K0' K4' HB'
                    have c1 := KE.out.cell 1 rfl
                    have g1 := KE.out.thaw 1
                    go_upto_region 18 with fail
                    clear c1 g1
                    have KE' := Lib.hid (KE.out.set 1 (.int .i64 (c : Int)))
                    have K0' := Lib.hid (K0.out.other ⟨ge, 1, none⟩ (.int .i64 (c : Int)) (by have := HGE.out.1; show w.heap.size ≠ ge; omega))
                    have K4' := Lib.hid (K4.out.other ⟨ge, 1, none⟩ (.int .i64 (c : Int)) (by have := HGE.out.2; show g4 ≠ ge; omega))
                    have HB' := Lib.hid (HB.out.setCell (p := ⟨ge, 1, none⟩) (show w.heap.size ≤ ge by have := HGE.out.1; omega) (.int .i64 (c : Int)))
                    clear KE K0 K4 HB
                    obtain ⟨w4, hw4⟩ : ∃ v, w3.setCell ⟨ge, 1, none⟩ (.int .i64 (c : Int)) = v := ⟨_, rfl⟩
                    rw [hw4] at KE' K0' K4' HB' ⊢
                    clear hw4
                    have KE : Hid (Blk w4 ge [.int .u32 (n : Int), .int .i64 (c : Int)]) := Lib.hid KE'.out
                    have K0 := K0'
                    have K4 := K4'
                    have HB := HB'
                    clear KE' K0' K4' HB'
                    have HOK : Hid (Ok (n, (c : Int))) := Lib.hid (ok_node (by have := HN4.out; omega) (.inr (node_nat HCC.out)))
                    have HS := Lib.hid (HC.out.set j HOK.out)
                    have PU := Lib.hid (fun w => rput_in t j n (c : Int) w HC.out HJN.out.1 HOK.out)
                    obtain ⟨u, hu⟩ : ∃ u, t.set j (n, (c : Int)) = u := ⟨_, rfl⟩
                    rw [hu] at HS PU HR
                    clear hu
                    have l4 := tre_load K4.out HC.out
                    have le := one_load KE.out
                    go_wp2_with fail
                    refine (PU.out _).mono ?_
                    rintro e w5 ⟨rfl, hb⟩
                    clear l4 le
                    have s4 := tre_store (K4.out.on hb) HC.out HS.out
                    have C4 := Lib.hid ((K4.out.on hb).put (treC u))
                    have C0 := Lib.hid ((K0.out.on hb).beside g4 (by have := HLT.out; omega) (treC u).toArray)
                    have CB := Lib.hid (below_setRow (bel_on HB.out hb) (show w.heap.size ≤ g4 by have := HLT.out; omega) (treC u).toArray)
                    clear hb K0 K4 HB KE
                    go_wp2_with fail
                    clear s4
                    obtain ⟨w6, hw6⟩ : ∃ v, w5.setRow g4 (treC u).toArray = v := ⟨_, rfl⟩
                    rw [hw6] at C4 C0 CB ⊢
                    clear hw6
                    go_roundw
                    case rel => exact ⟨k + 1, u, j, n, 3, by go_num, rfl, rfl, rfl, HK.out, ⟨HJN.out.1, HJN.out.2.1, by omega⟩, HR.out, HS.out, C0.out, C4.out, CB.out⟩
                    case measure => exact meas_up m k _ rfl HK.out
                  | false =>
                    have HNC : Hid (112 < y.toNat) := Lib.hid (by have := of_decide_eq_false ha2; omega)
                    have HN : Hid (pv = (zero16, 3)) := Lib.hid (by rw [HV.out, ← HRD.out, run_stop _ (step_N (by omega) (by have := HNB.out; omega) (by have := HY.out; have := HNC.out; omega) (by omega))]; rfl)
                    have hst := tzero_store K0.out Tre.zero
                    have hv := tre_var (K0.out.put (treC zero16)) Tre.zero
                    have hb := below_setRow HB.out (Nat.le_refl _) (treC zero16).toArray
                    rw [zero_cells] at hv hb
                    go_wp2_with fail
                    rw [HN.out]
                    exact bodyPost_ret (v := .tuple #[.agg #[.int .u32 0, .int .i64 0, .int .u32 0, .int .i64 0, .int .u32 0, .int .i64 0, .int .u32 0, .int .i64 0, .int .u32 0, .int .i64 0, .int .u32 0, .int .i64 0, .int .u32 0, .int .i64 0, .int .u32 0, .int .i64 0, .int .u32 0, .int .i64 0, .int .u32 0, .int .i64 0, .int .u32 0, .int .i64 0, .int .u32 0, .int .i64 0, .int .u32 0, .int .i64 0, .int .u32 0, .int .i64 0, .int .u32 0, .int .i64 0, .int .u32 0, .int .i64 0], .int .i64 3]) (by simp [results, Tryd.results21, asAddr, hv]) rfl ⟨rfl, hb⟩
                | false =>
                  have HNC : Hid (y.toNat < 97) := Lib.hid (by have := of_decide_eq_false ha1; omega)
                  have HN : Hid (pv = (zero16, 3)) := Lib.hid (by rw [HV.out, ← HRD.out, run_stop _ (step_N (by omega) (by have := HNB.out; omega) (by have := HY.out; have := HNC.out; omega) (by omega))]; rfl)
                  have hst := tzero_store K0.out Tre.zero
                  have hv := tre_var (K0.out.put (treC zero16)) Tre.zero
                  have hb := below_setRow HB.out (Nat.le_refl _) (treC zero16).toArray
                  rw [zero_cells] at hv hb
                  go_wp2_with fail
                  rw [HN.out]
                  exact bodyPost_ret (v := .tuple #[.agg #[.int .u32 0, .int .i64 0, .int .u32 0, .int .i64 0, .int .u32 0, .int .i64 0, .int .u32 0, .int .i64 0, .int .u32 0, .int .i64 0, .int .u32 0, .int .i64 0, .int .u32 0, .int .i64 0, .int .u32 0, .int .i64 0, .int .u32 0, .int .i64 0, .int .u32 0, .int .i64 0, .int .u32 0, .int .i64 0, .int .u32 0, .int .i64 0, .int .u32 0, .int .i64 0, .int .u32 0, .int .i64 0, .int .u32 0, .int .i64 0, .int .u32 0, .int .i64 0], .int .i64 3]) (by simp [results, Tryd.results21, asAddr, hv]) rfl ⟨rfl, hb⟩
            | false =>
              have HNC : Hid (¬ n < 4294967295) := Lib.hid (by have := of_decide_eq_false hd4; omega)
              have HN : Hid (pv = (zero16, 3)) := Lib.hid (by rw [HV.out, ← HRD.out, run_stop _ (step_N (by omega) (by have := HNB.out; omega) (by have := HNC.out; omega) (by omega))]; rfl)
              cases c4 with
              | true =>
                have hst := tzero_store K0.out Tre.zero
                have hv := tre_var (K0.out.put (treC zero16)) Tre.zero
                have hb := below_setRow HB.out (Nat.le_refl _) (treC zero16).toArray
                rw [zero_cells] at hv hb
                go_wp2_with fail
                rw [HN.out]
                exact bodyPost_ret (v := .tuple #[.agg #[.int .u32 0, .int .i64 0, .int .u32 0, .int .i64 0, .int .u32 0, .int .i64 0, .int .u32 0, .int .i64 0, .int .u32 0, .int .i64 0, .int .u32 0, .int .i64 0, .int .u32 0, .int .i64 0, .int .u32 0, .int .i64 0, .int .u32 0, .int .i64 0, .int .u32 0, .int .i64 0, .int .u32 0, .int .i64 0, .int .u32 0, .int .i64 0, .int .u32 0, .int .i64 0, .int .u32 0, .int .i64 0, .int .u32 0, .int .i64 0, .int .u32 0, .int .i64 0], .int .i64 3]) (by simp [results, Tryd.results21, asAddr, hv]) rfl ⟨rfl, hb⟩
              | false =>
                cases a1 with
                | true =>
                  cases a2 with
                  | true =>
                    have hst := tzero_store K0.out Tre.zero
                    have hv := tre_var (K0.out.put (treC zero16)) Tre.zero
                    have hb := below_setRow HB.out (Nat.le_refl _) (treC zero16).toArray
                    rw [zero_cells] at hv hb
                    go_wp2_with fail
                    rw [HN.out]
                    exact bodyPost_ret (v := .tuple #[.agg #[.int .u32 0, .int .i64 0, .int .u32 0, .int .i64 0, .int .u32 0, .int .i64 0, .int .u32 0, .int .i64 0, .int .u32 0, .int .i64 0, .int .u32 0, .int .i64 0, .int .u32 0, .int .i64 0, .int .u32 0, .int .i64 0, .int .u32 0, .int .i64 0, .int .u32 0, .int .i64 0, .int .u32 0, .int .i64 0, .int .u32 0, .int .i64 0, .int .u32 0, .int .i64 0, .int .u32 0, .int .i64 0, .int .u32 0, .int .i64 0, .int .u32 0, .int .i64 0], .int .i64 3]) (by simp [results, Tryd.results21, asAddr, hv]) rfl ⟨rfl, hb⟩
                  | false =>
                    have hst := tzero_store K0.out Tre.zero
                    have hv := tre_var (K0.out.put (treC zero16)) Tre.zero
                    have hb := below_setRow HB.out (Nat.le_refl _) (treC zero16).toArray
                    rw [zero_cells] at hv hb
                    go_wp2_with fail
                    rw [HN.out]
                    exact bodyPost_ret (v := .tuple #[.agg #[.int .u32 0, .int .i64 0, .int .u32 0, .int .i64 0, .int .u32 0, .int .i64 0, .int .u32 0, .int .i64 0, .int .u32 0, .int .i64 0, .int .u32 0, .int .i64 0, .int .u32 0, .int .i64 0, .int .u32 0, .int .i64 0, .int .u32 0, .int .i64 0, .int .u32 0, .int .i64 0, .int .u32 0, .int .i64 0, .int .u32 0, .int .i64 0, .int .u32 0, .int .i64 0, .int .u32 0, .int .i64 0, .int .u32 0, .int .i64 0, .int .u32 0, .int .i64 0], .int .i64 3]) (by simp [results, Tryd.results21, asAddr, hv]) rfl ⟨rfl, hb⟩
                | false =>
                  have hst := tzero_store K0.out Tre.zero
                  have hv := tre_var (K0.out.put (treC zero16)) Tre.zero
                  have hb := below_setRow HB.out (Nat.le_refl _) (treC zero16).toArray
                  rw [zero_cells] at hv hb
                  go_wp2_with fail
                  rw [HN.out]
                  exact bodyPost_ret (v := .tuple #[.agg #[.int .u32 0, .int .i64 0, .int .u32 0, .int .i64 0, .int .u32 0, .int .i64 0, .int .u32 0, .int .i64 0, .int .u32 0, .int .i64 0, .int .u32 0, .int .i64 0, .int .u32 0, .int .i64 0, .int .u32 0, .int .i64 0, .int .u32 0, .int .i64 0, .int .u32 0, .int .i64 0, .int .u32 0, .int .i64 0, .int .u32 0, .int .i64 0, .int .u32 0, .int .i64 0, .int .u32 0, .int .i64 0, .int .u32 0, .int .i64 0, .int .u32 0, .int .i64 0], .int .i64 3]) (by simp [results, Tryd.results21, asAddr, hv]) rfl ⟨rfl, hb⟩
        | false =>
          have HNB : Hid (y.toNat < 48) := Lib.hid (by have := of_decide_eq_false hb1; omega)
          obtain ⟨c4, hc4⟩ : ∃ b, ((y.toNat : Int) == 46) = b := ⟨_, rfl⟩
          have hc5 : ((y.toNat : Int) != 46) = !c4 := by rw [← hc4]; rfl
          have HC4 : Hid (decide (y.toNat = 46) = c4) := Lib.hid (by
            rw [← hc4, show (((y.toNat : Int) == 46) = decide ((y.toNat : Int) = 46)) from rfl]
            exact decide_eq_decide.2 (by omega))
          obtain ⟨a1, ha1⟩ : ∃ b, decide ((97 : Int) ≤ (y.toNat : Int)) = b := ⟨_, rfl⟩
          obtain ⟨a2, ha2⟩ : ∃ b, decide ((y.toNat : Int) ≤ 112) = b := ⟨_, rfl⟩
          obtain ⟨d4, hd4⟩ : ∃ b, decide ((n : Int) < 4294967295) = b := ⟨_, rfl⟩
          cases d4 with
          | true =>
            have HN4 : Hid (n < 4294967295) := Lib.hid (by have := of_decide_eq_true hd4; omega)
            cases c4 with
            | true =>
              have HY := Lib.hid (of_decide_eq_true HC4.out)
              have HR : Hid (runD (sl.drop (k + 1)) (t.set j (n, -1)) j n 3 = RUN) := Lib.hid (by
                rw [← HRD.out, run_step _ (step_C (by omega) (by have := HNB.out; omega) ⟨⟨rfl, .inl HY.out⟩, HN4.out⟩), if_pos HY.out])
              have w32 : IntKind.u32.wrap (n : Int) = (n : Int) := by have := HN4.out; rw [IntKind.wrap_u32]; omega
              have hst := new_ent (w := wr) (d := (n : Int)) (p := -1) rfl
              go_upto_region 16 with fail
              clear hst
              have KE := Lib.hid (Blk.new wr [.int .u32 (n : Int), .int .i64 (-1)] 24)
              have K0' := Lib.hid (K0.out.next (.cells #[.int .u32 (n : Int), .int .i64 (-1)] 24))
              have K4' := Lib.hid (K4.out.next (.cells #[.int .u32 (n : Int), .int .i64 (-1)] 24))
              have HB' := Lib.hid (HB.out.alloc HB.out.size (.cells #[.int .u32 (n : Int), .int .i64 (-1)] 24))
              have hge : w.heap.size < wr.heap.size ∧ g4 < wr.heap.size := ⟨K0.out.lt, K4.out.lt⟩
              clear K0 K4 HB
              obtain ⟨w3, hw3⟩ : ∃ v, wr.alloc (.cells #[.int .u32 (n : Int), .int .i64 (-1)] 24) = v := ⟨_, rfl⟩
              rw [hw3] at KE K0' K4' HB' ⊢
              obtain ⟨ge, hge2⟩ : ∃ g, wr.heap.size = g := ⟨_, rfl⟩
              rw [hge2] at KE hge ⊢
              have HGE := Lib.hid hge
              clear hw3 hge hge2
              have K0 := K0'
              have K4 := K4'
              have HB := HB'
              clear K0' K4' HB'
              have HOK : Hid (Ok (n, (-1))) := Lib.hid (ok_node (by have := HN4.out; omega) (.inl rfl))
              have HS := Lib.hid (HC.out.set j HOK.out)
              have PU := Lib.hid (fun w => rput_in t j n (-1) w HC.out HJN.out.1 HOK.out)
              obtain ⟨u, hu⟩ : ∃ u, t.set j (n, (-1)) = u := ⟨_, rfl⟩
              rw [hu] at HS PU HR
              clear hu
              have l4 := tre_load K4.out HC.out
              have le := one_load KE.out
              go_wp2_with fail
              refine (PU.out _).mono ?_
              rintro e w5 ⟨rfl, hb⟩
              clear l4 le
              have s4 := tre_store (K4.out.on hb) HC.out HS.out
              have C4 := Lib.hid ((K4.out.on hb).put (treC u))
              have C0 := Lib.hid ((K0.out.on hb).beside g4 (by have := HLT.out; omega) (treC u).toArray)
              have CB := Lib.hid (below_setRow (bel_on HB.out hb) (show w.heap.size ≤ g4 by have := HLT.out; omega) (treC u).toArray)
              clear hb K0 K4 HB KE
              go_wp2_with fail
              clear s4
              obtain ⟨w6, hw6⟩ : ∃ v, w5.setRow g4 (treC u).toArray = v := ⟨_, rfl⟩
              rw [hw6] at C4 C0 CB ⊢
              clear hw6
              go_roundw
              case rel => exact ⟨k + 1, u, j, n, 3, by go_num, rfl, rfl, rfl, HK.out, ⟨HJN.out.1, HJN.out.2.1, by omega⟩, HR.out, HS.out, C0.out, C4.out, CB.out⟩
              case measure => exact meas_up m k _ rfl HK.out
            | false =>
              have HY := Lib.hid (of_decide_eq_false HC4.out)
              cases a1 with
              | true =>
                cases a2 with
                | true =>
                  have h1 := of_decide_eq_true ha1
                  have h2 := of_decide_eq_true ha2
                  obtain ⟨c, hc⟩ : ∃ c, y.toNat - 97 = c := ⟨_, rfl⟩
                  have HR : Hid (runD (sl.drop (k + 1)) (t.set j (n, (c : Int))) j n 3 = RUN) := Lib.hid (by
                    rw [← HRD.out, run_step _ (step_C (by omega) (by have := HNB.out; omega) ⟨⟨rfl, .inr ⟨by omega, by omega⟩⟩, HN4.out⟩), if_neg HY.out, hc])
                  have w97 : IntKind.u8.wrap ((y.toNat : Int) - 97) = (c : Int) := by rw [IntKind.wrap_u8]; omega
                  have wi : wrap64 (c : Int) = (c : Int) := IntWalk.wrap64_in _ (by omega)
                  have HCC : Hid (c < 16) := Lib.hid (by omega)
                  clear h1 h2 hc
                  have w32 : IntKind.u32.wrap (n : Int) = (n : Int) := by have := HN4.out; rw [IntKind.wrap_u32]; omega
                  have hst := new_ent (w := wr) (d := (n : Int)) (p := -1) rfl
                  go_upto_region 16 with fail
                  clear hst
                  have KE := Lib.hid (Blk.new wr [.int .u32 (n : Int), .int .i64 (-1)] 24)
                  have K0' := Lib.hid (K0.out.next (.cells #[.int .u32 (n : Int), .int .i64 (-1)] 24))
                  have K4' := Lib.hid (K4.out.next (.cells #[.int .u32 (n : Int), .int .i64 (-1)] 24))
                  have HB' := Lib.hid (HB.out.alloc HB.out.size (.cells #[.int .u32 (n : Int), .int .i64 (-1)] 24))
                  have hge : w.heap.size < wr.heap.size ∧ g4 < wr.heap.size := ⟨K0.out.lt, K4.out.lt⟩
                  clear K0 K4 HB
                  obtain ⟨w3, hw3⟩ : ∃ v, wr.alloc (.cells #[.int .u32 (n : Int), .int .i64 (-1)] 24) = v := ⟨_, rfl⟩
                  rw [hw3] at KE K0' K4' HB' ⊢
                  obtain ⟨ge, hge2⟩ : ∃ g, wr.heap.size = g := ⟨_, rfl⟩
                  rw [hge2] at KE hge ⊢
                  have HGE := Lib.hid hge
                  clear hw3 hge hge2
                  have K0 := K0'
                  have K4 := K4'
                  have HB := HB'
                  clear K0' K4' HB'
                  have c1 := KE.out.cell 1 rfl
                  have g1 := KE.out.thaw 1
                  go_upto_region 18 with fail
                  clear c1 g1
                  have KE' := Lib.hid (KE.out.set 1 (.int .i64 (c : Int)))
                  have K0' := Lib.hid (K0.out.other ⟨ge, 1, none⟩ (.int .i64 (c : Int)) (by have := HGE.out.1; show w.heap.size ≠ ge; omega))
                  have K4' := Lib.hid (K4.out.other ⟨ge, 1, none⟩ (.int .i64 (c : Int)) (by have := HGE.out.2; show g4 ≠ ge; omega))
                  have HB' := Lib.hid (HB.out.setCell (p := ⟨ge, 1, none⟩) (show w.heap.size ≤ ge by have := HGE.out.1; omega) (.int .i64 (c : Int)))
                  clear KE K0 K4 HB
                  obtain ⟨w4, hw4⟩ : ∃ v, w3.setCell ⟨ge, 1, none⟩ (.int .i64 (c : Int)) = v := ⟨_, rfl⟩
                  rw [hw4] at KE' K0' K4' HB' ⊢
                  clear hw4
                  have KE : Hid (Blk w4 ge [.int .u32 (n : Int), .int .i64 (c : Int)]) := Lib.hid KE'.out
                  have K0 := K0'
                  have K4 := K4'
                  have HB := HB'
                  clear KE' K0' K4' HB'
                  have HOK : Hid (Ok (n, (c : Int))) := Lib.hid (ok_node (by have := HN4.out; omega) (.inr (node_nat HCC.out)))
                  have HS := Lib.hid (HC.out.set j HOK.out)
                  have PU := Lib.hid (fun w => rput_in t j n (c : Int) w HC.out HJN.out.1 HOK.out)
                  obtain ⟨u, hu⟩ : ∃ u, t.set j (n, (c : Int)) = u := ⟨_, rfl⟩
                  rw [hu] at HS PU HR
                  clear hu
                  have l4 := tre_load K4.out HC.out
                  have le := one_load KE.out
                  go_wp2_with fail
                  refine (PU.out _).mono ?_
                  rintro e w5 ⟨rfl, hb⟩
                  clear l4 le
                  have s4 := tre_store (K4.out.on hb) HC.out HS.out
                  have C4 := Lib.hid ((K4.out.on hb).put (treC u))
                  have C0 := Lib.hid ((K0.out.on hb).beside g4 (by have := HLT.out; omega) (treC u).toArray)
                  have CB := Lib.hid (below_setRow (bel_on HB.out hb) (show w.heap.size ≤ g4 by have := HLT.out; omega) (treC u).toArray)
                  clear hb K0 K4 HB KE
                  go_wp2_with fail
                  clear s4
                  obtain ⟨w6, hw6⟩ : ∃ v, w5.setRow g4 (treC u).toArray = v := ⟨_, rfl⟩
                  rw [hw6] at C4 C0 CB ⊢
                  clear hw6
                  go_roundw
                  case rel => exact ⟨k + 1, u, j, n, 3, by go_num, rfl, rfl, rfl, HK.out, ⟨HJN.out.1, HJN.out.2.1, by omega⟩, HR.out, HS.out, C0.out, C4.out, CB.out⟩
                  case measure => exact meas_up m k _ rfl HK.out
                | false =>
                  have HNC : Hid (112 < y.toNat) := Lib.hid (by have := of_decide_eq_false ha2; omega)
                  have HN : Hid (pv = (zero16, 3)) := Lib.hid (by rw [HV.out, ← HRD.out, run_stop _ (step_N (by omega) (by have := HNB.out; omega) (by have := HY.out; have := HNC.out; omega) (by omega))]; rfl)
                  have hst := tzero_store K0.out Tre.zero
                  have hv := tre_var (K0.out.put (treC zero16)) Tre.zero
                  have hb := below_setRow HB.out (Nat.le_refl _) (treC zero16).toArray
                  rw [zero_cells] at hv hb
                  go_wp2_with fail
                  rw [HN.out]
                  exact bodyPost_ret (v := .tuple #[.agg #[.int .u32 0, .int .i64 0, .int .u32 0, .int .i64 0, .int .u32 0, .int .i64 0, .int .u32 0, .int .i64 0, .int .u32 0, .int .i64 0, .int .u32 0, .int .i64 0, .int .u32 0, .int .i64 0, .int .u32 0, .int .i64 0, .int .u32 0, .int .i64 0, .int .u32 0, .int .i64 0, .int .u32 0, .int .i64 0, .int .u32 0, .int .i64 0, .int .u32 0, .int .i64 0, .int .u32 0, .int .i64 0, .int .u32 0, .int .i64 0, .int .u32 0, .int .i64 0], .int .i64 3]) (by simp [results, Tryd.results21, asAddr, hv]) rfl ⟨rfl, hb⟩
              | false =>
                have HNC : Hid (y.toNat < 97) := Lib.hid (by have := of_decide_eq_false ha1; omega)
                have HN : Hid (pv = (zero16, 3)) := Lib.hid (by rw [HV.out, ← HRD.out, run_stop _ (step_N (by omega) (by have := HNB.out; omega) (by have := HY.out; have := HNC.out; omega) (by omega))]; rfl)
                have hst := tzero_store K0.out Tre.zero
                have hv := tre_var (K0.out.put (treC zero16)) Tre.zero
                have hb := below_setRow HB.out (Nat.le_refl _) (treC zero16).toArray
                rw [zero_cells] at hv hb
                go_wp2_with fail
                rw [HN.out]
                exact bodyPost_ret (v := .tuple #[.agg #[.int .u32 0, .int .i64 0, .int .u32 0, .int .i64 0, .int .u32 0, .int .i64 0, .int .u32 0, .int .i64 0, .int .u32 0, .int .i64 0, .int .u32 0, .int .i64 0, .int .u32 0, .int .i64 0, .int .u32 0, .int .i64 0, .int .u32 0, .int .i64 0, .int .u32 0, .int .i64 0, .int .u32 0, .int .i64 0, .int .u32 0, .int .i64 0, .int .u32 0, .int .i64 0, .int .u32 0, .int .i64 0, .int .u32 0, .int .i64 0, .int .u32 0, .int .i64 0], .int .i64 3]) (by simp [results, Tryd.results21, asAddr, hv]) rfl ⟨rfl, hb⟩
          | false =>
            have HNC : Hid (¬ n < 4294967295) := Lib.hid (by have := of_decide_eq_false hd4; omega)
            have HN : Hid (pv = (zero16, 3)) := Lib.hid (by rw [HV.out, ← HRD.out, run_stop _ (step_N (by omega) (by have := HNB.out; omega) (by have := HNC.out; omega) (by omega))]; rfl)
            cases c4 with
            | true =>
              have hst := tzero_store K0.out Tre.zero
              have hv := tre_var (K0.out.put (treC zero16)) Tre.zero
              have hb := below_setRow HB.out (Nat.le_refl _) (treC zero16).toArray
              rw [zero_cells] at hv hb
              go_wp2_with fail
              rw [HN.out]
              exact bodyPost_ret (v := .tuple #[.agg #[.int .u32 0, .int .i64 0, .int .u32 0, .int .i64 0, .int .u32 0, .int .i64 0, .int .u32 0, .int .i64 0, .int .u32 0, .int .i64 0, .int .u32 0, .int .i64 0, .int .u32 0, .int .i64 0, .int .u32 0, .int .i64 0, .int .u32 0, .int .i64 0, .int .u32 0, .int .i64 0, .int .u32 0, .int .i64 0, .int .u32 0, .int .i64 0, .int .u32 0, .int .i64 0, .int .u32 0, .int .i64 0, .int .u32 0, .int .i64 0, .int .u32 0, .int .i64 0], .int .i64 3]) (by simp [results, Tryd.results21, asAddr, hv]) rfl ⟨rfl, hb⟩
            | false =>
              cases a1 with
              | true =>
                cases a2 with
                | true =>
                  have hst := tzero_store K0.out Tre.zero
                  have hv := tre_var (K0.out.put (treC zero16)) Tre.zero
                  have hb := below_setRow HB.out (Nat.le_refl _) (treC zero16).toArray
                  rw [zero_cells] at hv hb
                  go_wp2_with fail
                  rw [HN.out]
                  exact bodyPost_ret (v := .tuple #[.agg #[.int .u32 0, .int .i64 0, .int .u32 0, .int .i64 0, .int .u32 0, .int .i64 0, .int .u32 0, .int .i64 0, .int .u32 0, .int .i64 0, .int .u32 0, .int .i64 0, .int .u32 0, .int .i64 0, .int .u32 0, .int .i64 0, .int .u32 0, .int .i64 0, .int .u32 0, .int .i64 0, .int .u32 0, .int .i64 0, .int .u32 0, .int .i64 0, .int .u32 0, .int .i64 0, .int .u32 0, .int .i64 0, .int .u32 0, .int .i64 0, .int .u32 0, .int .i64 0], .int .i64 3]) (by simp [results, Tryd.results21, asAddr, hv]) rfl ⟨rfl, hb⟩
                | false =>
                  have hst := tzero_store K0.out Tre.zero
                  have hv := tre_var (K0.out.put (treC zero16)) Tre.zero
                  have hb := below_setRow HB.out (Nat.le_refl _) (treC zero16).toArray
                  rw [zero_cells] at hv hb
                  go_wp2_with fail
                  rw [HN.out]
                  exact bodyPost_ret (v := .tuple #[.agg #[.int .u32 0, .int .i64 0, .int .u32 0, .int .i64 0, .int .u32 0, .int .i64 0, .int .u32 0, .int .i64 0, .int .u32 0, .int .i64 0, .int .u32 0, .int .i64 0, .int .u32 0, .int .i64 0, .int .u32 0, .int .i64 0, .int .u32 0, .int .i64 0, .int .u32 0, .int .i64 0, .int .u32 0, .int .i64 0, .int .u32 0, .int .i64 0, .int .u32 0, .int .i64 0, .int .u32 0, .int .i64 0, .int .u32 0, .int .i64 0, .int .u32 0, .int .i64 0], .int .i64 3]) (by simp [results, Tryd.results21, asAddr, hv]) rfl ⟨rfl, hb⟩
              | false =>
                have hst := tzero_store K0.out Tre.zero
                have hv := tre_var (K0.out.put (treC zero16)) Tre.zero
                have hb := below_setRow HB.out (Nat.le_refl _) (treC zero16).toArray
                rw [zero_cells] at hv hb
                go_wp2_with fail
                rw [HN.out]
                exact bodyPost_ret (v := .tuple #[.agg #[.int .u32 0, .int .i64 0, .int .u32 0, .int .i64 0, .int .u32 0, .int .i64 0, .int .u32 0, .int .i64 0, .int .u32 0, .int .i64 0, .int .u32 0, .int .i64 0, .int .u32 0, .int .i64 0, .int .u32 0, .int .i64 0, .int .u32 0, .int .i64 0, .int .u32 0, .int .i64 0, .int .u32 0, .int .i64 0, .int .u32 0, .int .i64 0, .int .u32 0, .int .i64 0, .int .u32 0, .int .i64 0, .int .u32 0, .int .i64 0, .int .u32 0, .int .i64 0], .int .i64 3]) (by simp [results, Tryd.results21, asAddr, hv]) rfl ⟨rfl, hb⟩
      · obtain ⟨c4, hc4⟩ : ∃ b, ((y.toNat : Int) == 32) = b := ⟨_, rfl⟩
        have HC4 : Hid (decide (y.toNat = 32) = c4) := Lib.hid (by
          rw [← hc4, show (((y.toNat : Int) == 32) = decide ((y.toNat : Int) = 32)) from rfl]
          exact decide_eq_decide.2 (by omega))
        cases c4 with
        | true =>
          have HR : Hid (runD (sl.drop (k + 1)) t j n 0 = RUN) := Lib.hid (by rw [← HRD.out, run_step _ (step_D (by omega) (by omega) (by omega) ⟨rfl, of_decide_eq_true HC4.out⟩)])
          go_wp2_with fail
          go_roundw
          case rel => exact ⟨k + 1, t, j, n, 0, by go_num, rfl, rfl, rfl, HK.out, ⟨HJN.out.1, HJN.out.2.1, by omega⟩, HR.out, HC.out, K0.out, K4.out, HB.out⟩
          case measure => exact meas_up m k _ rfl HK.out
        | false =>
          have HY := Lib.hid (of_decide_eq_false HC4.out)
          have HN : Hid (pv = (zero16, 3)) := Lib.hid (by rw [HV.out, ← HRD.out, run_stop _ (step_N (by omega) (by omega) (by omega) (by have := HY.out; omega))]; rfl)
          have hst := tzero_store K0.out Tre.zero
          have hv := tre_var (K0.out.put (treC zero16)) Tre.zero
          have hb := below_setRow HB.out (Nat.le_refl _) (treC zero16).toArray
          rw [zero_cells] at hv hb
          go_wp2_with fail
          rw [HN.out]
          exact bodyPost_ret (v := .tuple #[.agg #[.int .u32 0, .int .i64 0, .int .u32 0, .int .i64 0, .int .u32 0, .int .i64 0, .int .u32 0, .int .i64 0, .int .u32 0, .int .i64 0, .int .u32 0, .int .i64 0, .int .u32 0, .int .i64 0, .int .u32 0, .int .i64 0, .int .u32 0, .int .i64 0, .int .u32 0, .int .i64 0, .int .u32 0, .int .i64 0, .int .u32 0, .int .i64 0, .int .u32 0, .int .i64 0, .int .u32 0, .int .i64 0, .int .u32 0, .int .i64 0, .int .u32 0, .int .i64 0], .int .i64 3]) (by simp [results, Tryd.results21, asAddr, hv]) rfl ⟨rfl, hb⟩
    · obtain rfl : k = m := by omega
      have hnil : sl.drop k = [] := List.drop_eq_nil_of_le (by rw [HNL.out]; exact Nat.le_refl _)
      rw [hnil] at hrd
      have HRD : Hid (pv = doneD sl (some t)) := Lib.hid (by rw [HV.out, ← hrd]; rfl)
      have TX := Lib.hid (fun w => rttext_any t HC.out w)
      have HTL : Hid ((str (textT t)).toList = textT t ∧ s.toList = sl) := Lib.hid ⟨by rw [Lib.toList_data, str_list], by rw [Lib.toList_data, HSL.out]⟩
      obtain ⟨q, hq⟩ : ∃ q, str (textT t) = q := ⟨_, rfl⟩
      rw [hq] at TX HTL
      obtain ⟨b, hbq⟩ : ∃ b, (q.toList == s.toList) = b := ⟨_, rfl⟩
      have hbn : (q.toList != s.toList) = !b := by rw [← hbq]; rfl
      have hld := tre_load K4.out HC.out
      clear hnil hk hrd hq hjn hkn
      go_wp2_with fail
      refine (TX.out _).mono ?_
      rintro e wn ⟨rfl, hb⟩
      clear hld
      have K0' := Lib.hid (K0.out.on hb)
      have K4' := Lib.hid (K4.out.on hb)
      have HB' := Lib.hid (bel_on HB.out hb)
      clear hb K0 K4 HB
      have K0 := K0'
      have K4 := K4'
      have HB := HB'
      clear K0' K4' HB'
      cases b with
      | true =>
        have HN : Hid (pv = (t, 0)) := Lib.hid (by
          have h := eq_of_beq hbq
          rw [HTL.out.1, HTL.out.2] at h
          rw [HRD.out, done_yes h])
        have hl := tre_load K4.out HC.out
        have hst := tre_store K0.out Tre.zero HC.out
        have hv := tre_var (K0.out.put (treC t)) HC.out
        have hb := below_setRow HB.out (Nat.le_refl _) (treC t).toArray
        go_wp2_with fail
        rw [HN.out]
        exact bodyPost_ret (v := .tuple #[.agg (treC t).toArray, .int .i64 0]) (by simp [results, Tryd.results21, asAddr, hv]) rfl ⟨rfl, hb⟩
      | false =>
        have HN : Hid (pv = (zero16, 3)) := Lib.hid (by
          have h := ne_of_beq_false hbq
          rw [HTL.out.1, HTL.out.2] at h
          rw [HRD.out, done_no h])
        have hst := tzero_store K0.out Tre.zero
        have hv := tre_var (K0.out.put (treC zero16)) Tre.zero
        have hb := below_setRow HB.out (Nat.le_refl _) (treC zero16).toArray
        rw [zero_cells] at hv hb
        go_wp2_with fail
        rw [HN.out]
        exact bodyPost_ret (v := .tuple #[.agg #[.int .u32 0, .int .i64 0, .int .u32 0, .int .i64 0, .int .u32 0, .int .i64 0, .int .u32 0, .int .i64 0, .int .u32 0, .int .i64 0, .int .u32 0, .int .i64 0, .int .u32 0, .int .i64 0, .int .u32 0, .int .i64 0, .int .u32 0, .int .i64 0, .int .u32 0, .int .i64 0, .int .u32 0, .int .i64 0, .int .u32 0, .int .i64 0, .int .u32 0, .int .i64 0, .int .u32 0, .int .i64 0, .int .u32 0, .int .i64 0, .int .u32 0, .int .i64 0], .int .i64 3]) (by simp [results, Tryd.results21, asAddr, hv]) rfl ⟨rfl, hb⟩
theorem rtparse_any (s : ByteArray) : Gives Tryd.prog 21 #[.string s] (.tuple #[.agg (treC (parseD s.data.toList).1).toArray, .int .i64 (parseD s.data.toList).2]) := fun w => by
  by_cases h : s.size ≤ 300
  · exact rtparse_short s w h
  · exact rtparse_long s w (by omega)
end Go.Proofs.YtelfbkfmngjheaaDoor
