/- Contracts of package tree, part W: Parse. -/
import Derived.Test.YtelfbkfmngjheaaDoorTreU
import Derived.Test.YtelfbkfmngjheaaDoorTreA
namespace Go.Proofs.YtelfbkfmngjheaaDoor
open Go.RowKit Go.Sort TreF NumF
attribute [local go_sem ↓] loadAt_tre storeAt_tre loadAt_ent storeAt_ent

/-- The length of a text. -/
def strLen : Value → Nat
  | .string s => s.size
  | _ => 0
set_option maxRecDepth 100000 in
theorem tparse_long (s : ByteArray) (w : World) (hl : 300 < s.size) : Calls Tryd.prog 20 #[.string s] w fun e w' => e = .returned (.tuple #[.agg (treC (parseP s.data.toList).1).toArray, .int .i64 (parseP s.data.toList).2]) ∧ Below w.heap.size w w' := by
  have HV : Hid (parseP s.data.toList = (zero16, 4)) := Lib.hid (by unfold parseP; rw [if_pos (by rw [size_list]; exact hl)])
  have d1 : decide ((300 : Int) < (s.size : Int)) = true := decide_eq_true (by omega)
  rw [HV.out]
  clear hl
  go_enter Tryd.func20, Tryd.ntmps20
  go_upto_region 1 with fail
  have k0 := tzero_new w
  have h0 := (Below.refl w.heap.size w).alloc (Nat.le_refl _) (.cells #[.int .u32 0, .int .i64 0, .int .u32 0, .int .i64 0, .int .u32 0, .int .i64 0, .int .u32 0, .int .i64 0, .int .u32 0, .int .i64 0, .int .u32 0, .int .i64 0, .int .u32 0, .int .i64 0, .int .u32 0, .int .i64 0, .int .u32 0, .int .i64 0, .int .u32 0, .int .i64 0, .int .u32 0, .int .i64 0, .int .u32 0, .int .i64 0, .int .u32 0, .int .i64 0, .int .u32 0, .int .i64 0, .int .u32 0, .int .i64 0, .int .u32 0, .int .i64 0] 26)
  obtain ⟨wa, hwa⟩ : ∃ v, w.alloc (.cells #[.int .u32 0, .int .i64 0, .int .u32 0, .int .i64 0, .int .u32 0, .int .i64 0, .int .u32 0, .int .i64 0, .int .u32 0, .int .i64 0, .int .u32 0, .int .i64 0, .int .u32 0, .int .i64 0, .int .u32 0, .int .i64 0, .int .u32 0, .int .i64 0, .int .u32 0, .int .i64 0, .int .u32 0, .int .i64 0, .int .u32 0, .int .i64 0, .int .u32 0, .int .i64 0, .int .u32 0, .int .i64 0, .int .u32 0, .int .i64 0, .int .u32 0, .int .i64 0] 26) = v := ⟨_, rfl⟩
  rw [hwa] at k0 h0 ⊢
  clear hwa
  have hst := tzero_store k0 Tre.zero
  have hv := tre_var (k0.put (treC zero16)) Tre.zero
  have hb := below_setRow h0 (Nat.le_refl _) (treC zero16).toArray
  rw [zero_cells] at hv hb
  go_wp2_with fail
  exact bodyPost_ret (v := .tuple #[.agg #[.int .u32 0, .int .i64 0, .int .u32 0, .int .i64 0, .int .u32 0, .int .i64 0, .int .u32 0, .int .i64 0, .int .u32 0, .int .i64 0, .int .u32 0, .int .i64 0, .int .u32 0, .int .i64 0, .int .u32 0, .int .i64 0, .int .u32 0, .int .i64 0, .int .u32 0, .int .i64 0, .int .u32 0, .int .i64 0, .int .u32 0, .int .i64 0, .int .u32 0, .int .i64 0, .int .u32 0, .int .i64 0, .int .u32 0, .int .i64 0, .int .u32 0, .int .i64 0], .int .i64 4]) (by simp [results, Tryd.results20, asAddr, hv]) rfl ⟨rfl, hb⟩

set_option maxRecDepth 100000 in
set_option maxHeartbeats 4000000 in
theorem tparse_short (s : ByteArray) (w : World) (hl : s.size ≤ 300) (hT : Tab10 w) (hE : Errs w) : Calls Tryd.prog 20 #[.string s] w fun e w' => e = .returned (.tuple #[.agg (treC (parseP s.data.toList).1).toArray, .int .i64 (parseP s.data.toList).2]) ∧ Below w.heap.size w w' := by
  have HV : Hid (parseP s.data.toList = doneP (runP s.data.toList.length s.data.toList far16)) := Lib.hid (by unfold parseP; rw [if_neg (by rw [size_list]; omega)])
  have d1 : decide ((300 : Int) < (s.size : Int)) = false := decide_eq_false (by omega)
  have TAB := Lib.hid hT
  have HE := Lib.hid hE
  have HSS := Lib.hid (str_of s)
  have HL : Hid (s.data.toList.length ≤ 300) := Lib.hid (by rw [size_list]; exact hl)
  obtain ⟨S, hS⟩ : ∃ l, s.data.toList = l := ⟨_, rfl⟩
  rw [hS] at HV HSS HL
  rw [hS]
  obtain ⟨G, hG⟩ : ∃ G, runP S.length S far16 = G := ⟨_, rfl⟩
  have HG := Lib.hid hG
  rw [hG] at HV
  obtain ⟨pv, hpv⟩ : ∃ pv, parseP S = pv := ⟨_, rfl⟩
  rw [hpv] at HV ⊢
  have NW : Hid (Gives Tryd.prog 6 #[.int .i64 (-1)] (.agg (treC far16).toArray)) := Lib.hid (by
    have h := tnew_any (-1)
    rw [show newT (-1) = far16 from put_no _ _ (by decide)] at h
    exact h)
  clear hl hT hE hS hG hpv
  go_enter Tryd.func20, Tryd.ntmps20
  go_upto_region 1 with fail
  have k0 := tzero_new w
  have h0 := (Below.refl w.heap.size w).alloc (Nat.le_refl _) (.cells #[.int .u32 0, .int .i64 0, .int .u32 0, .int .i64 0, .int .u32 0, .int .i64 0, .int .u32 0, .int .i64 0, .int .u32 0, .int .i64 0, .int .u32 0, .int .i64 0, .int .u32 0, .int .i64 0, .int .u32 0, .int .i64 0, .int .u32 0, .int .i64 0, .int .u32 0, .int .i64 0, .int .u32 0, .int .i64 0, .int .u32 0, .int .i64 0, .int .u32 0, .int .i64 0, .int .u32 0, .int .i64 0, .int .u32 0, .int .i64 0, .int .u32 0, .int .i64 0] 26)
  obtain ⟨wa, hwa⟩ : ∃ v, w.alloc (.cells #[.int .u32 0, .int .i64 0, .int .u32 0, .int .i64 0, .int .u32 0, .int .i64 0, .int .u32 0, .int .i64 0, .int .u32 0, .int .i64 0, .int .u32 0, .int .i64 0, .int .u32 0, .int .i64 0, .int .u32 0, .int .i64 0, .int .u32 0, .int .i64 0, .int .u32 0, .int .i64 0, .int .u32 0, .int .i64 0, .int .u32 0, .int .i64 0, .int .u32 0, .int .i64 0, .int .u32 0, .int .i64 0, .int .u32 0, .int .i64 0, .int .u32 0, .int .i64 0] 26) = v := ⟨_, rfl⟩
  rw [hwa] at k0 h0 ⊢
  clear hwa
  have K0 := Lib.hid k0
  have HB := Lib.hid h0
  clear k0 h0
  go_wp2_with fail
  refine (NW.out _).mono ?_
  rintro e w1 ⟨rfl, hb⟩
  have K0' := Lib.hid (K0.out.on hb)
  have HB' := Lib.hid (bel_on HB.out hb)
  clear K0 HB hb
  have K0 := K0'
  have HB := HB'
  clear K0' HB'
  have hst := new_tre (w := w1) rfl Tre.far
  go_upto_region 4 with fail
  clear hst
  have k4 := Blk.new w1 (treC far16) 26
  have k0 := K0.out.next (.cells (treC far16).toArray 26)
  have h0 := HB.out.alloc HB.out.size (.cells (treC far16).toArray 26)
  have hlt : w.heap.size < w1.heap.size := K0.out.lt
  obtain ⟨w2, hw2⟩ : ∃ v, w1.alloc (.cells (treC far16).toArray 26) = v := ⟨_, rfl⟩
  rw [hw2] at k4 k0 h0 ⊢
  obtain ⟨g4, hg4⟩ : ∃ g, w1.heap.size = g := ⟨_, rfl⟩
  rw [hg4] at k4 hlt ⊢
  clear hg4 hw2 K0 HB
  have K0 := Lib.hid k0
  have K4 := Lib.hid k4
  have HB := Lib.hid h0
  have HLT := Lib.hid hlt
  clear k0 k4 h0 hlt
  go_loopw [0] (fun v wr => ∃ (l : List UInt8) (t : Tr) (f : Nat), v = .string (str l) ∧ l.length ≤ f ∧ f ≤ 300 ∧ runP f l t = G ∧ Tre t ∧ Blk wr w.heap.size (treC zero16) ∧ Blk wr g4 (treC t) ∧ Below w.heap.size w wr) (fun v _ => strLen v)
  case atStart => exact ⟨S, far16, S.length, by rw [HSS.out], Nat.le_refl _, HL.out, HG.out, Tre.far, K0.out, K4.out, HB.out⟩
  case round =>
    obtain ⟨l, t, f, rfl, hlf, hf, hrun, htt, k0, k4, h0⟩ := hrel
    have K0 := Lib.hid k0
    have K4 := Lib.hid k4
    have HB := Lib.hid h0
    have HC := Lib.hid htt
    have HF : Hid (l.length ≤ f ∧ f ≤ 300) := Lib.hid ⟨hlf, hf⟩
    have HRUN := Lib.hid hrun
    clear k0 k4 h0 htt hlf hf hrun
    cases l with
    | nil =>
      have HN : Hid (pv = (t, 0)) := Lib.hid (by
        have h : runP f [] t = some t := by cases f <;> rfl
        rw [HV.out, ← HRUN.out, h]
        rfl)
      obtain ⟨z, hz⟩ : ∃ z, str [] = z := ⟨_, rfl⟩
      have hzl : z.toList = [] := by rw [Lib.toList_data, ← hz, str_list]
      have h0 : z.toList.isEmpty = true := by rw [hzl]; rfl
      have h1 : (z.toList == []) = true := by rw [hzl]; rfl
      have h2 : (z.toList != []) = false := by rw [hzl]; rfl
      rw [hz]
      clear hzl hz
      have l4 := tre_load K4.out HC.out
      have hst := tre_store K0.out Tre.zero HC.out
      have hv := tre_var (K0.out.put (treC t)) HC.out
      have hb := below_setRow HB.out (Nat.le_refl _) (treC t).toArray
      go_wp2_with fail
      rw [HN.out]
      exact bodyPost_ret (v := .tuple #[.agg (treC t).toArray, .int .i64 0]) (by simp [results, Tryd.results20, asAddr, hv]) rfl ⟨rfl, hb⟩
    | cons x l =>
      obtain ⟨f, rfl⟩ : ∃ f', f = f' + 1 := ⟨f - 1, by have := HF.out.1; simp at this; omega⟩
      have HSZ : Hid ((str (x :: l)).size ≤ 1000) := Lib.hid (by rw [str_size]; have := HF.out.1; have := HF.out.2; omega)
      have HZL : Hid ((str (x :: l)).data.toList = x :: l) := Lib.hid (str_list _)
      cases hc : cutW (x :: l) with
      | none =>
        have HN : Hid (pv = (zero16, 3)) := Lib.hid (by rw [HV.out, ← HRUN.out, runP, hc]; rfl)
        have CU := Lib.hid (cut_none (str (x :: l)) (by rw [HZL.out]; exact hc))
        have HM := Lib.hid (read_tre HC.out (x :: l))
        have RD : Hid (∀ w, Tab10 w → Errs w → Calls Tryd.prog 42 #[.agg (treC t).toArray, .string (str (x :: l))] w fun e w' => e = .returned (.agg (treC (readT t (x :: l))).toArray) ∧ Below w.heap.size w w') := Lib.hid (fun w h1 h2 => by
          have h := tread_any t (str (x :: l)) w HC.out HSZ.out h1 h2
          rw [HZL.out] at h
          exact h)
        obtain ⟨M, hM⟩ : ∃ M, readT t (x :: l) = M := ⟨_, rfl⟩
        rw [hM] at RD HM
        obtain ⟨z, hz⟩ : ∃ z, str (x :: l) = z := ⟨_, rfl⟩
        have hzl : z.toList = x :: l := by rw [Lib.toList_data, ← hz, str_list]
        have h0 : z.toList.isEmpty = false := by rw [hzl]; rfl
        have h1 : (z.toList == []) = false := by rw [hzl]; rfl
        have h2 : (z.toList != []) = true := by rw [hzl]; rfl
        rw [hz] at CU RD ⊢
        clear hzl hz HZL HSZ hc hM HRUN HF
        go_wp2_with fail
        refine (CU.out _).mono ?_
        rintro e wc ⟨rfl, hb⟩
        clear h0 h1 h2
        have K0' := Lib.hid (K0.out.on hb)
        have K4' := Lib.hid (K4.out.on hb)
        have HB' := Lib.hid (bel_on HB.out hb)
        clear K0 K4 HB hb
        have K0 := K0'
        have K4 := K4'
        have HB := HB'
        clear K0' K4' HB'
        have l4 := tre_load K4.out HC.out
        go_wp2_with fail
        refine (RD.out _ (TAB.out.on HB.out) (HE.out.on HB.out)).mono ?_
        rintro e w3 ⟨rfl, hb⟩
        clear l4
        have K0' := Lib.hid (K0.out.on hb)
        have K4' := Lib.hid (K4.out.on hb)
        have HB' := Lib.hid (bel_on HB.out hb)
        clear K0 K4 HB hb
        have K0 := K0'
        have K4 := K4'
        have HB := HB'
        clear K0' K4' HB'
        have hst := new_tre (w := w3) rfl HM.out
        go_upto_region 7 with fail
        clear hst
        have K8' := Lib.hid (Blk.new w3 (treC M) 26)
        have K0' := Lib.hid (K0.out.next (.cells (treC M).toArray 26))
        have K4' := Lib.hid (K4.out.next (.cells (treC M).toArray 26))
        have HB' := Lib.hid (HB.out.alloc HB.out.size (.cells (treC M).toArray 26))
        clear K0 K4 HB
        obtain ⟨w5, hw5⟩ : ∃ v, w3.alloc (.cells (treC M).toArray 26) = v := ⟨_, rfl⟩
        rw [hw5] at K8' K0' K4' HB' ⊢
        obtain ⟨g8, hg8⟩ : ∃ g, w3.heap.size = g := ⟨_, rfl⟩
        rw [hg8] at K8' ⊢
        clear hg8 hw5
        have K0 := K0'
        have K4 := K4'
        have K8 := K8'
        have HB := HB'
        clear K0' K4' K8' HB'
        have hst := tzero_store K0.out Tre.zero
        have hv := tre_var (K0.out.put (treC zero16)) Tre.zero
        have hb := below_setRow HB.out (Nat.le_refl _) (treC zero16).toArray
        rw [zero_cells] at hv hb
        go_wp2_with fail
        rw [HN.out]
        exact bodyPost_ret (v := .tuple #[.agg #[.int .u32 0, .int .i64 0, .int .u32 0, .int .i64 0, .int .u32 0, .int .i64 0, .int .u32 0, .int .i64 0, .int .u32 0, .int .i64 0, .int .u32 0, .int .i64 0, .int .u32 0, .int .i64 0, .int .u32 0, .int .i64 0, .int .u32 0, .int .i64 0, .int .u32 0, .int .i64 0, .int .u32 0, .int .i64 0, .int .u32 0, .int .i64 0, .int .u32 0, .int .i64 0, .int .u32 0, .int .i64 0, .int .u32 0, .int .i64 0, .int .u32 0, .int .i64 0], .int .i64 3]) (by simp [results, Tryd.results20, asAddr, hv]) rfl ⟨rfl, hb⟩
      | some wr' =>
        obtain ⟨W, r⟩ := wr'
        have hform := cut_eq _ W r hc
        have hlen : (x :: l).length = W.length + 1 + r.length := by rw [hform]; simp; omega
        have CU := Lib.hid (cut_some (str (x :: l)) W r HSZ.out (by rw [HZL.out]; exact hc))
        have HLR : Hid (r.length ≤ f ∧ f ≤ 300 ∧ r.length < (x :: l).length ∧ W.length ≤ 1000) := Lib.hid (by
          have q1 := HF.out.1
          have q2 := HF.out.2
          rw [hlen] at q1 ⊢
          refine ⟨by omega, by omega, by omega, by omega⟩)
        have HM := Lib.hid (read_tre HC.out W)
        have RD : Hid (∀ w, Tab10 w → Errs w → Calls Tryd.prog 42 #[.agg (treC t).toArray, .string (str W)] w fun e w' => e = .returned (.agg (treC (readT t W)).toArray) ∧ Below w.heap.size w w') := Lib.hid (fun w h1 h2 => by
          have h := tread_any t (str W) w HC.out (by rw [str_size]; exact HLR.out.2.2.2) h1 h2
          rw [str_list] at h
          exact h)
        have HST : Hid ((if readT t W = t then none else runP f r (readT t W)) = G) := Lib.hid (by
          rw [← HRUN.out, runP, hc])
        obtain ⟨M, hM⟩ : ∃ M, readT t W = M := ⟨_, rfl⟩
        rw [hM] at RD HM HST
        obtain ⟨b, hb⟩ : ∃ b, decide (M = t) = b := ⟨_, rfl⟩
        have EQ : Hid (∀ w, (binOp .eql 26 (.agg (treC M).toArray) (.agg (treC t).toArray)).run Tryd.prog w = .ok (.bool b) w) := Lib.hid (fun w => by rw [tre_eql M t w HM.out.1 HC.out.1, hb])
        have HBQ := Lib.hid hb
        obtain ⟨z, hz⟩ : ∃ z, str (x :: l) = z := ⟨_, rfl⟩
        have hzl : z.toList = x :: l := by rw [Lib.toList_data, ← hz, str_list]
        have h0 : z.toList.isEmpty = false := by rw [hzl]; rfl
        have h1 : (z.toList == []) = false := by rw [hzl]; rfl
        have h2 : (z.toList != []) = true := by rw [hzl]; rfl
        have HZS : Hid (z.size = (x :: l).length) := Lib.hid (by rw [← hz, str_size])
        rw [hz] at CU ⊢
        obtain ⟨y1, hy1⟩ : ∃ z, str W = z := ⟨_, rfl⟩
        obtain ⟨y2, hy2⟩ : ∃ z, str r = z := ⟨_, rfl⟩
        have HY2 := Lib.hid hy2
        rw [hy1, hy2] at CU
        rw [hy1] at RD
        clear hzl hz HZL HSZ hc hM HRUN HF hform hlen hb hy1 hy2
        go_wp2_with fail
        refine (CU.out _).mono ?_
        rintro e wc ⟨rfl, hb⟩
        clear h0 h1 h2
        have K0' := Lib.hid (K0.out.on hb)
        have K4' := Lib.hid (K4.out.on hb)
        have HB' := Lib.hid (bel_on HB.out hb)
        clear K0 K4 HB hb
        have K0 := K0'
        have K4 := K4'
        have HB := HB'
        clear K0' K4' HB'
        have l4 := tre_load K4.out HC.out
        go_wp2_with fail
        refine (RD.out _ (TAB.out.on HB.out) (HE.out.on HB.out)).mono ?_
        rintro e w3 ⟨rfl, hb⟩
        clear l4
        have K0' := Lib.hid (K0.out.on hb)
        have K4' := Lib.hid (K4.out.on hb)
        have HB' := Lib.hid (bel_on HB.out hb)
        clear K0 K4 HB hb
        have K0 := K0'
        have K4 := K4'
        have HB := HB'
        clear K0' K4' HB'
        have hst := new_tre (w := w3) rfl HM.out
        go_upto_region 7 with fail
        clear hst
        have K8' := Lib.hid (Blk.new w3 (treC M) 26)
        have K0' := Lib.hid (K0.out.next (.cells (treC M).toArray 26))
        have K4' := Lib.hid (K4.out.next (.cells (treC M).toArray 26))
        have HB' := Lib.hid (HB.out.alloc HB.out.size (.cells (treC M).toArray 26))
        clear K0 K4 HB
        obtain ⟨w5, hw5⟩ : ∃ v, w3.alloc (.cells (treC M).toArray 26) = v := ⟨_, rfl⟩
        rw [hw5] at K8' K0' K4' HB' ⊢
        obtain ⟨g8, hg8⟩ : ∃ g, w3.heap.size = g := ⟨_, rfl⟩
        rw [hg8] at K8' ⊢
        clear hg8 hw5
        have K0 := K0'
        have K4 := K4'
        have K8 := K8'
        have HB := HB'
        clear K0' K4' K8' HB'
        have l8 := tre_load K8.out HM.out
        have l4 := tre_load K4.out HC.out
        have eq := EQ.out
        cases b with
        | true =>
          have HN : Hid (pv = (zero16, 3)) := Lib.hid (by rw [HV.out, ← HST.out, if_pos (of_decide_eq_true HBQ.out)]; rfl)
          have hst := tzero_store K0.out Tre.zero
          have hv := tre_var (K0.out.put (treC zero16)) Tre.zero
          have hb := below_setRow HB.out (Nat.le_refl _) (treC zero16).toArray
          rw [zero_cells] at hv hb
          go_wp2_with fail
          rw [HN.out]
          exact bodyPost_ret (v := .tuple #[.agg #[.int .u32 0, .int .i64 0, .int .u32 0, .int .i64 0, .int .u32 0, .int .i64 0, .int .u32 0, .int .i64 0, .int .u32 0, .int .i64 0, .int .u32 0, .int .i64 0, .int .u32 0, .int .i64 0, .int .u32 0, .int .i64 0, .int .u32 0, .int .i64 0, .int .u32 0, .int .i64 0, .int .u32 0, .int .i64 0, .int .u32 0, .int .i64 0, .int .u32 0, .int .i64 0, .int .u32 0, .int .i64 0, .int .u32 0, .int .i64 0, .int .u32 0, .int .i64 0], .int .i64 3]) (by simp [results, Tryd.results20, asAddr, hv]) rfl ⟨rfl, hb⟩
        | false =>
          have HR : Hid (runP f r M = G) := Lib.hid (by rw [← HST.out, if_neg (of_decide_eq_false HBQ.out)])
          have s4 := tre_store K4.out HC.out HM.out
          have C4 := Lib.hid (K4.out.put (treC M))
          have C0 := Lib.hid (K0.out.beside g4 (by have := HLT.out; omega) (treC M).toArray)
          have CB := Lib.hid (below_setRow HB.out (show w.heap.size ≤ g4 by have := HLT.out; omega) (treC M).toArray)
          go_wp2_with fail
          clear s4 l4 l8 eq
          obtain ⟨wn, hwn⟩ : ∃ v, w5.setRow g4 (treC M).toArray = v := ⟨_, rfl⟩
          rw [hwn] at C4 C0 CB ⊢
          clear hwn
          go_roundw
          case rel => exact ⟨r, M, f, by rw [HY2.out], HLR.out.1, HLR.out.2.1, HR.out, HM.out, C0.out, C4.out, CB.out⟩
          case measure =>
            show y2.size < z.size
            rw [HZS.out, ← HY2.out, str_size]
            exact HLR.out.2.2.1
theorem tparse_any (s : ByteArray) (w : World) (hT : Tab10 w) (hE : Errs w) : Calls Tryd.prog 20 #[.string s] w fun e w' => e = .returned (.tuple #[.agg (treC (parseP s.data.toList).1).toArray, .int .i64 (parseP s.data.toList).2]) ∧ Below w.heap.size w w' := by
  by_cases h : s.size ≤ 300
  · exact tparse_short s w h hT hE
  · exact tparse_long s w (by omega)
end Go.Proofs.YtelfbkfmngjheaaDoor
