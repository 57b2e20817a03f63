/- AliveDies: whatever three numbers come, the law returns true (who is heard each so many ticks, fewer than the rule's, never is dead; who is not heard any more is so behind just as many as the rule says; hellos are sent each so many ticks), and its argument reads as before. No condition. -/
import Derived.Test.YtepmlgpllnndlaaRows
import Derived.Test.YtepmlgpllnndlaaAliAw
import Derived.Test.YtepmlgpllnndlaaAliG
import Derived.Test.YtepmlgpllnndlaaInt3Open
import Derived.ProofKit
import Derived.OpenShut
import Derived.ShutString
import Derived.ChangeOld
import Derived.Carry
namespace Go.Proofs.Ytepmlgpllnndlaa.aliveDies
open Go.ChangeShapes Go.WideShapes Go.ChangeAt Go.RowKit
open Go.ChangeMaps (open_string shut_string)

theorem own : ownKnob Try.prog.godebug = none := by kernel_rfl
theorem laidOut : laidOutB Try.prog = true := by kernel_rfl

attribute [local go_sem ↓] loadAt_prt storeAt_prt loadAt_rul storeAt_rul
theorem ad_meas (M i : Nat) (h : i < M + 1) (v : Int) (hv : v = (i : Int) + 1) : ((M : Int) + 1 - intOf (.int .i64 v)).toNat < ((M : Int) + 1 - intOf (.int .i64 (i : Int))).toNat := by
  subst hv
  simp [intOf]; omega

set_option maxRecDepth 100000 in
set_option maxHeartbeats 4000000 in
theorem walk (ns0 ns1 ns2 : Int) (w : World) :
    Calls Try.prog 4 #[(.agg #[.int .i64 ns0, .int .i64 ns1, .int .i64 ns2] : Value)] w fun e w' => e = .returned (.bool true) ∧ Below w.heap.size w w' := by
  obtain ⟨q0, hq0, eq0⟩ := ali_rem ns0 4 (by omega) (by omega)
  have E0 : Hid (wrap64 ((IntKind.u64.wrap ns0).tmod 4) = (q0 : Int)) := Lib.hid eq0
  obtain ⟨q1, hq1, eq1⟩ := ali_rem ns1 9 (by omega) (by omega)
  have E1 : Hid (wrap64 ((IntKind.u64.wrap ns1).tmod 9) = (q1 : Int)) := Lib.hid eq1
  obtain ⟨H, hH⟩ : ∃ R, 1 + q0 = R := ⟨_, rfl⟩
  obtain ⟨D, hD⟩ : ∃ T, 2 + q1 = T := ⟨_, rfl⟩
  obtain ⟨M, hM⟩ : ∃ M, 1 + q1 = M := ⟨_, rfl⟩
  obtain ⟨q2, hq2, eq2⟩ := ali_rem ns2 M (by omega) (by omega)
  have E2 : Hid (wrap64 ((IntKind.u64.wrap ns2).tmod (M : Int)) = (q2 : Int)) := Lib.hid eq2
  obtain ⟨E, hE⟩ : ∃ E, 1 + q2 = E := ⟨_, rfl⟩
  have hh : 1 + (q0 : Int) = (H : Int) := by omega
  have hd : 2 + (q1 : Int) = (D : Int) := by omega
  have HX : Hid (1 ≤ H ∧ H ≤ 4 ∧ 2 ≤ D ∧ D ≤ 10 ∧ 1 ≤ E ∧ E < D) := Lib.hid (by omega)
  have EH : Hid (wrap64 (H : Int) = (H : Int)) := Lib.hid (IntWalk.wrap64_in _ (by omega))
  have ED : Hid (wrap64 (D : Int) = (D : Int)) := Lib.hid (IntWalk.wrap64_in _ (by omega))
  have EM : Hid (wrap64 ((D : Int) - 1) = (M : Int)) := Lib.hid (by rw [show (D : Int) - 1 = (M : Int) by omega]; exact IntWalk.wrap64_in _ (by omega))
  have EU : Hid (IntKind.u64.wrap (M : Int) = (M : Int)) := Lib.hid (by rw [IntKind.wrap_u64]; omega)
  have EN : Hid (M ≠ 0) := Lib.hid (by omega)
  have EE : Hid (1 + (q2 : Int) = (E : Int) ∧ wrap64 (E : Int) = (E : Int)) := Lib.hid ⟨by omega, IntWalk.wrap64_in _ (by omega)⟩
  have RU := Lib.hid rules_any
  have AW := Lib.hid aawake_any
  have HB0 : Hid (Below w.heap.size w (w.alloc (.cells #[.int .i64 ns0, .int .i64 ns1, .int .i64 ns2] 44))) := Lib.hid ((Below.refl _ _).alloc (Nat.le_refl _) _)
  have HN0 : Hid (Blk (w.alloc (.cells #[.int .i64 ns0, .int .i64 ns1, .int .i64 ns2] 44)) w.heap.size [.int .i64 ns0, .int .i64 ns1, .int .i64 ns2]) := Lib.hid (Blk.new w _ _)
  clear eq0 eq1 eq2 hq0 hq1 hq2 hH hD hM hE
  go_enter Try.func4, Try.ntmps4
  go_wp2_with fail
  refine (RU.out _).mono ?_
  rintro e w1 ⟨rfl, hb⟩
  have HB1 := Lib.hid (bel_on HB0.out hb)
  have HN1 := Lib.hid (HN0.out.on hb)
  clear hb HB0 HN0
  have hst := rul_new (w := w1) (h := 2) (d := 5) (r := 2) (s := 3) rfl
  go_upto_region 2 with fail
  clear hst
  obtain ⟨v1, hv1⟩ : ∃ v1, w1.alloc (.cells (rul 2 5 2 3).toArray 35) = v1 := ⟨_, rfl⟩
  obtain ⟨br, hbr⟩ : ∃ br, w1.heap.size = br := ⟨_, rfl⟩
  rw [hv1, hbr]
  have HR1 : Hid (Blk v1 br (rul 2 5 2 3)) := Lib.hid (hv1 ▸ Blk.newAt hbr _ _)
  have HN2 := Lib.hid (hv1 ▸ HN1.out.next (.cells (rul 2 5 2 3).toArray 35))
  have HB2 := Lib.hid (hv1 ▸ HB1.out.alloc HB1.out.size (.cells (rul 2 5 2 3).toArray 35))
  have HBR : Hid (w.heap.size < br) := Lib.hid (by have := HN1.out.lt; omega)
  clear hv1 hbr HN1 HB1
  have n0 := HN2.out.cell 0 rfl
  have n1 := HN2.out.cell 1 rfl
  have r0 := HR1.out.cell 0 rfl
  have r1 := HR1.out.cell 1 rfl
  have z0 := HR1.out.thaw 0
  have z1 := HR1.out.thaw 1
  have e0 := E0.out
  have e1 := E1.out
  have eH := EH.out
  have eD := ED.out
  go_region
  obtain ⟨v2, hv2⟩ : ∃ v2, ((v1.setCell ⟨br, 0, none⟩ (.int .i64 (H : Int))).setCell ⟨br, 1, none⟩ (.int .i64 (D : Int))).drew = v2 := ⟨_, rfl⟩
  rw [hv2]
  have HR2 : Hid (Blk v2 br (rul (H : Int) (D : Int) 2 3)) := Lib.hid (hv2 ▸ ((HR1.out.set 0 (.int .i64 (H : Int))).set 1 (.int .i64 (D : Int))).drew)
  have HN3 : Hid (Blk v2 w.heap.size [.int .i64 ns0, .int .i64 ns1, .int .i64 ns2]) := Lib.hid (hv2 ▸ ((HN2.out.other ⟨br, 0, none⟩ (.int .i64 (H : Int)) (Nat.ne_of_lt HBR.out)).other ⟨br, 1, none⟩ (.int .i64 (D : Int)) (Nat.ne_of_lt HBR.out)).drew)
  have HB3 : Hid (Below w.heap.size w v2) := Lib.hid (hv2 ▸ ((HB2.out.setCell (p := ⟨br, 0, none⟩) (Nat.le_of_lt HBR.out) (.int .i64 (H : Int))).setCell (p := ⟨br, 1, none⟩) (Nat.le_of_lt HBR.out) (.int .i64 (D : Int))).drew)
  clear hv2 HN2 HB2 HR1 n0 n1 r0 r1 z0 z1 e0 e1 eH eD E0 E1 EH ED hh hd
  have n2 := HN3.out.cell 2 rfl
  have r1 := HR2.out.cell 1 rfl
  have e2 := E2.out
  have eM := EM.out
  have eU := EU.out
  have eN := EN.out
  have eN' : ¬ ((M : Int) = 0) := by omega
  obtain ⟨eE, eE'⟩ := EE.out
  have hst : (wholeStore 33 (.pointer (some ⟨v2.heap.size, 0, none⟩)) (.agg #[.int .i64 2, .int .u32 0, .int .u32 0, .int .u32 0, .int .u32 0, .int .i64 0, .int .i64 0, .int .i64 0, .slice none 0 0, .int .i64 0, .slice none 0 0, .slice none 0 0])).run Try.prog (v2.alloc (.cells #[.int .i64 0, .int .u32 0, .int .u32 0, .int .u32 0, .int .u32 0, .int .i64 0, .int .i64 0, .int .i64 0, .slice none 0 0, .int .i64 0, .slice none 0 0, .slice none 0 0] 33)) = .ok () (v2.alloc (.cells #[.int .i64 2, .int .u32 0, .int .u32 0, .int .u32 0, .int .u32 0, .int .i64 0, .int .i64 0, .int .i64 0, .slice none 0 0, .int .i64 0, .slice none 0 0, .slice none 0 0] 33)) := prt_new (st := 2) (q := 0) (t := 0) (x := ends0) rfl
  go_upto_region 7 with fail
  clear hst n2 r1 e2 eM eU eN eN' eE eE' E2 EM EU EN
  rw [EE.out.2]
  clear EE
  obtain ⟨v3, hv3⟩ : ∃ v, v2.alloc (.cells #[.int .i64 2, .int .u32 0, .int .u32 0, .int .u32 0, .int .u32 0, .int .i64 0, .int .i64 0, .int .i64 0, .slice none 0 0, .int .i64 0, .slice none 0 0, .slice none 0 0] 33) = v := ⟨_, rfl⟩
  obtain ⟨bp, hbp⟩ : ∃ b, v2.heap.size = b := ⟨_, rfl⟩
  rw [hv3, hbp]
  have HP3 : Hid (Blk v3 bp (prt 2 ((0 % E : Nat) : Int) ((wtN H 1 : Nat) : Int) ends0)) := Lib.hid (by
    have h : Blk v3 bp (prt 2 0 0 ends0) := hv3 ▸ Blk.newAt hbp (prt 2 0 0 ends0) 33
    simpa [wtN] using h)
  have HR3 := Lib.hid (hv3 ▸ HR2.out.next (.cells #[.int .i64 2, .int .u32 0, .int .u32 0, .int .u32 0, .int .u32 0, .int .i64 0, .int .i64 0, .int .i64 0, .slice none 0 0, .int .i64 0, .slice none 0 0, .slice none 0 0] 33))
  have HH3 := Lib.hid (hv3 ▸ HB3.out.alloc HB3.out.size (.cells #[.int .i64 2, .int .u32 0, .int .u32 0, .int .u32 0, .int .u32 0, .int .i64 0, .int .i64 0, .int .i64 0, .slice none 0 0, .int .i64 0, .slice none 0 0, .slice none 0 0] 33))
  have HN : Hid (w.heap.size ≤ bp ∧ br ≠ bp) := Lib.hid (by have := HB3.out.size; have := HR2.out.lt; omega)
  clear hv3 hbp HR2 HN3 HB3
  go_loopw [6, 7] (fun s j wr => ∃ (i k : Nat), i + 1 = k ∧ k ≤ 61 ∧ s = .int .i64 ((cnN H k : Nat) : Int) ∧ j = .int .i64 (k : Int) ∧ Blk wr bp (prt 2 ((i % E : Nat) : Int) ((wtN H k : Nat) : Int) ends0) ∧ Blk wr br (rul (H : Int) (D : Int) 2 3) ∧ Below w.heap.size w wr) (fun _ j _ => ((60 : Int) + 1 - intOf j).toNat)
  case atStart => exact ⟨0, 1, rfl, by omega, by simp [cnN], rfl, HP3.out, HR3.out, HH3.out⟩
  case round =>
    clear HP3 HR3 HH3
    obtain ⟨i, k, hik, hk, rfl, rfl, hP, hR, hH⟩ := hrel
    have HP := Lib.hid hP
    have HR := Lib.hid hR
    have HH := Lib.hid hH
    clear hP hR hH
    by_cases hk60 : k ≤ 60
    · have hx := HX.out
      have TK : Hid (Gives Try.prog 7 #[.agg (prt 2 ((i % E : Nat) : Int) ((wtN H k : Nat) : Int) ends0).toArray, .agg (rul (H : Int) (D : Int) 2 3).toArray] (.tuple #[.agg (prt 2 ((i % E + 1 : Nat) : Int) ((wtN H (k + 1) : Nat) : Int) ends0).toArray, .bool (decide (i % H = 0)), .bool false])) := Lib.hid (by
        have h := tick_any 2 ((i % E : Nat) : Int) ((wtN H k : Nat) : Int) ends0 (H : Int) (D : Int) 2 3 (by have := wt_le H k hx.2.1; omega) (by omega) (by omega)
        subst hik
        obtain ⟨h1, h2⟩ := quiet_step E D i hx.2.2.2.2.1 hx.2.2.2.2.2
        rw [show tickQ 2 ((i % E : Nat) : Int) (D : Int) = quietF ((i % E : Nat) : Int) (D : Int) by simp [tickQ], h1,
          show tickW 2 ((wtN H (i + 1) : Nat) : Int) (H : Int) = waitF ((wtN H (i + 1) : Nat) : Int) (H : Int) by simp [tickW], wt_step H i hx.1,
          show tickS 2 ((wtN H (i + 1) : Nat) : Int) = dueF 2 ((wtN H (i + 1) : Nat) : Int) from rfl, due_step H i hx.1,
          show tickD 2 ((i % E : Nat) : Int) (D : Int) = false by rw [tickD, h1, h2]; rfl] at h
        exact h)
      have hcn : cnN H (k + 1) = cnN H k + (if i % H = 0 then 1 else 0) := by subst hik; exact cn_step H i hx.1
      have hcl := cn_le H k hk
      have hhs := heard_step E i hx.2.2.2.2.1
      obtain ⟨S, hS⟩ : ∃ S, decide (i % H = 0) = S := ⟨_, rfl⟩
      obtain ⟨B, hB⟩ : ∃ B, decide (k % E = 0) = B := ⟨_, rfl⟩
      obtain ⟨c, hc⟩ : ∃ c, cnN H k = c := ⟨_, rfl⟩
      obtain ⟨R, hRR⟩ : ∃ R, i % H = R := ⟨_, rfl⟩
      obtain ⟨T, hTT⟩ : ∃ T, k % E = T := ⟨_, rfl⟩
      have HC : Hid (cnN H (k + 1) = c + (if S then 1 else 0)) := Lib.hid (by rw [hcn, hc, ← hS]; simp)
      have HT : Hid (k % E = if B then 0 else i % E + 1) := Lib.hid (by rw [← hB, ← hik, ← hhs]; simp only [decide_eq_true_eq, hhs])
      rw [hS] at TK
      rw [hc] at hcl ⊢
      have HQ' : Hid (∃ Q, i % E = Q) := Lib.hid ⟨_, rfl⟩
      obtain ⟨Q, hQ⟩ : ∃ Q, i % E = Q := ⟨_, rfl⟩
      obtain ⟨Q1, hQ1⟩ : ∃ Q1, i % E + 1 = Q1 := ⟨_, rfl⟩
      obtain ⟨W, hW⟩ : ∃ W, wtN H k = W := ⟨_, rfl⟩
      obtain ⟨W1, hW1⟩ : ∃ W1, wtN H (k + 1) = W1 := ⟨_, rfl⟩
      rw [hQ1, hQ, hW, hW1] at TK
      rw [hQ, hW] at HP
      rw [hQ1] at HT
      have HW1 := Lib.hid hW1
      have HIK := Lib.hid (And.intro hik hk60)
      have d1 : decide ((k : Int) ≤ 60) = true := decide_eq_true (by omega)
      have d1' : decide (k ≤ 60) = true := decide_eq_true hk60
      have ek1 : wrap64 ((k : Int) - 1) = (i : Int) := by rw [show (k : Int) - 1 = (i : Int) by omega]; exact IntWalk.wrap64_in _ (by omega)
      have ek : wrap64 ((k : Int) + 1) = (k : Int) + 1 := IntWalk.wrap64_in _ (by omega)
      have eR : Int.tmod (i : Int) (H : Int) = (R : Int) := by rw [mod_in, hRR]
      have eS : ((R : Int) == 0) = S := by rw [← hS, hRR]; exact decide_eq_decide.2 (by omega)
      have eT : Int.tmod (k : Int) (E : Int) = (T : Int) := by rw [mod_in, hTT]
      have eB : ((T : Int) == 0) = B := by rw [← hB, hTT]; exact decide_eq_decide.2 (by omega)
      have hH0 : H ≠ 0 := by omega
      have hH0' : ¬ ((H : Int) = 0) := by omega
      have hE0 : E ≠ 0 := by omega
      have hE0' : ¬ ((E : Int) = 0) := by omega
      have ec : wrap64 ((c : Int) + 1) = (c : Int) + 1 := IntWalk.wrap64_in _ (by omega)
      have hl := prt_load HP.out
      have hm := rul_load HR.out
      clear hx hcn hcl hhs hS hB hc hRR hTT hQ hQ1 hW hW1 hik hk hk60 HQ'
      go_wp2_with fail
      refine (TK.out _).mono ?_
      rintro e w3 ⟨rfl, hb⟩
      have HP := Lib.hid (HP.out.on hb)
      have HR := Lib.hid (HR.out.on hb)
      have HH := Lib.hid (bel_on HH.out hb)
      clear hb hl hm TK
      have hst := prt_new (w := w3) (st := 2) (q := (Q1 : Int)) (t := (W1 : Int)) (x := ends0) rfl
      go_upto_region 10 with fail
      clear hst
      have HQ : Hid (Blk (w3.alloc (.cells (prt 2 (Q1 : Int) (W1 : Int) ends0).toArray 33)) w3.heap.size (prt 2 (Q1 : Int) (W1 : Int) ends0)) := Lib.hid (Blk.new w3 _ _)
      have HPL : Hid (bp < w3.heap.size ∧ br < w3.heap.size ∧ w.heap.size ≤ w3.heap.size) := Lib.hid ⟨HP.out.lt, HR.out.lt, HH.out.size⟩
      have HP := Lib.hid (HP.out.next (.cells (prt 2 (Q1 : Int) (W1 : Int) ends0).toArray 33))
      have HR := Lib.hid (HR.out.next (.cells (prt 2 (Q1 : Int) (W1 : Int) ends0).toArray 33))
      have HH := Lib.hid (HH.out.alloc HH.out.size (.cells (prt 2 (Q1 : Int) (W1 : Int) ends0).toArray 33))
      obtain ⟨w4, hw4⟩ : ∃ v, w3.alloc (.cells (prt 2 (Q1 : Int) (W1 : Int) ends0).toArray 33) = v := ⟨_, rfl⟩
      rw [hw4] at HP HR HH HQ ⊢
      clear hw4
      obtain ⟨bq, hbq⟩ : ∃ b, w3.heap.size = b := ⟨_, rfl⟩
      rw [hbq] at HQ HPL ⊢
      clear hbq
      have r0 := HR.out.cell 0 rfl
      cases S with
      | true =>
        have HC : Hid (cnN H (k + 1) = c + 1) := Lib.hid (by simpa using HC.out)
        go_upto_region 14 with fail
        clear r0 eS eR ek1 hH0 hH0'
        cases B with
        | true =>
          have HT : Hid (k % E = 0) := Lib.hid (by simpa using HT.out)
          have HE := Lib.hid (heard_any 2 (Q1 : Int) (W1 : Int) ends0)
          have hl := prt_load HQ.out
          go_wp2_with fail
          refine (HE.out _).mono ?_
          rintro e w5 ⟨rfl, hb⟩
          clear hl HE
          have HP := Lib.hid (HP.out.on hb)
          have HR := Lib.hid (HR.out.on hb)
          have HQ := Lib.hid (HQ.out.on hb)
          have HH := Lib.hid (bel_on HH.out hb)
          clear hb
          have hs := prt_store (st' := 2) (q' := 0) (t' := (W1 : Int)) (x' := ends0) HQ.out
          go_upto_region 16 with fail
          clear hs eT eB hE0 hE0'
          have HP := Lib.hid (HP.out.beside bq (Nat.ne_of_lt HPL.out.1) (prt 2 0 (W1 : Int) ends0).toArray)
          have HR := Lib.hid (HR.out.beside bq (Nat.ne_of_lt HPL.out.2.1) (prt 2 0 (W1 : Int) ends0).toArray)
          have HH := Lib.hid (below_setRow HH.out HPL.out.2.2 (prt 2 0 (W1 : Int) ends0).toArray)
          have HQ := Lib.hid (HQ.out.put (prt 2 0 (W1 : Int) ends0))
          obtain ⟨w6, hw6⟩ : ∃ v, w5.setRow bq (prt 2 0 (W1 : Int) ends0).toArray = v := ⟨_, rfl⟩
          rw [hw6] at HP HR HH HQ ⊢
          clear hw6
          have hl := prt_load HQ.out
          have hs := prt_store (st' := 2) (q' := 0) (t' := (W1 : Int)) (x' := ends0) HP.out
          have HR := Lib.hid (HR.out.beside bp HN.out.2 (prt 2 0 (W1 : Int) ends0).toArray)
          have HH := Lib.hid (below_setRow HH.out HN.out.1 (prt 2 0 (W1 : Int) ends0).toArray)
          have HP := Lib.hid (HP.out.put (prt 2 0 (W1 : Int) ends0))
          go_wp2_with fail
          clear hl hs
          go_roundw
          case rel => exact ⟨k, k + 1, rfl, by have := HIK.out; omega, by first | (rw [HC.out]; done) | (rw [HC.out]; go_num), by go_num, by rw [HT.out, HW1.out]; exact HP.out, HR.out, HH.out⟩
          case measure => exact ad_meas 60 k (by have := HIK.out; omega) _ ek
        | false =>
          have HT : Hid (k % E = Q1) := Lib.hid (by simpa using HT.out)
          go_upto_region 16 with fail
          clear eT eB hE0 hE0'
          have hl := prt_load HQ.out
          have hs := prt_store (st' := 2) (q' := (Q1 : Int)) (t' := (W1 : Int)) (x' := ends0) HP.out
          have HR := Lib.hid (HR.out.beside bp HN.out.2 (prt 2 (Q1 : Int) (W1 : Int) ends0).toArray)
          have HH := Lib.hid (below_setRow HH.out HN.out.1 (prt 2 (Q1 : Int) (W1 : Int) ends0).toArray)
          have HP := Lib.hid (HP.out.put (prt 2 (Q1 : Int) (W1 : Int) ends0))
          go_wp2_with fail
          clear hl hs
          go_roundw
          case rel => exact ⟨k, k + 1, rfl, by have := HIK.out; omega, by first | (rw [HC.out]; done) | (rw [HC.out]; go_num), by go_num, by rw [HT.out, HW1.out]; exact HP.out, HR.out, HH.out⟩
          case measure => exact ad_meas 60 k (by have := HIK.out; omega) _ ek
      | false =>
        have HC : Hid (cnN H (k + 1) = c) := Lib.hid (by simpa using HC.out)
        go_upto_region 14 with fail
        clear r0 eS eR ek1 hH0 hH0'
        cases B with
        | true =>
          have HT : Hid (k % E = 0) := Lib.hid (by simpa using HT.out)
          have HE := Lib.hid (heard_any 2 (Q1 : Int) (W1 : Int) ends0)
          have hl := prt_load HQ.out
          go_wp2_with fail
          refine (HE.out _).mono ?_
          rintro e w5 ⟨rfl, hb⟩
          clear hl HE
          have HP := Lib.hid (HP.out.on hb)
          have HR := Lib.hid (HR.out.on hb)
          have HQ := Lib.hid (HQ.out.on hb)
          have HH := Lib.hid (bel_on HH.out hb)
          clear hb
          have hs := prt_store (st' := 2) (q' := 0) (t' := (W1 : Int)) (x' := ends0) HQ.out
          go_upto_region 16 with fail
          clear hs eT eB hE0 hE0'
          have HP := Lib.hid (HP.out.beside bq (Nat.ne_of_lt HPL.out.1) (prt 2 0 (W1 : Int) ends0).toArray)
          have HR := Lib.hid (HR.out.beside bq (Nat.ne_of_lt HPL.out.2.1) (prt 2 0 (W1 : Int) ends0).toArray)
          have HH := Lib.hid (below_setRow HH.out HPL.out.2.2 (prt 2 0 (W1 : Int) ends0).toArray)
          have HQ := Lib.hid (HQ.out.put (prt 2 0 (W1 : Int) ends0))
          obtain ⟨w6, hw6⟩ : ∃ v, w5.setRow bq (prt 2 0 (W1 : Int) ends0).toArray = v := ⟨_, rfl⟩
          rw [hw6] at HP HR HH HQ ⊢
          clear hw6
          have hl := prt_load HQ.out
          have hs := prt_store (st' := 2) (q' := 0) (t' := (W1 : Int)) (x' := ends0) HP.out
          have HR := Lib.hid (HR.out.beside bp HN.out.2 (prt 2 0 (W1 : Int) ends0).toArray)
          have HH := Lib.hid (below_setRow HH.out HN.out.1 (prt 2 0 (W1 : Int) ends0).toArray)
          have HP := Lib.hid (HP.out.put (prt 2 0 (W1 : Int) ends0))
          go_wp2_with fail
          clear hl hs
          go_roundw
          case rel => exact ⟨k, k + 1, rfl, by have := HIK.out; omega, by first | (rw [HC.out]; done) | (rw [HC.out]; go_num), by go_num, by rw [HT.out, HW1.out]; exact HP.out, HR.out, HH.out⟩
          case measure => exact ad_meas 60 k (by have := HIK.out; omega) _ ek
        | false =>
          have HT : Hid (k % E = Q1) := Lib.hid (by simpa using HT.out)
          go_upto_region 16 with fail
          clear eT eB hE0 hE0'
          have hl := prt_load HQ.out
          have hs := prt_store (st' := 2) (q' := (Q1 : Int)) (t' := (W1 : Int)) (x' := ends0) HP.out
          have HR := Lib.hid (HR.out.beside bp HN.out.2 (prt 2 (Q1 : Int) (W1 : Int) ends0).toArray)
          have HH := Lib.hid (below_setRow HH.out HN.out.1 (prt 2 (Q1 : Int) (W1 : Int) ends0).toArray)
          have HP := Lib.hid (HP.out.put (prt 2 (Q1 : Int) (W1 : Int) ends0))
          go_wp2_with fail
          clear hl hs
          go_roundw
          case rel => exact ⟨k, k + 1, rfl, by have := HIK.out; omega, by first | (rw [HC.out]; done) | (rw [HC.out]; go_num), by go_num, by rw [HT.out, HW1.out]; exact HP.out, HR.out, HH.out⟩
          case measure => exact ad_meas 60 k (by have := HIK.out; omega) _ ek
    · obtain rfl : k = 61 := by omega
      have d0 : decide (((61 : Nat) : Int) ≤ 60) = false := rfl
      have HC : Hid (cnN H 61 = 59 / H + 1) := Lib.hid (by simp [cnN])
      have hwt := wt_le H 61 HX.out.2.1
      obtain ⟨W, hW⟩ : ∃ W, wtN H 61 = W := ⟨_, rfl⟩
      obtain ⟨Q, hQ⟩ : ∃ Q, i % E = Q := ⟨_, rfl⟩
      obtain ⟨c, hc⟩ : ∃ c, cnN H 61 = c := ⟨_, rfl⟩
      rw [hW] at hwt
      rw [hW, hQ] at HP
      rw [hc] at HC ⊢
      have HWT := Lib.hid hwt
      clear hik hk hk60 hwt hW hQ hc
      have HE := Lib.hid (heard_any 2 (Q : Int) (W : Int) ends0)
      have hl := prt_load HP.out
      go_wp2_with fail
      refine (HE.out _).mono ?_
      rintro e w3 ⟨rfl, hb⟩
      clear hl HE d0
      have HP := Lib.hid (HP.out.on hb)
      have HR := Lib.hid (HR.out.on hb)
      have HH := Lib.hid (bel_on HH.out hb)
      clear hb
      have hs := prt_store (st' := 2) (q' := 0) (t' := (W : Int)) (x' := ends0) HP.out
      go_upto_region 19 with fail
      clear hs
      have HR := Lib.hid (HR.out.beside bp HN.out.2 (prt 2 0 (W : Int) ends0).toArray)
      have HH := Lib.hid (below_setRow HH.out HN.out.1 (prt 2 0 (W : Int) ends0).toArray)
      have HP := Lib.hid (HP.out.put (prt 2 0 (W : Int) ends0))
      obtain ⟨w4, hw4⟩ : ∃ v, w3.setRow bp (prt 2 0 (W : Int) ends0).toArray = v := ⟨_, rfl⟩
      rw [hw4] at HP HR HH ⊢
      clear hw4
      go_loopw [11] (fun j wr => ∃ (i k : Nat) (t : Int), i + 1 = k ∧ k ≤ D + 1 ∧ t ≤ 10 ∧ j = .int .i64 (k : Int) ∧ Blk wr bp (prt 2 ((i : Nat) : Int) t ends0) ∧ Blk wr br (rul (H : Int) (D : Int) 2 3) ∧ Below w.heap.size w wr) (fun j _ => ((D : Int) + 1 - intOf j).toNat)
      case atStart => exact ⟨0, 1, (W : Int), rfl, by have := HX.out; omega, by have := HWT.out; omega, rfl, HP.out, HR.out, HH.out⟩
      case round =>
        clear HP HR HH HWT
        obtain ⟨i, k, t, hik, hk, ht, rfl, hP, hR, hH⟩ := hrel
        have HP := Lib.hid hP
        have HR := Lib.hid hR
        have HH := Lib.hid hH
        clear hP hR hH
        by_cases hkD : k ≤ D
        · have hx := HX.out
          have TK : Hid (Gives Try.prog 7 #[.agg (prt 2 ((i : Nat) : Int) t ends0).toArray, .agg (rul (H : Int) (D : Int) 2 3).toArray] (.tuple #[.agg (prt 2 (k : Int) (waitF t (H : Int)) ends0).toArray, .bool (dueF 2 t), .bool (decide (k = D))])) := Lib.hid (by
            have h := tick_any 2 ((i : Nat) : Int) t ends0 (H : Int) (D : Int) 2 3 (by omega) (by omega) (by omega)
            obtain ⟨h1, h2⟩ := last_step D i (by omega)
            subst hik
            rw [show tickQ 2 ((i : Nat) : Int) (D : Int) = quietF ((i : Nat) : Int) (D : Int) by simp [tickQ], h1,
              show tickW 2 t (H : Int) = waitF t (H : Int) by simp [tickW],
              show tickS 2 t = dueF 2 t from rfl,
              show tickD 2 ((i : Nat) : Int) (D : Int) = decide (i + 1 = D) by rw [tickD, h1, h2]; rfl] at h
            exact h)
          have HWL := Lib.hid (wait_le t (H : Int) ht (by omega))
          obtain ⟨V, hV⟩ : ∃ V, decide (k = D) = V := ⟨_, rfl⟩
          obtain ⟨U, hU⟩ : ∃ U, dueF 2 t = U := ⟨_, rfl⟩
          obtain ⟨t1, ht1⟩ : ∃ t1, waitF t (H : Int) = t1 := ⟨_, rfl⟩
          rw [hV, hU, ht1] at TK
          rw [ht1] at HWL
          have d1 : decide ((k : Int) ≤ (D : Int)) = true := decide_eq_true (by omega)
          have d1' : decide (k ≤ D) = true := decide_eq_true hkD
          have ek : wrap64 ((k : Int) + 1) = (k : Int) + 1 := IntWalk.wrap64_in _ (by omega)
          have eV : ((k : Int) == (D : Int)) = V := by rw [← hV]; exact decide_eq_decide.2 (by omega)
          have HIK := Lib.hid hkD
          have hl := prt_load HP.out
          have hm := rul_load HR.out
          have r1 := HR.out.cell 1 rfl
          clear hx hV hU ht1 ht hik hk hkD
          go_wp2_with fail
          refine (TK.out _).mono ?_
          rintro e w5 ⟨rfl, hb⟩
          have HP := Lib.hid (HP.out.on hb)
          have HR := Lib.hid (HR.out.on hb)
          have HH := Lib.hid (bel_on HH.out hb)
          clear hb hl hm TK r1 d1 d1'
          have hst := prt_new (w := w5) (st := 2) (q := (k : Int)) (t := t1) (x := ends0) rfl
          go_upto_region 22 with fail
          clear hst
          have HQ : Hid (Blk (w5.alloc (.cells (prt 2 (k : Int) t1 ends0).toArray 33)) w5.heap.size (prt 2 (k : Int) t1 ends0)) := Lib.hid (Blk.new w5 _ _)
          have HP := Lib.hid (HP.out.next (.cells (prt 2 (k : Int) t1 ends0).toArray 33))
          have HR := Lib.hid (HR.out.next (.cells (prt 2 (k : Int) t1 ends0).toArray 33))
          have HH := Lib.hid (HH.out.alloc HH.out.size (.cells (prt 2 (k : Int) t1 ends0).toArray 33))
          obtain ⟨w6, hw6⟩ : ∃ v, w5.alloc (.cells (prt 2 (k : Int) t1 ends0).toArray 33) = v := ⟨_, rfl⟩
          rw [hw6] at HP HR HH HQ ⊢
          clear hw6
          have r1 := HR.out.cell 1 rfl
          have hl := prt_load HQ.out
          have hs := prt_store (st' := 2) (q' := (k : Int)) (t' := t1) (x' := ends0) HP.out
          have HR := Lib.hid (HR.out.beside bp HN.out.2 (prt 2 (k : Int) t1 ends0).toArray)
          have HH := Lib.hid (below_setRow HH.out HN.out.1 (prt 2 (k : Int) t1 ends0).toArray)
          have HP := Lib.hid (HP.out.put (prt 2 (k : Int) t1 ends0))
          cases V <;> (
            go_wp2_with fail
            clear hl hs r1
            go_roundw
            case rel => exact ⟨k, k + 1, t1, rfl, by have := HIK.out; omega, HWL.out, by go_num, HP.out, HR.out, HH.out⟩
            case measure => exact ad_meas D k (by have := HIK.out; omega) _ ek)
        · have d0 : decide ((k : Int) ≤ (D : Int)) = false := decide_eq_false (by omega)
          have d0' : decide (k ≤ D) = false := decide_eq_false (by omega)
          obtain ⟨Y, hY⟩ : ∃ Y, 59 / H = Y := ⟨_, rfl⟩
          have hYl : Y ≤ 59 := by rw [← hY]; exact Nat.div_le_self 59 H
          have eq : Int.tdiv 59 (H : Int) = (Y : Int) := by rw [quo_in, hY]
          have eq' : wrap64 (Y : Int) = (Y : Int) := IntWalk.wrap64_in _ (by omega)
          have eY : wrap64 ((Y : Int) + 1) = (c : Int) := by rw [HC.out, hY]; exact IntWalk.wrap64_in _ (by omega)
          have ec : ((c : Int) == (c : Int)) = true := by simp
          have hH0 : H ≠ 0 := by have := HX.out; omega
          have hH0' : ¬ ((H : Int) = 0) := by omega
          have r0 := HR.out.cell 0 rfl
          have r1 := HR.out.cell 1 rfl
          clear hY hYl hkD hk hik ht HX HC
          go_wp2_with fail
          refine (AW.out _).mono ?_
          rintro e w7 ⟨rfl, hb⟩
          have HH := Lib.hid (bel_on HH.out hb)
          clear hb
          go_wp2_with fail
          go_ret
          exact ⟨rfl, HH.out⟩

set_option maxRecDepth 100000 in
theorem lifted (os : Os) (started : os.Started) (H : Type) (enc : TypeId × Value → H) :
    ReturnsInHanded {} Try.checked os 4 .any (Rows.aliveDiesSpec.pre6 enc Try.prog Try.f4 Rows.aliveDiesRow.domain false) (Rows.aliveDiesSpec.post enc Try.prog Try.f4 false true false false) := by
  refine returnsInHanded_of_change (C := Try.checked) own started (by kernel_rfl) Try.func4
    (ChangeSpec.witness6 (enc := enc) (C := Try.checked) false ⟨#[], #[.agg #[.int .i64 0, .int .i64 0, .int .i64 0]], []⟩ 8 (by kernel_rfl) (by kernel_rfl) (by kernel_rfl) (by kernel_rfl)) ?_
  intro W base args ds gs before hval0 hW hcnd _
  have hval : ∀ (j : Nat) t v, Try.f4.params[j]? = some t → args[j]? = some v → Value.okWide Try.prog W .any base t v := hval0
  have hW' := hW
  obtain ⟨p, q, hA0, hV, rfl, hfz, hnd⟩ := hW
  have hA : DataW.TrodAll enc Try.prog W 0 (fun _ => true) true Try.f4.params.toList args.toList ds p := hA0
  rw [Try.params4] at hA hval
  obtain ⟨v0, vs0, d0, ds0, p0, q0, hargs, rfl, rfl, h0, r0⟩ := trodAll_cons hA
  obtain ⟨rfl, rfl, rfl⟩ := trodAll_nil r0
  obtain rfl : args = #[v0] := by cases args; simp_all
  obtain ⟨rfl, rfl⟩ := trodVars_none hV
  have k0 := h0
  have lt0 : ∀ x ∈ p0, x.block < W.heap.size := by obtain ⟨m, hm⟩ := k0; exact DataW.trod_lt m _ _ _ hm
  obtain ⟨ns0, ns1, ns2, rfl, hbns0, hbns1, hbns2⟩ := open_int3 (hval 0 44 v0 rfl rfl) h0
  clear hA0 hval0
  refine (walk ns0 ns1 ns2 W).mono fun e W' ⟨he, bel⟩ => ?_
  subst he
  exact ⟨_, rfl, _, _, _, [], _, [], hW', trodAll_mk1 (shut_bool Try.underlying4 _),
    (trodAll_cons_mk (Below.trod laidOut (by kernel_rfl) (of_decide_eq_true (by kernel_rfl)) k0 bel lt0)
    trodAll_mk0), rfl, bel.frame _, fun h => by cases h⟩

theorem proved : Rows.AliveDiesSaid :=
  OpenClaim.holds_of_wide 4 Try.f4 rfl rfl rfl rfl rfl rfl rfl ⟨rfl, rfl, rfl, rfl, rfl⟩ rfl rfl rfl rfl rfl (by kernel_rfl) Try.func4 (by kernel_rfl)
    (of_decide_eq_true (by kernel_rfl)) (by unfold Func.isWrapper; first | (rw [if_pos (by decide +kernel)]; kernel_rfl) | (rw [if_neg (by decide +kernel)]; exact ⟨rfl, rfl⟩))
    (fun os started H enc _ => lifted os started H enc)
end Go.Proofs.Ytepmlgpllnndlaa.aliveDies
