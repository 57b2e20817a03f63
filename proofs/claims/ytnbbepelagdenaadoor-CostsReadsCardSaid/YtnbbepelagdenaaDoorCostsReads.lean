/- CostsReads: for any links c and d and any text s CostsReads answers true and leaves its arguments as they were; the tables of Go's own packages strconv, bits, strings and unicode and the two errors of strconv that the row lists read as the program's text lays them (tied). No other condition. -/
import Derived.Test.YtnbbepelagdenaaDoorRows
import Derived.Test.YtnbbepelagdenaaDoorCosAw
import Derived.Test.YtnbbepelagdenaaDoorCosT
import Derived.Test.YtnbbepelagdenaaDoorCosU
import Derived.Test.YtnbbepelagdenaaDoorCosV
import Derived.Test.YtnbbepelagdenaaDoorCosX
import Derived.Test.YtnbbepelagdenaaDoorCosOpen
import Derived.Test.YtnbbepelagdenaaDoorFrom
import Derived.Test.YtnbbepelagdenaaDoorNodesB
import Derived.ProofKit
import Derived.OpenShut
import Derived.ShutString
import Derived.ChangeOld
import Derived.Carry
import Derived.Test.YtnbbepelagdenaaDoorCosLaid7
import Derived.Test.YtnbbepelagdenaaDoorTie
import Derived.Test.YtnbbepelagdenaaDoorCards
import Derived.SevenTiedAt
import Derived.Stop.Joined
import Derived.LaidMore
namespace Go.Proofs.YtnbbepelagdenaaDoor.costsReads
open Go.ChangeShapes Go.WideShapes Go.ChangeAt Go.RowKit
open Go.ChangeMaps (open_string shut_string)

theorem own : ownKnob Tryd.prog.godebug = none := by kernel_rfl
theorem laidOut : laidOutB Tryd.prog = true := by kernel_rfl

attribute [local go_sem ↓] loadAt_cos loadAt_row storeAt_cos
open CosF Go.Sort

set_option maxRecDepth 100000 in
set_option maxHeartbeats 4000000 in
theorem walk (c d : Pt) (s : ByteArray) (w : World) (hc : Cos c) (hd : Cos d) (tab : Tabs w) :
    Calls Tryd.prog 5 #[.agg (cosP c).toArray, .agg (cosP d).toArray, .string s] w fun e w' => e = .returned (.bool true) ∧ Below w.heap.size w w' := by
  have AW : Hid (Gives Tryd.prog 18 #[] (.bool true)) := Lib.hid awake_any
  by_cases hs600 : s.size ≤ 600
  · have d1 : decide ((600 : Int) < (s.size : Int)) = false := decide_eq_false (by omega)
    have HC := Lib.hid hc
    have HD := Lib.hid hd
    have TAB := Lib.hid tab
    have PA := Lib.hid (fun w ht => cparse_any s w ht)
    have RPA := Lib.hid (fun w => rparse_any s w)
    have PCO := Lib.hid (parse_cos s.data.toList)
    have POK : Hid ((parseP s.data.toList).2 = 0 → soundF (parseP s.data.toList).1 = true ∧ str (textC (parseP s.data.toList).1) = s) := Lib.hid (fun h => by
      have h2 := parse_ok s.data.toList h
      exact ⟨h2.2.1, by rw [h2.2.2]; exact str_of s⟩)
    rw [← parse_same s.data.toList] at RPA
    have LE := Lib.hid (cleast_any c hc)
    have RLE := Lib.hid (rleast_any c hc)
    have TO := Lib.hid (ctotal_any c hc)
    have RTO := Lib.hid (rtotal_any c hc)
    have DI := Lib.hid (cdiff_any c d hc hd)
    have RDI := Lib.hid (rdiff_any c d hc hd)
    have DC := Lib.hid (cdiff_any c c hc hc)
    rw [diff_none c] at DC
    have SO := Lib.hid (csound_any c hc)
    have TX : Hid (∀ w, Tab10 w → Calls Tryd.prog 16 #[.agg (cosP c).toArray] w fun e w' => e = .returned (.string (str (textC c))) ∧ Below w.heap.size w w') := Lib.hid (fun w ht => ctext_any c hc w (fun _ _ _ => ht))
    have CN : Hid (Gives Tryd.prog 27 #[.int .i64 c.1] (.int .i64 (NodesF.countN c.1 : Nat))) := Lib.hid (fun w => (count_any c.1 w).mono (by
      rintro e w' ⟨rfl, n, rfl⟩
      exact ⟨rfl, Go.below_drewN (Below.refl _ _) n⟩))
    have P2 : Hid (soundF c = true → (∀ w, Tabs w → Calls Tryd.prog 19 #[.string (str (textC c))] w fun e w' => e = .returned (.tuple #[.agg (cosP c).toArray, .int .i64 0]) ∧ Below w.heap.size w w') ∧ decide (totalC c < NodesF.countN c.1) = false) := Lib.hid (fun h => ⟨fun w ht => by
        have h1 := cparse_any (str (textC c)) w ht
        rw [str_list, parse_text c hc h (sound_short c h)] at h1
        exact h1, decide_eq_false (by have := count_total c h; omega)⟩)
    have HCN : Hid (NodesF.countN c.1 ≤ 16) := Lib.hid (NodesF.popN_le 16 (NodesF.lowN c.1))
    obtain ⟨pv, hpv⟩ : ∃ p, parseP s.data.toList = p := ⟨_, rfl⟩
    rw [hpv] at PA RPA PCO POK
    obtain ⟨a, r⟩ := pv
    have PCO : Hid (Cos a) := PCO
    have NAA : Hid (∀ w, (binOp .neq 25 (.agg (cosP a).toArray) (.agg (cosP a).toArray)).run Tryd.prog w = .ok (.bool false) w) := Lib.hid (fun w => by
      have h := cos_neq a a w PCO.out.1 PCO.out.1
      rw [decide_eq_true rfl] at h
      exact h)
    have NCC : Hid (∀ w, (binOp .neq 25 (.agg (cosP c).toArray) (.agg (cosP c).toArray)).run Tryd.prog w = .ok (.bool false) w) := Lib.hid (fun w => by
      have h := cos_neq c c w HC.out.1 HC.out.1
      rw [decide_eq_true rfl] at h
      exact h)
    obtain ⟨ln, hln⟩ : ∃ x, leastC c = x := ⟨_, rfl⟩
    obtain ⟨tn, htn⟩ : ∃ x, totalC c = x := ⟨_, rfl⟩
    obtain ⟨df, hdf⟩ : ∃ x, diffC c d = x := ⟨_, rfl⟩
    obtain ⟨sd, hsd⟩ : ∃ x, soundF c = x := ⟨_, rfl⟩
    obtain ⟨t, ht⟩ : ∃ x, str (textC c) = x := ⟨_, rfl⟩
    obtain ⟨cn, hcn⟩ : ∃ x, NodesF.countN c.1 = x := ⟨_, rfl⟩
    rw [hln] at LE RLE
    rw [htn] at TO RTO P2
    rw [hdf] at DI RDI
    rw [hsd] at SO P2
    rw [ht] at TX P2
    rw [hcn] at CN HCN P2
    have LC : Hid (Cos a) := PCO
    have SA := Lib.hid (csound_any a PCO.out)
    have TA : Hid (∀ w, Tab10 w → Calls Tryd.prog 16 #[.agg (cosP a).toArray] w fun e w' => e = .returned (.string (str (textC a))) ∧ Below w.heap.size w w') := Lib.hid (fun w ht => ctext_any a PCO.out w (fun _ _ _ => ht))
    obtain ⟨sa, hsa⟩ : ∃ x, soundF a = x := ⟨_, rfl⟩
    obtain ⟨ta, hta⟩ : ∃ x, str (textC a) = x := ⟨_, rfl⟩
    rw [hsa] at SA
    rw [hta] at TA
    have POK : Hid (r = 0 → sa = true ∧ ta = s) := Lib.hid (by rw [← hsa, ← hta]; exact POK.out)
    clear hs600 hc hd tab hpv hln htn hdf hsd ht hcn hsa hta LC
    go_enter Tryd.func5, Tryd.ntmps5
    go_upto_region 1 with fail
    have k3 := (Blk.new w (cosP c) 25).next (.cells (cosP d).toArray 25)
    have k4 := Blk.new (w.alloc (.cells (cosP c).toArray 25)) (cosP d) 25
    rw [World.size_alloc] at k4
    have h0 := ((Below.refl w.heap.size w).alloc (Nat.le_refl _) (.cells (cosP c).toArray 25)).alloc (by simp only [World.size_alloc]; omega) (.cells (cosP d).toArray 25)
    obtain ⟨wa, hwa⟩ : ∃ v, (w.alloc (.cells (cosP c).toArray 25)).alloc (.cells (cosP d).toArray 25) = v := ⟨_, rfl⟩
    rw [hwa] at k3 k4 h0 ⊢
    clear hwa
    have K3 := Lib.hid k3
    have K4 := Lib.hid k4
    have HB := Lib.hid h0
    clear k3 k4 h0
    go_wp2_with fail
    refine (PA.out _ (TAB.out.on HB.out)).mono ?_
    rintro e wb ⟨rfl, hb⟩
    have K3' := Lib.hid (K3.out.on hb)
    have K4' := Lib.hid (K4.out.on hb)
    have HB' := Lib.hid (bel_on HB.out hb)
    clear K3 K4 HB hb
    have K3 := K3'
    have K4 := K4'
    have HB := HB'
    clear K3' K4' HB'
    have hst := new_store (w := wb) rfl PCO.out
    go_upto_region 4 with fail
    clear hst
    have K7' := Lib.hid (Blk.new wb (cosP a) 25)
    have K3' := Lib.hid (K3.out.next (.cells (cosP a).toArray 25))
    have K4' := Lib.hid (K4.out.next (.cells (cosP a).toArray 25))
    have HB' := Lib.hid (HB.out.alloc HB.out.size (.cells (cosP a).toArray 25))
    obtain ⟨wba, hwa⟩ : ∃ v, wb.alloc (.cells (cosP a).toArray 25) = v := ⟨_, rfl⟩
    rw [hwa] at K7' K3' K4' HB' ⊢
    obtain ⟨bK7, hbK7⟩ : ∃ b, wb.heap.size = b := ⟨_, rfl⟩
    rw [hbK7] at K7' ⊢
    clear hwa hbK7 HB K3 K4
    have K7 := K7'
    have K3 := K3'
    have K4 := K4'
    have HB := HB'
    clear K7' K3' K4' HB'
    go_wp2_with fail
    refine (RPA.out _).mono ?_
    rintro e wc ⟨rfl, hb⟩
    have K3' := Lib.hid (K3.out.on hb)
    have K4' := Lib.hid (K4.out.on hb)
    have K7' := Lib.hid (K7.out.on hb)
    have HB' := Lib.hid (bel_on HB.out hb)
    clear K3 K4 K7 HB hb
    have K3 := K3'
    have K4 := K4'
    have K7 := K7'
    have HB := HB'
    clear K3' K4' K7' HB'
    have hst := new_store (w := wc) rfl PCO.out
    go_upto_region 5 with fail
    clear hst
    have K9' := Lib.hid (Blk.new wc (cosP a) 25)
    have K3' := Lib.hid (K3.out.next (.cells (cosP a).toArray 25))
    have K4' := Lib.hid (K4.out.next (.cells (cosP a).toArray 25))
    have K7' := Lib.hid (K7.out.next (.cells (cosP a).toArray 25))
    have HB' := Lib.hid (HB.out.alloc HB.out.size (.cells (cosP a).toArray 25))
    obtain ⟨wca, hwa⟩ : ∃ v, wc.alloc (.cells (cosP a).toArray 25) = v := ⟨_, rfl⟩
    rw [hwa] at K9' K3' K4' K7' HB' ⊢
    obtain ⟨bK9, hbK9⟩ : ∃ b, wc.heap.size = b := ⟨_, rfl⟩
    rw [hbK9] at K9' ⊢
    clear hwa hbK9 HB K3 K4 K7
    have K9 := K9'
    have K3 := K3'
    have K4 := K4'
    have K7 := K7'
    have HB := HB'
    clear K9' K3' K4' K7' HB'
    have l3 := fun dd os => cos_load (K3.out.on (below_regrown _ dd os)) HC.out
    have l4 := fun dd os => cos_load (K4.out.on (below_regrown _ dd os)) HD.out
    have l7 := fun dd os => cos_load (K7.out.on (below_regrown _ dd os)) PCO.out
    have l9 := fun dd os => cos_load (K9.out.on (below_regrown _ dd os)) PCO.out
    have na := NAA.out
    refine wp_region_quiet_below (by kernel_rfl) (by kernel_rfl) ?_
    repeat (first | go_big_quiet_step (first | with_reducible exact LE.out.at _ _ _ | with_reducible exact RLE.out.at _ _ _ | with_reducible exact TO.out.at _ _ _ | with_reducible exact RTO.out.at _ _ _ | with_reducible exact DI.out.at _ _ _ | with_reducible exact RDI.out.at _ _ _ | with_reducible exact DC.out.at _ _ _) | quiet_step (first | with_reducible exact LE.out.at _ _ _ | with_reducible exact RLE.out.at _ _ _ | with_reducible exact TO.out.at _ _ _ | with_reducible exact RTO.out.at _ _ _ | with_reducible exact DI.out.at _ _ _ | with_reducible exact RDI.out.at _ _ _ | with_reducible exact DC.out.at _ _ _))
    refine wpQuiet_nil ?_
    intro _ hw'
    obtain ⟨⟨dq, osq⟩, hw''⟩ := hw'
    subst hw''
    clear l3 l4 l7 l9 na K9 K4
    have K3' := Lib.hid (K3.out.on (below_regrown _ dq osq))
    have K7' := Lib.hid (K7.out.on (below_regrown _ dq osq))
    have HB' := Lib.hid (bel_on HB.out (below_regrown _ dq osq))
    clear K3 K7 HB
    have K3 := K3'
    have K7 := K7'
    have HB := HB'
    clear K3' K7' HB'
    obtain ⟨wq, hwq⟩ : ∃ v, grow (redrawn wca dq) osq = v := ⟨_, rfl⟩
    rw [hwq] at K3 K7 HB ⊢
    clear hwq dq osq
    obtain ⟨b, hbq⟩ : ∃ b, (r == 0) = b := ⟨_, rfl⟩
    cases b with
    | false =>
      have l3 := cos_load K3.out HC.out
      go_wp2_with fail
      refine (SO.out _).mono ?_
      rintro e um ⟨rfl, hb⟩
      clear l3
      have K3' := Lib.hid (K3.out.on hb)
      have HB' := Lib.hid (bel_on HB.out hb)
      clear K3 HB hb
      have K3 := K3'
      have HB := HB'
      clear K3' HB'
      cases sd with
      | false =>
        go_wp2_with fail
        refine (AW.out _).mono ?_
        rintro e zm ⟨rfl, hb⟩
        have HB' := Lib.hid (bel_on HB.out hb)
        clear hb
        go_wp2_with fail
        go_ret
        exact ⟨rfl, HB'.out⟩
      | true =>
        have P2' := Lib.hid (P2.out rfl)
        have l3 := cos_load K3.out HC.out
        go_wp2_with fail
        refine (TX.out _ (TAB.out.on HB.out).1).mono ?_
        rintro e vm ⟨rfl, hb⟩
        clear l3
        have K3' := Lib.hid (K3.out.on hb)
        have HB' := Lib.hid (bel_on HB.out hb)
        clear K3 HB hb
        have K3 := K3'
        have HB := HB'
        clear K3' HB'
        go_wp2_with fail
        refine (P2'.out.1 _ (TAB.out.on HB.out)).mono ?_
        rintro e ym ⟨rfl, hb⟩
        have K3' := Lib.hid (K3.out.on hb)
        have HB' := Lib.hid (bel_on HB.out hb)
        clear K3 HB hb
        have K3 := K3'
        have HB := HB'
        clear K3' HB'
        have hst := new_store (w := ym) rfl HC.out
        go_upto_region 11 with fail
        clear hst
        have K11' := Lib.hid (Blk.new ym (cosP c) 25)
        have K3' := Lib.hid (K3.out.next (.cells (cosP c).toArray 25))
        have HB' := Lib.hid (HB.out.alloc HB.out.size (.cells (cosP c).toArray 25))
        obtain ⟨yma, hwa⟩ : ∃ v, ym.alloc (.cells (cosP c).toArray 25) = v := ⟨_, rfl⟩
        rw [hwa] at K11' K3' HB' ⊢
        obtain ⟨bK11, hbK11⟩ : ∃ b, ym.heap.size = b := ⟨_, rfl⟩
        rw [hbK11] at K11' ⊢
        clear hwa hbK11 HB K3
        have K11 := K11'
        have K3 := K3'
        have HB := HB'
        clear K11' K3' HB'
        have l3 := fun dd os => cos_load (K3.out.on (below_regrown _ dd os)) HC.out
        have l11 := fun dd os => cos_load (K11.out.on (below_regrown _ dd os)) HC.out
        have c3 := fun dd os => (K3.out.on (below_regrown _ dd os)).cell 0 rfl
        have nc := NCC.out
        have hle := P2'.out.2
        have hcn := HCN.out
        refine wp_region_quiet_below (by kernel_rfl) (by kernel_rfl) ?_
        repeat (first | go_big_quiet_step (first | with_reducible exact TO.out.at _ _ _ | with_reducible exact CN.out.at _ _ _) | quiet_step (first | with_reducible exact TO.out.at _ _ _ | with_reducible exact CN.out.at _ _ _))
        refine wpQuiet_nil ?_
        intro _ hw'
        obtain ⟨⟨dq, osq⟩, hw''⟩ := hw'
        subst hw''
        clear l3 l11 c3 nc hle hcn
        have K3' := Lib.hid (K3.out.on (below_regrown _ dq osq))
        have HB' := Lib.hid (bel_on HB.out (below_regrown _ dq osq))
        clear K3 HB
        have HB := HB'
        clear HB'
        go_wp2_with fail
        refine (AW.out _).mono ?_
        rintro e zm ⟨rfl, hb⟩
        have HB' := Lib.hid (bel_on HB.out hb)
        clear hb
        go_wp2_with fail
        go_ret
        exact ⟨rfl, HB'.out⟩
    | true =>
      obtain ⟨rfl, rfl⟩ := POK.out (eq_of_beq hbq)
      have l7 := cos_load K7.out PCO.out
      go_wp2_with fail
      refine (SA.out _).mono ?_
      rintro e wr ⟨rfl, hb⟩
      clear l7
      have K3' := Lib.hid (K3.out.on hb)
      have K7' := Lib.hid (K7.out.on hb)
      have HB' := Lib.hid (bel_on HB.out hb)
      clear K3 K7 HB hb
      have K3 := K3'
      have K7 := K7'
      have HB := HB'
      clear K3' K7' HB'
      have l7 := cos_load K7.out PCO.out
      go_wp2_with fail
      refine (TA.out _ (TAB.out.on HB.out).1).mono ?_
      rintro e wt ⟨rfl, hb⟩
      clear l7
      have K3' := Lib.hid (K3.out.on hb)
      have K7' := Lib.hid (K7.out.on hb)
      have HB' := Lib.hid (bel_on HB.out hb)
      clear K3 K7 HB hb
      have K3 := K3'
      have K7 := K7'
      have HB := HB'
      clear K3' K7' HB'
      have l3 := cos_load K3.out HC.out
      go_wp2_with fail
      refine (SO.out _).mono ?_
      rintro e un ⟨rfl, hb⟩
      clear l3
      have K3' := Lib.hid (K3.out.on hb)
      have HB' := Lib.hid (bel_on HB.out hb)
      clear K3 HB hb
      have K3 := K3'
      have HB := HB'
      clear K3' HB'
      cases sd with
      | false =>
        go_wp2_with fail
        refine (AW.out _).mono ?_
        rintro e zn ⟨rfl, hb⟩
        have HB' := Lib.hid (bel_on HB.out hb)
        clear hb
        go_wp2_with fail
        go_ret
        exact ⟨rfl, HB'.out⟩
      | true =>
        have P2' := Lib.hid (P2.out rfl)
        have l3 := cos_load K3.out HC.out
        go_wp2_with fail
        refine (TX.out _ (TAB.out.on HB.out).1).mono ?_
        rintro e vn ⟨rfl, hb⟩
        clear l3
        have K3' := Lib.hid (K3.out.on hb)
        have HB' := Lib.hid (bel_on HB.out hb)
        clear K3 HB hb
        have K3 := K3'
        have HB := HB'
        clear K3' HB'
        go_wp2_with fail
        refine (P2'.out.1 _ (TAB.out.on HB.out)).mono ?_
        rintro e yn ⟨rfl, hb⟩
        have K3' := Lib.hid (K3.out.on hb)
        have HB' := Lib.hid (bel_on HB.out hb)
        clear K3 HB hb
        have K3 := K3'
        have HB := HB'
        clear K3' HB'
        have hst := new_store (w := yn) rfl HC.out
        go_upto_region 11 with fail
        clear hst
        have K11' := Lib.hid (Blk.new yn (cosP c) 25)
        have K3' := Lib.hid (K3.out.next (.cells (cosP c).toArray 25))
        have HB' := Lib.hid (HB.out.alloc HB.out.size (.cells (cosP c).toArray 25))
        obtain ⟨yna, hwa⟩ : ∃ v, yn.alloc (.cells (cosP c).toArray 25) = v := ⟨_, rfl⟩
        rw [hwa] at K11' K3' HB' ⊢
        obtain ⟨bK11, hbK11⟩ : ∃ b, yn.heap.size = b := ⟨_, rfl⟩
        rw [hbK11] at K11' ⊢
        clear hwa hbK11 HB K3
        have K11 := K11'
        have K3 := K3'
        have HB := HB'
        clear K11' K3' HB'
        have l3 := fun dd os => cos_load (K3.out.on (below_regrown _ dd os)) HC.out
        have l11 := fun dd os => cos_load (K11.out.on (below_regrown _ dd os)) HC.out
        have c3 := fun dd os => (K3.out.on (below_regrown _ dd os)).cell 0 rfl
        have nc := NCC.out
        have hle := P2'.out.2
        have hcn := HCN.out
        refine wp_region_quiet_below (by kernel_rfl) (by kernel_rfl) ?_
        repeat (first | go_big_quiet_step (first | with_reducible exact TO.out.at _ _ _ | with_reducible exact CN.out.at _ _ _) | quiet_step (first | with_reducible exact TO.out.at _ _ _ | with_reducible exact CN.out.at _ _ _))
        refine wpQuiet_nil ?_
        intro _ hw'
        obtain ⟨⟨dq, osq⟩, hw''⟩ := hw'
        subst hw''
        clear l3 l11 c3 nc hle hcn
        have K3' := Lib.hid (K3.out.on (below_regrown _ dq osq))
        have HB' := Lib.hid (bel_on HB.out (below_regrown _ dq osq))
        clear K3 HB
        have HB := HB'
        clear HB'
        go_wp2_with fail
        refine (AW.out _).mono ?_
        rintro e zn ⟨rfl, hb⟩
        have HB' := Lib.hid (bel_on HB.out hb)
        clear hb
        go_wp2_with fail
        go_ret
        exact ⟨rfl, HB'.out⟩
  · have d1 : decide ((600 : Int) < (s.size : Int)) = true := decide_eq_true (by omega)
    clear hs600
    have k3 := (Blk.new w (cosP c) 25).next (.cells (cosP d).toArray 25)
    have h0 := ((Below.refl w.heap.size w).alloc (Nat.le_refl _) (.cells (cosP c).toArray 25)).alloc (by simp only [World.size_alloc]; omega) (.cells (cosP d).toArray 25)
    go_enter Tryd.func5, Tryd.ntmps5
    go_upto_region 1 with fail
    obtain ⟨wa, hwa⟩ : ∃ v, (w.alloc (.cells (cosP c).toArray 25)).alloc (.cells (cosP d).toArray 25) = v := ⟨_, rfl⟩
    rw [hwa] at h0 ⊢
    clear hwa k3
    have HB := Lib.hid h0
    clear h0
    go_wp2_with fail
    refine (AW.out _).mono ?_
    rintro e wz ⟨rfl, hb⟩
    have HB' := Lib.hid (bel_on HB.out hb)
    clear hb
    go_wp2_with fail
    go_ret
    exact ⟨rfl, HB'.out⟩



set_option maxRecDepth 100000 in
theorem lifted (os : Os) (started : os.Started) (H : Type) (enc : TypeId × Value → H) :
    ReturnsInHanded {} Tryd.checked os 5 .any (fun w args => (Rows.costsReadsSpec.pre enc Tryd.prog Tryd.f5 [] false w args ∧ laidMetH Tryd.prog laidSeven w) ∧ sizedMet enc Tryd.prog Tryd.f5 (OpenSpec.ofChange Rows.costsReadsSpec) false w args) (Rows.costsReadsSpec.post enc Tryd.prog Tryd.f5 false true false false) := by
  refine returnsInHanded_of_change_and (C := Tryd.checked) (X := fun w _ => laidMetH Tryd.prog laidSeven w) (fun _ _ _ hh h => h.of_heap hh) own started (by kernel_rfl) Tryd.func5
    (ChangeSpec.witness_shaped (enc := enc) (C := Tryd.checked) (os := os) (X := fun w _ => laidMetH Tryd.prog laidSeven w) false (World.doorLaid Tryd.prog 257 os) #[.agg #[.int .i64 0, .int .u32 0, .int .u32 0, .int .u32 0, .int .u32 0, .int .u32 0, .int .u32 0, .int .u32 0, .int .u32 0, .int .u32 0, .int .u32 0, .int .u32 0, .int .u32 0, .int .u32 0, .int .u32 0, .int .u32 0, .int .u32 0], .agg #[.int .i64 0, .int .u32 0, .int .u32 0, .int .u32 0, .int .u32 0, .int .u32 0, .int .u32 0, .int .u32 0, .int .u32 0, .int .u32 0, .int .u32 0, .int .u32 0, .int .u32 0, .int .u32 0, .int .u32 0, .int .u32 0, .int .u32 0], .string ByteArray.empty] 8 rfl (World.shaped_of_RefB (by kernel_rfl) (by kernel_rfl)) (by kernel_rfl) (by kernel_rfl) (by kernel_rfl) (door_met7 os _)) ?_
  intro W base args ds gs before hval0 hW _ _ hL _
  have tab := of_laid7 hL
  have hval : ∀ (j : Nat) t v, Tryd.f5.params[j]? = some t → args[j]? = some v → Value.okWide Tryd.prog W .any base t v := hval0
  have hW' := hW
  obtain ⟨p, q, hA0, hV, rfl, hfz, hnd⟩ := hW
  have hA : DataW.TrodAll enc Tryd.prog W 0 (fun _ => true) true Tryd.f5.params.toList args.toList ds p := hA0
  rw [Tryd.params5] at hA hval
  obtain ⟨v0, vs0, d0, ds0, p0, q0, hargs, rfl, rfl, h0, r0⟩ := trodAll_cons hA
  obtain ⟨v1, vs1, d1, ds1, p1, q1, rfl, rfl, rfl, h1, r1⟩ := trodAll_cons r0
  obtain ⟨v2, vs2, d2, ds2, p2, q2, rfl, rfl, rfl, h2, r2⟩ := trodAll_cons r1
  obtain ⟨rfl, rfl, rfl⟩ := trodAll_nil r2
  obtain rfl : args = #[v0, v1, v2] := by cases args; simp_all
  obtain ⟨rfl, rfl⟩ := trodVars_none hV
  have k0 := h0
  have lt0 : ∀ x ∈ p0, x.block < W.heap.size := by obtain ⟨m, hm⟩ := k0; exact DataW.trod_lt m _ _ _ hm
  have k1 := h1
  have lt1 : ∀ x ∈ p1, x.block < W.heap.size := by obtain ⟨m, hm⟩ := k1; exact DataW.trod_lt m _ _ _ hm
  have k2 := h2
  have lt2 : ∀ x ∈ p2, x.block < W.heap.size := by obtain ⟨m, hm⟩ := k2; exact DataW.trod_lt m _ _ _ hm
  obtain ⟨c, rfl, hcc⟩ := open_costs (hval 0 25 v0 rfl rfl) h0
  obtain ⟨d, rfl, hcd⟩ := open_costs (hval 1 25 v1 rfl rfl) h1
  obtain ⟨s, rfl, _, _, hs⟩ := open_string Tryd.underlying9 (hval 2 9 v2 rfl rfl) h2
  clear hA0 hval0
  refine (walk c d s W hcc hcd tab).mono fun e W' ⟨he, bel⟩ => ?_
  subst he
  exact ⟨_, rfl, _, _, _, [], _, [], hW', trodAll_mk1 (shut_bool Tryd.underlying4 _),
    (trodAll_cons_mk (Below.trod laidOut (by kernel_rfl) (of_decide_eq_true (by kernel_rfl)) k0 bel lt0)
    (trodAll_cons_mk (Below.trod laidOut (by kernel_rfl) (of_decide_eq_true (by kernel_rfl)) k1 bel lt1)
    (trodAll_cons_mk (Below.trod laidOut (by kernel_rfl) (of_decide_eq_true (by kernel_rfl)) k2 bel lt2)
    trodAll_mk0))), rfl, bel.frame _, fun h => by cases h⟩

theorem proved : Rows.CostsReadsSaid :=
  OpenClaim.holds_of_wide 5 Tryd.f5 rfl rfl rfl rfl rfl rfl rfl ⟨rfl, rfl, rfl, rfl, rfl⟩ rfl rfl rfl rfl rfl (by kernel_rfl) Tryd.func5 (by kernel_rfl)
    (of_decide_eq_true (by kernel_rfl)) (by unfold Func.isWrapper; first | (rw [if_pos (by decide +kernel)]; kernel_rfl) | (rw [if_neg (by decide +kernel)]; exact ⟨rfl, rfl⟩))
    (fun os started H enc _ => lifted os started H enc)

theorem card : Rows.CostsReadsCardSaid :=
  Claim7.holds_tied_plain_at .later [] [.data, .data, .data, .sentinel, .sentinel, .listed, .data] true Rows.costsReadsCard.stood.harness Rows.costsReadsCard.stood.looks
    proved (fun _ h => by cases h) (by kernel_rfl) (fun _ h => by cases h) costsReads_row_tie rfl ⟨rfl, rfl⟩ (by kernel_rfl) rfl
    (fun f fn hf hfn => by
      obtain rfl : f = 5 := Option.some.inj ((show Tryd.prog.funcNamed "fingerpost/fingerpostlaw14.CostsReads" = some 5 by kernel_rfl).symm.trans hf) |>.symm
      obtain rfl : fn = Tryd.f5 := (Option.some.inj (Tryd.func5.symm.trans hfn)).symm
      exact ⟨by kernel_rfl, fun j t ht => by
        rw [Tryd.params5] at ht
        have hm : t ∈ [25, 25, 9] := by simpa using Array.mem_of_getElem? ht
        have hall : ([25, 25, 9].all fun u => !Tryd.prog.wantsStandIn u) = true := by kernel_rfl
        exact (show Tryd.prog.wantsStandIn t = false by simpa using List.all_eq_true.1 hall t hm)⟩)
    (by kernel_rfl)
end Go.Proofs.YtnbbepelagdenaaDoor.costsReads
