/- TreeReads: for any two trees and any text TreeReads answers true and leaves its arguments as they were; the tables of Go's own packages strconv and bits and the two errors of strconv that the row lists read as the program's text lays them (tied). No other condition. -/
import Derived.Test.YtelfbkfmngjheaaDoorRows
import Derived.Test.YtelfbkfmngjheaaDoorTreAw
import Derived.Test.YtelfbkfmngjheaaDoorTreY
import Derived.Test.YtelfbkfmngjheaaDoorTreOpen
import Derived.Test.YtelfbkfmngjheaaDoorTreA
import Derived.Test.YtelfbkfmngjheaaDoorBoxes
import Derived.Test.YtelfbkfmngjheaaDoorFrom
import Derived.ProofKit
import Derived.OpenShut
import Derived.ShutString
import Derived.ChangeOld
import Derived.Carry
import Derived.Test.YtelfbkfmngjheaaDoorTreLaid5
import Derived.Test.YtelfbkfmngjheaaDoorTie
import Derived.Test.YtelfbkfmngjheaaDoorCards
import Derived.SevenTiedAt
import Derived.Stop.Joined
import Derived.LaidMore
namespace Go.Proofs.YtelfbkfmngjheaaDoor.treeReads
open Go.ChangeShapes Go.WideShapes Go.ChangeAt Go.RowKit
open Go.ChangeMaps (open_string shut_string)

theorem own : ownKnob Tryd.prog.godebug = none := by kernel_rfl
theorem laidOut : laidOutB Tryd.prog = true := by kernel_rfl

open TreF NumF Go.Sort
attribute [local go_sem ↓] loadAt_tre storeAt_tre loadAt_ent storeAt_ent

set_option maxRecDepth 100000 in
set_option maxHeartbeats 8000000 in
theorem walk (a b : Tr) (s : ByteArray) (w : World) (ha : Tre a) (hb : Tre b) (tab : Tab10 w ∧ Errs w) :
    Calls Tryd.prog 5 #[.agg (treC a).toArray, .agg (treC b).toArray, .string s] w fun e w' => e = .returned (.bool true) ∧ Below w.heap.size w w' := by
  have AW : Hid (Gives Tryd.prog 18 #[] (.bool true)) := Lib.hid awake_any
  have HA := Lib.hid ha
  have HBB := Lib.hid hb
  have TAB := Lib.hid tab.1
  have ERR := Lib.hid tab.2
  by_cases hl : 600 < s.size
  · have d1 : decide ((600 : Int) < (s.size : Int)) = true := decide_eq_true (by omega)
    clear ha hb tab hl
    go_enter Tryd.func5, Tryd.ntmps5
    go_upto_region 1 with fail
    obtain ⟨_, _, h0⟩ := two_tree w a b
    obtain ⟨wr, hwa⟩ : ∃ v, (w.alloc (.cells (treC a).toArray 26)).alloc (.cells (treC b).toArray 26) = v := ⟨_, rfl⟩
    rw [hwa] at h0 ⊢
    clear hwa
    go_wp2_with fail
    refine (AW.out _).mono ?_
    rintro e w1 ⟨rfl, hb⟩
    go_wp2_with fail
    go_ret
    exact ⟨rfl, bel_on h0 hb⟩
  · have d1 : decide ((600 : Int) < (s.size : Int)) = false := decide_eq_false (by omega)
    have HPV := Lib.hid (parse_tre s.data.toList)
    have HOK : Hid ((parseP s.data.toList).2 = 0 → str (textT (parseP s.data.toList).1) = s) := Lib.hid (fun h => by rw [parse_ok _ h, str_of])
    have PA : Hid (∀ w, Tab10 w → Errs w → Calls Tryd.prog 20 #[.string s] w fun e w' => e = .returned (.tuple #[.agg (treC (parseP s.data.toList).1).toArray, .int .i64 (parseP s.data.toList).2]) ∧ Below w.heap.size w w') := Lib.hid (fun w h1 h2 => tparse_any s w h1 h2)
    have RPA : Hid (Gives Tryd.prog 21 #[.string s] (.tuple #[.agg (treC (parseP s.data.toList).1).toArray, .int .i64 (parseP s.data.toList).2])) := Lib.hid (by rw [parse_same]; exact rtparse_any s)
    obtain ⟨X, hX⟩ : ∃ X, (parseP s.data.toList).1 = X := ⟨_, rfl⟩
    obtain ⟨er, her⟩ : ∃ X, (parseP s.data.toList).2 = X := ⟨_, rfl⟩
    rw [hX] at HPV HOK
    rw [her] at HOK
    rw [hX, her] at PA RPA
    have BE := Lib.hid (better_any a b ha hb)
    have RBE := Lib.hid (rbetter_any a b ha hb)
    have HUB := Lib.hid (Tre.better ha hb)
    have HAT : Hid (∀ k x y, a[k]? = some x → b[k]? = some y → (betterT a b)[k]? = some (pickE x y)) := Lib.hid (fun k x y h1 h2 => better_at h1 h2)
    have CO := Lib.hid (tcount_any a ha)
    have RCO := Lib.hid (rcount_any a ha)
    obtain ⟨U, hU⟩ : ∃ U, betterT a b = U := ⟨_, rfl⟩
    rw [hU] at BE RBE HUB HAT
    obtain ⟨n, hn⟩ : ∃ n, (lisR a).length = n := ⟨_, rfl⟩
    rw [hn] at CO RCO
    have NX : Hid (∀ w, (binOp .neq 26 (.agg (treC X).toArray) (.agg (treC X).toArray)).run Tryd.prog w = .ok (.bool false) w) := Lib.hid (fun w => by
      have h := tre_neq X X w HPV.out.1 HPV.out.1
      rw [decide_eq_true rfl] at h
      exact h)
    have NU : Hid (∀ w, (binOp .neq 26 (.agg (treC U).toArray) (.agg (treC U).toArray)).run Tryd.prog w = .ok (.bool false) w) := Lib.hid (fun w => by
      have h := tre_neq U U w HUB.out.1 HUB.out.1
      rw [decide_eq_true rfl] at h
      exact h)
    have EQA : Hid (∀ w, (binOp .eql 26 (.agg (treC a).toArray) (.agg (treC a).toArray)).run Tryd.prog w = .ok (.bool true) w) := Lib.hid (fun w => by
      have h := tre_eql a a w HA.out.1 HA.out.1
      rw [decide_eq_true rfl] at h
      exact h)
    clear ha hb tab hl hX her hU hn
    go_enter Tryd.func5, Tryd.ntmps5
    go_upto_region 1 with fail
    obtain ⟨k3, k4, h0⟩ := two_tree w a b
    obtain ⟨wr, hwa⟩ : ∃ v, (w.alloc (.cells (treC a).toArray 26)).alloc (.cells (treC b).toArray 26) = v := ⟨_, rfl⟩
    rw [hwa] at k3 k4 h0 ⊢
    clear hwa
    have K3 := Lib.hid k3
    have K4 := Lib.hid k4
    have HB := Lib.hid h0
    clear k3 k4 h0
    go_wp2_with fail
    refine (PA.out _ (TAB.out.on HB.out) (ERR.out.on HB.out)).mono ?_
    rintro e w1 ⟨rfl, hb⟩
    have K3' := Lib.hid (K3.out.on hb)
    have K4' := Lib.hid (K4.out.on hb)
    have HB' := Lib.hid (bel_on HB.out hb)
    clear K3 K4 HB hb
    have K3 := K3'
    have K4 := K4'
    have HB := HB'
    clear K3' K4' HB'
    have hst := new_tre (w := w1) rfl HPV.out
    go_upto_region 4 with fail
    clear hst
    have K7' := Lib.hid (Blk.new w1 (treC X) 26)
    have K3' := Lib.hid (K3.out.next (.cells (treC X).toArray 26))
    have K4' := Lib.hid (K4.out.next (.cells (treC X).toArray 26))
    have HB' := Lib.hid (HB.out.alloc HB.out.size (.cells (treC X).toArray 26))
    clear K3 K4 HB
    obtain ⟨w2, hw⟩ : ∃ v, w1.alloc (.cells (treC X).toArray 26) = v := ⟨_, rfl⟩
    rw [hw] at K7' K3' K4' HB' ⊢
    obtain ⟨g7, hg⟩ : ∃ g, w1.heap.size = g := ⟨_, rfl⟩
    rw [hg] at K7' ⊢
    clear hw hg
    have K7 := K7'
    have K3 := K3'
    have K4 := K4'
    have HB := HB'
    clear K7' K3' K4' HB'
    go_wp2_with fail
    refine (RPA.out _).mono ?_
    rintro e w3 ⟨rfl, hb⟩
    have K3' := Lib.hid (K3.out.on hb)
    have K4' := Lib.hid (K4.out.on hb)
    have K7' := Lib.hid (K7.out.on hb)
    have HB' := Lib.hid (bel_on HB.out hb)
    clear K3 K4 K7 HB hb
    have K3 := K3'
    have K4 := K4'
    have K7 := K7'
    have HB := HB'
    clear K3' K4' K7' HB'
    have hst := new_tre (w := w3) rfl HPV.out
    go_upto_region 5 with fail
    clear hst
    have K9' := Lib.hid (Blk.new w3 (treC X) 26)
    have K3' := Lib.hid (K3.out.next (.cells (treC X).toArray 26))
    have K4' := Lib.hid (K4.out.next (.cells (treC X).toArray 26))
    have K7' := Lib.hid (K7.out.next (.cells (treC X).toArray 26))
    have HB' := Lib.hid (HB.out.alloc HB.out.size (.cells (treC X).toArray 26))
    clear K3 K4 K7 HB
    obtain ⟨w4, hw⟩ : ∃ v, w3.alloc (.cells (treC X).toArray 26) = v := ⟨_, rfl⟩
    rw [hw] at K9' K3' K4' K7' HB' ⊢
    obtain ⟨g9, hg⟩ : ∃ g, w3.heap.size = g := ⟨_, rfl⟩
    rw [hg] at K9' ⊢
    clear hw hg
    have K9 := K9'
    have K3 := K3'
    have K4 := K4'
    have K7 := K7'
    have HB := HB'
    clear K9' K3' K4' K7' HB'
    have l3 := tre_load K3.out HA.out
    have l4 := tre_load K4.out HBB.out
    go_wp2_with fail
    refine (BE.out _).mono ?_
    rintro e w5 ⟨rfl, hb⟩
    clear l3 l4
    have K3' := Lib.hid (K3.out.on hb)
    have K4' := Lib.hid (K4.out.on hb)
    have K7' := Lib.hid (K7.out.on hb)
    have K9' := Lib.hid (K9.out.on hb)
    have HB' := Lib.hid (bel_on HB.out hb)
    clear K3 K4 K7 K9 HB hb
    have K3 := K3'
    have K4 := K4'
    have K7 := K7'
    have K9 := K9'
    have HB := HB'
    clear K3' K4' K7' K9' HB'
    have hst := new_tre (w := w5) rfl HUB.out
    go_upto_region 6 with fail
    clear hst
    have K11' := Lib.hid (Blk.new w5 (treC U) 26)
    have K3' := Lib.hid (K3.out.next (.cells (treC U).toArray 26))
    have K4' := Lib.hid (K4.out.next (.cells (treC U).toArray 26))
    have K7' := Lib.hid (K7.out.next (.cells (treC U).toArray 26))
    have K9' := Lib.hid (K9.out.next (.cells (treC U).toArray 26))
    have HB' := Lib.hid (HB.out.alloc HB.out.size (.cells (treC U).toArray 26))
    clear K3 K4 K7 K9 HB
    obtain ⟨w6, hw⟩ : ∃ v, w5.alloc (.cells (treC U).toArray 26) = v := ⟨_, rfl⟩
    rw [hw] at K11' K3' K4' K7' K9' HB' ⊢
    obtain ⟨g11, hg⟩ : ∃ g, w5.heap.size = g := ⟨_, rfl⟩
    rw [hg] at K11' ⊢
    clear hw hg
    have K11 := K11'
    have K3 := K3'
    have K4 := K4'
    have K7 := K7'
    have K9 := K9'
    have HB := HB'
    clear K11' K3' K4' K7' K9' HB'
    have l3 := fun dd os => tre_load (K3.out.on (below_regrown _ dd os)) HA.out
    have l4 := fun dd os => tre_load (K4.out.on (below_regrown _ dd os)) HBB.out
    have l7 := fun dd os => tre_load (K7.out.on (below_regrown _ dd os)) HPV.out
    have l9 := fun dd os => tre_load (K9.out.on (below_regrown _ dd os)) HPV.out
    have l11 := fun dd os => tre_load (K11.out.on (below_regrown _ dd os)) HUB.out
    have nx := NX.out
    have nu := NU.out
    have hee : (er != er) = false := by simp
    have hnn : ((n : Int) != (n : Int)) = false := by simp
    have hss : (s.toList != s.toList) = false := by simp
    obtain ⟨z, hz⟩ : ∃ z, (er == 0) = z := ⟨_, rfl⟩
    go_cut [67, 3, 4, 11] (fun v p3 p4 p11 wx => v = .bool false ∧ p3 = .pointer (some ⟨w.heap.size, 0, none⟩) ∧ p4 = .pointer (some ⟨w.heap.size + 1, 0, none⟩) ∧ p11 = .pointer (some ⟨g11, 0, none⟩) ∧ Below w6.heap.size w6 wx)
    case first =>
      cases z with
      | true =>
        have TX : Hid (From w6 Tryd.prog 16 #[.agg (treC X).toArray] (.string s)) := Lib.hid (fun w hb => by
          have h := ttext_any X HPV.out w (fun _ _ _ => (TAB.out.on HB.out).on hb)
          rw [HOK.out (eq_of_beq hz)] at h
          exact h)
        refine wp_region_quiet_below (by kernel_rfl) (by kernel_rfl) ?_
        repeat (first | go_big_quiet_step (first | with_reducible exact RBE.out.at _ _ _ | with_reducible exact CO.out.at _ _ _ | with_reducible exact RCO.out.at _ _ _ | with_reducible exact TX.out.at _ _) | quiet_step (first | with_reducible exact RBE.out.at _ _ _ | with_reducible exact CO.out.at _ _ _ | with_reducible exact RCO.out.at _ _ _ | with_reducible exact TX.out.at _ _))
        refine wpQuiet_nil ?_
        intro _ hw'
        obtain ⟨⟨dq, osq⟩, hw''⟩ := hw'
        subst hw''
        go_wp2_with fail
        go_meet
        exact ⟨rfl, rfl, rfl, rfl, below_regrown w6 dq osq⟩
      | false =>
        refine wp_region_quiet_below (by kernel_rfl) (by kernel_rfl) ?_
        repeat (first | go_big_quiet_step (first | with_reducible exact RBE.out.at _ _ _ | with_reducible exact CO.out.at _ _ _ | with_reducible exact RCO.out.at _ _ _) | quiet_step (first | with_reducible exact RBE.out.at _ _ _ | with_reducible exact CO.out.at _ _ _ | with_reducible exact RCO.out.at _ _ _))
        refine wpQuiet_nil ?_
        intro _ hw'
        obtain ⟨⟨dq, osq⟩, hw''⟩ := hw'
        subst hw''
        go_wp2_with fail
        go_meet
        exact ⟨rfl, rfl, rfl, rfl, below_regrown w6 dq osq⟩
    case rest =>
      obtain ⟨rfl, rfl, rfl, rfl, hb⟩ := hcut
      clear l3 l4 l7 l9 l11 nx nu hee hnn hss hz K7 K9
      have K3' := Lib.hid (K3.out.on hb)
      have K4' := Lib.hid (K4.out.on hb)
      have K11' := Lib.hid (K11.out.on hb)
      have HB' := Lib.hid (bel_on HB.out hb)
      clear K3 K4 K11 HB hb
      have K3 := K3'
      have K4 := K4'
      have K11 := K11'
      have HB := HB'
      clear K3' K4' K11' HB'
      go_wp2_with fail
      go_loopw [68, 12] (fun v pl wr => ∃ k : Nat, v = .int .i64 (k : Int) ∧ k ≤ 16 ∧ pl = .bool (plainT a k) ∧ Blk wr w.heap.size (treC a) ∧ Blk wr (w.heap.size + 1) (treC b) ∧ Blk wr g11 (treC U) ∧ Below w.heap.size w wr) (fun v _ _ => (16 - intOf v).toNat)
      case atStart => exact ⟨0, rfl, Nat.zero_le _, rfl, K3.out, K4.out, K11.out, HB.out⟩
      case round =>
        obtain ⟨k, rfl, hk, rfl, k3, k4, k11, h0⟩ := hrel
        have K3 := Lib.hid k3
        have K4 := Lib.hid k4
        have K11 := Lib.hid k11
        have HB := Lib.hid h0
        clear k3 k4 k11 h0
        by_cases hkn : k < 16
        · have HK := Lib.hid hkn
          obtain ⟨⟨c, p⟩, hx, _⟩ := HA.out.at hkn
          obtain ⟨⟨d, q⟩, hy, _⟩ := HBB.out.at hkn
          have hu := HAT.out k _ _ hx hy
          obtain ⟨⟨x, y⟩, hxy⟩ : ∃ e, pickE (c, p) (d, q) = e := ⟨_, rfl⟩
          rw [hxy] at hu
          have HXY := Lib.hid hxy
          have HPL : Hid (plainT a (k + 1) = (plainT a k && plainE (c, p))) := Lib.hid (by rw [plainT, getD_at hx])
          have G1 := Lib.hid (show Gives Tryd.prog 8 #[.agg (treC a).toArray, .int .i64 (k : Int)] (.agg #[.int .u32 (c : Int), .int .i64 p]) from fun w => tget_in a k c p w hkn hx)
          have G2 := Lib.hid (show Gives Tryd.prog 8 #[.agg (treC b).toArray, .int .i64 (k : Int)] (.agg #[.int .u32 (d : Int), .int .i64 q]) from fun w => tget_in b k d q w hkn hy)
          have G3 := Lib.hid (show Gives Tryd.prog 8 #[.agg (treC U).toArray, .int .i64 (k : Int)] (.agg #[.int .u32 (x : Int), .int .i64 y]) from fun w => tget_in U k x y w hkn hu)
          have hkn' : (k : Int) < 16 := by omega
          obtain ⟨pl, hpl⟩ : ∃ pl, plainT a k = pl := ⟨_, rfl⟩
          rw [hpl] at HPL ⊢
          clear hk hx hy hu hxy hpl
          go_upto_region 12 with fail
          have s0 : Blk wr.drew w.heap.size (treC a) ∧ Blk wr.drew (w.heap.size + 1) (treC b) ∧ Blk wr.drew g11 (treC U) ∧ Below w.heap.size w wr.drew := ⟨K3.out.drew, K4.out.drew, K11.out.drew, HB.out.drew⟩
          refine wp_region_tail (fun w' => Blk w' w.heap.size (treC a) ∧ Blk w' (w.heap.size + 1) (treC b) ∧ Blk w' g11 (treC U) ∧ Below w.heap.size w w') (fun _ => false) (by kernel_rfl) s0 (fun hS => ?_)
          clear hS
          have S0 := Lib.hid s0
          clear s0
          refine wpAnyT_take 0 rfl (by kernel_rfl) (by kernel_rfl) (by kernel_rfl) (by kernel_rfl) (fun _ _ _ h => h) (by rfl) (by intro w hSw; have hl := tre_load hSw.1 HA.out; clear hSw; go_simp <;> with_reducible rfl) (by exact S0.out) ?_
          try simp only [Act.put]
          try simp only [List.setIfInBounds_toArray]
          try simp only [List.set]
          refine wpAnyT_take 1 rfl (by kernel_rfl) (by kernel_rfl) (by kernel_rfl) (by kernel_rfl) (fun _ _ _ h => h) (by rfl) (by intro w hSw; clear hSw; go_simp <;> with_reducible rfl) (by exact S0.out) ?_
          try simp only [Act.put]
          try simp only [List.setIfInBounds_toArray]
          try simp only [List.set]
          refine wpAnyT_take 3 rfl (by kernel_rfl) (by kernel_rfl) (by kernel_rfl) (by kernel_rfl) (fun _ _ _ h => h) (by rfl) (by intro w hSw; have hl := tre_load hSw.2.1 HBB.out; clear hSw; go_simp <;> with_reducible rfl) (by exact S0.out) ?_
          try simp only [Act.put]
          try simp only [List.setIfInBounds_toArray]
          try simp only [List.set]
          refine wpAnyT_take 4 rfl (by kernel_rfl) (by kernel_rfl) (by kernel_rfl) (by kernel_rfl) (fun _ _ _ h => h) (by rfl) (by intro w hSw; clear hSw; go_simp <;> with_reducible rfl) (by exact S0.out) ?_
          try simp only [Act.put]
          try simp only [List.setIfInBounds_toArray]
          try simp only [List.set]
          refine wpAnyT_take 6 rfl (by kernel_rfl) (by kernel_rfl) (by kernel_rfl) (by kernel_rfl) (fun _ _ _ h => h) (by rfl) (by intro w hSw; have hl := tre_load hSw.2.2.1 HUB.out; clear hSw; go_simp <;> with_reducible rfl) (by exact S0.out) ?_
          try simp only [Act.put]
          try simp only [List.setIfInBounds_toArray]
          try simp only [List.set]
          refine wpAnyT_take 7 rfl (by kernel_rfl) (by kernel_rfl) (by kernel_rfl) (by kernel_rfl) (fun _ _ _ h => h) (by rfl) (by intro w hSw; clear hSw; go_simp <;> with_reducible rfl) (by exact S0.out) ?_
          try simp only [Act.put]
          try simp only [List.setIfInBounds_toArray]
          try simp only [List.set]
          go_simp
          refine boxes_start rfl (by kernel_rfl) (F := fun w' => Blk w' w.heap.size (treC a) ∧ Blk w' (w.heap.size + 1) (treC b) ∧ Blk w' g11 (treC U) ∧ Below w.heap.size w w') (fun x14 x15 x16 x73 x76 x79 => { tmps := #[.agg (treC a).toArray, .agg (treC b).toArray, .string s, .pointer (some ⟨w.heap.size, 0, none⟩), .pointer (some ⟨w.heap.size + 1, 0, none⟩), undef, u6, .pointer (some ⟨g7, 0, none⟩), .int .i64 er, .pointer (some ⟨g9, 0, none⟩), .int .i64 er, .pointer (some ⟨g11, 0, none⟩), .bool pl, .int .i64 (k : Int), x14, x15, x16, undef, undef, u19, u20, u21, u22, u23, u24, u25, u26, u27, u28, u29, u30, u31, u32, u33, u34, u35, u36, u37, u38, u39, u40, u41, u42, u43, u44, u45, u46, u47, u48, u49, u50, u51, u52, u53, u54, u55, u56, u57, u58, u59, u60, u61, u62, u63, u64, u65, u66, .bool false, .int .i64 (k : Int), .bool true, .int .i64 (k : Int), .agg (treC a).toArray, .int .i64 (k : Int), x73, .agg (treC b).toArray, .int .i64 (k : Int), x76, .agg (treC U).toArray, .int .i64 (k : Int), x79, u80, u81, u82, u83, u84, u85, u86, u87, u88, u89, u90, u91, u92, u93, u94, u95, u96, u97, u98, u99, u100, u101, u102, u103, u104, u105, u106, u107, u108, u109, u110, u111, u112, u113, u114, u115, u116, u117, u118, u119, u120, u121, u122, u123, u124, u125, u126, u127, u128, u129, u130, u131, u132, u133, u134, u135, u136, u137], defers := [] }) u14 u15 u16 u73 u76 u79 (.agg #[.int .u32 (c : Int), .int .i64 p]) (.agg #[.int .u32 (d : Int), .int .i64 q]) (.agg #[.int .u32 (x : Int), .int .i64 y]) [.int .u32 0, .int .i64 0] w.heap.size _ (fun _ h => h.2.2.2.size) (fun _ _ h hb => ⟨h.1.on hb, h.2.1.on hb, h.2.2.1.on hb, bel_on h.2.2.2 hb⟩) (fun _ h => h) S0.out ?_ ?_ ?_ ?_ ?_ ?_ ?_ ?_
          · intro x14 x15 x16 x73 x76 x79 wv Kv hf hk0
            have H0 := Lib.hid hk0
            clear hk0 hf
            refine wpOp_step rfl (fun K' hK1 => ?_)
            have hK : Shut _ := hK1
            clear hK1
            go_simp
            refine (G1.out _).mono ?_
            rintro e w1 ⟨rfl, hb⟩
            go_simp
            exact hK.out _ _ (H0.out _ hb)
          · intro x14 x15 x16 x73 x76 x79 wv Kv hf hk0
            have H0 := Lib.hid hk0
            clear hk0 hf
            refine wpOp_step rfl (fun K' hK1 => ?_)
            have hK : Shut _ := hK1
            clear hK1
            go_simp
            refine (G2.out _).mono ?_
            rintro e w1 ⟨rfl, hb⟩
            go_simp
            exact hK.out _ _ (H0.out _ hb)
          · intro x14 x15 x16 x73 x76 x79 wv Kv hf hk0
            have H0 := Lib.hid hk0
            clear hk0 hf
            refine wpOp_step rfl (fun K' hK1 => ?_)
            have hK : Shut _ := hK1
            clear hK1
            go_simp
            refine (G3.out _).mono ?_
            rintro e w1 ⟨rfl, hb⟩
            go_simp
            exact hK.out _ _ (H0.out _ hb)
          · intro x14 x15 x16 x73 x76 x79 wv Kv hf hk0
            have H0 := Lib.hid hk0
            clear hk0 hf
            refine wpOp_step rfl (fun K' hK1 => ?_)
            have hK : Shut _ := hK1
            clear hK1
            go_simp
            exact hK.out _ _ (H0.out _ ((Below.refl _ _).alloc (Nat.le_refl _) _) (Blk.new wv [.int .u32 0, .int .i64 0] 24))
          · intro x14 x15 x16 x73 x76 x79 wv Kv hf hk0
            have H0 := Lib.hid hk0
            clear hk0 hf
            refine wpOp_step rfl (fun K' hK1 => ?_)
            have hK : Shut _ := hK1
            clear hK1
            go_simp
            exact hK.out _ _ (H0.out _ ((Below.refl _ _).alloc (Nat.le_refl _) _) (Blk.new wv [.int .u32 0, .int .i64 0] 24))
          · intro x14 x15 x16 x73 x76 x79 wv Kv hf hk0
            have H0 := Lib.hid hk0
            clear hk0 hf
            refine wpOp_step rfl (fun K' hK1 => ?_)
            have hK : Shut _ := hK1
            clear hK1
            go_simp
            exact hK.out _ _ (H0.out _ ((Below.refl _ _).alloc (Nat.le_refl _) _) (Blk.new wv [.int .u32 0, .int .i64 0] 24))
          · intro c x y z hc hne
            rcases (show c = 0 ∨ c = 1 ∨ c = 2 ∨ c = 3 by omega) with rfl | rfl | rfl | rfl <;> cases x <;> cases y <;> cases z <;> first | exact absurd rfl hne | kernel_rfl
          · intro b1 b2 b3 wv hf k1 k2 k3 d1 d2 d3
            obtain ⟨f3, f4, f11, fb⟩ := hf
            have n31 : w.heap.size ≠ b1 := blk_ne f3 k1.2 (by rw [tre_cells HA.out]; decide)
            have n32 : w.heap.size ≠ b2 := blk_ne f3 k2.2 (by rw [tre_cells HA.out]; decide)
            have n33 : w.heap.size ≠ b3 := blk_ne f3 k3.2 (by rw [tre_cells HA.out]; decide)
            have n41 : w.heap.size + 1 ≠ b1 := blk_ne f4 k1.2 (by rw [tre_cells HBB.out]; decide)
            have n42 : w.heap.size + 1 ≠ b2 := blk_ne f4 k2.2 (by rw [tre_cells HBB.out]; decide)
            have n43 : w.heap.size + 1 ≠ b3 := blk_ne f4 k3.2 (by rw [tre_cells HBB.out]; decide)
            have n51 : g11 ≠ b1 := blk_ne f11 k1.2 (by rw [tre_cells HUB.out]; decide)
            have n52 : g11 ≠ b2 := blk_ne f11 k2.2 (by rw [tre_cells HUB.out]; decide)
            have n53 : g11 ≠ b3 := blk_ne f11 k3.2 (by rw [tre_cells HUB.out]; decide)
            have hs1 := one_store (d := (c : Int)) (p := p) k1.2
            have K3 := Lib.hid ((((f3.beside b1 n31 #[.int .u32 (c : Int), .int .i64 p]).beside b2 n32 #[.int .u32 (d : Int), .int .i64 q]).beside b3 n33 #[.int .u32 (x : Int), .int .i64 y]))
            have K4 := Lib.hid ((((f4.beside b1 n41 #[.int .u32 (c : Int), .int .i64 p]).beside b2 n42 #[.int .u32 (d : Int), .int .i64 q]).beside b3 n43 #[.int .u32 (x : Int), .int .i64 y]))
            have K11 := Lib.hid ((((f11.beside b1 n51 #[.int .u32 (c : Int), .int .i64 p]).beside b2 n52 #[.int .u32 (d : Int), .int .i64 q]).beside b3 n53 #[.int .u32 (x : Int), .int .i64 y]))
            have HB := Lib.hid (below_setRow (below_setRow (below_setRow fb k1.1 #[.int .u32 (c : Int), .int .i64 p]) k2.1 #[.int .u32 (d : Int), .int .i64 q]) k3.1 #[.int .u32 (x : Int), .int .i64 y])
            have C1 := Lib.hid (((k1.2.put [.int .u32 (c : Int), .int .i64 p]).beside b2 d1 #[.int .u32 (d : Int), .int .i64 q]).beside b3 d2 #[.int .u32 (x : Int), .int .i64 y])
            have C2 := Lib.hid (((k2.2.beside b1 d1.symm #[.int .u32 (c : Int), .int .i64 p]).put [.int .u32 (d : Int), .int .i64 q]).beside b3 d3 #[.int .u32 (x : Int), .int .i64 y])
            have C3 := Lib.hid (((k3.2.beside b1 d2.symm #[.int .u32 (c : Int), .int .i64 p]).beside b2 d3.symm #[.int .u32 (d : Int), .int .i64 q]).put [.int .u32 (x : Int), .int .i64 y])
            have hs2 := one_store (d := (d : Int)) (p := q) (k2.2.beside b1 d1.symm #[.int .u32 (c : Int), .int .i64 p])
            have hs3 := one_store (d := (x : Int)) (p := y) ((k3.2.beside b1 d2.symm #[.int .u32 (c : Int), .int .i64 p]).beside b2 d3.symm #[.int .u32 (d : Int), .int .i64 q])
            have S1 : Hid (Blk (wv.setRow b1 #[.int .u32 (c : Int), .int .i64 p]) w.heap.size (treC a) ∧ Blk (wv.setRow b1 #[.int .u32 (c : Int), .int .i64 p]) (w.heap.size + 1) (treC b) ∧ Blk (wv.setRow b1 #[.int .u32 (c : Int), .int .i64 p]) g11 (treC U) ∧ Below w.heap.size w (wv.setRow b1 #[.int .u32 (c : Int), .int .i64 p])) := Lib.hid ⟨f3.beside b1 n31 _, f4.beside b1 n41 _, f11.beside b1 n51 _, below_setRow fb k1.1 _⟩
            have S2 : Hid (Blk ((wv.setRow b1 #[.int .u32 (c : Int), .int .i64 p]).setRow b2 #[.int .u32 (d : Int), .int .i64 q]) w.heap.size (treC a) ∧ Blk ((wv.setRow b1 #[.int .u32 (c : Int), .int .i64 p]).setRow b2 #[.int .u32 (d : Int), .int .i64 q]) (w.heap.size + 1) (treC b) ∧ Blk ((wv.setRow b1 #[.int .u32 (c : Int), .int .i64 p]).setRow b2 #[.int .u32 (d : Int), .int .i64 q]) g11 (treC U) ∧ Below w.heap.size w ((wv.setRow b1 #[.int .u32 (c : Int), .int .i64 p]).setRow b2 #[.int .u32 (d : Int), .int .i64 q])) := Lib.hid ⟨S1.out.1.beside b2 n32 _, S1.out.2.1.beside b2 n42 _, S1.out.2.2.1.beside b2 n52 _, below_setRow S1.out.2.2.2 k2.1 _⟩
            clear f3 f4 f11 fb n31 n32 n33 n41 n42 n43 n51 n52 n53 d1 d2 d3 k1 k2 k3
            unfold boxP
            refine wpAnyT_one 12 rfl (by kernel_rfl) (fun K' hK => ?_)
            go_simp
            refine hK.out _ _ (fun _ => S1.out) (fun _ => ?_)
            clear hK K' hs1
            try simp only [Act.put]
            try simp only [List.setIfInBounds_toArray]
            try simp only [List.set]
            refine wpAnyT_one 13 rfl (by kernel_rfl) (fun K' hK => ?_)
            go_simp
            refine hK.out _ _ (fun _ => S2.out) (fun _ => ?_)
            clear hK K' hs2
            try simp only [Act.put]
            try simp only [List.setIfInBounds_toArray]
            try simp only [List.set]
            refine wpAnyT_one 14 rfl (by kernel_rfl) (fun K' hK => ?_)
            go_simp
            refine hK.out _ _ (fun _ => ⟨K3.out, K4.out, K11.out, HB.out⟩) (fun _ => ?_)
            clear hK K' hs3
            try simp only [Act.put]
            try simp only [List.setIfInBounds_toArray]
            try simp only [List.set]
            refine wpAnyT_done (by kernel_rfl) ?_ _
            clear S1 S2
            obtain ⟨wz, hwz⟩ : ∃ v, ((wv.setRow b1 #[.int .u32 (c : Int), .int .i64 p]).setRow b2 #[.int .u32 (d : Int), .int .i64 q]).setRow b3 #[.int .u32 (x : Int), .int .i64 y] = v := ⟨_, rfl⟩
            rw [hwz] at K3 K4 K11 HB C1 C2 C3 ⊢
            clear hwz
            have c1 := C1.out.cell 0 rfl
            have c2 := C2.out.cell 0 rfl
            have c3 := C3.out.cell 0 rfl
            have e1 := C1.out.cell 1 rfl
            have l1 := one_load C1.out
            have l2 := one_load C2.out
            have l3 := one_load C3.out
            obtain ⟨t, ht⟩ : ∃ t, decide ((d : Int) < (c : Int)) = t := ⟨_, rfl⟩
            have HTT : Hid (decide (d < c) = t) := Lib.hid (by rw [← ht]; exact decide_eq_decide.2 (by omega))
            have ht2 := HTT.out
            obtain ⟨A1, hA1⟩ : ∃ A, (p == -1) = A := ⟨_, rfl⟩
            obtain ⟨A2, hA2⟩ : ∃ A, nodeB p = A := ⟨_, rfl⟩
            obtain ⟨A3, hA3⟩ : ∃ A, ((c : Int) != 4294967295) = A := ⟨_, rfl⟩
            have HPE := Lib.hid (plainE_of hA1 hA2 hA3)
            rw [HPE.out] at HPL
            have RI := Lib.hid (fun w => tright_any p w)
            rw [hA2] at RI
            clear hA2
            cases t with
            | true =>
              have hq := HXY.out
              rw [pick_if, if_pos (of_decide_eq_true HTT.out)] at hq
              obtain ⟨rfl, rfl⟩ := Prod.mk.inj hq
              clear hq
              have hcd : ¬ c < d := by have := of_decide_eq_true HTT.out; omega
              have g1 : decide ((c : Int) < (d : Int)) = false := decide_eq_false (by omega)
              have g2 : decide (c < d) = false := decide_eq_false hcd
              have g3 : decide ((d : Int) < (d : Int)) = false := decide_eq_false (by omega)
              have g4 : decide (d < d) = false := decide_eq_false (by omega)
              have N1 : Hid (∀ w, (binOp .neq 24 (.agg #[.int .u32 (d : Int), .int .i64 q]) (.agg #[.int .u32 (c : Int), .int .i64 p])).run Tryd.prog w = .ok (.bool true) w) := Lib.hid (fun w => by
                have h := ent_neq d c q p w
                rw [decide_eq_false (by
                  intro e
                  have e' : d = c := congrArg Prod.fst e
                  have := of_decide_eq_true HTT.out
                  omega)] at h
                exact h)
              have N2 : Hid (∀ w, (binOp .neq 24 (.agg #[.int .u32 (d : Int), .int .i64 q]) (.agg #[.int .u32 (d : Int), .int .i64 q])).run Tryd.prog w = .ok (.bool false) w) := Lib.hid (fun w => by
                have h := ent_neq d d q q w
                rw [decide_eq_true rfl] at h
                exact h)
              have n1 := N1.out
              have n2 := N2.out
              clear hcd
              go_upto_region 15 with fail
              clear g1 g2 g3 g4 n1 n2 N1 N2 ht ht2 l1 l2 l3 c2 c3
              cases pl <;> cases A1 <;> cases A2 <;> cases A3 <;>
                (go_wp2_with (go_at_call 26; refine (RI.out _).mono ?_; rintro e w8 ⟨rfl, rfl⟩)
                 go_roundw
                 case rel => exact ⟨k + 1, by go_num, HK.out, by rw [HPL.out]; rfl, K3.out, K4.out, K11.out, HB.out⟩
                 case measure => exact meas_up 16 k _ rfl HK.out)
            | false =>
              have hq := HXY.out
              rw [pick_if, if_neg (of_decide_eq_false HTT.out)] at hq
              obtain ⟨rfl, rfl⟩ := Prod.mk.inj hq
              clear hq
              have g3 : decide ((c : Int) < (c : Int)) = false := decide_eq_false (by omega)
              have g4 : decide (c < c) = false := decide_eq_false (by omega)
              have N2 : Hid (∀ w, (binOp .neq 24 (.agg #[.int .u32 (c : Int), .int .i64 p]) (.agg #[.int .u32 (c : Int), .int .i64 p])).run Tryd.prog w = .ok (.bool false) w) := Lib.hid (fun w => by
                have h := ent_neq c c p p w
                rw [decide_eq_true rfl] at h
                exact h)
              have n2 := N2.out
              go_upto_region 15 with fail
              clear g3 g4 n2 N2 ht ht2 l1 l2 l3 c2 c3
              cases pl <;> cases A1 <;> cases A2 <;> cases A3 <;>
                (go_wp2_with (go_at_call 26; refine (RI.out _).mono ?_; rintro e w8 ⟨rfl, rfl⟩)
                 go_roundw
                 case rel => exact ⟨k + 1, by go_num, HK.out, by rw [HPL.out]; rfl, K3.out, K4.out, K11.out, HB.out⟩
                 case measure => exact meas_up 16 k _ rfl HK.out)
        · obtain rfl : k = 16 := by omega
          clear hk hkn
          cases hp : plainT a 16 with
          | false =>
            clear hp
            go_wp2_with fail
            refine (AW.out _).mono ?_
            rintro e w8 ⟨rfl, hb⟩
            have HB' := Lib.hid (bel_on HB.out hb)
            clear hb HB
            go_wp2_with fail
            go_ret
            exact ⟨rfl, HB'.out⟩
          | true =>
            have HNO := Lib.hid (plain_norm HA.out hp)
            have TXA : Hid (∀ w, Tab10 w → Calls Tryd.prog 16 #[.agg (treC a).toArray] w fun e w' => e = .returned (.string (str (textT a))) ∧ Below w.heap.size w w') := Lib.hid (fun w hT => ttext_any a HA.out w (fun _ _ _ => hT))
            have PAA : Hid (∀ w, Tab10 w → Errs w → Calls Tryd.prog 20 #[.string (str (textT a))] w fun e w' => e = .returned (.tuple #[.agg (treC a).toArray, .int .i64 0]) ∧ Below w.heap.size w w') := Lib.hid (fun w h1 h2 => by
              have h := tparse_any (str (textT a)) w h1 h2
              rw [str_list, parse_text a HNO.out] at h
              exact h)
            obtain ⟨ta, hta⟩ : ∃ t, str (textT a) = t := ⟨_, rfl⟩
            rw [hta] at TXA PAA
            clear hp hta
            have l3 := tre_load K3.out HA.out
            go_wp2_with fail
            refine (TXA.out _ (TAB.out.on HB.out)).mono ?_
            rintro e w8 ⟨rfl, hb⟩
            clear l3 K4 K11
            have K3' := Lib.hid (K3.out.on hb)
            have HB' := Lib.hid (bel_on HB.out hb)
            clear K3 HB hb
            have K3 := K3'
            have HB := HB'
            clear K3' HB'
            go_wp2_with fail
            refine (PAA.out _ (TAB.out.on HB.out) (ERR.out.on HB.out)).mono ?_
            rintro e w9 ⟨rfl, hb⟩
            have K3' := Lib.hid (K3.out.on hb)
            have HB' := Lib.hid (bel_on HB.out hb)
            clear K3 HB hb
            have K3 := K3'
            have HB := HB'
            clear K3' HB'
            have hst := new_tre (w := w9) rfl HA.out
            go_upto_region 20 with fail
            clear hst
            have K17' := Lib.hid (Blk.new w9 (treC a) 26)
            have K3' := Lib.hid (K3.out.next (.cells (treC a).toArray 26))
            have HB' := Lib.hid (HB.out.alloc HB.out.size (.cells (treC a).toArray 26))
            clear K3 HB
            obtain ⟨w10, hw⟩ : ∃ v, w9.alloc (.cells (treC a).toArray 26) = v := ⟨_, rfl⟩
            rw [hw] at K17' K3' HB' ⊢
            obtain ⟨g17, hg⟩ : ∃ g, w9.heap.size = g := ⟨_, rfl⟩
            rw [hg] at K17' ⊢
            clear hw hg
            have K17 := K17'
            have K3 := K3'
            have HB := HB'
            clear K17' K3' HB'
            have l3 := tre_load K3.out HA.out
            have l17 := tre_load K17.out HA.out
            have eq := EQA.out
            go_wp2_with fail
            refine (AW.out _).mono ?_
            rintro e w11 ⟨rfl, hb⟩
            have HB' := Lib.hid (bel_on HB.out hb)
            clear hb HB K3 K17 l3 l17 eq
            go_wp2_with fail
            go_ret
            exact ⟨rfl, HB'.out⟩

set_option maxRecDepth 100000 in
theorem lifted (os : Os) (started : os.Started) (H : Type) (enc : TypeId × Value → H) :
    ReturnsInHanded {} Tryd.checked os 5 .any (fun w args => (Rows.treeReadsSpec.pre enc Tryd.prog Tryd.f5 [] false w args ∧ laidMetH Tryd.prog laidFive w) ∧ sizedMet enc Tryd.prog Tryd.f5 (OpenSpec.ofChange Rows.treeReadsSpec) false w args) (Rows.treeReadsSpec.post enc Tryd.prog Tryd.f5 false true false false) := by
  refine returnsInHanded_of_change_and (C := Tryd.checked) (X := fun w _ => laidMetH Tryd.prog laidFive w) (fun _ _ _ hh h => h.of_heap hh) own started (by kernel_rfl) Tryd.func5
    (ChangeSpec.witness_shaped (enc := enc) (C := Tryd.checked) (os := os) (X := fun w _ => laidMetH Tryd.prog laidFive w) false (World.doorLaid Tryd.prog 62 os) #[.agg #[.int .u32 0, .int .i64 0, .int .u32 0, .int .i64 0, .int .u32 0, .int .i64 0, .int .u32 0, .int .i64 0, .int .u32 0, .int .i64 0, .int .u32 0, .int .i64 0, .int .u32 0, .int .i64 0, .int .u32 0, .int .i64 0, .int .u32 0, .int .i64 0, .int .u32 0, .int .i64 0, .int .u32 0, .int .i64 0, .int .u32 0, .int .i64 0, .int .u32 0, .int .i64 0, .int .u32 0, .int .i64 0, .int .u32 0, .int .i64 0, .int .u32 0, .int .i64 0], .agg #[.int .u32 0, .int .i64 0, .int .u32 0, .int .i64 0, .int .u32 0, .int .i64 0, .int .u32 0, .int .i64 0, .int .u32 0, .int .i64 0, .int .u32 0, .int .i64 0, .int .u32 0, .int .i64 0, .int .u32 0, .int .i64 0, .int .u32 0, .int .i64 0, .int .u32 0, .int .i64 0, .int .u32 0, .int .i64 0, .int .u32 0, .int .i64 0, .int .u32 0, .int .i64 0, .int .u32 0, .int .i64 0, .int .u32 0, .int .i64 0, .int .u32 0, .int .i64 0], .string ByteArray.empty] 8 rfl (World.shaped_of_RefB (by kernel_rfl) (by kernel_rfl)) (by kernel_rfl) (by kernel_rfl) (by kernel_rfl) (door_met5 os _)) ?_
  intro W base args ds gs before hval0 hW _ _ hL _
  have tab := of_laid5 hL
  have hval : ∀ (j : Nat) t v, Tryd.f5.params[j]? = some t → args[j]? = some v → Value.okWide Tryd.prog W .any base t v := hval0
  have hW' := hW
  obtain ⟨p, q, hA0, hV, rfl, hfz, hnd⟩ := hW
  have hA : DataW.TrodAll enc Tryd.prog W 0 (fun _ => true) true Tryd.f5.params.toList args.toList ds p := hA0
  rw [Tryd.params5] at hA hval
  obtain ⟨v0, vs0, d0, ds0, p0, q0, hargs, rfl, rfl, h0, r0⟩ := trodAll_cons hA
  obtain ⟨v1, vs1, d1, ds1, p1, q1, rfl, rfl, rfl, h1, r1⟩ := trodAll_cons r0
  obtain ⟨v2, vs2, d2, ds2, p2, q2, rfl, rfl, rfl, h2, r2⟩ := trodAll_cons r1
  obtain ⟨rfl, rfl, rfl⟩ := trodAll_nil r2
  obtain rfl : args = #[v0, v1, v2] := by cases args; simp_all
  obtain ⟨rfl, rfl⟩ := trodVars_none hV
  have k0 := h0
  have lt0 : ∀ x ∈ p0, x.block < W.heap.size := by obtain ⟨m, hm⟩ := k0; exact DataW.trod_lt m _ _ _ hm
  have k1 := h1
  have lt1 : ∀ x ∈ p1, x.block < W.heap.size := by obtain ⟨m, hm⟩ := k1; exact DataW.trod_lt m _ _ _ hm
  have k2 := h2
  have lt2 : ∀ x ∈ p2, x.block < W.heap.size := by obtain ⟨m, hm⟩ := k2; exact DataW.trod_lt m _ _ _ hm
  obtain ⟨a, rfl, hta⟩ := open_tree (hval 0 26 v0 rfl rfl) h0
  obtain ⟨b, rfl, htb⟩ := open_tree (hval 1 26 v1 rfl rfl) h1
  obtain ⟨s, rfl, _, _, hs⟩ := open_string Tryd.underlying9 (hval 2 9 v2 rfl rfl) h2
  clear hA0 hval0
  refine (walk a b s W hta htb tab).mono fun e W' ⟨he, bel⟩ => ?_
  subst he
  exact ⟨_, rfl, _, _, _, [], _, [], hW', trodAll_mk1 (shut_bool Tryd.underlying4 _),
    (trodAll_cons_mk (Below.trod laidOut (by kernel_rfl) (of_decide_eq_true (by kernel_rfl)) k0 bel lt0)
    (trodAll_cons_mk (Below.trod laidOut (by kernel_rfl) (of_decide_eq_true (by kernel_rfl)) k1 bel lt1)
    (trodAll_cons_mk (Below.trod laidOut (by kernel_rfl) (of_decide_eq_true (by kernel_rfl)) k2 bel lt2)
    trodAll_mk0))), rfl, bel.frame _, fun h => by cases h⟩

theorem proved : Rows.TreeReadsSaid :=
  OpenClaim.holds_of_wide 5 Tryd.f5 rfl rfl rfl rfl rfl rfl rfl ⟨rfl, rfl, rfl, rfl, rfl⟩ rfl rfl rfl rfl rfl (by kernel_rfl) Tryd.func5 (by kernel_rfl)
    (of_decide_eq_true (by kernel_rfl)) (by unfold Func.isWrapper; first | (rw [if_pos (by decide +kernel)]; kernel_rfl) | (rw [if_neg (by decide +kernel)]; exact ⟨rfl, rfl⟩))
    (fun os started H enc _ => lifted os started H enc)

theorem card : Rows.TreeReadsCardSaid :=
  Claim7.holds_tied_plain_at .later [] [.data, .data, .data, .sentinel, .sentinel] true Rows.treeReadsCard.stood.harness Rows.treeReadsCard.stood.looks
    proved (fun _ h => by cases h) (by kernel_rfl) (fun _ h => by cases h) treeReads_row_tie rfl ⟨rfl, rfl⟩ (by kernel_rfl) rfl
    (fun f fn hf hfn => by
      obtain rfl : f = 5 := Option.some.inj ((show Tryd.prog.funcNamed "fingerpost/fingerpostlaw23.TreeReads" = some 5 by kernel_rfl).symm.trans hf) |>.symm
      obtain rfl : fn = Tryd.f5 := (Option.some.inj (Tryd.func5.symm.trans hfn)).symm
      exact ⟨by kernel_rfl, fun j t ht => by
        rw [Tryd.params5] at ht
        have hm : t ∈ [26, 26, 9] := by simpa using Array.mem_of_getElem? ht
        have hall : ([26, 26, 9].all fun u => !Tryd.prog.wantsStandIn u) = true := by kernel_rfl
        exact (show Tryd.prog.wantsStandIn t = false by simpa using List.all_eq_true.1 hall t hm)⟩)
    (by kernel_rfl)
end Go.Proofs.YtelfbkfmngjheaaDoor.treeReads
