/- TreeKeeps: for any tree, node and entry TreeKeeps answers true and leaves its arguments as they were; the three tables of Go's own packages strconv and bits that the row lists read as the program's text lays them (tied). No other condition. -/
import Derived.Test.YtelfbkfmngjheaaDoorRows
import Derived.Test.YtelfbkfmngjheaaDoorTreAw
import Derived.Test.YtelfbkfmngjheaaDoorTreOpen
import Derived.Test.YtelfbkfmngjheaaDoorTreTwo
import Derived.ProofKit
import Derived.OpenShut
import Derived.ShutString
import Derived.ChangeOld
import Derived.Carry
import Derived.Test.YtelfbkfmngjheaaDoorTreLaid
import Derived.Test.YtelfbkfmngjheaaDoorTie
import Derived.Test.YtelfbkfmngjheaaDoorCards
import Derived.SevenTiedAt
import Derived.Stop.Joined
import Derived.LaidMore
namespace Go.Proofs.YtelfbkfmngjheaaDoor.treeKeeps
open Go.ChangeShapes Go.WideShapes Go.ChangeAt Go.RowKit
open Go.ChangeMaps (open_string shut_string)

theorem own : ownKnob Tryd.prog.godebug = none := by kernel_rfl
theorem laidOut : laidOutB Tryd.prog = true := by kernel_rfl

open TreF Go.Sort
attribute [local go_sem ↓] loadAt_tre storeAt_tre loadAt_ent storeAt_ent

set_option maxRecDepth 100000 in
set_option maxHeartbeats 4000000 in
theorem walk (t : Tr) (jj : Int) (d : Nat) (p : Int) (w : World) (ht : Tre t) (ho : Ok (d, p)) :
    Calls Tryd.prog 4 #[.agg (treC t).toArray, .int .i64 jj, .agg #[.int .u32 (d : Int), .int .i64 p]] w fun e w' => e = .returned (.bool true) ∧ Below w.heap.size w w' := by
  obtain ⟨j, hj, et⟩ := rem_16 jj
  have AW : Hid (Gives Tryd.prog 18 #[] (.bool true)) := Lib.hid awake_any
  have PU : Hid (Gives Tryd.prog 10 #[.agg (treC t).toArray, .int .i64 (j : Int), .agg #[.int .u32 (d : Int), .int .i64 p]] (.agg (treC (t.set j (d, p))).toArray)) := Lib.hid (by
    have h := tput_any t (j : Int) d p ht ho
    rw [put_ok t _ hj] at h
    exact h)
  have HT := Lib.hid ht
  have HU := Lib.hid (ht.set j ho)
  have HJ := Lib.hid hj
  obtain ⟨u, hu⟩ : ∃ u, t.set j (d, p) = u := ⟨_, rfl⟩
  rw [hu] at PU HU
  have HS := Lib.hid hu
  clear ht ho hu
  go_enter Tryd.func4, Tryd.ntmps4
  go_upto_region 1 with fail
  obtain ⟨k0, k1, h0⟩ := two_box w t d p
  obtain ⟨wr, hwa⟩ : ∃ v, (w.alloc (.cells (treC t).toArray 26)).alloc (.cells #[.int .u32 (d : Int), .int .i64 p] 24) = v := ⟨_, rfl⟩
  rw [hwa] at k0 k1 h0 ⊢
  clear hwa
  have K0 := Lib.hid k0
  have K1 := Lib.hid k1
  have HB := Lib.hid h0
  clear k0 k1 h0 hj
  go_upto_region 2 with fail
  rw [et]
  clear et
  have l0 := tre_load K0.out HT.out
  have l1 := one_load K1.out
  go_wp2_with fail
  refine (PU.out _).mono ?_
  rintro e w2 ⟨rfl, hb⟩
  clear l0 l1
  have K0' := Lib.hid (K0.out.on hb)
  have K1' := Lib.hid (K1.out.on hb)
  have HB' := Lib.hid (bel_on HB.out hb)
  clear K0 K1 HB hb
  have hst := new_tre (w := w2) rfl HU.out
  go_upto_region 3 with fail
  clear hst
  have k7 := Blk.new w2 (treC u) 26
  have k0 := K0'.out.next (.cells (treC u).toArray 26)
  have k1 := K1'.out.next (.cells (treC u).toArray 26)
  have h0 := HB'.out.alloc HB'.out.size (.cells (treC u).toArray 26)
  obtain ⟨w3, hw3⟩ : ∃ v, w2.alloc (.cells (treC u).toArray 26) = v := ⟨_, rfl⟩
  rw [hw3] at k7 k0 k1 h0 ⊢
  obtain ⟨b7, hb7⟩ : ∃ b, w2.heap.size = b := ⟨_, rfl⟩
  rw [hb7] at k7 ⊢
  clear hb7 hw3 K0' K1' HB'
  have K0 := Lib.hid k0
  have K1 := Lib.hid k1
  have K7 := Lib.hid k7
  have HB := Lib.hid h0
  clear k0 k1 k7 h0
  go_wp2_with fail
  go_loopw [19] (fun v wr => ∃ k : Nat, v = .int .i64 (k : Int) ∧ k ≤ 16 ∧ Blk wr w.heap.size (treC t) ∧ Blk wr (w.heap.size + 1) [.int .u32 (d : Int), .int .i64 p] ∧ Blk wr b7 (treC u) ∧ Below w.heap.size w wr) (fun v _ => (16 - intOf v).toNat)
  case atStart => exact ⟨0, rfl, Nat.zero_le _, K0.out, K1.out, K7.out, HB.out⟩
  case round =>
    obtain ⟨k, rfl, hk, k0, k1, k7, h0⟩ := hrel
    have K0 := Lib.hid k0
    have K1 := Lib.hid k1
    have K7 := Lib.hid k7
    have HB := Lib.hid h0
    clear k0 k1 k7 h0
    by_cases hkn : k < 16
    · have HK := Lib.hid hkn
      obtain ⟨⟨c, q⟩, hx, _⟩ := HT.out.at hkn
      have GE := Lib.hid (fun w => tget_in t k c q w hkn hx)
      obtain ⟨b, hb⟩ : ∃ b, ((k : Int) == (j : Int)) = b := ⟨_, rfl⟩
      have HUX : Hid (u[k]? = if b then some (d, p) else some (c, q)) := Lib.hid (by
        rw [← HS.out, set_get HT.out j k (d, p) HJ.out, hx]
        have hbk : b = decide (k = j) := by
          rw [← hb, show ((k : Int) == (j : Int)) = decide ((k : Int) = (j : Int)) from rfl]
          exact decide_eq_decide.2 (by omega)
        rw [hbk]
        by_cases h : k = j <;> simp [h])
      have hkn' : (k : Int) < 16 := by omega
      have l0 := tre_load K0.out HT.out
      clear hx hkn hk
      go_wp2_with fail
      refine (GE.out _).mono ?_
      rintro e w4 ⟨rfl, hb4⟩
      clear l0
      have K0' := K0.out.on hb4
      have K1' := K1.out.on hb4
      have K7' := K7.out.on hb4
      have HB' := bel_on HB.out hb4
      clear K0 K1 K7 HB hb4
      have hst := new_ent (w := w4) (d := (c : Int)) (p := q) rfl
      go_upto_region 7 with fail
      clear hst
      have KW := Lib.hid (Blk.new w4 [.int .u32 (c : Int), .int .i64 q] 24)
      have K0 := Lib.hid (K0'.next (.cells #[.int .u32 (c : Int), .int .i64 q] 24))
      have K1 := Lib.hid (K1'.next (.cells #[.int .u32 (c : Int), .int .i64 q] 24))
      have K7 := Lib.hid (K7'.next (.cells #[.int .u32 (c : Int), .int .i64 q] 24))
      have HB := Lib.hid (HB'.alloc HB'.size (.cells #[.int .u32 (c : Int), .int .i64 q] 24))
      have hlt : w.heap.size + 1 < w4.heap.size ∧ b7 < w4.heap.size := ⟨K1'.lt, K7'.lt⟩
      clear K0' K1' K7' HB'
      obtain ⟨w5, hw5⟩ : ∃ v, w4.alloc (.cells #[.int .u32 (c : Int), .int .i64 q] 24) = v := ⟨_, rfl⟩
      rw [hw5] at KW K0 K1 K7 HB ⊢
      obtain ⟨g, hg⟩ : ∃ g, w4.heap.size = g := ⟨_, rfl⟩
      rw [hg] at KW hlt ⊢
      clear hg hw5
      have HLT := Lib.hid hlt
      clear hlt
      cases b with
      | true =>
        have HX : Hid (u[k]? = some (d, p)) := Lib.hid (by rw [HUX.out, if_pos rfl])
        have l1 := one_load K1.out
        have s1 := one_store (d := (d : Int)) (p := p) KW.out
        go_upto_region 9 with fail
        clear l1 s1
        have KW' := Lib.hid (KW.out.put [.int .u32 (d : Int), .int .i64 p])
        have K0' := Lib.hid (K0.out.beside g (by have := HLT.out.1; omega) #[.int .u32 (d : Int), .int .i64 p])
        have K1' := Lib.hid (K1.out.beside g (by have := HLT.out.1; omega) #[.int .u32 (d : Int), .int .i64 p])
        have K7' := Lib.hid (K7.out.beside g (by have := HLT.out.2; omega) #[.int .u32 (d : Int), .int .i64 p])
        have HB' := Lib.hid (below_setRow HB.out (show w.heap.size ≤ g by have := HLT.out.1; omega) #[.int .u32 (d : Int), .int .i64 p])
        clear KW K0 K1 K7 HB
        obtain ⟨w6, hw6⟩ : ∃ v, w5.setRow g #[.int .u32 (d : Int), .int .i64 p] = v := ⟨_, rfl⟩
        rw [show w5.setRow g [.int .u32 (d : Int), .int .i64 p].toArray = w6 from hw6] at KW'
        rw [hw6] at K0' K1' K7' HB' ⊢
        clear hw6
        have KW := KW'
        have K0 := K0'
        have K1 := K1'
        have K7 := K7'
        have HB := HB'
        clear KW' K0' K1' K7' HB'
        obtain ⟨b2, hb2⟩ : ∃ b, ((d : Int) != 4294967295) = b := ⟨_, rfl⟩
        have GU := Lib.hid (show Gives Tryd.prog 8 #[.agg (treC u).toArray, .int .i64 (k : Int)] (.agg #[.int .u32 (d : Int), .int .i64 p]) from fun w => tget_in u k d p w HK.out HX.out)
        have RE := Lib.hid (treached_any u HU.out)
        have HA : Hid (Gives Tryd.prog 19 #[.int .i64 (setR u), .int .i64 (k : Int)] (.bool b2)) := Lib.hid (fun w => by
          have h := has_in (setR u) k w HK.out
          rw [has_set k HK.out, isR_of HX.out hb2] at h
          exact h.mono fun _ _ ⟨h1, h2⟩ => ⟨h1, h2 ▸ Below.refl _ _⟩)
        have EN : Hid (∀ w, (binOp .neq 24 (.agg #[.int .u32 (d : Int), .int .i64 p]) (.agg #[.int .u32 (d : Int), .int .i64 p])).run Tryd.prog w = .ok (.bool false) w) := Lib.hid (fun w => by
          have h := ent_neq d d p p w
          rw [decide_eq_true rfl] at h
          exact h)
        have hbb : (b2 != b2) = false := by cases b2 <;> rfl
        obtain ⟨m, hm⟩ : ∃ m, setR u = m := ⟨_, rfl⟩
        rw [hm] at RE HA
        clear hm
        have l7 := fun dd os => tre_load (K7.out.on (below_regrown _ dd os)) HU.out
        have lw := fun dd os => one_load (KW.out.on (below_regrown _ dd os))
        have cw := fun dd os => (KW.out.on (below_regrown _ dd os)).cell 0 rfl
        have en := EN.out
        refine wp_region_quiet_below (by kernel_rfl) (by kernel_rfl) ?_
        repeat (first | go_big_quiet_step (first | with_reducible exact GU.out.at _ _ _ | with_reducible exact RE.out.at _ _ _ | with_reducible exact HA.out.at _ _ _) | quiet_step (first | with_reducible exact GU.out.at _ _ _ | with_reducible exact RE.out.at _ _ _ | with_reducible exact HA.out.at _ _ _))
        refine wpQuiet_nil ?_
        intro _ hw'
        obtain ⟨⟨dq, osq⟩, hw''⟩ := hw'
        subst hw''
        clear l7 lw cw en
        have hb := below_regrown w6 dq osq
        have K0' := Lib.hid (K0.out.on hb)
        have K1' := Lib.hid (K1.out.on hb)
        have K7' := Lib.hid (K7.out.on hb)
        have HB' := Lib.hid (bel_on HB.out hb)
        clear hb K0 K1 K7 KW HB
        obtain ⟨wn, hwn⟩ : ∃ v, grow (redrawn w6 dq) osq = v := ⟨_, rfl⟩
        rw [hwn] at K0' K1' K7' HB' ⊢
        clear hwn
        go_wp2_with fail
        go_roundw
        case rel => exact ⟨k + 1, by go_num, HK.out, K0'.out, K1'.out, K7'.out, HB'.out⟩
        case measure => exact meas_up 16 k _ rfl HK.out
      | false =>
        have HX : Hid (u[k]? = some (c, q)) := Lib.hid (by rw [HUX.out, if_neg (by decide)])
        go_upto_region 9 with fail
        obtain ⟨b2, hb2⟩ : ∃ b, ((c : Int) != 4294967295) = b := ⟨_, rfl⟩
        have GU := Lib.hid (show Gives Tryd.prog 8 #[.agg (treC u).toArray, .int .i64 (k : Int)] (.agg #[.int .u32 (c : Int), .int .i64 q]) from fun w => tget_in u k c q w HK.out HX.out)
        have RE := Lib.hid (treached_any u HU.out)
        have HA : Hid (Gives Tryd.prog 19 #[.int .i64 (setR u), .int .i64 (k : Int)] (.bool b2)) := Lib.hid (fun w => by
          have h := has_in (setR u) k w HK.out
          rw [has_set k HK.out, isR_of HX.out hb2] at h
          exact h.mono fun _ _ ⟨h1, h2⟩ => ⟨h1, h2 ▸ Below.refl _ _⟩)
        have EN : Hid (∀ w, (binOp .neq 24 (.agg #[.int .u32 (c : Int), .int .i64 q]) (.agg #[.int .u32 (c : Int), .int .i64 q])).run Tryd.prog w = .ok (.bool false) w) := Lib.hid (fun w => by
          have h := ent_neq c c q q w
          rw [decide_eq_true rfl] at h
          exact h)
        have hbb : (b2 != b2) = false := by cases b2 <;> rfl
        obtain ⟨m, hm⟩ : ∃ m, setR u = m := ⟨_, rfl⟩
        rw [hm] at RE HA
        clear hm
        have l7 := fun dd os => tre_load (K7.out.on (below_regrown _ dd os)) HU.out
        have lw := fun dd os => one_load (KW.out.on (below_regrown _ dd os))
        have cw := fun dd os => (KW.out.on (below_regrown _ dd os)).cell 0 rfl
        have en := EN.out
        refine wp_region_quiet_below (by kernel_rfl) (by kernel_rfl) ?_
        repeat (first | go_big_quiet_step (first | with_reducible exact GU.out.at _ _ _ | with_reducible exact RE.out.at _ _ _ | with_reducible exact HA.out.at _ _ _) | quiet_step (first | with_reducible exact GU.out.at _ _ _ | with_reducible exact RE.out.at _ _ _ | with_reducible exact HA.out.at _ _ _))
        refine wpQuiet_nil ?_
        intro _ hw'
        obtain ⟨⟨dq, osq⟩, hw''⟩ := hw'
        subst hw''
        clear l7 lw cw en
        have hb := below_regrown w5 dq osq
        have K0' := Lib.hid (K0.out.on hb)
        have K1' := Lib.hid (K1.out.on hb)
        have K7' := Lib.hid (K7.out.on hb)
        have HB' := Lib.hid (bel_on HB.out hb)
        clear hb K0 K1 K7 KW HB
        obtain ⟨wn, hwn⟩ : ∃ v, grow (redrawn w5 dq) osq = v := ⟨_, rfl⟩
        rw [hwn] at K0' K1' K7' HB' ⊢
        clear hwn
        go_wp2_with fail
        go_roundw
        case rel => exact ⟨k + 1, by go_num, HK.out, K0'.out, K1'.out, K7'.out, HB'.out⟩
        case measure => exact meas_up 16 k _ rfl HK.out
    · obtain rfl : k = 16 := by omega
      clear hk hkn
      have NE := Lib.hid (tnew_any (j : Int))
      have HN := Lib.hid (Tre.new (j : Int))
      have RO : Hid (Gives Tryd.prog 12 #[.agg (treC (newT (j : Int))).toArray] (.int .i64 (j : Int))) := Lib.hid (by
        have h := troot_any (newT (j : Int)) HN.out
        rw [new_root j HJ.out] at h
        exact h)
      have RE : Hid (Gives Tryd.prog 14 #[.agg (treC (newT (j : Int))).toArray] (.int .i64 (2 ^ j))) := Lib.hid (by
        have h := treached_any (newT (j : Int)) HN.out
        rw [new_set j HJ.out] at h
        exact h)
      obtain ⟨n, hn⟩ : ∃ n, newT (j : Int) = n := ⟨_, rfl⟩
      rw [hn] at NE HN RO RE
      have j0 : (0 : Int) ≤ (j : Int) := by omega
      have j1 : (j : Int) ≤ 64 := by have := HJ.out; omega
      have hc : (j : Int) % 18446744073709551616 = (j : Int) := by have := HJ.out; omega
      have hw : wrap64 (2 ^ j) = 2 ^ j := by
        rcases NodesF.n16 j HJ.out with h | h | h | h | h | h | h | h | h | h | h | h | h | h | h | h <;> subst h <;> exact IntWalk.wrap64_in _ (by decide)
      clear hn
      go_wp2_with fail
      refine (NE.out _).mono ?_
      rintro e w4 ⟨rfl, hb⟩
      have HB' := Lib.hid (bel_on HB.out hb)
      clear hb HB K0 K1 K7
      have hst := new_tre (w := w4) rfl HN.out
      go_upto_region 13 with fail
      clear hst
      have k9 := Blk.new w4 (treC n) 26
      have h0 := HB'.out.alloc HB'.out.size (.cells (treC n).toArray 26)
      obtain ⟨w5, hw5⟩ : ∃ v, w4.alloc (.cells (treC n).toArray 26) = v := ⟨_, rfl⟩
      rw [hw5] at k9 h0 ⊢
      obtain ⟨g, hg⟩ : ∃ g, w4.heap.size = g := ⟨_, rfl⟩
      rw [hg] at k9 ⊢
      clear hg hw5 HB'
      have K9 := Lib.hid k9
      have HB := Lib.hid h0
      clear k9 h0
      have l9 := tre_load K9.out HN.out
      go_wp2_with fail
      refine (RO.out _).mono ?_
      rintro e w6 ⟨rfl, hb⟩
      clear l9
      have K9' := Lib.hid (K9.out.on hb)
      have HB' := Lib.hid (bel_on HB.out hb)
      clear K9 HB hb
      have l9 := tre_load K9'.out HN.out
      go_wp2_with fail
      refine (RE.out _).mono ?_
      rintro e w7 ⟨rfl, hb⟩
      clear l9
      have HB := Lib.hid (bel_on HB'.out hb)
      clear K9' HB' hb
      go_wp2_with fail
      refine (AW.out _).mono ?_
      rintro e w8 ⟨rfl, hb⟩
      have HB' := Lib.hid (bel_on HB.out hb)
      clear HB hb
      go_wp2_with fail
      go_ret
      exact ⟨rfl, HB'.out⟩

set_option maxRecDepth 100000 in
theorem lifted (os : Os) (started : os.Started) (H : Type) (enc : TypeId × Value → H) :
    ReturnsInHanded {} Tryd.checked os 4 .any (fun w args => (Rows.treeKeepsSpec.pre enc Tryd.prog Tryd.f4 [] false w args ∧ laidMetH Tryd.prog laidThree w) ∧ sizedMet enc Tryd.prog Tryd.f4 (OpenSpec.ofChange Rows.treeKeepsSpec) false w args) (Rows.treeKeepsSpec.post enc Tryd.prog Tryd.f4 false true false false) := by
  refine returnsInHanded_of_change_and (C := Tryd.checked) (X := fun w _ => laidMetH Tryd.prog laidThree w) (fun _ _ _ hh h => h.of_heap hh) own started (by kernel_rfl) Tryd.func4
    (ChangeSpec.witness_shaped (enc := enc) (C := Tryd.checked) (os := os) (X := fun w _ => laidMetH Tryd.prog laidThree w) false (World.doorLaid Tryd.prog 62 os) #[.agg #[.int .u32 0, .int .i64 0, .int .u32 0, .int .i64 0, .int .u32 0, .int .i64 0, .int .u32 0, .int .i64 0, .int .u32 0, .int .i64 0, .int .u32 0, .int .i64 0, .int .u32 0, .int .i64 0, .int .u32 0, .int .i64 0, .int .u32 0, .int .i64 0, .int .u32 0, .int .i64 0, .int .u32 0, .int .i64 0, .int .u32 0, .int .i64 0, .int .u32 0, .int .i64 0, .int .u32 0, .int .i64 0, .int .u32 0, .int .i64 0, .int .u32 0, .int .i64 0], .int .i64 0, .agg #[.int .u32 0, .int .i64 0]] 8 rfl (World.shaped_of_RefB (by kernel_rfl) (by kernel_rfl)) (by kernel_rfl) (by kernel_rfl) (by kernel_rfl) (door_met os _)) ?_
  intro W base args ds gs before hval0 hW _ _ hL _

  have hval : ∀ (j : Nat) t v, Tryd.f4.params[j]? = some t → args[j]? = some v → Value.okWide Tryd.prog W .any base t v := hval0
  have hW' := hW
  obtain ⟨p, q, hA0, hV, rfl, hfz, hnd⟩ := hW
  have hA : DataW.TrodAll enc Tryd.prog W 0 (fun _ => true) true Tryd.f4.params.toList args.toList ds p := hA0
  rw [Tryd.params4] at hA hval
  obtain ⟨v0, vs0, d0, ds0, p0, q0, hargs, rfl, rfl, h0, r0⟩ := trodAll_cons hA
  obtain ⟨v1, vs1, d1, ds1, p1, q1, rfl, rfl, rfl, h1, r1⟩ := trodAll_cons r0
  obtain ⟨v2, vs2, d2, ds2, p2, q2, rfl, rfl, rfl, h2, r2⟩ := trodAll_cons r1
  obtain ⟨rfl, rfl, rfl⟩ := trodAll_nil r2
  obtain rfl : args = #[v0, v1, v2] := by cases args; simp_all
  obtain ⟨rfl, rfl⟩ := trodVars_none hV
  have k0 := h0
  have lt0 : ∀ x ∈ p0, x.block < W.heap.size := by obtain ⟨m, hm⟩ := k0; exact DataW.trod_lt m _ _ _ hm
  have k1 := h1
  have lt1 : ∀ x ∈ p1, x.block < W.heap.size := by obtain ⟨m, hm⟩ := k1; exact DataW.trod_lt m _ _ _ hm
  have k2 := h2
  have lt2 : ∀ x ∈ p2, x.block < W.heap.size := by obtain ⟨m, hm⟩ := k2; exact DataW.trod_lt m _ _ _ hm
  obtain ⟨t, rfl, htt⟩ := open_tree (hval 0 26 v0 rfl rfl) h0
  obtain ⟨j, rfl, _, _, hj⟩ := open_int Tryd.underlying3 (hval 1 3 v1 rfl rfl) h1
  have hbj := bounds_i64 hj
  obtain ⟨ed, ep, rfl, hoe⟩ := open_ent (hval 2 24 v2 rfl rfl) h2
  clear hA0 hval0
  refine (walk t j ed ep W htt hoe).mono fun e W' ⟨he, bel⟩ => ?_
  subst he
  exact ⟨_, rfl, _, _, _, [], _, [], hW', trodAll_mk1 (shut_bool Tryd.underlying4 _),
    (trodAll_cons_mk (Below.trod laidOut (by kernel_rfl) (of_decide_eq_true (by kernel_rfl)) k0 bel lt0)
    (trodAll_cons_mk (Below.trod laidOut (by kernel_rfl) (of_decide_eq_true (by kernel_rfl)) k1 bel lt1)
    (trodAll_cons_mk (Below.trod laidOut (by kernel_rfl) (of_decide_eq_true (by kernel_rfl)) k2 bel lt2)
    trodAll_mk0))), rfl, bel.frame _, fun h => by cases h⟩

theorem proved : Rows.TreeKeepsSaid :=
  OpenClaim.holds_of_wide 4 Tryd.f4 rfl rfl rfl rfl rfl rfl rfl ⟨rfl, rfl, rfl, rfl, rfl⟩ rfl rfl rfl rfl rfl (by kernel_rfl) Tryd.func4 (by kernel_rfl)
    (of_decide_eq_true (by kernel_rfl)) (by unfold Func.isWrapper; first | (rw [if_pos (by decide +kernel)]; kernel_rfl) | (rw [if_neg (by decide +kernel)]; exact ⟨rfl, rfl⟩))
    (fun os started H enc _ => lifted os started H enc)

theorem card : Rows.TreeKeepsCardSaid :=
  Claim7.holds_tied_plain_at .later [] [.data, .data, .data] true Rows.treeKeepsCard.stood.harness Rows.treeKeepsCard.stood.looks
    proved (fun _ h => by cases h) (by kernel_rfl) (fun _ h => by cases h) treeKeeps_row_tie rfl ⟨rfl, rfl⟩ (by kernel_rfl) rfl
    (fun f fn hf hfn => by
      obtain rfl : f = 4 := Option.some.inj ((show Tryd.prog.funcNamed "fingerpost/fingerpostlaw23.TreeKeeps" = some 4 by kernel_rfl).symm.trans hf) |>.symm
      obtain rfl : fn = Tryd.f4 := (Option.some.inj (Tryd.func4.symm.trans hfn)).symm
      exact ⟨by kernel_rfl, fun j t ht => by
        rw [Tryd.params4] at ht
        have hm : t ∈ [26, 3, 24] := by simpa using Array.mem_of_getElem? ht
        have hall : ([26, 3, 24].all fun u => !Tryd.prog.wantsStandIn u) = true := by kernel_rfl
        exact (show Tryd.prog.wantsStandIn t = false by simpa using List.all_eq_true.1 hall t hm)⟩)
    (by kernel_rfl)
end Go.Proofs.YtelfbkfmngjheaaDoor.treeKeeps
