/- WalkOnce: whatever tree and numbers come, the law returns true (on a way back no node is there twice, each one's Pred is the next, it ends at the root, and Path and Hops are as long), and its arguments read as before. No condition. -/
import Derived.Test.YtjpbglbbeepmnaaRows
import Derived.Test.YtjpbglbbeepmnaaWakD
import Derived.Test.YtjpbglbbeepmnaaTreOpen
import Derived.ProofKit
import Derived.OpenShut
import Derived.ShutString
import Derived.ChangeOld
import Derived.Carry
namespace Go.Proofs.Ytjpbglbbeepmnaa.walkOnce
open Go.ChangeShapes Go.WideShapes Go.ChangeAt Go.RowKit
open Go.ChangeMaps (open_string shut_string)

theorem own : ownKnob Try.prog.godebug = none := by kernel_rfl
theorem laidOut : laidOutB Try.prog = true := by kernel_rfl

open Go.Sort TreF WakF
attribute [local go_sem ↓] loadAt_tre storeAt_tre loadAt_ent storeAt_ent
/-- What the law asks of a way. -/
theorem way_facts {t : Tr} {x y : Int} {m : Nat} (h : (backT t x y).length = m + 1) : ∃ a b : Nat, y = (a : Int) ∧ x = (b : Int) ∧ (backT t x y)[0]? = some a ∧ (backT t x y)[m]? = some b ∧ m < 16 := by
  have hne : backT t x y ≠ [] := fun e => by rw [e] at h; simp at h
  obtain ⟨a, rfl, _⟩ := ok_nat (back_ok hne)
  obtain ⟨b, h2, rfl, _⟩ := back_last m h
  obtain ⟨l, hl⟩ := back_head hne
  have := back_short t (b : Int) (a : Int)
  exact ⟨a, b, rfl, rfl, by rw [hl]; rfl, h2, by omega⟩
theorem rev_at {l : List Nat} {n i j x : Nat} (hn : l.length = n) (h : l[i]? = some x) (hj : j + i + 1 = n) : l.reverse[j]? = some x := by
  rw [List.getElem?_reverse (by omega), show l.length - 1 - j = i by omega, h]
theorem nodup_take {l : List Nat} (h : l.Nodup) {k x : Nat} (hx : l[k]? = some x) : (l.take k).contains x = false := by
  cases hc : (l.take k).contains x with
  | false => rfl
  | true =>
    have hm : x ∈ l.take k := by simpa using hc
    obtain ⟨i, hi⟩ := List.mem_iff_getElem?.1 hm
    have hlt : i < k := by
      have := (List.getElem?_eq_some_iff.1 hi).1
      rw [List.length_take] at this; omega
    rw [List.getElem?_take_of_lt hlt] at hi
    rw [List.nodup_iff_pairwise_ne, List.pairwise_iff_getElem] at h
    obtain ⟨h1, e1⟩ := List.getElem?_eq_some_iff.1 hi
    obtain ⟨h2, e2⟩ := List.getElem?_eq_some_iff.1 hx
    exact absurd (e1.trans e2.symm) (h i k h1 h2 hlt)
theorem take_push {l : List Nat} {k x : Nat} (hx : l[k]? = some x) : l.take (k + 1) = l.take k ++ [x] := by rw [List.take_add_one, hx]; rfl

set_option maxHeartbeats 2000000 in
set_option maxRecDepth 100000 in
theorem walk (t : Tr) (x y : Int) (w : World) (ht : Tre t) :
    Calls Try.prog 4 #[.agg (treC t).toArray, .int .i64 x, .int .i64 y] w fun e w' => e = .returned (.bool true) ∧ Below w.heap.size w w' := by
  have BA := Lib.hid (fun w => wback_any t x y ht w)
  have PA := Lib.hid (fun w => wpath_any t x y ht w)
  have HO := Lib.hid (whops_any t x y ht)
  have AW := Lib.hid awake_any
  have GE := Lib.hid (fun n => tget_any t n ht)
  have HT := Lib.hid ht
  have HD : Hid (hopsT t x y = ((backT t x y).length : Int) - 1) := Lib.hid rfl
  have HP : Hid (pathT t x y = (backT t x y).reverse) := Lib.hid rfl
  have HND := Lib.hid (back_nodup t x y)
  have HEA : Hid (∀ z : Nat, z ∈ backT t x y → z < 16) := Lib.hid (fun z hz => (back_each hz).2)
  have HNX : Hid (∀ i z u : Nat, (backT t x y)[i]? = some z → (backT t x y)[i + 1]? = some u → upT t (z : Int) = (u : Int)) := Lib.hid (fun i z u h1 h2 => back_next h1 h2)
  obtain ⟨n, hn⟩ : ∃ n, (backT t x y).length = n := ⟨_, rfl⟩
  cases n with
  | zero =>
    have he : backT t x y = [] := List.length_eq_zero_iff.1 hn
    have hh : hopsT t x y = -1 := by rw [HD.out, he]; rfl
    rw [he] at BA
    rw [hh] at HO
    clear hn he hh HD HP HND HEA HNX ht
    go_enter Try.func4, Try.ntmps4
    go_upto_region 1 with fail
    obtain ⟨B0, BB⟩ := tbox_new w t
    obtain ⟨w1, hw1⟩ : ∃ v, w.alloc (.cells (treC t).toArray 26) = v := ⟨_, rfl⟩
    rw [hw1] at B0 BB ⊢
    clear hw1
    have K := Lib.hid B0
    have HB := Lib.hid BB
    clear B0 BB
    have l0 := tre_load K.out HT.out
    go_wp2_with fail
    refine (BA.out _).mono ?_
    rintro e w2 hp
    obtain ⟨a, c, rfl, ho, hb⟩ := hp.at (Nat.zero_le _)
    have K2 := Lib.hid (K.out.on hb)
    have HB2 := Lib.hid (bel_on HB.out hb)
    clear ho hb hp K HB
    have l0 := tre_load K2.out HT.out
    go_wp2_with fail
    refine (HO.out _).mono ?_
    rintro e w3 ⟨rfl, hb⟩
    have HB3 := Lib.hid (bel_on HB2.out hb)
    clear hb l0 HB2
    go_wp2_with fail
    refine (AW.out _).mono ?_
    rintro e w4 ⟨rfl, hb⟩
    have HB4 := Lib.hid (bel_on HB3.out hb)
    clear hb HB3
    go_wp2_with fail
    go_ret
    exact ⟨rfl, HB4.out⟩
  | succ m =>
    obtain ⟨a0, b0, rfl, rfl, g0, gm, hm⟩ := way_facts hn
    have hh : hopsT t (b0 : Int) (a0 : Int) = (m : Int) := by rw [HD.out, hn]; omega
    rw [hh] at HO
    clear hh HD
    have HQ : Hid ((pathT t (b0 : Int) (a0 : Int))[0]? = some b0) := Lib.hid (by rw [HP.out]; exact rev_at hn gm (by omega))
    have HQ2 : Hid ((pathT t (b0 : Int) (a0 : Int))[m]? = some a0) := Lib.hid (by rw [HP.out]; exact rev_at hn g0 (by omega))
    have HQL : Hid ((pathT t (b0 : Int) (a0 : Int)).length = m + 1) := Lib.hid (by rw [HP.out, List.length_reverse]; exact hn)
    generalize pathT t (b0 : Int) (a0 : Int) = l2 at PA HP HQ HQ2 HQL
    generalize backT t (b0 : Int) (a0 : Int) = l at BA HP HND HEA HNX hn g0 gm
    clear HP
    have HL := Lib.hid hn
    have HG0 := Lib.hid g0
    have HGM := Lib.hid gm
    have HM := Lib.hid hm
    obtain ⟨n, hnm⟩ : ∃ n, m + 1 = n := ⟨_, rfl⟩
    have HNM := Lib.hid hnm
    have e0 : ((a0 : Int) != (a0 : Int)) = false := by simp
    have e1 : ((b0 : Int) != (b0 : Int)) = false := by simp
    have n1 : decide ((n : Int) < 1) = false := decide_eq_false (by omega)
    have n16 : decide ((16 : Int) < (n : Int)) = false := decide_eq_false (by omega)
    have wm : IntKind.i64.wrap ((n : Int) - 1) = (m : Int) := by rw [IntKind.wrap_i64]; omega
    have m0 : (0 : Int) ≤ (m : Int) := by omega
    have mn : (m : Int) < (n : Int) := by omega
    have z0 : (0 : Int) < (n : Int) := by omega
    have hn16 : n ≤ 16 := by omega
    clear hn g0 gm ht hm hnm
    go_enter Try.func4, Try.ntmps4
    go_upto_region 1 with fail
    obtain ⟨B0, BB⟩ := tbox_new w t
    obtain ⟨w1, hw1⟩ : ∃ v, w.alloc (.cells (treC t).toArray 26) = v := ⟨_, rfl⟩
    rw [hw1] at B0 BB ⊢
    clear hw1
    have K := Lib.hid B0
    have HB := Lib.hid BB
    clear B0 BB
    have l0 := tre_load K.out HT.out
    go_wp2_with fail
    refine (BA.out _).mono ?_
    rintro e w2 hp
    obtain ⟨a, c, rfl, ho, hb⟩ := hp.at (Nat.zero_le _)
    have K2 := Lib.hid (K.out.on hb)
    have HB2 := Lib.hid (bel_on HB.out hb)
    have HN := Lib.hid (NatAt.own ho)
    have hne : (!l.isEmpty) = true := by
      cases l with
      | nil => have := HL.out; simp at this
      | cons => rfl
    rw [hne, HL.out, HNM.out]
    clear ho hb hp K HB hne l0
    obtain ⟨g, rfl, _, c0⟩ := HN.out.read HG0.out
    obtain ⟨g', hg', _, cm⟩ := HN.out.read HGM.out
    obtain rfl : g = g' := by cases hg'; rfl
    clear hg'
    go_wp2_with fail
    go_loopw [63, 9] (fun v s wr => ∃ k : Nat, v = .int .i64 (k : Int) ∧ k ≤ n ∧ s = .int .i64 (setL (l.take k)) ∧ Hid (Below w2.heap.size w2 wr)) (fun v _ _ => (n - intOf v).toNat)
    case atStart => exact ⟨0, rfl, Nat.zero_le _, by rw [List.take_zero, setL_nil], Lib.hid (Below.refl _ _)⟩
    case round =>
      obtain ⟨k, rfl, hk, rfl, HW⟩ := hrel
      clear c0 cm
      by_cases hkn : k < n
      · obtain ⟨z, hz⟩ : ∃ z, l[k]? = some z := ⟨_, List.getElem?_eq_getElem (by have := HL.out; have := HNM.out; omega)⟩
        obtain ⟨g', hg', _, ck⟩ := (HN.out.on HW.out).read hz
        obtain rfl : g = g' := by cases hg'; rfl
        clear hg'
        have hz16 := HEA.out z (List.mem_of_getElem? hz)
        have HA : Hid (Gives Try.prog 16 #[.int .i64 (setL (l.take k)), .int .i64 (z : Int)] (.bool false)) := Lib.hid (fun w => by
          have h := has_in (setL (l.take k)) z w hz16
          rw [setL_has _ hz16, nodup_take HND.out hz] at h
          exact h.mono (fun _ _ ⟨p, q⟩ => ⟨p, q ▸ Below.refl _ _⟩))
        have RI : Hid (Gives Try.prog 17 #[.int .i64 (z : Int)] (.bool true)) := Lib.hid (fun w => (right_in z w hz16).mono (fun _ _ ⟨p, q⟩ => ⟨p, q ▸ Below.refl _ _⟩))
        have WI : Hid (∀ w, Calls Try.prog 19 #[.int .i64 (setL (l.take k)), .int .i64 (z : Int)] w fun e w' => e = .returned (.int .i64 (setL (l.take (k + 1)))) ∧ w = w') := Lib.hid (fun w => by
          have hl := setL_lim (l.take k)
          have h := with_in (setL (l.take k)) z w hz16 (by omega) (by omega)
          rwa [setL_push _ hz16, ← take_push hz] at h)
        generalize setL (l.take k) = s0 at HA WI
        obtain ⟨s1, hs1⟩ : ∃ s1, setL (l.take (k + 1)) = s1 := ⟨_, rfl⟩
        rw [hs1] at WI
        have HS1 := Lib.hid hs1
        clear hs1
        have K3 := Lib.hid (K2.out.on HW.out)
        have l0 := fun dd os => tre_load (K3.out.on (below_regrown _ dd os)) HT.out
        have HZ := Lib.hid hz
        have HK := Lib.hid hkn
        by_cases hk0 : 0 < k
        · obtain ⟨i, rfl⟩ : ∃ i, k = i + 1 := ⟨k - 1, by omega⟩
          obtain ⟨u, hu⟩ : ∃ u, l[i]? = some u := ⟨_, List.getElem?_eq_getElem (by have := HL.out; have := HNM.out; omega)⟩
          obtain ⟨g', hg', _, ci⟩ := (HN.out.on HW.out).read hu
          obtain rfl : g = g' := by cases hg'; rfl
          clear hg'
          have ci' := cell_regrown ci
          have GU : Hid (Gives Try.prog 18 #[.agg (treC t).toArray, .int .i64 (u : Int)] (.agg #[.int .u32 ((getT t (u : Int)).1 : Int), .int .i64 (z : Int)])) := Lib.hid (by
            have h := GE.out (u : Int)
            rwa [show (getT t (u : Int)).2 = (z : Int) from HNX.out i u z hu hz] at h)
          generalize ((getT t (u : Int)).1 : Int) = dd at GU
          obtain ⟨k, hke⟩ : ∃ k, i + 1 = k := ⟨_, rfl⟩
          rw [hke] at ck hkn HK HZ HS1 ⊢
          have HKE := Lib.hid hke
          have wi : IntKind.i64.wrap ((k : Int) - 1) = (i : Int) := by rw [IntKind.wrap_i64]; omega
          have i0 : (0 : Int) ≤ (i : Int) := by omega
          have i1 : (i : Int) < (n : Int) := by omega
          have kp : decide ((0 : Int) < (k : Int)) = true := decide_eq_true (by omega)
          have kp2 : decide (0 < k) = true := decide_eq_true (by omega)
          have ez : ((z : Int) != (z : Int)) = false := by simp
          have fd := field_pred dd (z : Int)
          clear hk hk0 hke hz hu hz16 ci
          go_upto_region 10 with fail
          refine wp_region_quiet_below (by kernel_rfl) (by kernel_rfl) ?_
          repeat (first | go_big_quiet_step (first | with_reducible exact HA.out.at _ _ _ | with_reducible exact RI.out.at _ _ _ | with_reducible exact GU.out.at _ _ _) | quiet_step (first | with_reducible exact HA.out.at _ _ _ | with_reducible exact RI.out.at _ _ _ | with_reducible exact GU.out.at _ _ _))
          refine wpQuiet_nil ?_
          intro _ hw'
          obtain ⟨⟨dq, osq⟩, hw''⟩ := hw'
          subst hw''
          go_wp2_with fail
          refine (WI.out _).mono ?_
          rintro e w4 ⟨rfl, rfl⟩
          go_wp2_with fail
          go_roundw
          case rel => exact ⟨k + 1, by go_num, HK.out, by rw [HS1.out], Lib.hid (bel_on HW.out (below_regrown _ dq osq))⟩
          case measure => exact meas_up n k _ rfl HK.out
        · obtain rfl : k = 0 := by omega
          have kp : decide ((0 : Int) < ((0 : Nat) : Int)) = false := rfl
          clear hk hk0 hz hz16
          go_upto_region 10 with fail
          refine wp_region_quiet_below (by kernel_rfl) (by kernel_rfl) ?_
          repeat (first | go_big_quiet_step (first | with_reducible exact HA.out.at _ _ _ | with_reducible exact RI.out.at _ _ _) | quiet_step (first | with_reducible exact HA.out.at _ _ _ | with_reducible exact RI.out.at _ _ _))
          refine wpQuiet_nil ?_
          intro _ hw'
          obtain ⟨⟨dq, osq⟩, hw''⟩ := hw'
          subst hw''
          go_wp2_with fail
          refine (WI.out _).mono ?_
          rintro e w4 ⟨rfl, rfl⟩
          go_wp2_with fail
          go_roundw
          case rel => exact ⟨1, by go_num, HK.out, by rw [HS1.out], Lib.hid (bel_on HW.out (below_regrown _ dq osq))⟩
          case measure => exact meas_up n 0 _ rfl HK.out
      · obtain rfl : k = n := by omega
        have K3 := Lib.hid (K2.out.on HW.out)
        have HB3 := Lib.hid (bel_on HB2.out HW.out)
        have l0 := tre_load K3.out HT.out
        clear hk hkn
        go_wp2_with fail
        refine (PA.out _).mono ?_
        rintro e w4 hp
        obtain ⟨a', c', rfl, ho, hb⟩ := hp.at (Nat.zero_le _)
        have K4 := Lib.hid (K3.out.on hb)
        have HB4 := Lib.hid (bel_on HB3.out hb)
        have HN2 := Lib.hid (NatAt.own ho)
        have hne : (!l2.isEmpty) = true := by
          cases l2 with
          | nil => have := HQL.out; simp at this
          | cons => rfl
        rw [hne, HQL.out, HNM.out]
        clear ho hb hp K3 HB3 hne l0
        obtain ⟨h, rfl, _, c0⟩ := HN2.out.read HQ.out
        obtain ⟨g', hg', _, cm⟩ := HN2.out.read HQ2.out
        obtain rfl : h = g' := by cases hg'; rfl
        clear hg'
        have l0 := tre_load K4.out HT.out
        go_wp2_with fail
        refine (HO.out _).mono ?_
        rintro e w5 ⟨rfl, hb⟩
        have HB5 := Lib.hid (bel_on HB4.out hb)
        clear hb l0 HB4 c0 cm
        go_wp2_with fail
        refine (AW.out _).mono ?_
        rintro e w6 ⟨rfl, hb⟩
        have HB6 := Lib.hid (bel_on HB5.out hb)
        clear hb HB5
        go_wp2_with fail
        go_ret
        exact ⟨rfl, HB6.out⟩

set_option maxRecDepth 100000 in
theorem lifted (os : Os) (started : os.Started) (H : Type) (enc : TypeId × Value → H) :
    ReturnsInHanded {} Try.checked os 4 .any (Rows.walkOnceSpec.pre6 enc Try.prog Try.f4 Rows.walkOnceRow.domain false) (Rows.walkOnceSpec.post enc Try.prog Try.f4 false true false false) := by
  refine returnsInHanded_of_change (C := Try.checked) own started (by kernel_rfl) Try.func4
    (ChangeSpec.witness6 (enc := enc) (C := Try.checked) false ⟨#[], #[.agg #[.int .u32 0, .int .i64 0, .int .u32 0, .int .i64 0, .int .u32 0, .int .i64 0, .int .u32 0, .int .i64 0, .int .u32 0, .int .i64 0, .int .u32 0, .int .i64 0, .int .u32 0, .int .i64 0, .int .u32 0, .int .i64 0, .int .u32 0, .int .i64 0, .int .u32 0, .int .i64 0, .int .u32 0, .int .i64 0, .int .u32 0, .int .i64 0, .int .u32 0, .int .i64 0, .int .u32 0, .int .i64 0, .int .u32 0, .int .i64 0, .int .u32 0, .int .i64 0], .int .i64 0, .int .i64 0], []⟩ 8 (by kernel_rfl) (by kernel_rfl) (by kernel_rfl) (by kernel_rfl)) ?_
  intro W base args ds gs before hval0 hW hcnd _
  have hval : ∀ (j : Nat) t v, Try.f4.params[j]? = some t → args[j]? = some v → Value.okWide Try.prog W .any base t v := hval0
  have hW' := hW
  obtain ⟨p, q, hA0, hV, rfl, hfz, hnd⟩ := hW
  have hA : DataW.TrodAll enc Try.prog W 0 (fun _ => true) true Try.f4.params.toList args.toList ds p := hA0
  rw [Try.params4] at hA hval
  obtain ⟨v0, vs0, d0, ds0, p0, q0, hargs, rfl, rfl, h0, r0⟩ := trodAll_cons hA
  obtain ⟨v1, vs1, d1, ds1, p1, q1, rfl, rfl, rfl, h1, r1⟩ := trodAll_cons r0
  obtain ⟨v2, vs2, d2, ds2, p2, q2, rfl, rfl, rfl, h2, r2⟩ := trodAll_cons r1
  obtain ⟨rfl, rfl, rfl⟩ := trodAll_nil r2
  obtain rfl : args = #[v0, v1, v2] := by cases args; simp_all
  obtain ⟨rfl, rfl⟩ := trodVars_none hV
  have k0 := h0
  have lt0 : ∀ x ∈ p0, x.block < W.heap.size := by obtain ⟨m, hm⟩ := k0; exact DataW.trod_lt m _ _ _ hm
  have k1 := h1
  have lt1 : ∀ x ∈ p1, x.block < W.heap.size := by obtain ⟨m, hm⟩ := k1; exact DataW.trod_lt m _ _ _ hm
  have k2 := h2
  have lt2 : ∀ x ∈ p2, x.block < W.heap.size := by obtain ⟨m, hm⟩ := k2; exact DataW.trod_lt m _ _ _ hm
  obtain ⟨t, rfl, htt⟩ := open_tree (hval 0 26 v0 rfl rfl) h0
  obtain ⟨x, rfl, _, _, hx⟩ := open_int Try.underlying3 (hval 1 3 v1 rfl rfl) h1
  have hbx := bounds_i64 hx
  obtain ⟨y, rfl, _, _, hy⟩ := open_int Try.underlying3 (hval 2 3 v2 rfl rfl) h2
  have hby := bounds_i64 hy
  clear hA0 hval0
  refine (walk t x y W htt).mono fun e W' ⟨he, bel⟩ => ?_
  subst he
  exact ⟨_, rfl, _, _, _, [], _, [], hW', trodAll_mk1 (shut_bool Try.underlying4 _),
    (trodAll_cons_mk (Below.trod laidOut (by kernel_rfl) (of_decide_eq_true (by kernel_rfl)) k0 bel lt0)
    (trodAll_cons_mk (Below.trod laidOut (by kernel_rfl) (of_decide_eq_true (by kernel_rfl)) k1 bel lt1)
    (trodAll_cons_mk (Below.trod laidOut (by kernel_rfl) (of_decide_eq_true (by kernel_rfl)) k2 bel lt2)
    trodAll_mk0))), rfl, bel.frame _, fun h => by cases h⟩

theorem proved : Rows.WalkOnceSaid :=
  OpenClaim.holds_of_wide 4 Try.f4 rfl rfl rfl rfl rfl rfl rfl ⟨rfl, rfl, rfl, rfl, rfl⟩ rfl rfl rfl rfl rfl (by kernel_rfl) Try.func4 (by kernel_rfl)
    (of_decide_eq_true (by kernel_rfl)) (by unfold Func.isWrapper; first | (rw [if_pos (by decide +kernel)]; kernel_rfl) | (rw [if_neg (by decide +kernel)]; exact ⟨rfl, rfl⟩))
    (fun os started H enc _ => lifted os started H enc)
end Go.Proofs.Ytjpbglbbeepmnaa.walkOnce
