/- Contracts of package walk, part J: Meet, Leaves, and the document's own. -/
import Derived.Test.YtjpbglbbeepmnaaWakI
namespace Go.Proofs.Ytjpbglbbeepmnaa
open Go.RowKit Go.Sort TreF WakF
attribute [local go_sem ↓] loadAt_tre storeAt_tre loadAt_ent storeAt_ent

theorem not_in_more {l m : List Nat} {k x : Nat} (ha : ∀ i y : Nat, i < k → l[i]? = some y → m.contains y = false) (hx : l[k]? = some x) (hm : m.contains x = false) : ∀ i y : Nat, i < k + 1 → l[i]? = some y → m.contains y = false := fun i y hi hy => by
  by_cases h : i < k
  · exact ha i y h hy
  · obtain rfl : i = k := by omega
    rw [hx] at hy
    obtain rfl := Option.some.inj hy
    exact hm

set_option maxRecDepth 100000 in
theorem wmeet_any (t : Tr) (r x y : Int) (ht : Tre t) : Gives Try.prog 26 #[.agg (treC t).toArray, .int .i64 r, .int .i64 x, .int .i64 y] (.int .i64 (meetT t r x y)) := fun w => by
  have BX := Lib.hid (fun w => wback_any t r x ht w)
  have BY := Lib.hid (fun w => wback_any t r y ht w)
  have SX := Lib.hid (back_short t r x)
  have SY := Lib.hid (back_short t r y)
  have EY : Hid (∀ z ∈ backT t r y, z < 16) := Lib.hid (fun z hz => (back_each hz).2)
  have EX : Hid (∀ z ∈ backT t r x, z < 16) := Lib.hid (fun z hz => (back_each hz).2)
  have HD : Hid (meetT t r x y = fstIn (backT t r x) (backT t r y)) := Lib.hid rfl
  generalize meetT t r x y = h at HD ⊢
  generalize backT t r x = l at BX SX HD EX
  generalize backT t r y = l2 at BY SY HD EY
  have HT := Lib.hid ht
  clear ht
  obtain ⟨n, hn⟩ : ∃ n, l.length = n := ⟨_, rfl⟩
  have HN := Lib.hid hn
  have hn16 : n ≤ 16 := by have := SX.out; omega
  clear hn
  go_enter Try.func26, Try.ntmps26
  go_upto_region 1 with fail
  obtain ⟨B0, BB⟩ := tbox_new w t
  obtain ⟨w1, hw1⟩ : ∃ v, w.alloc (.cells (treC t).toArray 26) = v := ⟨_, rfl⟩
  rw [hw1] at B0 BB ⊢
  clear hw1
  have K := Lib.hid B0
  have HB := Lib.hid BB
  clear B0 BB
  have l0 := tre_load K.out HT.out
  go_wp2_with fail
  refine (BX.out _).mono ?_
  rintro e w2 hp
  obtain ⟨a, c, rfl, ho, hb⟩ := hp.at (Nat.zero_le _)
  have K2 := Lib.hid (K.out.on hb)
  have HB2 := Lib.hid (bel_on HB.out hb)
  have NX := Lib.hid (NatAt.own ho)
  clear l0 ho hp hb K HB
  have l0 := tre_load K2.out HT.out
  rw [HN.out]
  go_wp2_with fail
  refine (BY.out _).mono ?_
  rintro e w3 hp
  obtain ⟨a2, c2, rfl, ho, hb⟩ := hp.at (Nat.zero_le _)
  have HB3 := Lib.hid (bel_on HB2.out hb)
  have NX3 := Lib.hid (NX.out.on hb)
  have NY := Lib.hid (NatAt.own ho)
  clear l0 ho hp hb K2 HB2 NX
  go_wp2_with fail
  go_loopw [31] (fun v wi => ∃ k : Nat, v = .int .i64 (k : Int) ∧ k ≤ n ∧ Hid (∀ i y : Nat, i < k → l[i]? = some y → l2.contains y = false) ∧ w3 = wi) (fun v _ => (n - intOf v).toNat)
  case atStart => exact ⟨0, rfl, Nat.zero_le _, Lib.hid (fun i y hi _ => absurd hi (Nat.not_lt_zero i)), rfl⟩
  case round =>
    obtain ⟨k, rfl, hk, HA, rfl⟩ := hrel
    by_cases hkn : k < n
    · obtain ⟨z, hz⟩ : ∃ z, l[k]? = some z := ⟨_, List.getElem?_eq_getElem (by have := HN.out; omega)⟩
      obtain ⟨g, rfl, _, c1⟩ := NX3.out.read hz
      have HZ := Lib.hid hz
      have HK := Lib.hid hkn
      have CT := Lib.hid (fun w h => ncontains_any a2 c2 l2 (z : Int) w h SY.out)
      obtain ⟨b, hb⟩ : ∃ b, l2.contains z = b := ⟨_, rfl⟩
      have HBB := Lib.hid hb
      rw [inL_nat, hb] at CT
      clear hz hb hk
      go_wp2_with fail
      refine (CT.out _ NY.out).mono ?_
      rintro e w4 ⟨rfl, rfl⟩
      cases b with
      | true =>
        have HE : Hid (h = (z : Int)) := Lib.hid (by rw [HD.out]; exact fst_at HA.out HZ.out HBB.out)
        go_wp2_with fail
        go_ret
        exact ⟨by rw [HE.out]; rfl, HB3.out⟩
      | false =>
        have HE := Lib.hid (not_in_more HA.out HZ.out HBB.out)
        go_wp2_with fail
        go_roundw
        case rel => exact ⟨k + 1, by go_num, HK.out, HE, trivial⟩
        case measure => exact meas_up n k _ rfl HK.out
    · have HE : Hid (h = -1) := Lib.hid (by
        rw [HD.out]
        exact fst_end (fun i y hi hy => HA.out i y (by have := HN.out; omega) hy))
      obtain rfl : k = n := by omega
      go_wp2_with fail
      go_ret
      exact ⟨by rw [HE.out]; rfl, HB3.out⟩

set_option maxRecDepth 100000 in
theorem rmeet_any (t : Tr) (r x y : Int) (ht : Tre t) : Gives Try.prog 27 #[.agg (treC t).toArray, .int .i64 r, .int .i64 x, .int .i64 y] (.int .i64 (meetT t r x y)) := fun w => by
  have BX := Lib.hid (fun w => rback_any t r x ht w)
  have BY := Lib.hid (fun w => rback_any t r y ht w)
  have SX := Lib.hid (back_short t r x)
  have SY := Lib.hid (back_short t r y)
  have EY : Hid (∀ z ∈ backT t r y, z < 16) := Lib.hid (fun z hz => (back_each hz).2)
  have EX : Hid (∀ z ∈ backT t r x, z < 16) := Lib.hid (fun z hz => (back_each hz).2)
  have HD : Hid (meetT t r x y = fstIn (backT t r x) (backT t r y)) := Lib.hid rfl
  generalize meetT t r x y = h at HD ⊢
  generalize backT t r x = l at BX SX HD EX
  generalize backT t r y = l2 at BY SY HD EY
  have HT := Lib.hid ht
  clear ht
  obtain ⟨n, hn⟩ : ∃ n, l.length = n := ⟨_, rfl⟩
  have HN := Lib.hid hn
  have hn16 : n ≤ 16 := by have := SX.out; omega
  clear hn
  obtain ⟨n2, hn2⟩ : ∃ n, l2.length = n := ⟨_, rfl⟩
  have HN2 := Lib.hid hn2
  have hn2l : n2 ≤ 16 := by have := SY.out; omega
  obtain ⟨f1, hf1⟩ : ∃ f, (!l.isEmpty) = f := ⟨_, rfl⟩
  obtain ⟨f2, hf2⟩ : ∃ f, (!l2.isEmpty) = f := ⟨_, rfl⟩
  have HF1 := Lib.hid hf1
  have HF2 := Lib.hid hf2
  clear hn2 hf1 hf2
  go_enter Try.func27, Try.ntmps27
  go_upto_region 1 with fail
  obtain ⟨B0, BB⟩ := tbox_new w t
  obtain ⟨w1, hw1⟩ : ∃ v, w.alloc (.cells (treC t).toArray 26) = v := ⟨_, rfl⟩
  rw [hw1] at B0 BB ⊢
  clear hw1
  have K := Lib.hid B0
  have HB := Lib.hid BB
  clear B0 BB
  have l0 := tre_load K.out HT.out
  go_wp2_with fail
  refine (BX.out _).mono ?_
  rintro e w2 hp
  obtain ⟨a, c, rfl, ho, hb⟩ := hp.at (Nat.zero_le _)
  have K2 := Lib.hid (K.out.on hb)
  have HB2 := Lib.hid (bel_on HB.out hb)
  have NX := Lib.hid (NatAt.own ho)
  clear l0 ho hp hb K HB
  have l0 := tre_load K2.out HT.out
  rw [HN.out, HF1.out]
  go_wp2_with fail
  refine (BY.out _).mono ?_
  rintro e w3 hp
  obtain ⟨a2, c2, rfl, ho, hb⟩ := hp.at (Nat.zero_le _)
  have HB3 := Lib.hid (bel_on HB2.out hb)
  have NX3 := Lib.hid (NX.out.on hb)
  have NY := Lib.hid (NatAt.own ho)
  clear l0 ho hp hb K2 HB2 NX
  rw [HN2.out, HF2.out]
  cases f1 with
  | false =>
    have HE : Hid (h = -1) := Lib.hid (by
      have h1 := HF1.out
      cases l with
      | nil => rw [HD.out]; exact fst_none (.inl rfl)
      | cons => simp at h1)
    go_wp2_with fail
    go_ret
    exact ⟨by rw [HE.out]; rfl, HB3.out⟩
  | true =>
    cases f2 with
    | false =>
      have HE : Hid (h = -1) := Lib.hid (by
        have h1 := HF2.out
        cases l2 with
        | nil => rw [HD.out]; exact fst_none (.inr rfl)
        | cons => simp at h1)
      go_wp2_with fail
      go_ret
      exact ⟨by rw [HE.out]; rfl, HB3.out⟩
    | true =>
      go_wp2_with fail
      go_loopw [40, 13] (fun v s wi => ∃ q : Nat, v = .int .i64 (q : Int) ∧ q ≤ n2 ∧ s = .int .i64 (setL (l2.take q)) ∧ w3 = wi) (fun v _ _ => (n2 - intOf v).toNat)
      case atStart => exact ⟨0, rfl, Nat.zero_le _, by rw [List.take_zero, setL_nil], rfl⟩
      case round =>
        obtain ⟨q, rfl, hq, rfl, rfl⟩ := hrel
        by_cases hqn : q < n2
        · obtain ⟨z, hz⟩ : ∃ z, l2[q]? = some z := ⟨_, List.getElem?_eq_getElem (by have := HN2.out; omega)⟩
          obtain ⟨g, rfl, _, c1⟩ := NY.out.read hz
          have HQ := Lib.hid hqn
          have WI := Lib.hid (fun w => rwith_list (l2.take q) z w (EY.out z (List.mem_of_getElem? hz)))
          rw [show l2.take q ++ [z] = l2.take (q + 1) by rw [List.take_add_one, hz]; rfl] at WI
          clear hz hq
          go_wp2_with fail
          refine (WI.out _).mono ?_
          rintro e w4 ⟨rfl, rfl⟩
          go_wp2_with fail
          go_roundw
          case rel => exact ⟨q + 1, by go_num, HQ.out, rfl, trivial⟩
          case measure => exact meas_up n2 q _ rfl HQ.out
        · have e2 : l2.take q = l2 := List.take_of_length_le (by have := HN2.out; omega)
          obtain rfl : q = n2 := by omega
          rw [e2]
          clear hq hqn e2
          go_wp2_with fail
          go_loopw [50] (fun v wi => ∃ k : Nat, v = .int .i64 (k : Int) ∧ k ≤ n ∧ Hid (∀ i y : Nat, i < k → l[i]? = some y → l2.contains y = false) ∧ w3 = wi) (fun v _ => (n - intOf v).toNat)
          case atStart => exact ⟨0, rfl, Nat.zero_le _, Lib.hid (fun i y hi _ => absurd hi (Nat.not_lt_zero i)), rfl⟩
          case round =>
            obtain ⟨k, rfl, hk, HA, rfl⟩ := hrel
            by_cases hkn : k < n
            · obtain ⟨z, hz⟩ : ∃ z, l[k]? = some z := ⟨_, List.getElem?_eq_getElem (by have := HN.out; omega)⟩
              obtain ⟨g, rfl, _, c1⟩ := NX3.out.read hz
              have HZ := Lib.hid hz
              have HK := Lib.hid hkn
              have CT := Lib.hid (fun w => rhas_list l2 z w (EX.out z (List.mem_of_getElem? hz)))
              obtain ⟨b, hb⟩ : ∃ b, l2.contains z = b := ⟨_, rfl⟩
              have HBB := Lib.hid hb
              rw [hb] at CT
              clear hz hb hk
              go_wp2_with fail
              refine (CT.out _).mono ?_
              rintro e w4 ⟨rfl, rfl⟩
              cases b with
              | true =>
                have HE : Hid (h = (z : Int)) := Lib.hid (by rw [HD.out]; exact fst_at HA.out HZ.out HBB.out)
                go_wp2_with fail
                go_ret
                exact ⟨by rw [HE.out]; rfl, HB3.out⟩
              | false =>
                have HE := Lib.hid (not_in_more HA.out HZ.out HBB.out)
                go_wp2_with fail
                go_roundw
                case rel => exact ⟨k + 1, by go_num, HK.out, HE, trivial⟩
                case measure => exact meas_up n k _ rfl HK.out
            · have HE : Hid (h = -1) := Lib.hid (by
                rw [HD.out]
                exact fst_end (fun i y hi hy => HA.out i y (by have := HN.out; omega) hy))
              obtain rfl : k = n := by omega
              go_wp2_with fail
              go_ret
              exact ⟨by rw [HE.out]; rfl, HB3.out⟩

theorem leaf_take {t : Tr} {r : Int} {ks : List Nat} {q x : Nat} {z : Bool} (hx : ks[q]? = some x) (hz : leafB t r x = z) : (ks.take (q + 1)).filter (leafB t r) = (ks.take q).filter (leafB t r) ++ (if z then [x] else []) := by
  rw [List.take_add_one, hx, List.filter_append]
  congr 1
  simp [List.filter_cons, hz]
theorem leaf_eq {t : Tr} {r : Int} {x : Nat} {z : Bool} (h : leafB t r x = z) : (belT t r (x : Int) == setL [x]) = z := by
  rw [← h]
  unfold leafB
  rw [Bool.eq_iff_iff]; simp

set_option maxRecDepth 100000 in
theorem wleaves_any (t : Tr) (r : Int) (ht : Tre t) : Gives Try.prog 28 #[.agg (treC t).toArray, .int .i64 r] (.int .i64 (leavT t r)) := fun w => by
  have OR := Lib.hid (fun w => worder_any t r ht w)
  have BE := Lib.hid (fun n => wbelow_any t r n ht)
  have SO := Lib.hid (order_short t r)
  have EO := Lib.hid (order_small t r)
  have HD : Hid (leavT t r = setL ((orderT t r).filter (leafB t r))) := Lib.hid rfl
  generalize leavT t r = h at HD ⊢
  generalize orderT t r = l at OR SO EO HD
  have HT := Lib.hid ht
  clear ht
  obtain ⟨n, hn⟩ : ∃ n, l.length = n := ⟨_, rfl⟩
  have HN := Lib.hid hn
  have hn16 : n ≤ 16 := by have := SO.out; omega
  clear hn
  go_enter Try.func28, Try.ntmps28
  go_upto_region 1 with fail
  obtain ⟨B0, BB⟩ := tbox_new w t
  obtain ⟨w1, hw1⟩ : ∃ v, w.alloc (.cells (treC t).toArray 26) = v := ⟨_, rfl⟩
  rw [hw1] at B0 BB ⊢
  clear hw1
  have K := Lib.hid B0
  have HB := Lib.hid BB
  clear B0 BB
  have l0 := tre_load K.out HT.out
  go_wp2_with fail
  refine (OR.out _).mono ?_
  rintro e w2 hl
  obtain ⟨a, c, rfl, hna, hb⟩ := nats_slice hl
  have K2 := Lib.hid (K.out.on hb)
  have HB2 := Lib.hid (bel_on HB.out hb)
  have NA := Lib.hid (hna.low (Nat.zero_le _))
  rw [HN.out]
  clear l0 hl hna hb K HB
  go_wp2_with fail
  go_loopw [13, 5] (fun v s wi => ∃ k : Nat, v = .int .i64 (k : Int) ∧ k ≤ n ∧ s = .int .i64 (setL ((l.take k).filter (leafB t r))) ∧ Hid (Below w2.heap.size w2 wi)) (fun v _ _ => (n - intOf v).toNat)
  case atStart => exact ⟨0, rfl, Nat.zero_le _, by rw [List.take_zero, List.filter_nil, setL_nil], Lib.hid (Below.refl _ _)⟩
  case round =>
    obtain ⟨k, rfl, hk, rfl, KB⟩ := hrel
    by_cases hkn : k < n
    · obtain ⟨x, hx⟩ : ∃ x, l[k]? = some x := ⟨_, List.getElem?_eq_getElem (by have := HN.out; omega)⟩
      obtain ⟨g, rfl, _, c1⟩ := (NA.out.on KB.out).read hx
      have hx16 := EO.out x (List.mem_of_getElem? hx)
      have W1 : Hid (∀ w, Calls Try.prog 19 #[.int .i64 0, .int .i64 (x : Int)] w fun e w' => e = .returned (.int .i64 (setL [x])) ∧ w = w') := Lib.hid (fun w => by have h := pwith_list [] x w hx16; rwa [setL_nil] at h)
      obtain ⟨z, hz⟩ : ∃ z, leafB t r x = z := ⟨_, rfl⟩
      have hq := leaf_eq hz
      have BX := Lib.hid (BE.out (x : Int))
      have HKT := Lib.hid (leaf_take hx hz)
      have WI := Lib.hid (fun w => pwith_list ((l.take k).filter (leafB t r)) x w hx16)
      generalize belT t r (x : Int) = bb at hq BX
      generalize setL [x] = ss at hq W1
      have l0 := tre_load (K2.out.on KB.out) HT.out
      have HK := Lib.hid hkn
      clear hx hx16 hz hk
      go_wp2_with fail
      refine (W1.out _).mono ?_
      rintro e w4 ⟨rfl, rfl⟩
      go_wp2_with fail
      refine (BX.out _).mono ?_
      rintro e w5 ⟨rfl, hb⟩
      have HB5 := Lib.hid (bel_on KB.out hb)
      clear hb l0 KB
      cases z with
      | true =>
        go_wp2_with fail
        refine (WI.out _).mono ?_
        rintro e w9 ⟨rfl, rfl⟩
        go_wp2_with fail
        go_roundw
        case rel => exact ⟨k + 1, by go_num, HK.out, by have e := HKT.out; rw [if_pos trivial] at e; rw [e], HB5⟩
        case measure => exact meas_up n k _ rfl HK.out
      | false =>
        go_wp2_with fail
        go_roundw
        case rel => exact ⟨k + 1, by go_num, HK.out, by have e := HKT.out; rw [if_neg (by decide), List.append_nil] at e; rw [e], HB5⟩
        case measure => exact meas_up n k _ rfl HK.out
    · have HE : Hid (h = setL ((l.take k).filter (leafB t r))) := Lib.hid (by rw [HD.out, List.take_of_length_le (by have := HN.out; omega)])
      obtain rfl : k = n := by omega
      clear hk hkn
      go_wp2_with fail
      go_ret
      exact ⟨by rw [HE.out]; rfl, bel_on HB2.out KB.out⟩

set_option maxRecDepth 100000 in
theorem rleaves_any (t : Tr) (r : Int) (ht : Tre t) : Gives Try.prog 29 #[.agg (treC t).toArray, .int .i64 r] (.int .i64 (leavT t r)) := fun w => by
  have OR := Lib.hid (fun w => rorder_any t r ht w)
  have BE := Lib.hid (fun n => rbelow_any t r n ht)
  have SO := Lib.hid (order_short t r)
  have EO := Lib.hid (order_small t r)
  have HD : Hid (leavT t r = setL ((orderT t r).filter (leafB t r))) := Lib.hid rfl
  generalize leavT t r = h at HD ⊢
  generalize orderT t r = l at OR SO EO HD
  have HT := Lib.hid ht
  clear ht
  obtain ⟨n, hn⟩ : ∃ n, l.length = n := ⟨_, rfl⟩
  have HN := Lib.hid hn
  have hn16 : n ≤ 16 := by have := SO.out; omega
  clear hn
  go_enter Try.func29, Try.ntmps29
  go_upto_region 1 with fail
  obtain ⟨B0, BB⟩ := tbox_new w t
  obtain ⟨w1, hw1⟩ : ∃ v, w.alloc (.cells (treC t).toArray 26) = v := ⟨_, rfl⟩
  rw [hw1] at B0 BB ⊢
  clear hw1
  have K := Lib.hid B0
  have HB := Lib.hid BB
  clear B0 BB
  have l0 := tre_load K.out HT.out
  go_wp2_with fail
  refine (OR.out _).mono ?_
  rintro e w2 hl
  obtain ⟨a, c, rfl, hna, hb⟩ := nats_slice hl
  have K2 := Lib.hid (K.out.on hb)
  have HB2 := Lib.hid (bel_on HB.out hb)
  have NA := Lib.hid (hna.low (Nat.zero_le _))
  rw [HN.out]
  clear l0 hl hna hb K HB
  go_wp2_with fail
  go_loopw [12, 5] (fun v s wi => ∃ k : Nat, v = .int .i64 (k : Int) ∧ k ≤ n ∧ s = .int .i64 (setL ((l.take k).filter (leafB t r))) ∧ Hid (Below w2.heap.size w2 wi)) (fun v _ _ => (n - intOf v).toNat)
  case atStart => exact ⟨0, rfl, Nat.zero_le _, by rw [List.take_zero, List.filter_nil, setL_nil], Lib.hid (Below.refl _ _)⟩
  case round =>
    obtain ⟨k, rfl, hk, rfl, KB⟩ := hrel
    by_cases hkn : k < n
    · obtain ⟨x, hx⟩ : ∃ x, l[k]? = some x := ⟨_, List.getElem?_eq_getElem (by have := HN.out; omega)⟩
      obtain ⟨g, rfl, _, c1⟩ := (NA.out.on KB.out).read hx
      have hx16 := EO.out x (List.mem_of_getElem? hx)
      have W1 : Hid (∀ w, Calls Try.prog 33 #[.int .i64 0, .int .i64 (x : Int)] w fun e w' => e = .returned (.int .i64 (setL [x])) ∧ w = w') := Lib.hid (fun w => by have h := rwith_list [] x w hx16; rwa [setL_nil] at h)
      obtain ⟨z, hz⟩ : ∃ z, leafB t r x = z := ⟨_, rfl⟩
      have hq := leaf_eq hz
      have BX := Lib.hid (BE.out (x : Int))
      have HKT := Lib.hid (leaf_take hx hz)
      have WI := Lib.hid (fun w => rwith_list ((l.take k).filter (leafB t r)) x w hx16)
      generalize belT t r (x : Int) = bb at hq BX
      generalize setL [x] = ss at hq W1
      have l0 := tre_load (K2.out.on KB.out) HT.out
      have HK := Lib.hid hkn
      clear hx hx16 hz hk
      go_wp2_with fail
      refine (BX.out _).mono ?_
      rintro e w5 ⟨rfl, hb⟩
      have HB5 := Lib.hid (bel_on KB.out hb)
      clear hb l0 KB
      go_wp2_with fail
      refine (W1.out _).mono ?_
      rintro e w4 ⟨rfl, rfl⟩
      cases z with
      | true =>
        go_wp2_with fail
        refine (WI.out _).mono ?_
        rintro e w9 ⟨rfl, rfl⟩
        go_wp2_with fail
        go_roundw
        case rel => exact ⟨k + 1, by go_num, HK.out, by have e := HKT.out; rw [if_pos trivial] at e; rw [e], HB5⟩
        case measure => exact meas_up n k _ rfl HK.out
      | false =>
        go_wp2_with fail
        go_roundw
        case rel => exact ⟨k + 1, by go_num, HK.out, by have e := HKT.out; rw [if_neg (by decide), List.append_nil] at e; rw [e], HB5⟩
        case measure => exact meas_up n k _ rfl HK.out
    · have HE : Hid (h = setL ((l.take k).filter (leafB t r))) := Lib.hid (by rw [HD.out, List.take_of_length_le (by have := HN.out; omega)])
      obtain rfl : k = n := by omega
      clear hk hkn
      go_wp2_with fail
      go_ret
      exact ⟨by rw [HE.out]; rfl, bel_on HB2.out KB.out⟩
end Go.Proofs.Ytjpbglbbeepmnaa
