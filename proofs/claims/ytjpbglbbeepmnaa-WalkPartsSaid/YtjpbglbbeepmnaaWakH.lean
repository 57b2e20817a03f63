/- Contracts of package walk, part H: Children, Below, and the document's own. -/
import Derived.Test.YtjpbglbbeepmnaaWakE
import Derived.Test.YtjpbglbbeepmnaaNodesA
namespace Go.Proofs.Ytjpbglbbeepmnaa
open Go.RowKit Go.Sort TreF WakF
attribute [local go_sem ↓] loadAt_tre storeAt_tre loadAt_ent storeAt_ent

theorem pright_any (n : Int) (w : World) : Calls Try.prog 17 #[.int .i64 n] w fun e w' => e = .returned (.bool (nodeB n)) ∧ w = w' := by
  cases hb : nodeB n with
  | true =>
    obtain ⟨k, rfl, hk⟩ := node_in hb
    exact right_in k w hk
  | false => exact right_out n w (node_out hb)
theorem pwith_list (l : List Nat) (n : Nat) (w : World) (h : n < 16) : Calls Try.prog 19 #[.int .i64 (setL l), .int .i64 (n : Int)] w fun e w' => e = .returned (.int .i64 (setL (l ++ [n]))) ∧ w = w' := by
  have hl := setL_lim l
  have h1 := with_in (setL l) n w h (by omega) (by omega)
  rwa [setL_push _ h] at h1
theorem pwith_set (p : Nat → Bool) (k : Nat) (hk : k < 16) (w : World) : Calls Try.prog 19 #[.int .i64 (setF p k), .int .i64 (k : Int)] w fun e w' => e = .returned (.int .i64 (NodesF.withN (setF p k) k)) ∧ w = w' :=
  with_in _ k w hk (set_i64 _ _ (by omega)).1 (set_i64 _ _ (by omega)).2
theorem rwith_set (p : Nat → Bool) (k : Nat) (hk : k < 16) (w : World) : Calls Try.prog 33 #[.int .i64 (setF p k), .int .i64 (k : Int)] w fun e w' => e = .returned (.int .i64 (NodesF.withN (setF p k) k)) ∧ w = w' :=
  rwith_in _ k w hk (set_i64 _ _ (by omega)).1 (set_i64 _ _ (by omega)).2
theorem kid_val {t : Tr} {n : Int} {k d : Nat} {p : Int} (hk : k < 16) (hx : t[k]? = some (d, p)) {z0 z1 z2 z3 : Bool} (h0 : nodeB n = z0) (h1 : ((k : Int) != n) = z1) (h2 : (p == n) = z2) (h3 : okT t (k : Int) = z3) : kidP t n k = (z0 && (z1 && (z2 && z3))) := by
  have e1 : decide ((k : Int) ≠ n) = z1 := by rw [← h1, Bool.eq_iff_iff]; simp
  have e2 : decide (p = n) = z2 := by rw [← h2, Bool.eq_iff_iff]; simp
  unfold kidP
  rw [up_at hk hx, h0, e1, e2, h3]
theorem ok_dist {t : Tr} {k d : Nat} {p : Int} (hk : k < 16) (hx : t[k]? = some (d, p)) {b : Bool} (h : okT t (k : Int) = b) : ((d : Int) != 4294967295) = b := by
  have := ok_neq h
  rwa [get_ok hk hx] at this
theorem set_up (p : Nat → Bool) (k : Nat) {b : Bool} (h : p k = b) : setF p (k + 1) = if b then NodesF.withN (setF p k) k else setF p k := by rw [set_step, h]

set_option maxRecDepth 100000 in
theorem wchildren_any (t : Tr) (n : Int) (ht : Tre t) : Gives Try.prog 22 #[.agg (treC t).toArray, .int .i64 n] (.int .i64 (chilT t n)) := fun w => by
  have RE := Lib.hid (fun j => reached_any t j ht)
  have RI := Lib.hid (fun w => pright_any n w)
  have HT := Lib.hid ht
  obtain ⟨z0, h0⟩ : ∃ z, nodeB n = z := ⟨_, rfl⟩
  have HZ := Lib.hid h0
  clear h0 ht
  cases z0 with
  | false =>
    have HE := Lib.hid (chi_none (t := t) HZ.out)
    go_enter Try.func22, Try.ntmps22
    go_upto_region 1 with fail
    obtain ⟨B0, BB⟩ := tbox_new w t
    obtain ⟨w1, hw1⟩ : ∃ v, w.alloc (.cells (treC t).toArray 26) = v := ⟨_, rfl⟩
    rw [hw1] at B0 BB ⊢
    clear hw1
    have K := Lib.hid B0
    have HB := Lib.hid BB
    clear B0 BB
    go_wp2_with fail
    refine (RI.out _).mono ?_
    rintro e w2 ⟨rfl, rfl⟩
    rw [HZ.out]
    go_wp2_with fail
    go_ret
    exact ⟨by rw [HE.out]; rfl, HB.out⟩
  | true =>
    go_enter Try.func22, Try.ntmps22
    go_upto_region 1 with fail
    obtain ⟨B0, BB⟩ := tbox_new w t
    obtain ⟨w1, hw1⟩ : ∃ v, w.alloc (.cells (treC t).toArray 26) = v := ⟨_, rfl⟩
    rw [hw1] at B0 BB ⊢
    clear hw1
    have K := Lib.hid B0
    have HB := Lib.hid BB
    clear B0 BB
    go_wp2_with fail
    refine (RI.out _).mono ?_
    rintro e w2 ⟨rfl, rfl⟩
    rw [HZ.out]
    have l0 := tre_load K.out HT.out
    go_wp2_with fail
    clear l0
    go_loopw [13, 5] (fun v s wr => ∃ k : Nat, v = .int .i64 (k : Int) ∧ k ≤ 16 ∧ s = .int .i64 (setF (kidP t n) k) ∧ Hid (Below w1.heap.size w1 wr)) (fun v _ _ => (16 - intOf v).toNat)
    case atStart => exact ⟨0, rfl, Nat.zero_le _, rfl, Lib.hid (Below.refl _ _)⟩
    case round =>
      obtain ⟨k, rfl, hk, rfl, KB⟩ := hrel
      by_cases hkn : k < 16
      · obtain ⟨⟨d, p⟩, hx, _⟩ := HT.out.at hkn
        have hix := ent_index (w := wr) hx hkn
        have hst := new_ent (w := wr) (d := (d : Int)) (p := p) rfl
        have n0 : (0 : Int) ≤ (k : Int) := by omega
        have n1 : (k : Int) < 16 := by omega
        have HK := Lib.hid hkn
        have HX := Lib.hid hx
        clear hk hx hkn
        go_upto_region 7 with fail
        clear hst hix
        have B1 := Blk.new wr [.int .u32 (d : Int), .int .i64 p] 24
        have HB2 := Lib.hid (KB.out.alloc KB.out.size (.cells #[.int .u32 (d : Int), .int .i64 p] 24))
        obtain ⟨w2, hw2⟩ : ∃ v, wr.alloc (.cells #[.int .u32 (d : Int), .int .i64 p] 24) = v := ⟨_, rfl⟩
        rw [hw2] at B1 HB2 ⊢
        obtain ⟨g, hg⟩ : ∃ g, wr.heap.size = g := ⟨_, rfl⟩
        rw [hg] at B1 ⊢
        clear hw2 hg KB
        have c1 := B1.cell 1 rfl
        clear B1
        have WI := Lib.hid (pwith_set (kidP t n) k HK.out)
        obtain ⟨z1, h1⟩ : ∃ z, ((k : Int) != n) = z := ⟨_, rfl⟩
        obtain ⟨z2, h2⟩ : ∃ z, (p == n) = z := ⟨_, rfl⟩
        obtain ⟨z3, h3⟩ : ∃ z, okT t (k : Int) = z := ⟨_, rfl⟩
        have HS := Lib.hid (set_up (kidP t n) k (kid_val HK.out HX.out HZ.out h1 h2 h3))
        have H3 := Lib.hid h3
        have l0 := tre_load (K.out.on HB2.out) HT.out
        clear h3
        cases z1 with
        | false =>
          have HB3 := HB2
          clear l0
          go_wp2_with fail
          go_roundw
          case rel => exact ⟨k + 1, by go_num, HK.out, by first | (rw [HS.out]; done) | (rw [HS.out]; rfl), HB3⟩
          case measure => exact meas_up 16 k _ rfl HK.out
        | true =>
          cases z2 with
          | false =>
            have HB3 := HB2
            clear l0
            go_wp2_with fail
            go_roundw
            case rel => exact ⟨k + 1, by go_num, HK.out, by first | (rw [HS.out]; done) | (rw [HS.out]; rfl), HB3⟩
            case measure => exact meas_up 16 k _ rfl HK.out
          | true =>
            go_wp2_with fail
            refine (RE.out (k : Int) _).mono ?_
            rintro e w3 ⟨rfl, hb⟩
            have HB3 := Lib.hid (bel_on HB2.out hb)
            rw [H3.out]
            clear hb l0 HB2
            cases z3 with
            | true =>
              go_wp2_with fail
              refine (WI.out _).mono ?_
              rintro e w9 ⟨rfl, rfl⟩
              go_wp2_with fail
              go_roundw
              case rel => exact ⟨k + 1, by go_num, HK.out, by first | (rw [HS.out]; done) | (rw [HS.out]; rfl), HB3⟩
              case measure => exact meas_up 16 k _ rfl HK.out
            | false =>
              go_wp2_with fail
              go_roundw
              case rel => exact ⟨k + 1, by go_num, HK.out, by first | (rw [HS.out]; done) | (rw [HS.out]; rfl), HB3⟩
              case measure => exact meas_up 16 k _ rfl HK.out
      · obtain rfl : k = 16 := by omega
        clear hk hkn
        go_wp2_with fail
        go_ret
        exact ⟨rfl, bel_on HB.out KB.out⟩

set_option maxRecDepth 100000 in
theorem rchildren_any (t : Tr) (n : Int) (ht : Tre t) : Gives Try.prog 23 #[.agg (treC t).toArray, .int .i64 n] (.int .i64 (chilT t n)) := fun w => by
  have RI := Lib.hid (fun w => rr_any n w)
  have HT := Lib.hid ht
  obtain ⟨z0, h0⟩ : ∃ z, nodeB n = z := ⟨_, rfl⟩
  have HZ := Lib.hid h0
  clear h0 ht
  go_enter Try.func23, Try.ntmps23
  go_upto_region 1 with fail
  obtain ⟨B0, BB⟩ := tbox_new w t
  obtain ⟨w1, hw1⟩ : ∃ v, w.alloc (.cells (treC t).toArray 26) = v := ⟨_, rfl⟩
  rw [hw1] at B0 BB ⊢
  clear hw1
  have K := Lib.hid B0
  have HB := Lib.hid BB
  clear B0 BB
  have l0 := tre_load K.out HT.out
  go_wp2_with fail
  clear l0
  go_loopw [9, 5] (fun v s wr => ∃ k : Nat, v = .int .i64 (k : Int) ∧ k ≤ 16 ∧ s = .int .i64 (setF (kidP t n) k) ∧ Hid (Below w1.heap.size w1 wr)) (fun v _ _ => (16 - intOf v).toNat)
  case atStart => exact ⟨0, rfl, Nat.zero_le _, rfl, Lib.hid (Below.refl _ _)⟩
  case round =>
    obtain ⟨k, rfl, hk, rfl, KB⟩ := hrel
    by_cases hkn : k < 16
    · obtain ⟨⟨d, p⟩, hx, _⟩ := HT.out.at hkn
      have hix := ent_index (w := wr) hx hkn
      have hst := new_ent (w := wr) (d := (d : Int)) (p := p) rfl
      have n0 : (0 : Int) ≤ (k : Int) := by omega
      have n1 : (k : Int) < 16 := by omega
      have HK := Lib.hid hkn
      have HX := Lib.hid hx
      clear hk hx hkn
      go_upto_region 5 with fail
      clear hst hix
      have B1 := Blk.new wr [.int .u32 (d : Int), .int .i64 p] 24
      have HB2 := Lib.hid (KB.out.alloc KB.out.size (.cells #[.int .u32 (d : Int), .int .i64 p] 24))
      obtain ⟨w2, hw2⟩ : ∃ v, wr.alloc (.cells #[.int .u32 (d : Int), .int .i64 p] 24) = v := ⟨_, rfl⟩
      rw [hw2] at B1 HB2 ⊢
      obtain ⟨g, hg⟩ : ∃ g, wr.heap.size = g := ⟨_, rfl⟩
      rw [hg] at B1 ⊢
      clear hw2 hg KB
      have c1 := B1.cell 1 rfl
      have c0 := B1.cell 0 rfl
      clear B1
      have WI := Lib.hid (rwith_set (kidP t n) k HK.out)
      obtain ⟨z1, h1⟩ : ∃ z, ((k : Int) != n) = z := ⟨_, rfl⟩
      obtain ⟨z2, h2⟩ : ∃ z, (p == n) = z := ⟨_, rfl⟩
      obtain ⟨z3, h3⟩ : ∃ z, okT t (k : Int) = z := ⟨_, rfl⟩
      have HS := Lib.hid (set_up (kidP t n) k (kid_val HK.out HX.out HZ.out h1 h2 h3))
      have H3 := Lib.hid h3
      have hdd := ok_dist HK.out HX.out h3
      clear h3
      have HB3 := HB2
      go_wp2_with fail
      refine (RI.out _).mono ?_
      rintro e w3 ⟨rfl, rfl⟩
      rw [HZ.out]
      cases z0 with
      | false =>
        go_wp2_with fail
        go_roundw
        case rel => exact ⟨k + 1, by go_num, HK.out, by first | (rw [HS.out]; done) | (rw [HS.out]; rfl), HB3⟩
        case measure => exact meas_up 16 k _ rfl HK.out
      | true =>
        cases z2 with
        | false =>
          have HS2 : Hid (setF (kidP t n) (k + 1) = setF (kidP t n) k) := Lib.hid (HS.out.trans (by first | rfl | (cases z1 <;> rfl)))
          clear HS
          have HS := HS2
          go_wp2_with fail
          go_roundw
          case rel => exact ⟨k + 1, by go_num, HK.out, by first | (rw [HS.out]; done) | (rw [HS.out]; rfl), HB3⟩
          case measure => exact meas_up 16 k _ rfl HK.out
        | true =>
          cases z3 with
          | false =>
            have HS2 : Hid (setF (kidP t n) (k + 1) = setF (kidP t n) k) := Lib.hid (HS.out.trans (by first | rfl | (cases z1 <;> rfl)))
            clear HS
            have HS := HS2
            go_wp2_with fail
            go_roundw
            case rel => exact ⟨k + 1, by go_num, HK.out, by first | (rw [HS.out]; done) | (rw [HS.out]; rfl), HB3⟩
            case measure => exact meas_up 16 k _ rfl HK.out
          | true =>
            cases z1 with
            | false =>
              go_wp2_with fail
              go_roundw
              case rel => exact ⟨k + 1, by go_num, HK.out, by first | (rw [HS.out]; done) | (rw [HS.out]; rfl), HB3⟩
              case measure => exact meas_up 16 k _ rfl HK.out
            | true =>
              go_wp2_with fail
              refine (WI.out _).mono ?_
              rintro e w9 ⟨rfl, rfl⟩
              go_wp2_with fail
              go_roundw
              case rel => exact ⟨k + 1, by go_num, HK.out, by first | (rw [HS.out]; done) | (rw [HS.out]; rfl), HB3⟩
              case measure => exact meas_up 16 k _ rfl HK.out
    · obtain rfl : k = 16 := by omega
      clear hk hkn
      go_wp2_with fail
      go_ret
      exact ⟨rfl, bel_on HB.out KB.out⟩

theorem nodup_in {l : List Nat} (h : l.Nodup) {q x : Nat} (hx : l[q]? = some x) : x ∉ l.take q := fun hm => by
  obtain ⟨i, hi⟩ := List.mem_iff_getElem?.1 hm
  have hlt : i < q := by
    have := (List.getElem?_eq_some_iff.1 hi).1
    rw [List.length_take] at this; omega
  rw [List.getElem?_take_of_lt hlt] at hi
  have := nodup_at h hi hx
  omega
theorem inL_more {l : List Nat} {n : Int} {q x : Nat} (hx : l[q]? = some x) (h : inL (l.take q) n = true) : inL (l.take (q + 1)) n = true := by
  rw [List.take_add_one, hx]
  unfold inL at *
  rw [List.any_append, h]
  rfl

set_option maxRecDepth 100000 in
theorem wbelow_any (t : Tr) (r n : Int) (ht : Tre t) : Gives Try.prog 24 #[.agg (treC t).toArray, .int .i64 r, .int .i64 n] (.int .i64 (belT t r n)) := fun w => by
  have BA := Lib.hid (fun j w => wback_any t r j ht w)
  have HT := Lib.hid ht
  clear ht
  go_enter Try.func24, Try.ntmps24
  go_upto_region 1 with fail
  obtain ⟨B0, BB⟩ := tbox_new w t
  obtain ⟨w1, hw1⟩ : ∃ v, w.alloc (.cells (treC t).toArray 26) = v := ⟨_, rfl⟩
  rw [hw1] at B0 BB ⊢
  clear hw1
  have K := Lib.hid B0
  have HB := Lib.hid BB
  clear B0 BB
  go_wp2_with fail
  go_loopw [11, 7] (fun v s wr => ∃ k : Nat, v = .int .i64 (k : Int) ∧ k ≤ 16 ∧ s = .int .i64 (setF (belP t r n) k) ∧ Hid (Below w1.heap.size w1 wr)) (fun v _ _ => (16 - intOf v).toNat)
  case atStart => exact ⟨0, rfl, Nat.zero_le _, rfl, Lib.hid (Below.refl _ _)⟩
  case round =>
    obtain ⟨k, rfl, hk, rfl, KB⟩ := hrel
    by_cases hkn : k < 16
    · have HK := Lib.hid hkn
      have l0 := tre_load (K.out.on KB.out) HT.out
      have WI := Lib.hid (pwith_set (belP t r n) k HK.out)
      have HSH := Lib.hid (back_short t r (k : Int))
      have HND := Lib.hid (back_nodup t r (k : Int))
      obtain ⟨z, hz⟩ : ∃ z, inL (backT t r (k : Int)) n = z := ⟨_, rfl⟩
      have HZ := Lib.hid hz
      have HS := Lib.hid (set_up (belP t r n) k (b := z) hz)
      have BK := Lib.hid (BA.out (k : Int))
      clear hz
      generalize backT t r (k : Int) = l at HSH HZ BK HND
      clear hk
      go_wp2_with fail
      refine (BK.out _).mono ?_
      rintro e w3 hp
      obtain ⟨a, c, rfl, ho, hb⟩ := hp.at (Nat.zero_le _)
      have HB3 := Lib.hid (bel_on KB.out hb)
      have HN := Lib.hid (NatAt.own ho)
      clear hb ho hp l0 KB
      go_wp2_with fail
      refine (ncontains_any a c l n _ HN.out HSH.out).mono ?_
      rintro e w4 ⟨rfl, rfl⟩
      rw [HZ.out]
      cases z with
      | true =>
        go_wp2_with fail
        refine (WI.out _).mono ?_
        rintro e w9 ⟨rfl, rfl⟩
        go_wp2_with fail
        go_roundw
        case rel => exact ⟨k + 1, by go_num, HK.out, by first | (rw [HS.out]; done) | (rw [HS.out]; rfl), HB3⟩
        case measure => exact meas_up 16 k _ rfl HK.out
      | false =>
        go_wp2_with fail
        go_roundw
        case rel => exact ⟨k + 1, by go_num, HK.out, by first | (rw [HS.out]; done) | (rw [HS.out]; rfl), HB3⟩
        case measure => exact meas_up 16 k _ rfl HK.out
    · obtain rfl : k = 16 := by omega
      clear hk hkn
      go_wp2_with fail
      go_ret
      exact ⟨rfl, bel_on HB.out KB.out⟩

set_option maxRecDepth 100000 in
theorem rbelow_any (t : Tr) (r n : Int) (ht : Tre t) : Gives Try.prog 25 #[.agg (treC t).toArray, .int .i64 r, .int .i64 n] (.int .i64 (belT t r n)) := fun w => by
  have BA := Lib.hid (fun j w => rback_any t r j ht w)
  have HT := Lib.hid ht
  clear ht
  go_enter Try.func25, Try.ntmps25
  go_upto_region 1 with fail
  obtain ⟨B0, BB⟩ := tbox_new w t
  obtain ⟨w1, hw1⟩ : ∃ v, w.alloc (.cells (treC t).toArray 26) = v := ⟨_, rfl⟩
  rw [hw1] at B0 BB ⊢
  clear hw1
  have K := Lib.hid B0
  have HB := Lib.hid BB
  clear B0 BB
  go_wp2_with fail
  go_loopw [13, 7] (fun v s wr => ∃ k : Nat, v = .int .i64 (k : Int) ∧ k ≤ 16 ∧ s = .int .i64 (setF (belP t r n) k) ∧ Hid (Below w1.heap.size w1 wr)) (fun v _ _ => (16 - intOf v).toNat)
  case atStart => exact ⟨0, rfl, Nat.zero_le _, rfl, Lib.hid (Below.refl _ _)⟩
  case round =>
    obtain ⟨k, rfl, hk, rfl, KB⟩ := hrel
    by_cases hkn : k < 16
    · have HK := Lib.hid hkn
      have l0 := tre_load (K.out.on KB.out) HT.out
      have WI := Lib.hid (rwith_set (belP t r n) k HK.out)
      have HSH := Lib.hid (back_short t r (k : Int))
      have HND := Lib.hid (back_nodup t r (k : Int))
      obtain ⟨z, hz⟩ : ∃ z, inL (backT t r (k : Int)) n = z := ⟨_, rfl⟩
      have HZ := Lib.hid hz
      have HS := Lib.hid (set_up (belP t r n) k (b := z) hz)
      have BK := Lib.hid (BA.out (k : Int))
      clear hz
      generalize backT t r (k : Int) = l at HSH HZ BK HND
      clear hk
      go_wp2_with fail
      refine (BK.out _).mono ?_
      rintro e w3 hp
      obtain ⟨a, c, rfl, ho, hb⟩ := hp.at (Nat.zero_le _)
      have HB3 := Lib.hid (bel_on KB.out hb)
      have HN := Lib.hid (NatAt.own ho)
      clear hb ho hp l0 KB
      obtain ⟨b, hbe⟩ : ∃ b, (!l.isEmpty) = b := ⟨_, rfl⟩
      have HBE := Lib.hid hbe
      rw [hbe]
      clear hbe
      cases b with
      | false =>
        have HE : Hid (z = false) := Lib.hid (by
          have h1 := HBE.out
          have h2 := HZ.out
          cases l with
          | nil => exact h2.symm
          | cons => simp at h1)
        obtain rfl := HE.out
        go_wp2_with fail
        go_roundw
        case rel => exact ⟨k + 1, by go_num, HK.out, by first | (rw [HS.out]; done) | (rw [HS.out]; rfl), HB3⟩
        case measure => exact meas_up 16 k _ rfl HK.out
      | true =>
        obtain ⟨m, hm⟩ : ∃ m, l.length = m := ⟨_, rfl⟩
        have HM := Lib.hid hm
        have hm16 : m ≤ 16 := by have := HSH.out; omega
        rw [hm]
        clear hm
        obtain ⟨S0, hS0⟩ : ∃ S, setF (belP t r n) k = S := ⟨_, rfl⟩
        rw [hS0] at WI HS ⊢
        obtain ⟨S1, hS1⟩ : ∃ S, NodesF.withN S0 k = S := ⟨_, rfl⟩
        rw [hS1] at WI HS
        clear hS0 hS1
        go_wp2_with fail
        go_loopw [27, 7] (fun v s wi => ∃ q : Nat, v = .int .i64 (q : Int) ∧ q ≤ m ∧ ((Hid (inL (l.take q) n = true) ∧ s = .int .i64 S1) ∨ (Hid (inL (l.take q) n = false) ∧ s = .int .i64 S0)) ∧ w3 = wi) (fun v _ _ => (m - intOf v).toNat)
        case atStart => exact ⟨0, rfl, Nat.zero_le _, .inr ⟨Lib.hid rfl, rfl⟩, rfl⟩
        case round =>
          obtain ⟨q, rfl, hq, hs, rfl⟩ := hrel
          by_cases hqm : q < m
          · obtain ⟨x, hx⟩ : ∃ x, l[q]? = some x := ⟨_, List.getElem?_eq_getElem (by have := HM.out; omega)⟩
            obtain ⟨g, rfl, _, c1⟩ := HN.out.read hx
            have HX := Lib.hid hx
            have HQ := Lib.hid hqm
            clear hx hq hqm
            obtain ⟨y, hy⟩ : ∃ y, ((x : Int) == n) = y := ⟨_, rfl⟩
            cases y with
            | true =>
              have HE : Hid (inL (l.take (q + 1)) n = true) := Lib.hid (inL_here (by rw [List.getElem?_take_of_lt (Nat.lt_succ_self q)]; exact HX.out) hy)
              rcases hs with ⟨h1, rfl⟩ | ⟨h1, rfl⟩
              · exfalso
                have h2 := h1.out
                obtain ⟨u, hu, hm2⟩ := inL_true h2
                obtain rfl : u = x := by simp only [beq_iff_eq] at hy; omega
                have h3 := nodup_in HND.out HX.out
                exact h3 hm2
              · go_wp2_with fail
                refine (WI.out _).mono ?_
                rintro e w9 ⟨rfl, rfl⟩
                go_wp2_with fail
                go_roundw
                case rel => exact ⟨q + 1, by go_num, HQ.out, .inl ⟨HE, rfl⟩, trivial⟩
                case measure => exact meas_up m q _ rfl HQ.out
            | false =>
              rcases hs with ⟨h1, rfl⟩ | ⟨h1, rfl⟩
              · have HE : Hid (inL (l.take (q + 1)) n = true) := Lib.hid (inL_more HX.out h1.out)
                go_wp2_with fail
                go_roundw
                case rel => exact ⟨q + 1, by go_num, HQ.out, .inl ⟨HE, rfl⟩, trivial⟩
                case measure => exact meas_up m q _ rfl HQ.out
              · have HE := Lib.hid (inL_take h1.out HX.out hy)
                go_wp2_with fail
                go_roundw
                case rel => exact ⟨q + 1, by go_num, HQ.out, .inr ⟨HE, rfl⟩, trivial⟩
                case measure => exact meas_up m q _ rfl HQ.out
          · obtain rfl : q = m := by omega
            clear hq hqm
            rcases hs with ⟨h1, rfl⟩ | ⟨h1, rfl⟩
            · have HE : Hid (z = true) := Lib.hid (by have h2 := h1.out; rw [← HM.out, List.take_length, HZ.out] at h2; exact h2)
              obtain rfl := HE.out
              go_wp2_with fail
              go_roundw
              case rel => exact ⟨k + 1, by go_num, HK.out, by first | (rw [HS.out]; done) | (rw [HS.out]; rfl), HB3⟩
              case measure => exact meas_up 16 k _ rfl HK.out
            · have HE : Hid (z = false) := Lib.hid (by have h2 := h1.out; rw [← HM.out, List.take_length, HZ.out] at h2; exact h2)
              obtain rfl := HE.out
              go_wp2_with fail
              go_roundw
              case rel => exact ⟨k + 1, by go_num, HK.out, by first | (rw [HS.out]; done) | (rw [HS.out]; rfl), HB3⟩
              case measure => exact meas_up 16 k _ rfl HK.out
    · obtain rfl : k = 16 := by omega
      clear hk hkn
      go_wp2_with fail
      go_ret
      exact ⟨rfl, bel_on HB.out KB.out⟩
end Go.Proofs.Ytjpbglbbeepmnaa
