/- Contracts of the document's own Back, Path, First, Hops (fingerpostref24). -/
import Derived.Test.YtjpbglbbeepmnaaWakC
import Derived.Test.YtjpbglbbeepmnaaRNodesA
namespace Go.Proofs.Ytjpbglbbeepmnaa
open Go.RowKit Go.Sort TreF WakF
attribute [local go_sem ↓] loadAt_tre storeAt_tre loadAt_ent storeAt_ent

theorem rr_any (n : Int) (w : World) : Calls Try.prog 31 #[.int .i64 n] w fun e w' => e = .returned (.bool (nodeB n)) ∧ w = w' := by
  cases hb : nodeB n with
  | true =>
    obtain ⟨k, rfl, hk⟩ := node_in hb
    exact rright_in k w hk
  | false => exact rright_out n w (node_out hb)
theorem rhas_list (l : List Nat) (n : Nat) (w : World) (h : n < 16) : Calls Try.prog 34 #[.int .i64 (setL l), .int .i64 (n : Int)] w fun e w' => e = .returned (.bool (l.contains n)) ∧ w = w' := by
  have h1 := rhas_in (setL l) n w h
  rwa [setL_has _ h] at h1
theorem rwith_list (l : List Nat) (n : Nat) (w : World) (h : n < 16) : Calls Try.prog 33 #[.int .i64 (setL l), .int .i64 (n : Int)] w fun e w' => e = .returned (.int .i64 (setL (l ++ [n]))) ∧ w = w' := by
  have hl := setL_lim l
  have h1 := rwith_in (setL l) n w h (by omega) (by omega)
  rwa [setL_push _ h] at h1
theorem rget_at (t : Tr) (n : Int) (ht : Tre t) : ∃ d : Int, (d == 4294967295) = (!okT t n) ∧ Gives Try.prog 32 #[.agg (treC t).toArray, .int .i64 n] (.agg #[.int .u32 d, .int .i64 (upT t n)]) :=
  ⟨_, ok_eqq rfl, rget_any t n ht⟩

set_option maxRecDepth 100000 in
theorem rback_any (t : Tr) (r j : Int) (ht : Tre t) (w : World) : Calls Try.prog 7 #[.agg (treC t).toArray, .int .i64 r, .int .i64 j] w (BackP (backT t r j) w) := by
  obtain ⟨i0, hi, hz0, hz1, hz2⟩ := info_parts Try.info3
  have HT := Lib.hid ht
  have RR := Lib.hid rr_any
  cases hrb : nodeB r with
  | false =>
    have HE := Lib.hid (back_none hrb (t := t) j)
    have HRB := Lib.hid hrb
    clear hrb ht
    go_enter Try.func7, Try.ntmps7
    go_upto_region 1 with fail
    obtain ⟨B0, BB⟩ := tbox_new w t
    obtain ⟨w1, hw1⟩ : ∃ v, w.alloc (.cells (treC t).toArray 26) = v := ⟨_, rfl⟩
    rw [hw1] at B0 BB ⊢
    clear hw1
    have K := Lib.hid B0
    have HB := Lib.hid BB
    clear B0 BB
    have l0 := tre_load K.out HT.out
    go_wp2_with fail
    refine (RR.out r _).mono ?_
    rintro e w2 ⟨rfl, rfl⟩
    rw [HRB.out]
    go_wp2_with fail
    go_ret2
    exact ⟨_, by rw [HE.out]; rfl, by rw [HE.out]; exact World.ownsRow_nil _ _ _ _, HB.out⟩
  | true =>
    have HRB := Lib.hid hrb
    clear hrb
    cases hjb : nodeB j with
    | false =>
      have HE : Hid (backT t r j = []) := Lib.hid (back_no (by
        cases hk : okT t j with
        | false => rfl
        | true => rw [ok_node hk] at hjb; cases hjb))
      have HJB := Lib.hid hjb
      clear hjb ht
      go_enter Try.func7, Try.ntmps7
      go_upto_region 1 with fail
      obtain ⟨B0, BB⟩ := tbox_new w t
      obtain ⟨w1, hw1⟩ : ∃ v, w.alloc (.cells (treC t).toArray 26) = v := ⟨_, rfl⟩
      rw [hw1] at B0 BB ⊢
      clear hw1
      have K := Lib.hid B0
      have HB := Lib.hid BB
      clear B0 BB
      have l0 := tre_load K.out HT.out
      go_wp2_with fail
      refine (RR.out r _).mono ?_
      rintro e w2 ⟨rfl, rfl⟩
      rw [HRB.out]
      go_wp2_with fail
      refine (RR.out j _).mono ?_
      rintro e w2 ⟨rfl, rfl⟩
      rw [HJB.out]
      go_wp2_with fail
      go_ret2
      exact ⟨_, by rw [HE.out]; rfl, by rw [HE.out]; exact World.ownsRow_nil _ _ _ _, HB.out⟩
    | true =>
      have HJB := Lib.hid hjb
      clear hjb
      obtain ⟨dj, hdj, gj⟩ := rget_at t j ht
      have GJ := Lib.hid gj
      clear gj
      have hfj := field_dist dj (upT t j)
      cases hok : okT t j with
      | false =>
        have HE := Lib.hid (back_no (r := r) hok)
        rw [hok] at hdj
        have hq : (dj == 4294967295) = true := hdj
        generalize upT t j = pj at GJ hfj
        clear hok hdj ht
        go_enter Try.func7, Try.ntmps7
        go_upto_region 1 with fail
        obtain ⟨B0, BB⟩ := tbox_new w t
        obtain ⟨w1, hw1⟩ : ∃ v, w.alloc (.cells (treC t).toArray 26) = v := ⟨_, rfl⟩
        rw [hw1] at B0 BB ⊢
        clear hw1
        have K := Lib.hid B0
        have HB := Lib.hid BB
        clear B0 BB
        have l0 := tre_load K.out HT.out
        go_wp2_with fail
        refine (RR.out r _).mono ?_
        rintro e w2 ⟨rfl, rfl⟩
        rw [HRB.out]
        go_wp2_with fail
        refine (RR.out j _).mono ?_
        rintro e w2 ⟨rfl, rfl⟩
        rw [HJB.out]
        go_wp2_with fail
        refine (GJ.out _).mono ?_
        rintro e w3 ⟨rfl, hb⟩
        have HB3 := Lib.hid (bel_on HB.out hb)
        clear hb l0
        go_wp2_with fail
        go_ret2
        exact ⟨_, by rw [HE.out]; rfl, by rw [HE.out]; exact World.ownsRow_nil _ _ _ _, HB3.out⟩
      | true =>
        rw [hok] at hdj
        have hq : (dj == 4294967295) = false := hdj
        obtain ⟨m, rfl, hm⟩ := ok_nat hok
        have HOK := Lib.hid hok
        have HM := Lib.hid hm
        have GA := Lib.hid (fun n => rget_at t n ht)
        have GO := Lib.hid (Gone.start t r (m : Int))
        have WL : Hid (∀ w, Calls Try.prog 33 #[.int .i64 0, .int .i64 (m : Int)] w fun e w' => e = .returned (.int .i64 (setL [m])) ∧ w = w') := Lib.hid (fun w => by have h := rwith_list [] m w hm; rwa [setL_nil] at h)
        generalize upT t (m : Int) = pj at GJ hfj
        clear hok hdj ht hm
        go_enter Try.func7, Try.ntmps7
        go_upto_region 1 with fail
        obtain ⟨B0, BB⟩ := tbox_new w t
        obtain ⟨w1, hw1⟩ : ∃ v, w.alloc (.cells (treC t).toArray 26) = v := ⟨_, rfl⟩
        rw [hw1] at B0 BB ⊢
        clear hw1
        have K := Lib.hid B0
        have HB := Lib.hid BB
        clear B0 BB
        have l0 := tre_load K.out HT.out
        go_wp2_with fail
        refine (RR.out r _).mono ?_
        rintro e w2 ⟨rfl, rfl⟩
        rw [HRB.out]
        go_wp2_with fail
        refine (RR.out (m : Int) _).mono ?_
        rintro e w2 ⟨rfl, rfl⟩
        rw [HJB.out]
        go_wp2_with fail
        refine (GJ.out _).mono ?_
        rintro e w3 ⟨rfl, hb⟩
        have K3 := Lib.hid (K.out.on hb)
        have HB3 := Lib.hid (bel_on HB.out hb)
        clear hb l0 K HB
        go_upto_region 4 with fail
        have o4 := World.ownsRow_lit (base := w.heap.size + 1) (size := 1) (e := 3) w3 (natV [m]).toArray 1 (by have := K3.out.lt; omega) (by unfold maxLen; omega) rfl
        have k4 := K3.out.next (.cells (natV [m]).toArray 3)
        have b4 := HB3.out.alloc HB3.out.size (.cells (natV [m]).toArray 3)
        rw [show (natV [m]).toArray = #[.int .i64 (m : Int)] from rfl] at o4 k4 b4
        obtain ⟨w4, hw4⟩ : ∃ v, w3.alloc (.cells #[.int .i64 (m : Int)] 3) = v := ⟨_, rfl⟩
        rw [hw4] at o4 k4 b4 ⊢
        clear hw4
        obtain ⟨v4, hv4⟩ : ∃ v, Value.slice (some ⟨w3.heap.size, 0, none⟩) 1 1 = v := ⟨_, rfl⟩
        rw [hv4] at o4 ⊢
        clear hv4 K3 HB3
        have K4 := Lib.hid k4
        have HB4 := Lib.hid b4
        have O4 : Hid (w4.ownsRow (w.heap.size + 1) 3 1 v4 ([] ++ [m]).length (natV ([] ++ [m]))) := Lib.hid o4
        clear k4 b4 o4
        go_wp2_with fail
        refine (WL.out _).mono ?_
        rintro e w5 ⟨rfl, rfl⟩
        go_wp2_with fail
        go_loopw [8, 9, 10] (fun v s u wr => ∃ (acc : List Nat) (n : Nat), u = .int .i64 (n : Int) ∧ s = .int .i64 (setL (acc ++ [n])) ∧ n < 16 ∧ n ∉ acc ∧ Hid (okT t (n : Int) = true) ∧ Hid (Gone t r (m : Int) acc (n : Int)) ∧ Hid (Blk wr w.heap.size (treC t)) ∧ Hid (wr.ownsRow (w.heap.size + 1) 3 1 v (acc ++ [n]).length (natV (acc ++ [n]))) ∧ Hid (Below w.heap.size w wr)) (fun v _ _ _ => 17 - sLen v)
        case atStart => exact ⟨[], m, rfl, rfl, HM.out, by simp, HOK, GO, K4, O4, HB4⟩
        case round =>
          obtain ⟨acc, n, rfl, rfl, hn, hna, HOn, HG, HK, HO, HBL⟩ := hrel
          have HNA := Lib.hid hna
          clear hna
          obtain ⟨z, hz⟩ : ∃ z, ((n : Int) != r) = z := ⟨_, rfl⟩
          cases z with
          | false =>
            have HE := Lib.hid (HG.out.done HOn.out (by simpa using hz))
            go_wp2_with fail
            go_ret2
            refine ⟨u8, by rw [HE.out]; simp, ?_, HBL.out⟩
            rw [HE.out]
            exact row_lower HO.out (Nat.le_succ _)
          | true =>
            have hnr : (n : Int) ≠ r := by simpa using hz
            have hl := tre_load HK.out HT.out
            have HP := Lib.hid (HG.out.push HOn.out HNA.out hnr)
            have HMO := Lib.hid (HG.out.more HOn.out HNA.out)
            obtain ⟨dn, _, gn⟩ := GA.out (n : Int)
            obtain ⟨p, hp⟩ : ∃ p, upT t (n : Int) = p := ⟨_, rfl⟩
            rw [hp] at gn HP
            have GN := Lib.hid gn
            have hfn := field_pred dn p
            have HGD := HG
            generalize hacc : acc ++ [n] = acc2 at HO HP
            have HL2 : Hid (acc2.length = acc.length + 1) := Lib.hid (by rw [← hacc, List.length_append]; rfl)
            clear hnr gn hp hn hacc HG HNA HOn
            go_wp2_with fail
            refine (GN.out _).mono ?_
            rintro e w6 ⟨rfl, hb⟩
            have HK6 := Lib.hid (HK.out.on hb)
            have HO6 := Lib.hid (row_below HO.out hb)
            have HB6 := Lib.hid (bel_on HBL.out hb)
            clear hb hl HK HBL
            go_wp2_with fail
            refine (RR.out p _).mono ?_
            rintro e w7 ⟨rfl, rfl⟩
            cases hpb : nodeB p with
            | false =>
              have HE := Lib.hid (HP.out.far (by
                cases hk : okT t p with
                | false => rfl
                | true => rw [ok_node hk] at hpb; cases hpb))
              clear hpb
              go_wp2_with fail
              go_ret2
              exact ⟨_, by rw [HE.out]; rfl, by rw [HE.out]; exact World.ownsRow_nil _ _ _ _, HB6.out⟩
            | true =>
              obtain ⟨q, rfl, hq16⟩ := node_in hpb
              clear hpb
              go_wp2_with fail
              refine (rhas_list acc2 q _ hq16).mono ?_
              rintro e w8 ⟨rfl, rfl⟩
              cases hc : acc2.contains q with
              | true =>
                have HE := Lib.hid (HP.out.again (by simpa using hc))
                clear hc
                go_wp2_with fail
                go_ret2
                exact ⟨_, by rw [HE.out]; rfl, by rw [HE.out]; exact World.ownsRow_nil _ _ _ _, HB6.out⟩
              | false =>
                have HNM : Hid (q ∉ acc2) := Lib.hid (fun hmem => by simp [hmem] at hc)
                obtain ⟨dq, hdq, gq⟩ := GA.out (q : Int)
                have GQ := Lib.hid gq
                have hfq := field_dist dq (upT t (q : Int))
                have hl := tre_load HK6.out HT.out
                cases hoq : okT t (q : Int) with
                | false =>
                  have HE := Lib.hid (HP.out.far hoq)
                  rw [hoq] at hdq
                  have hqq : (dq == 4294967295) = true := hdq
                  generalize upT t (q : Int) = pq at GQ hfq
                  clear hoq hdq gq hc
                  go_wp2_with fail
                  refine (GQ.out _).mono ?_
                  rintro e w9 ⟨rfl, hb⟩
                  have HB9 := Lib.hid (bel_on HB6.out hb)
                  clear hb hl
                  go_wp2_with fail
                  go_ret2
                  exact ⟨_, by rw [HE.out]; rfl, by rw [HE.out]; exact World.ownsRow_nil _ _ _ _, HB9.out⟩
                | true =>
                  have HOQ := Lib.hid hoq
                  rw [hoq] at hdq
                  have hqq : (dq == 4294967295) = false := hdq
                  generalize upT t (q : Int) = pq at GQ hfq
                  clear hoq hdq gq hc
                  go_wp2_with fail
                  refine (GQ.out _).mono ?_
                  rintro e w9 ⟨rfl, hb⟩
                  have HK9 := Lib.hid (HK6.out.on hb)
                  have HO9 := Lib.hid (row_below HO6.out hb)
                  have HB9 := Lib.hid (bel_on HB6.out hb)
                  have hw9 := HB9.out.size
                  have hg9 := HK9.out.lt
                  have hl16 : acc2.length ≤ 16 := by have := HMO.out; have := HL2.out; omega
                  clear hb hl HK6 HO6 HB6
                  go_upto_region 11 with (at_builtin; refine wpList_append_own _ rfl (.tmp 54) (.tmp 56) 27 rfl (w.heap.size + 1) 3 i0 (.int .i64 0) 1 8 Try.underlying27 hi hz0 hz1 hz2 rfl (by decide) _ _ _ rfl (HO9.out.alloc _) ⟨w9.heap.size, 0, none⟩ 1 1 [_] rfl rfl (cell_one_new _ _ _) (by simp [Value.oneCell']) (by unfold maxLen; omega) (by omega) (by simp; omega) ?_; intro v1 wa hown1 hg1 _; go_must (have KA := Lib.hid ((HK9.out.next _).grown hg1 (fun k hk => by have := (HO9.out.lt k hk).1; omega)); have BA := Lib.hid ((HB9.out.alloc hw9 _).grown hg1 (by simp; omega) (fun k hk => by have := (HO9.out.lt k hk).1; omega))))
                  have OA : Hid (wa.ownsRow (w.heap.size + 1) 3 1 v1 (acc2 ++ [q]).length (natV (acc2 ++ [q]))) := Lib.hid (by rw [natV_snoc, List.length_append]; exact hown1)
                  clear hown1 hg1 HK9 HO9 HB9
                  go_wp2_with fail
                  refine (rwith_list acc2 q _ hq16).mono ?_
                  rintro e w8 ⟨rfl, rfl⟩
                  go_wp2_with fail
                  go_roundw
                  case rel => exact ⟨acc2, q, rfl, rfl, hq16, HNM.out, HOQ, HP, KA, OA, BA⟩
                  case measure =>
                    have h1 := own_len OA.out
                    have h2 := own_len HO.out
                    have h3 : (acc2 ++ [q]).length = acc2.length + 1 := by rw [List.length_append]; rfl
                    have h4 := HMO.out
                    have h5 := HL2.out
                    first | (show 17 - sLen v1 < 17 - sLen _; omega) | omega

theorem rhops_any (t : Tr) (r j : Int) (ht : Tre t) : Gives Try.prog 14 #[.agg (treC t).toArray, .int .i64 r, .int .i64 j] (.int .i64 (hopsT t r j)) := fun w => by
  have BA := Lib.hid (fun w => rback_any t r j ht w)
  have HS := Lib.hid (back_short t r j)
  have HD : Hid (hopsT t r j = ((backT t r j).length : Int) - 1) := Lib.hid rfl
  obtain ⟨h, hh⟩ : ∃ h, hopsT t r j = h := ⟨_, rfl⟩
  rw [hh] at HD ⊢
  generalize backT t r j = l at BA HS HD
  clear hh
  have HT := Lib.hid ht
  clear ht
  obtain ⟨b, hbe⟩ : ∃ b, (!l.isEmpty) = b := ⟨_, rfl⟩
  have HBE := Lib.hid hbe
  clear hbe
  go_enter Try.func14, Try.ntmps14
  go_upto_region 1 with fail
  obtain ⟨B0, BB⟩ := tbox_new w t
  obtain ⟨w1, hw1⟩ : ∃ v, w.alloc (.cells (treC t).toArray 26) = v := ⟨_, rfl⟩
  rw [hw1] at B0 BB ⊢
  clear hw1
  have K := Lib.hid B0
  have HB := Lib.hid BB
  clear B0 BB
  have l0 := tre_load K.out HT.out
  go_wp2_with fail
  refine (BA.out _).mono ?_
  rintro e w2 hp
  obtain ⟨a, c, rfl, ho, hb⟩ := hp.at (Nat.le_refl _)
  have HB2 := Lib.hid (bel_on HB.out hb)
  obtain ⟨n, hn⟩ : ∃ n, l.length = n := ⟨_, rfl⟩
  have hnl : n ≤ 16 := by have := HS.out; omega
  have hwr : IntKind.i64.wrap ((n : Int) - 1) = h := by rw [IntKind.wrap_i64, HD.out]; omega
  rw [hn, HBE.out]
  have HN := Lib.hid hn
  clear l0 hb hp ho hn K HB
  cases b with
  | true =>
    go_wp2_with fail
    go_ret
    exact ⟨rfl, HB2.out⟩
  | false =>
    have HE : Hid (h = -1) := Lib.hid (by
      have h1 := HBE.out
      cases l with
      | nil => rw [HD.out]; rfl
      | cons => simp at h1)
    go_wp2_with fail
    go_ret
    exact ⟨by rw [HE.out]; rfl, HB2.out⟩

/-- The last ones, turned round. -/
def revTo (l : List Nat) (k : Nat) : List Nat := (l.drop k).reverse
theorem revTo_step {l : List Nat} {k x : Nat} (hx : l[k]? = some x) : revTo l k = revTo l (k + 1) ++ [x] := by
  unfold revTo
  rw [List.drop_eq_getElem?_toList_append, hx]
  simp
theorem revTo_all (l : List Nat) : revTo l l.length = [] := by simp [revTo]
theorem revTo_len (l : List Nat) (k : Nat) : (revTo l k).length = l.length - k := by simp [revTo]

set_option maxRecDepth 100000 in
theorem rpath_any (t : Tr) (r j : Int) (ht : Tre t) (w : World) : Calls Try.prog 9 #[.agg (treC t).toArray, .int .i64 r, .int .i64 j] w (BackP (pathT t r j) w) := by
  obtain ⟨i0, hi, hz0, hz1, hz2⟩ := info_parts Try.info3
  have BA := Lib.hid (fun w => rback_any t r j ht w)
  have HS := Lib.hid (back_short t r j)
  have HE := Lib.hid (path_empty t r j)
  have HP : Hid (pathT t r j = (backT t r j).reverse) := Lib.hid rfl
  generalize pathT t r j = p at HE HP ⊢
  generalize backT t r j = l at BA HS HE HP
  have HT := Lib.hid ht
  clear ht
  go_enter Try.func9, Try.ntmps9
  go_upto_region 1 with fail
  obtain ⟨B0, BB⟩ := tbox_new w t
  obtain ⟨w1, hw1⟩ : ∃ v, w.alloc (.cells (treC t).toArray 26) = v := ⟨_, rfl⟩
  rw [hw1] at B0 BB ⊢
  clear hw1
  have K := Lib.hid B0
  have HB := Lib.hid BB
  clear B0 BB
  have l0 := tre_load K.out HT.out
  go_wp2_with fail
  refine (BA.out _).mono ?_
  rintro e w2 hp
  obtain ⟨a, c, rfl, ho, hb⟩ := hp.at (Nat.le_refl _)
  have HB2 := Lib.hid (bel_on HB.out hb)
  have HN2 := Lib.hid (NatAt.own ho)
  obtain ⟨b, hbe⟩ : ∃ b, (!l.isEmpty) = b := ⟨_, rfl⟩
  have HBE := Lib.hid hbe
  obtain ⟨n, hn⟩ : ∃ n, l.length = n := ⟨_, rfl⟩
  have HLN := Lib.hid hn
  have hn16 : n ≤ 16 := by have := HS.out; omega
  have hwr : IntKind.i64.wrap ((n : Int) - 1) = (n : Int) - 1 := by rw [IntKind.wrap_i64]; omega
  rw [hbe, hn]
  clear l0 hb ho hbe K HB hp hn
  have hs2 := HB2.out.size
  go_wp2_with fail
  go_loopw [10, 11] (fun v u wr => ∃ (k : Nat) (q : Int), k ≤ n ∧ u = .int .i64 q ∧ q + 1 = k ∧ Hid (wr.ownsRow w2.heap.size 3 1 v (revTo l k).length (natV (revTo l k))) ∧ Hid (Below w2.heap.size w2 wr)) (fun _ u _ => (intOf u + 1).toNat)
  case atStart => exact ⟨n, (n : Int) - 1, Nat.le_refl _, by go_num, by omega, Lib.hid (by have := revTo_all l; rw [HLN.out] at this; rw [this]; exact World.ownsRow_nil _ _ _ _), Lib.hid (Below.refl _ _)⟩
  case round =>
    obtain ⟨k, q, hk, rfl, hq, HO, HW⟩ := hrel
    by_cases hk0 : 0 < k
    · obtain ⟨i, rfl⟩ : ∃ i, k = i + 1 := ⟨k - 1, by omega⟩
      obtain rfl : q = (i : Int) := by omega
      obtain ⟨x, hx⟩ : ∃ x, l[i]? = some x := ⟨_, List.getElem?_eq_getElem (by have := HLN.out; omega)⟩
      obtain ⟨g, rfl, _, c1⟩ := (HN2.out.on HW.out).read hx
      have HX := Lib.hid (revTo_step hx)
      have HRL : Hid ((revTo l (i + 1)).length = n - (i + 1)) := Lib.hid (by rw [revTo_len, HLN.out])
      have i0' : (0 : Int) ≤ (i : Int) := by omega
      have i1 : (i : Int) < (n : Int) := by omega
      have hw9 := HW.out.size
      have hwi : IntKind.i64.wrap ((i : Int) - 1) = (i : Int) - 1 := by rw [IntKind.wrap_i64]; omega
      have hrl : (revTo l (i + 1)).length ≤ 16 := by have := HRL.out; omega
      have HK := Lib.hid hk
      clear hx hk hk0 hq
      go_wp2_with (at_builtin; refine wpList_append_own _ rfl (.tmp 26) (.tmp 31) 27 rfl w2.heap.size 3 i0 (.int .i64 0) 1 8 Try.underlying27 hi hz0 hz1 hz2 rfl (by decide) _ _ _ rfl (HO.out.alloc _) ⟨wr.heap.size, 0, none⟩ 1 1 [_] rfl rfl (cell_one_new _ _ _) (by simp [Value.oneCell']) (by unfold maxLen; omega) (by omega) (by simp; omega) ?_; intro v1 wa hown1 hg1 _; go_must (have BA2 := Lib.hid ((HW.out.alloc hw9 _).grown hg1 (by simp; omega) (fun k hk => by have := (HO.out.lt k hk).1; omega))))
      go_roundw
      case rel => exact ⟨i, (i : Int) - 1, by have := HK.out; omega, by go_num, by omega, Lib.hid (by rw [HX.out, natV_snoc, List.length_append]; exact hown1), BA2⟩
      case measure => simp [intOf]
    · obtain rfl : k = 0 := by omega
      obtain rfl : q = -1 := by omega
      clear hk hk0 hq
      go_wp2_with fail
      go_ret2
      refine ⟨_, by rw [HE.out, HBE.out]; rfl, ?_, bel_on HB2.out HW.out⟩
      have e : p = revTo l 0 := by rw [HP.out]; rfl
      rw [e]
      exact row_lower HO.out hs2

theorem rfirst_any (t : Tr) (r j : Int) (ht : Tre t) : Gives Try.prog 12 #[.agg (treC t).toArray, .int .i64 r, .int .i64 j] (.int .i64 (firstT t r j)) := fun w => by
  have PA := Lib.hid (fun w => rpath_any t r j ht w)
  have HS := Lib.hid (path_short t r j)
  have HD : Hid (firstT t r j = secL (pathT t r j)) := Lib.hid rfl
  generalize firstT t r j = h at HD ⊢
  generalize pathT t r j = l at PA HS HD
  have HT := Lib.hid ht
  clear ht
  obtain ⟨b, hbe⟩ : ∃ b, (!l.isEmpty) = b := ⟨_, rfl⟩
  have HBE := Lib.hid hbe
  clear hbe
  go_enter Try.func12, Try.ntmps12
  go_upto_region 1 with fail
  obtain ⟨B0, BB⟩ := tbox_new w t
  obtain ⟨w1, hw1⟩ : ∃ v, w.alloc (.cells (treC t).toArray 26) = v := ⟨_, rfl⟩
  rw [hw1] at B0 BB ⊢
  clear hw1
  have K := Lib.hid B0
  have HB := Lib.hid BB
  clear B0 BB
  have l0 := tre_load K.out HT.out
  go_wp2_with fail
  refine (PA.out _).mono ?_
  rintro e w2 hp
  obtain ⟨a, c, rfl, ho, hb⟩ := hp.at (Nat.le_refl _)
  have HB2 := Lib.hid (bel_on HB.out hb)
  have HN := Lib.hid (NatAt.own ho)
  obtain ⟨n, hn⟩ : ∃ n, l.length = n := ⟨_, rfl⟩
  have HL := Lib.hid hn
  rw [hn, HBE.out]
  clear l0 hb hp ho hn K HB
  cases b with
  | false =>
    have HE : Hid (h = -1) := Lib.hid (by
      have h1 := HBE.out
      cases l with
      | nil => rw [HD.out]; rfl
      | cons => simp at h1)
    go_wp2_with fail
    go_ret
    exact ⟨by rw [HE.out]; rfl, HB2.out⟩
  | true =>
    by_cases h1 : n ≤ 1
    · have HE : Hid (h = -1) := Lib.hid (by rw [HD.out, sec_short (by rw [HL.out]; exact h1)])
      have hd : decide ((n : Int) < 2) = true := decide_eq_true (by omega)
      go_wp2_with fail
      go_ret
      exact ⟨by rw [HE.out]; rfl, HB2.out⟩
    · obtain ⟨x, hx⟩ : ∃ x, l[1]? = some x := ⟨_, List.getElem?_eq_getElem (by have := HL.out; omega)⟩
      obtain ⟨g, rfl, _, c1⟩ := HN.out.read hx
      have HE : Hid (h = (x : Int)) := Lib.hid (by rw [HD.out, sec_at hx])
      have hd : decide ((n : Int) < 2) = false := decide_eq_false (by omega)
      have hd2 : (1 : Int) < (n : Int) := by omega
      clear hx
      go_wp2_with fail
      go_ret
      exact ⟨by rw [HE.out]; rfl, HB2.out⟩
end Go.Proofs.Ytjpbglbbeepmnaa
