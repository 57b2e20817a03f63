/- Contracts of package resend, part C: a store into an element of a row of one's own; Tick. -/
import Derived.Test.YtmgmgffgbkenkaaDoorResB
import Derived.Laws.OwnMore
namespace Go.Proofs.YtmgmgffgbkenkaaDoor
open Go.RowKit Go.Sort

theorem Shp.row_set {α : Type} (S : Shp α) {L : List α} {i k : Nat} {x x' : α} {u : Value} (h : L[i]? = some x) (hc : S.cells x' = (S.cells x).set k u) (hk : k < S.K) : S.row (L.set i x') = (S.row L).set (i * S.K + k) u := by
  induction L generalizing i with
  | nil => simp at h
  | cons y L ih =>
    cases i with
    | zero =>
      simp at h
      subst h
      rw [List.set_cons_zero, Shp.row_cons, Shp.row_cons, hc, Nat.zero_mul, Nat.zero_add, List.set_append_left _ _ (by rw [S.len]; exact hk)]
    | succ i =>
      rw [List.set_cons_succ, Shp.row_cons, Shp.row_cons, ih (by simpa using h), List.set_append_right _ _ (by rw [S.len, Nat.succ_mul]; omega), S.len, show (i + 1) * S.K + k - S.K = i * S.K + k by rw [Nat.succ_mul]; omega]
/-- A store into an element of a row of the call's own. -/
theorem Shp.Own.put {α : Type} {S : Shp α} {w : World} {B g n c i k : Nat} {L : List α} {x x' : α} {u : Value} (h : S.Own w B (.slice (some ⟨g, 0, none⟩) n c) L) (hn : L.length = n) (hx : L[i]? = some x) (hc : S.cells x' = (S.cells x).set k u) (hk : k < S.K) : S.Own (w.setCell ⟨g, i * S.K + k, none⟩ u) B (.slice (some ⟨g, 0, none⟩) n c) (L.set i x') := by
  subst hn
  unfold Shp.Own at h ⊢
  rw [S.row_set hx hc hk, List.length_set]
  exact (World.ownsRow.stored h (i * S.K + k) u).1
theorem Shp.Own.thaw {α : Type} {S : Shp α} {w : World} {B g n c : Nat} {L : List α} (h : S.Own w B (.slice (some ⟨g, 0, none⟩) n c) L) (hn : L.length = n) (j : Nat) : w.frozen? ⟨g, j, none⟩ = false := by
  subst hn
  exact World.ownsRow.frozenAt h j
theorem rblk_grown {w w' : World} {b : Nat} {cs : List Value} {row : Option Nat} (h : Blk w b cs) (hg : w.grownBy w' row) (hr : ∀ k, row = some k → b ≠ k) : Blk w' b cs := by
  have hl := h.lt
  obtain ⟨t, h⟩ := h
  exact ⟨t, (hg.block b hl (fun e => hr b e.symm rfl)).trans h⟩
theorem tk_yes {L : List Snt} {i : Nat} {x : Snt} (r t : Int) (h : L[i]? = some x) (h1 : 1 < x.l) {y : Int} (hy : wrap64 (x.l - 1) = y) :
    tickL r t (L.take (i + 1)) ++ L.drop (i + 1) = (tickL r t (L.take i) ++ L.drop i).set i ⟨x.s, x.y, x.t, y⟩ ∧ againL t (L.take (i + 1)) = againL t (L.take i) ∧ deadL t (L.take (i + 1)) = deadL t (L.take i) := by
  have hi := (List.getElem?_eq_some_iff.1 h).1
  have e1 : tick1 r t x = ⟨x.s, x.y, x.t, y⟩ := by unfold tick1; rw [if_pos h1, hy]
  have e2 : again1 t x = [] := if_pos h1
  have e3 : dead1 t x = false := if_pos h1
  rw [set_snoc h (by rw [tickL_length, List.length_take]; omega), take_snoc h, tickL_snoc, againL_snoc, deadL_snoc, e1, e2, e3, List.append_nil, Bool.or_false]
  exact ⟨rfl, rfl, rfl⟩
theorem tk_dead {L : List Snt} {i : Nat} {x : Snt} (r t : Int) (h : L[i]? = some x) (h1 : ¬ 1 < x.l) (h2 : t ≤ x.t) :
    tickL r t (L.take (i + 1)) ++ L.drop (i + 1) = tickL r t (L.take i) ++ L.drop i ∧ againL t (L.take (i + 1)) = againL t (L.take i) ∧ deadL t (L.take (i + 1)) = true := by
  have hi := (List.getElem?_eq_some_iff.1 h).1
  have e1 : tick1 r t x = x := by unfold tick1; rw [if_neg h1, if_pos h2]
  have e2 : again1 t x = [] := by unfold again1; rw [if_neg h1, if_pos h2]
  have e3 : dead1 t x = true := by unfold dead1; rw [if_neg h1]; exact decide_eq_true h2
  have e : L.drop i = x :: L.drop (i + 1) := by rw [List.drop_eq_getElem_cons hi, (List.getElem?_eq_some_iff.1 h).2]
  rw [take_snoc h, tickL_snoc, againL_snoc, deadL_snoc, e1, e2, e3, List.append_nil, Bool.or_true, e, List.append_assoc]
  exact ⟨rfl, rfl, rfl⟩
theorem tk_again {L : List Snt} {i : Nat} {x : Snt} (r t : Int) (h : L[i]? = some x) (h1 : ¬ 1 < x.l) (h2 : ¬ t ≤ x.t) {y : Int} (hy : wrap64 (x.t + 1) = y) :
    tickL r t (L.take (i + 1)) ++ L.drop (i + 1) = ((tickL r t (L.take i) ++ L.drop i).set i ⟨x.s, x.y, y, x.l⟩).set i ⟨x.s, x.y, y, r⟩ ∧ againL t (L.take (i + 1)) = againL t (L.take i) ++ [x.y] ∧ deadL t (L.take (i + 1)) = deadL t (L.take i) := by
  have hi := (List.getElem?_eq_some_iff.1 h).1
  have e1 : tick1 r t x = ⟨x.s, x.y, y, r⟩ := by unfold tick1; rw [if_neg h1, if_neg h2, hy]
  have e2 : again1 t x = [x.y] := by unfold again1; rw [if_neg h1, if_neg h2]
  have e3 : dead1 t x = false := by unfold dead1; rw [if_neg h1]; exact decide_eq_false h2
  rw [List.set_set, set_snoc h (by rw [tickL_length, List.length_take]; omega), take_snoc h, tickL_snoc, againL_snoc, deadL_snoc, e1, e2, e3, Bool.or_false]
  exact ⟨rfl, rfl, rfl⟩

theorem sn_own {w : World} {B g n c : Nat} {L : List Snt} (h : snS.Own w B (.slice (some ⟨g, 0, none⟩) n c) L) (i j : Nat) {x : Snt} (hx : L[i]? = some x) {v : Value} (hv : x.cells[j]? = some v) : w.cell? ⟨g, i * 4 + j, none⟩ = some v := by
  obtain ⟨a, c', e, hat, _⟩ := h.shape
  simp only [Value.slice.injEq] at e
  obtain ⟨rfl, _, rfl⟩ := e
  exact sn_lit hat i j hx hv

/-- What Tick answers: two rows of its own, and whether it is dead. -/
def GotTick (L : List Snt) (M : List ByteArray) (d : Bool) (w : World) (e : Ending) (w' : World) : Prop := ∃ u v, e = .returned (.tuple #[u, v, .bool d]) ∧ snS.Own w' w.heap.size u L ∧ txS.Own w' w.heap.size v M ∧ Below w.heap.size w w'

set_option maxHeartbeats 2000000 in
theorem tick_any (p d r t : Int) (a : Option Addr) (m c : Nat) (L : List Snt) (w : World) (hL : snS.At w a m c L) (hm : m ≤ 1000000) :
    Calls Tryd.prog 6 #[.slice a m c, (.agg #[.int .i64 p, .int .i64 d, .int .i64 r, .int .i64 t] : Value)] w (GotTick (tickL r t L) (againL t L) (deadL t L) w) := by
  have HB : Hid (Below w.heap.size w (w.alloc (.cells #[.int .i64 p, .int .i64 d, .int .i64 r, .int .i64 t] 24))) := Lib.hid ((Below.refl _ _).alloc (Nat.le_refl _) _)
  have HK : Hid (Blk (w.alloc (.cells #[.int .i64 p, .int .i64 d, .int .i64 r, .int .i64 t] 24)) w.heap.size [.int .i64 p, .int .i64 d, .int .i64 r, .int .i64 t]) := Lib.hid (Blk.new w [.int .i64 p, .int .i64 d, .int .i64 r, .int .i64 t] 24)
  have CL := Lib.hid (sclone_any a m c L _ (hL.on HB.out) hm)
  have HLEN : Hid (L.length = m) := Lib.hid hL.1
  have HM := Lib.hid hm
  clear hL hm
  go_enter Tryd.func6, Tryd.ntmps6
  go_wp2_with fail
  refine (CL.out).mono ?_
  rintro e w1 ⟨v, rfl, ho, hb⟩
  obtain ⟨a1, c1, rfl, hat, _⟩ := ho.shape
  rw [HLEN.out]
  rw [HLEN.out] at ho
  have HO : Hid (snS.Own w1 (w.heap.size + 1) (.slice a1 m c1) L) := Lib.hid (by simpa only [World.size_alloc] using ho)
  have HB1 := Lib.hid (bel_on HB.out hb)
  have HK1 := Lib.hid (HK.out.on hb)
  clear ho hb hat CL HK
  go_upto_region 5 with fail
  go_loopw [7, 8, 15] (fun u2 d2 j wr => ∃ (i : Nat) (z : Value) (dd : Bool), i ≤ m ∧ z = u2 ∧ d2 = .bool dd ∧ j = .int .i64 (i : Int) ∧ snS.Own wr (w.heap.size + 1) (.slice a1 m c1) (tickL r t (L.take i) ++ L.drop i) ∧ txS.Own wr w.heap.size z (againL t (L.take i)) ∧ Hid (deadL t (L.take i) = dd) ∧ Apart z (.slice a1 m c1) ∧ (∀ k, z.ownBlock = some k → w.heap.size < k) ∧ Blk wr w.heap.size [.int .i64 p, .int .i64 d, .int .i64 r, .int .i64 t] ∧ Below w.heap.size w wr) (fun _ _ j _ => (m - intOf j).toNat)
  case atStart => exact ⟨0, _, _, Nat.zero_le _, rfl, rfl, rfl, HO.out, Shp.Own.none_ _ _, Lib.hid rfl, fun k hk => (by cases hk), fun k hk => (by cases hk), HK1.out, HB1.out⟩
  case round =>
    obtain ⟨i, z, dd, hi, rfl, rfl, rfl, hO, hZ, HD, hA, hN, hK, hH⟩ := hrel
    have HZ := Lib.hid hZ
    have HA := Lib.hid hA
    have HN := Lib.hid hN
    have HKR := Lib.hid hK
    have HH := Lib.hid hH
    clear hZ hA hN hK hH HO HB1 HK1
    by_cases him : i < m
    · obtain ⟨x, hx⟩ : ∃ x, L[i]? = some x := ⟨_, List.getElem?_eq_getElem (by have := HLEN.out; omega)⟩
      obtain ⟨R, hR⟩ : ∃ R, tickL r t (L.take i) ++ L.drop i = R := ⟨_, rfl⟩
      have hRl : R.length = m := by rw [← hR, List.length_append, tickL_length, List.length_take, List.length_drop]; have := HLEN.out; omega
      have hRx : R[i]? = some x := by rw [← hR]; exact at_snoc hx (by rw [tickL_length, List.length_take]; have := HLEN.out; omega)
      rw [hR] at hO
      obtain ⟨g, cR, hv, hat, hg1, hg2⟩ := hO.lit (by omega)
      simp only [Value.slice.injEq] at hv
      obtain ⟨rfl, hml, rfl⟩ := hv
      clear hml
      have HO := Lib.hid hO
      have HRL := Lib.hid hRl
      have HRX := Lib.hid hRx
      have HG := Lib.hid (And.intro hg1 hg2)
      have hq : (⟨g, 0, none⟩ : Addr).add (i * 4) = ⟨g, i * 4, none⟩ := Rec.add_lit _ _
      have f0 : wr.cell? ⟨g, i * 4, none⟩ = some (.int .i64 x.s) := sn_lit hat i 0 hRx rfl
      have f1 : wr.cell? ⟨g, i * 4 + 1, none⟩ = some (.string x.y) := sn_lit hat i 1 hRx rfl
      have f2 : wr.cell? ⟨g, i * 4 + 2, none⟩ = some (.int .i64 x.t) := sn_lit hat i 2 hRx rfl
      have f3 : wr.cell? ⟨g, i * 4 + 3, none⟩ = some (.int .i64 x.l) := sn_lit hat i 3 hRx rfl
      have him' : (i : Int) < (m : Int) := by omega
      have hi0 : (0 : Int) ≤ (i : Int) := by omega
      have HI : Hid (i < m) := Lib.hid him
      have e1 : wrap64 ((i : Int) + 1) = (i : Int) + 1 := IntWalk.wrap64_in _ (by have := HM.out; omega)
      obtain ⟨yl, hyl⟩ : ∃ y, wrap64 (x.l - 1) = y := ⟨_, rfl⟩
      obtain ⟨yt, hyt⟩ : ∃ y, wrap64 (x.t + 1) = y := ⟨_, rfl⟩
      have TY := Lib.hid (fun h1 => tk_yes r t hx h1 hyl)
      have TD := Lib.hid (fun h1 h2 => tk_dead r t hx h1 h2)
      have TA := Lib.hid (fun h1 h2 => tk_again r t hx h1 h2 hyt)
      rw [hR, HD.out] at TY TA
      rw [hR] at TD
      clear hx him hi hO hat hR hRl hRx hg1 hg2
      go_upto_region 10 with fail
      clear f0 f1 f2 f3
      obtain ⟨v, hv⟩ : ∃ v, wr.alloc (.cells #[.int .i64 x.s, .string x.y, .int .i64 x.t, .int .i64 x.l] 37) = v := ⟨_, rfl⟩
      obtain ⟨gv, hgv⟩ : ∃ g, wr.heap.size = g := ⟨_, rfl⟩
      rw [hv, hgv]
      have HO1 := Lib.hid (hv ▸ HO.out.next (.cells #[.int .i64 x.s, .string x.y, .int .i64 x.t, .int .i64 x.l] 37))
      have HZ1 := Lib.hid (hv ▸ HZ.out.next (.cells #[.int .i64 x.s, .string x.y, .int .i64 x.t, .int .i64 x.l] 37))
      have HK1 := Lib.hid (hv ▸ HKR.out.next (.cells #[.int .i64 x.s, .string x.y, .int .i64 x.t, .int .i64 x.l] 37))
      have HH1 := Lib.hid (hv ▸ HH.out.alloc HH.out.size (.cells #[.int .i64 x.s, .string x.y, .int .i64 x.t, .int .i64 x.l] 37))
      have HV : Hid (Blk v gv x.cells) := Lib.hid (hv ▸ Blk.newAt hgv x.cells 37)
      have HG1 : Hid (w.heap.size < g ∧ gv ≠ g ∧ w.heap.size < gv) := Lib.hid (by have := HG.out; have := HKR.out.lt; omega)
      clear hv hgv HO HZ HKR HH HG
      have k0 := HV.out.cell 0 rfl
      have k1 := HV.out.cell 1 rfl
      have k2 := HV.out.cell 2 rfl
      have k3 := HV.out.cell 3 rfl
      have r2 := HK1.out.cell 2 rfl
      have r3 := HK1.out.cell 3 rfl
      have f2 : v.cell? ⟨g, i * 4 + 2, none⟩ = some (.int .i64 x.t) := sn_own HO1.out i 2 HRX.out rfl
      have f3 : v.cell? ⟨g, i * 4 + 3, none⟩ = some (.int .i64 x.l) := sn_own HO1.out i 3 HRX.out rfl
      have z2 : v.frozen? ⟨g, i * 4 + 2, none⟩ = false := HO1.out.thaw HRL.out _
      have z3 : v.frozen? ⟨g, i * 4 + 3, none⟩ = false := HO1.out.thaw HRL.out _
      have AP : Hid (∀ k, z.ownBlock = some k → k ≠ g) := Lib.hid (fun k hk e => HA.out k hk (by rw [e]; rfl))
      by_cases h1 : 1 < x.l
      · have T := Lib.hid (TY.out h1)
        have d1 : decide (1 < x.l) = true := decide_eq_true h1
        clear h1 TY TD TA
        go_wp2_with fail
        go_roundw
        case rel => exact ⟨i + 1, _, dd, HI.out, rfl, rfl, by go_num, by rw [T.out.1]; exact HO1.out.put HRL.out HRX.out rfl (by decide), by rw [T.out.2.1]; exact HZ1.out.set _ _ AP.out, Lib.hid T.out.2.2, HA.out, HN.out, HK1.out.other _ _ (by have := HG1.out; intro e; have e2 : w.heap.size = g := e; omega), HH1.out.setCell (by have := HG1.out; show w.heap.size ≤ g; omega) _⟩
        case measure => exact meas_k m i HI.out _ e1
      · by_cases h2 : t ≤ x.t
        · have T := Lib.hid (TD.out h1 h2)
          have d1 : decide (1 < x.l) = false := decide_eq_false h1
          have d2 : decide (t ≤ x.t) = true := decide_eq_true h2
          clear h1 h2 TY TD TA
          go_wp2_with fail
          go_roundw
          case rel => exact ⟨i + 1, _, true, HI.out, rfl, rfl, by go_num, by rw [T.out.1]; exact HO1.out, by rw [T.out.2.1]; exact HZ1.out, Lib.hid T.out.2.2, HA.out, HN.out, HK1.out, HH1.out⟩
          case measure => exact meas_k m i HI.out _ e1
        · have T := Lib.hid (TA.out h1 h2)
          have d1 : decide (1 < x.l) = false := decide_eq_false h1
          have d2 : decide (t ≤ x.t) = false := decide_eq_false h2
          clear h1 h2 TY TD TA
          go_upto_region 8 with fail
          obtain ⟨v2, hv2⟩ : ∃ v2, v.setCell ⟨g, i * 4 + 2, none⟩ (.int .i64 yt) = v2 := ⟨_, rfl⟩
          rw [hv2]
          have HO2 : Hid (snS.Own v2 (w.heap.size + 1) (.slice (some ⟨g, 0, none⟩) m c1) (R.set i ⟨x.s, x.y, yt, x.l⟩)) := Lib.hid (hv2 ▸ HO1.out.put HRL.out HRX.out rfl (by decide))
          have HZ2 := Lib.hid (hv2 ▸ HZ1.out.set ⟨g, i * 4 + 2, none⟩ (.int .i64 yt) AP.out)
          have HK2 := Lib.hid (hv2 ▸ HK1.out.other ⟨g, i * 4 + 2, none⟩ (.int .i64 yt) (by have := HG1.out; intro e; have e2 : w.heap.size = g := e; omega))
          have HH2 := Lib.hid (hv2 ▸ HH1.out.setCell (p := ⟨g, i * 4 + 2, none⟩) (by have := HG1.out; show w.heap.size ≤ g; omega) (.int .i64 yt))
          have HV2 := Lib.hid (hv2 ▸ HV.out.other ⟨g, i * 4 + 2, none⟩ (.int .i64 yt) HG1.out.2.1)
          have HRL2 : Hid ((R.set i ⟨x.s, x.y, yt, x.l⟩).length = m) := Lib.hid (by rw [List.length_set]; exact HRL.out)
          have HRX2 : Hid ((R.set i ⟨x.s, x.y, yt, x.l⟩)[i]? = some ⟨x.s, x.y, yt, x.l⟩) := Lib.hid (by rw [List.getElem?_set_self (by have := HRL.out; have := HI.out; omega)])
          clear k0 k1 k2 k3 r2 r3 f2 f3 z2 z3 hv2 HO1 HZ1 HK1 HH1 HV
          have r2 := HK2.out.cell 2 rfl
          have f3 : v2.cell? ⟨g, i * 4 + 3, none⟩ = some (.int .i64 x.l) := sn_own HO2.out i 3 HRX2.out rfl
          have z3 : v2.frozen? ⟨g, i * 4 + 3, none⟩ = false := HO2.out.thaw HRL2.out _
          go_upto_region 9 with fail
          obtain ⟨v3, hv3⟩ : ∃ v3, v2.setCell ⟨g, i * 4 + 3, none⟩ (.int .i64 r) = v3 := ⟨_, rfl⟩
          rw [hv3]
          have HO3 : Hid (snS.Own v3 (w.heap.size + 1) (.slice (some ⟨g, 0, none⟩) m c1) ((R.set i ⟨x.s, x.y, yt, x.l⟩).set i ⟨x.s, x.y, yt, r⟩)) := Lib.hid (hv3 ▸ HO2.out.put HRL2.out HRX2.out rfl (by decide))
          have HZ3 := Lib.hid (hv3 ▸ HZ2.out.set ⟨g, i * 4 + 3, none⟩ (.int .i64 r) AP.out)
          have HK3 := Lib.hid (hv3 ▸ HK2.out.other ⟨g, i * 4 + 3, none⟩ (.int .i64 r) (by have := HG1.out; intro e; have e2 : w.heap.size = g := e; omega))
          have HH3 := Lib.hid (hv3 ▸ HH2.out.setCell (p := ⟨g, i * 4 + 3, none⟩) (by have := HG1.out; show w.heap.size ≤ g; omega) (.int .i64 r))
          have HV3 := Lib.hid (hv3 ▸ HV2.out.other ⟨g, i * 4 + 3, none⟩ (.int .i64 r) HG1.out.2.1)
          clear r2 f3 z3 hv3 HO2 HZ2 HK2 HH2 HV2
          have k1 := HV3.out.cell 1 rfl
          go_wp2_with (at_builtin; go_must (refine rec_app (S := txS) rfl (.tmp 34) (.tmp 37) 31 rfl rfl w.heap.size z (againL t (L.take i)) [x.y] (some ⟨v3.heap.size, 0, none⟩) 1 1 rfl rfl (HZ3.out.next _) (Rec.one (Blk.new v3 (txS.cells x.y) 9)) (by have h := againL_length t (L.take i); rw [List.length_take] at h; have := HM.out; have := HI.out; omega) (by have := HH3.out.size; simp only [World.size_alloc]; omega) ?_); intro v' w4 hown hgr hnw)
          have HZ4 := Lib.hid hown
          have HO4 := Lib.hid ((HO3.out.next _).kept hgr (fun k hk e => HA.out k e hk))
          have HK4 := Lib.hid (rblk_grown (HK3.out.next _) hgr (fun k hk e => by have := HN.out k hk; omega))
          have HH4 := Lib.hid ((HH3.out.alloc HH3.out.size _).grown hgr (by have := HH3.out.size; simp only [World.size_alloc]; omega) (fun k hk => Nat.le_of_lt (HN.out k hk)))
          have HA4 : Hid (Apart v' (.slice (some ⟨g, 0, none⟩) m c1)) := Lib.hid (apart_new HA.out (HO3.out.next _) hnw)
          have HN4 : Hid (∀ k, v'.ownBlock = some k → w.heap.size < k) := Lib.hid (fun k hk => by
            rcases hnw k hk with h | h
            · exact HN.out k h
            · have := HK3.out.lt
              simp only [World.size_alloc] at h
              omega)
          clear hown hgr hnw k1
          go_roundw
          case rel => exact ⟨i + 1, _, dd, HI.out, rfl, rfl, by go_num, by rw [T.out.1]; exact HO4.out, by rw [T.out.2.1]; exact HZ4.out, Lib.hid T.out.2.2, HA4.out, HN4.out, HK4.out, HH4.out⟩
          case measure => exact meas_k m i HI.out _ e1
    · obtain rfl : i = m := by omega
      have HE : Hid (L.take i = L) := Lib.hid (by rw [← HLEN.out]; exact List.take_length)
      have HO : Hid (snS.Own wr (w.heap.size + 1) (.slice a1 i c1) (tickL r t L)) := Lib.hid (by rw [HE.out, ← HLEN.out, List.drop_length, List.append_nil] at hO; rw [← HLEN.out]; exact hO)
      rw [HE.out] at HZ HD
      clear hO
      go_wp2_with fail
      refine bodyPost_ret (v := .tuple #[.slice a1 i c1, z, .bool dd]) (by simp [results, Tryd.results6, go_sem]) rfl ⟨_, _, by rw [HD.out], HO.out.lower (Nat.le_succ _), HZ.out, HH.out⟩
end Go.Proofs.YtmgmgffgbkenkaaDoor
