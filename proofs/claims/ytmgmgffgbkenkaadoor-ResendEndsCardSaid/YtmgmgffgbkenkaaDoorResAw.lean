/- Contracts of package resend: the example that the statement asks (awake). -/
import Derived.Test.YtmgmgffgbkenkaaDoorResE
namespace Go.Proofs.YtmgmgffgbkenkaaDoor
open Go.RowKit Go.Sort

theorem tx_lit {w : World} {g n c : Nat} {L : List ByteArray} (h : txS.At w (some ⟨g, 0, none⟩) n c L) (i : Nat) {y : ByteArray} (hx : L[i]? = some y) : w.cell? ⟨g, i, none⟩ = some (.string y) := by
  obtain ⟨b, hb, hf'⟩ := h.2.2.2.2 i y hx
  obtain rfl := Option.some.inj hb
  have hf : ∀ k v, ([.string y] : List Value)[k]? = some v → w.cell? (((⟨g, 0, none⟩ : Addr).add (i * 1)).add k) = some v := hf'
  have := hf 0 _ rfl
  rwa [Nat.mul_one, Rec.add_lit, show (⟨g, i, none⟩ : Addr).add 0 = ⟨g, i, none⟩ by unfold Addr.add; split <;> simp_all] at this

theorem tick_low (s : Int) (y : ByteArray) : tick1 2 3 ⟨s, y, 1, 2⟩ = ⟨s, y, 1, 1⟩ := by
  unfold tick1
  rw [if_pos (by show (1 : Int) < 2; omega)]
  show Snt.mk s y 1 (wrap64 (2 - 1)) = _
  rw [IntWalk.wrap64_in (2 - 1) (by omega)]; rfl
theorem tick_next (s : Int) (y : ByteArray) : tick1 2 3 ⟨s, y, 1, 1⟩ = ⟨s, y, 2, 2⟩ := by
  unfold tick1
  rw [if_neg (by show ¬ (1 : Int) < 1; omega), if_neg (by show ¬ (3 : Int) ≤ 1; omega)]
  show Snt.mk s y (wrap64 (1 + 1)) 2 = _
  rw [IntWalk.wrap64_in (1 + 1) (by omega)]; rfl

set_option maxRecDepth 100000 in
set_option maxHeartbeats 4000000 in
theorem rawake_any (w : World) (hT : Tab w) : Calls Tryd.prog 8 #[] w fun e w' => e = .returned (.bool true) ∧ Below w.heap.size w w' := by
  have TB := Lib.hid hT
  clear hT
  go_enter Tryd.func8, Tryd.ntmps8
  have H := Lib.hid (Below.refl w.heap.size w)
  go_wp2_with fail
  refine (rules_gives _).mono ?_
  rintro e w1 ⟨rfl, hb⟩
  have H' := Lib.hid (bel_on H.out hb)
  clear hb H
  have H := H'
  clear H'
  go_wp2_with fail
  refine (add_any 4 ⟨#[97]⟩ 2 8 2 3 none 0 0 [] _ (Shp.At.nil _) (by omega)).mono ?_
  rintro e w2 ⟨v1, rfl, ho, hb⟩
  rw [show addL [] 4 ⟨#[97]⟩ 2 = [⟨4, ⟨#[97]⟩, 1, 2⟩] by rfl] at ho
  rw [show wrongE [] 4 2 = 0 by rfl]
  have H' := Lib.hid (bel_on H.out hb)
  obtain ⟨gl, cl, rfl, hat, _⟩ := ho.lit (by decide)
  have Tl := Lib.hid hat
  clear hat
  clear hb H
  have H := H'
  clear H'
  clear ho
  go_wp2_with fail
  refine (rules_gives _).mono ?_
  rintro e w3 ⟨rfl, hb⟩
  have Tl' := Lib.hid (Tl.out.on hb)
  have H' := Lib.hid (bel_on H.out hb)
  clear hb H Tl
  have Tl := Tl'
  clear Tl'
  have H := H'
  clear H'
  go_wp2_with fail
  refine (add_any 5 ⟨#[98]⟩ 2 8 2 3 (some ⟨gl, 0, none⟩) 1 cl [⟨4, ⟨#[97]⟩, 1, 2⟩] _ Tl.out (by omega)).mono ?_
  rintro e w4 ⟨v3, rfl, ho, hb⟩
  rw [show addL [⟨4, ⟨#[97]⟩, 1, 2⟩] 5 ⟨#[98]⟩ 2 = [⟨4, ⟨#[97]⟩, 1, 2⟩, ⟨5, ⟨#[98]⟩, 1, 2⟩] by rfl] at ho
  rw [show wrongE [⟨4, ⟨#[97]⟩, 1, 2⟩] 5 2 = 0 by rfl]
  have Tl' := Lib.hid (Tl.out.on hb)
  have H' := Lib.hid (bel_on H.out hb)
  obtain ⟨gm, cm, rfl, hat, _⟩ := ho.lit (by decide)
  have Tm := Lib.hid hat
  clear hat
  clear hb H Tl
  have Tl := Tl'
  clear Tl'
  have H := H'
  clear H'
  clear ho
  clear Tl
  go_wp2_with fail
  refine (rules_gives _).mono ?_
  rintro e w5 ⟨rfl, hb⟩
  have Tm' := Lib.hid (Tm.out.on hb)
  have H' := Lib.hid (bel_on H.out hb)
  clear hb H Tm
  have Tm := Tm'
  clear Tm'
  have H := H'
  clear H'
  go_wp2_with fail
  refine (add_any 5 ⟨#[99]⟩ 2 8 2 3 (some ⟨gm, 0, none⟩) 2 cm [⟨4, ⟨#[97]⟩, 1, 2⟩, ⟨5, ⟨#[98]⟩, 1, 2⟩] _ Tm.out (by omega)).mono ?_
  rintro e w6 ⟨v5, rfl, ho, hb⟩
  rw [show wrongE [⟨4, ⟨#[97]⟩, 1, 2⟩, ⟨5, ⟨#[98]⟩, 1, 2⟩] 5 2 = 10 by rfl]
  have Tm' := Lib.hid (Tm.out.on hb)
  have H' := Lib.hid (bel_on H.out hb)
  clear hb H Tm
  have Tm := Tm'
  clear Tm'
  have H := H'
  clear H'
  clear ho
  go_wp2_with fail
  refine (acked_any 0 0 0 0 0 5 0 (by decide) (some ⟨gm, 0, none⟩) 2 cm [⟨4, ⟨#[97]⟩, 1, 2⟩, ⟨5, ⟨#[98]⟩, 1, 2⟩] _ (TB.out.on H.out) Tm.out (by omega) (by intro x hx; simp only [List.mem_cons, List.not_mem_nil, or_false] at hx; rcases hx with rfl | rfl <;> decide)).mono ?_
  rintro e w7 ⟨va, rfl, ho, hb⟩
  rw [show keepL (AcksF.hasB 5 0) [⟨4, ⟨#[97]⟩, 1, 2⟩, ⟨5, ⟨#[98]⟩, 1, 2⟩] = [⟨5, ⟨#[98]⟩, 1, 2⟩] by rfl] at ho
  rw [show ((2 : Nat) : Int) - ((keepL (AcksF.hasB 5 0) [⟨4, ⟨#[97]⟩, 1, 2⟩, ⟨5, ⟨#[98]⟩, 1, 2⟩]).length : Int) = 1 by rfl]
  have Tm' := Lib.hid (Tm.out.on hb)
  have H' := Lib.hid (bel_on H.out hb)
  obtain ⟨ga, ca, rfl, hat, _⟩ := ho.lit (by decide)
  have Ta := Lib.hid hat
  clear hat
  clear hb H Tm
  have Tm := Tm'
  clear Tm'
  have H := H'
  clear H'
  clear ho
  go_wp2_with fail
  refine (rules_gives _).mono ?_
  rintro e w8 ⟨rfl, hb⟩
  have Tm' := Lib.hid (Tm.out.on hb)
  have Ta' := Lib.hid (Ta.out.on hb)
  have H' := Lib.hid (bel_on H.out hb)
  clear hb H Tm Ta
  have Tm := Tm'
  clear Tm'
  have Ta := Ta'
  clear Ta'
  have H := H'
  clear H'
  go_wp2_with fail
  refine (tick_any 2 8 2 3 (some ⟨gm, 0, none⟩) 2 cm [⟨4, ⟨#[97]⟩, 1, 2⟩, ⟨5, ⟨#[98]⟩, 1, 2⟩] _ Tm.out (by omega)).mono ?_
  rintro e w9 ⟨u8, x8, rfl, ho, hv, hb⟩
  rw [show tickL 2 3 [⟨4, ⟨#[97]⟩, 1, 2⟩, ⟨5, ⟨#[98]⟩, 1, 2⟩] = [⟨4, ⟨#[97]⟩, 1, 1⟩, ⟨5, ⟨#[98]⟩, 1, 1⟩] by simp only [tickL, List.map_cons, List.map_nil, tick_low]] at ho
  rw [show againL 3 [⟨4, ⟨#[97]⟩, 1, 2⟩, ⟨5, ⟨#[98]⟩, 1, 2⟩] = [] by rfl] at hv
  rw [show deadL 3 [⟨4, ⟨#[97]⟩, 1, 2⟩, ⟨5, ⟨#[98]⟩, 1, 2⟩] = false by rfl]
  have Tm' := Lib.hid (Tm.out.on hb)
  have Ta' := Lib.hid (Ta.out.on hb)
  have H' := Lib.hid (bel_on H.out hb)
  obtain ⟨gk, ck, rfl, hat, _⟩ := ho.lit (by decide)
  have Tk := Lib.hid hat
  clear hat
  obtain ⟨az, cz, rfl, _, _⟩ := hv.shape
  clear hb H Tm Ta
  have Tm := Tm'
  clear Tm'
  have Ta := Ta'
  clear Ta'
  have H := H'
  clear H'
  clear ho hv
  go_wp2_with fail
  refine (rules_gives _).mono ?_
  rintro e w10 ⟨rfl, hb⟩
  have Tm' := Lib.hid (Tm.out.on hb)
  have Ta' := Lib.hid (Ta.out.on hb)
  have Tk' := Lib.hid (Tk.out.on hb)
  have H' := Lib.hid (bel_on H.out hb)
  clear hb H Tm Ta Tk
  have Tm := Tm'
  clear Tm'
  have Ta := Ta'
  clear Ta'
  have Tk := Tk'
  clear Tk'
  have H := H'
  clear H'
  go_wp2_with fail
  refine (tick_any 2 8 2 3 (some ⟨gk, 0, none⟩) 2 ck [⟨4, ⟨#[97]⟩, 1, 1⟩, ⟨5, ⟨#[98]⟩, 1, 1⟩] _ Tk.out (by omega)).mono ?_
  rintro e w11 ⟨u10, x10, rfl, ho, hv, hb⟩
  rw [show tickL 2 3 [⟨4, ⟨#[97]⟩, 1, 1⟩, ⟨5, ⟨#[98]⟩, 1, 1⟩] = [⟨4, ⟨#[97]⟩, 2, 2⟩, ⟨5, ⟨#[98]⟩, 2, 2⟩] by simp only [tickL, List.map_cons, List.map_nil, tick_next]] at ho
  rw [show againL 3 [⟨4, ⟨#[97]⟩, 1, 1⟩, ⟨5, ⟨#[98]⟩, 1, 1⟩] = [⟨#[97]⟩, ⟨#[98]⟩] by rfl] at hv
  rw [show deadL 3 [⟨4, ⟨#[97]⟩, 1, 1⟩, ⟨5, ⟨#[98]⟩, 1, 1⟩] = false by rfl]
  have Tm' := Lib.hid (Tm.out.on hb)
  have Ta' := Lib.hid (Ta.out.on hb)
  have Tk' := Lib.hid (Tk.out.on hb)
  have H' := Lib.hid (bel_on H.out hb)
  obtain ⟨gq, cq, rfl, hat, _⟩ := ho.lit (by decide)
  have Tq := Lib.hid hat
  clear hat
  obtain ⟨gr, cr, rfl, hat, _⟩ := hv.lit (by decide)
  have Tr := Lib.hid hat
  clear hat
  clear hb H Tm Ta Tk
  have Tm := Tm'
  clear Tm'
  have Ta := Ta'
  clear Ta'
  have Tk := Tk'
  clear Tk'
  have H := H'
  clear H'
  clear ho hv
  clear Tk
  go_wp2_with fail
  refine (rules_gives _).mono ?_
  rintro e w12 ⟨rfl, hb⟩
  have Tm' := Lib.hid (Tm.out.on hb)
  have Ta' := Lib.hid (Ta.out.on hb)
  have Tq' := Lib.hid (Tq.out.on hb)
  have Tr' := Lib.hid (Tr.out.on hb)
  have H' := Lib.hid (bel_on H.out hb)
  clear hb H Tm Ta Tq Tr
  have Tm := Tm'
  clear Tm'
  have Ta := Ta'
  clear Ta'
  have Tq := Tq'
  clear Tq'
  have Tr := Tr'
  clear Tr'
  have H := H'
  clear H'
  go_wp2_with fail
  refine (add_any (-1) ⟨#[]⟩ 2 8 2 3 none 0 0 [] _ (Shp.At.nil _) (by omega)).mono ?_
  rintro e w13 ⟨v12, rfl, ho, hb⟩
  rw [show wrongE [] (-1) 2 = 1 by rfl]
  have Tm' := Lib.hid (Tm.out.on hb)
  have Ta' := Lib.hid (Ta.out.on hb)
  have Tq' := Lib.hid (Tq.out.on hb)
  have Tr' := Lib.hid (Tr.out.on hb)
  have H' := Lib.hid (bel_on H.out hb)
  clear hb H Tm Ta Tq Tr
  have Tm := Tm'
  clear Tm'
  have Ta := Ta'
  clear Ta'
  have Tq := Tq'
  clear Tq'
  have Tr := Tr'
  clear Tr'
  have H := H'
  clear H'
  clear ho
  have k0 : w13.cell? ⟨ga, 0, none⟩ = some (.int .i64 5) := sn_lit Ta.out 0 0 rfl rfl
  have k1 : w13.cell? ⟨gr, 0, none⟩ = some (.string ⟨#[97]⟩) := tx_lit Tr.out 0 rfl
  have k2 : w13.cell? ⟨gq, 2, none⟩ = some (.int .i64 2) := sn_lit Tq.out 0 2 rfl rfl
  go_wp2_with fail
  refine (rules_gives _).mono ?_
  rintro e w14 ⟨rfl, hb⟩
  have Tm' := Lib.hid (Tm.out.on hb)
  have Ta' := Lib.hid (Ta.out.on hb)
  have Tq' := Lib.hid (Tq.out.on hb)
  have Tr' := Lib.hid (Tr.out.on hb)
  have H' := Lib.hid (bel_on H.out hb)
  clear hb H Tm Ta Tq Tr
  have Tm := Tm'
  clear Tm'
  have Ta := Ta'
  clear Ta'
  have Tq := Tq'
  clear Tq'
  have Tr := Tr'
  clear Tr'
  have H := H'
  clear H'
  clear k0 k1 k2
  go_wp2_with fail
  refine (rright_ok _).mono ?_
  rintro e w15 ⟨rfl, hb⟩
  have Tm' := Lib.hid (Tm.out.on hb)
  have Ta' := Lib.hid (Ta.out.on hb)
  have Tq' := Lib.hid (Tq.out.on hb)
  have Tr' := Lib.hid (Tr.out.on hb)
  have H' := Lib.hid (bel_on H.out hb)
  clear hb H Tm Ta Tq Tr
  have Tm := Tm'
  clear Tm'
  have Ta := Ta'
  clear Ta'
  have Tq := Tq'
  clear Tq'
  have Tr := Tr'
  clear Tr'
  have H := H'
  clear H'
  go_wp2_with fail
  refine (rright_no _).mono ?_
  rintro e w16 ⟨rfl, hb⟩
  have Tm' := Lib.hid (Tm.out.on hb)
  have Ta' := Lib.hid (Ta.out.on hb)
  have Tq' := Lib.hid (Tq.out.on hb)
  have Tr' := Lib.hid (Tr.out.on hb)
  have H' := Lib.hid (bel_on H.out hb)
  clear hb H Tm Ta Tq Tr
  have Tm := Tm'
  clear Tm'
  have Ta := Ta'
  clear Ta'
  have Tq := Tq'
  clear Tq'
  have Tr := Tr'
  clear Tr'
  have H := H'
  clear H'
  go_wp2_with fail
  refine (same_is _ _ 2 cm 2 cm [⟨4, ⟨#[97]⟩, 1, 2⟩, ⟨5, ⟨#[98]⟩, 1, 2⟩] [⟨4, ⟨#[97]⟩, 1, 2⟩, ⟨5, ⟨#[98]⟩, 1, 2⟩] true _ Tm.out Tm.out (by exact decide_eq_true rfl)).mono ?_
  rintro e w17 ⟨rfl, hb⟩
  have Tm' := Lib.hid (Tm.out.on hb)
  have Ta' := Lib.hid (Ta.out.on hb)
  have Tq' := Lib.hid (Tq.out.on hb)
  have Tr' := Lib.hid (Tr.out.on hb)
  have H' := Lib.hid (bel_on H.out hb)
  clear hb H Tm Ta Tq Tr
  have Tm := Tm'
  clear Tm'
  have Ta := Ta'
  clear Ta'
  have Tq := Tq'
  clear Tq'
  have Tr := Tr'
  clear Tr'
  have H := H'
  clear H'
  go_wp2_with fail
  refine (same_is _ _ 2 cm 1 ca [⟨4, ⟨#[97]⟩, 1, 2⟩, ⟨5, ⟨#[98]⟩, 1, 2⟩] [⟨5, ⟨#[98]⟩, 1, 2⟩] false _ Tm.out Ta.out (eqA_len (by decide))).mono ?_
  rintro e w18 ⟨rfl, hb⟩
  have Tm' := Lib.hid (Tm.out.on hb)
  have Ta' := Lib.hid (Ta.out.on hb)
  have Tq' := Lib.hid (Tq.out.on hb)
  have Tr' := Lib.hid (Tr.out.on hb)
  have H' := Lib.hid (bel_on H.out hb)
  clear hb H Tm Ta Tq Tr
  have Tm := Tm'
  clear Tm'
  have Ta := Ta'
  clear Ta'
  have Tq := Tq'
  clear Tq'
  have Tr := Tr'
  clear Tr'
  have H := H'
  clear H'
  go_wp2_with fail
  go_ret
  exact ⟨rfl, H.out⟩
end Go.Proofs.YtmgmgffgbkenkaaDoor
