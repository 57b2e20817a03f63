/- Contracts of package timer, part C: Tick, Left, Next; the document's own Tick, Of, Next. -/
import Derived.Test.YtpfgbdcnfmlkcaaTimB
namespace Go.Proofs.Ytpfgbdcnfmlkcaa
open Go.RowKit Go.Sort

/-- Two new rows that share no block. -/
def GotTwo (L M : List Alm) (w : World) (e : Ending) (w' : World) : Prop := ∃ u v, e = .returned (.tuple #[u, v]) ∧ alS.Own w' w.heap.size u L ∧ alS.Own w' w.heap.size v M ∧ Apart u v ∧ Below w.heap.size w w'
theorem left_at {L : List Alm} {i : Nat} {x : Alm} {k n : Int} (h : ∀ (p : Nat) z, p < i → L[p]? = some z → z.is k n = false) (hx : L[i]? = some x) (hi : x.is k n = true) : leftL L k n = x.t := by
  have : L.find? (fun a => a.is k n) = some x := by
    rw [List.find?_eq_some_iff_getElem]
    obtain ⟨hl, he⟩ := List.getElem?_eq_some_iff.1 hx
    refine ⟨hi, i, hl, he, fun p hp => ?_⟩
    have := h p (L[p]'(by omega)) hp (List.getElem?_eq_getElem _)
    simp [this]
  unfold leftL
  rw [this]
theorem left_none {L : List Alm} {k n : Int} (h : ∀ (p : Nat) z, L[p]? = some z → z.is k n = false) : leftL L k n = 0 := by
  have : L.find? (fun a => a.is k n) = none := by
    rw [List.find?_eq_none]
    intro z hz
    obtain ⟨p, hp⟩ := List.getElem?_of_mem hz
    simp [h p z hp]
  unfold leftL
  rw [this]
theorem on_snoc {L : List Alm} {i : Nat} {x : Alm} (h : L[i]? = some x) : tickOn (L.take (i + 1)) = tickOn (L.take i) ++ (if 1 < x.t then [x.dec] else []) := by rw [take_snoc h, tickOn_snoc]
theorem off_snoc {L : List Alm} {i : Nat} {x : Alm} (h : L[i]? = some x) : tickOff (L.take (i + 1)) = tickOff (L.take i) ++ (if 1 < x.t then [] else [x.off]) := by rw [take_snoc h, tickOff_snoc]
theorem next_snoc {L : List Alm} {i : Nat} {x : Alm} (h : L[i]? = some x) : nextL (L.take (i + 1)) = minL (nextL (L.take i)) x.t := by rw [take_snoc h, nextL_snoc]
theorem tick_le (L : List Alm) (i : Nat) : (tickOn (L.take i)).length ≤ L.length ∧ (tickOff (L.take i)).length ≤ L.length := by
  have := tick_length (L.take i)
  rw [List.length_take] at this
  omega

set_option maxHeartbeats 1000000 in
theorem tick_any (a : Option Addr) (m c : Nat) (L : List Alm) (w : World) (hL : alS.At w a m c L) (hm : m ≤ 1000000) (hf : Fits L) :
    Calls Try.prog 6 #[.slice a m c] w (GotTwo (tickOn L) (tickOff L) w) := by
  have HL := Lib.hid hL
  have HM := Lib.hid hm
  have HF := Lib.hid hf
  have hlen := hL.1
  clear hL hf
  go_enter Try.func6, Try.ntmps6
  go_upto_region 3 with fail
  go_loopw [4, 5, 10] (fun u o j wr => ∃ (i : Nat) (z y : Value), z = u ∧ y = o ∧ i ≤ m ∧ j = .int .i64 (i : Int) ∧ alS.Own wr w.heap.size z (tickOn (L.take i)) ∧ alS.Own wr w.heap.size y (tickOff (L.take i)) ∧ Hid (Apart z y) ∧ Below w.heap.size w wr) (fun _ _ j _ => (m - intOf j).toNat)
  case atStart => exact ⟨0, _, _, rfl, rfl, Nat.zero_le _, rfl, Shp.Own.none_ _ _, Shp.Own.none_ _ _, Lib.hid (fun k hk => by cases hk), Below.refl _ _⟩
  case round =>
    obtain ⟨i, z, y, rfl, rfl, hi, rfl, hO, hP, HA, hH⟩ := hrel
    have HO := Lib.hid hO
    have HP := Lib.hid hP
    have HH := Lib.hid hH
    clear hO hP hH
    by_cases him : i < m
    · obtain ⟨x, hx⟩ : ∃ x, L[i]? = some x := ⟨_, List.getElem?_eq_getElem (by omega)⟩
      obtain ⟨b, q, rfl, hq, c0, c1, c2⟩ := al_at (HL.out.on HH.out) hx
      have HN := Lib.hid (on_snoc hx)
      have HG := Lib.hid (off_snoc hx)
      have ht := HF.out x (List.mem_of_getElem? hx)
      have him' : (i : Int) < (m : Int) := by omega
      have HI : Hid (i < m) := Lib.hid him
      have e1 : wrap64 ((i : Int) + 1) = (i : Int) + 1 := IntWalk.wrap64_in _ (by omega)
      clear hx him hi
      go_upto_region 5 with fail
      clear c0 c1 c2 hq
      obtain ⟨v, hv⟩ : ∃ v, wr.alloc (.cells #[.int .i64 x.k, .int .i64 x.n, .int .i64 x.t] 23) = v := ⟨_, rfl⟩
      obtain ⟨g, hg⟩ : ∃ g, wr.heap.size = g := ⟨_, rfl⟩
      rw [hv, hg]
      have HO1 := Lib.hid (hv ▸ HO.out.next (.cells #[.int .i64 x.k, .int .i64 x.n, .int .i64 x.t] 23))
      have HP1 := Lib.hid (hv ▸ HP.out.next (.cells #[.int .i64 x.k, .int .i64 x.n, .int .i64 x.t] 23))
      have HZ : Hid (∀ k, z.ownBlock = some k → k ≠ g) := Lib.hid (fun k hk => by have := (HO.out.lt k hk).2; omega)
      have HY : Hid (∀ k, y.ownBlock = some k → k ≠ g) := Lib.hid (fun k hk => by have := (HP.out.lt k hk).2; omega)
      have HGG : Hid (w.heap.size ≤ g) := Lib.hid (hg ▸ HH.out.size)
      have HH1 := Lib.hid (hv ▸ HH.out.alloc HH.out.size (.cells #[.int .i64 x.k, .int .i64 x.n, .int .i64 x.t] 23))
      have HK : Hid (Blk v g x.cells) := Lib.hid (hv ▸ Blk.newAt hg x.cells 23)
      clear hv hg HH HO HP
      have k0 := HK.out.cell 0 rfl
      have k1 := HK.out.cell 1 rfl
      have k2 := HK.out.cell 2 rfl
      by_cases h1 : 1 < x.t
      · have d1 : decide (1 < x.t) = true := decide_eq_true h1
        have e2 : wrap64 (x.t - 1) = x.t - 1 := IntWalk.wrap64_in _ (by omega)
        rw [if_pos h1] at HN HG
        clear h1 ht
        have f2 := HK.out.thaw 2
        go_upto_region 7 with fail
        clear k0 k1 k2 f2 e2
        obtain ⟨v1, hv1⟩ : ∃ v1, v.setCell ⟨g, 2, none⟩ (.int .i64 (x.t - 1)) = v1 := ⟨_, rfl⟩
        rw [hv1]
        have HO2 := Lib.hid (hv1 ▸ HO1.out.set ⟨g, 2, none⟩ (.int .i64 (x.t - 1)) HZ.out)
        have HP2 := Lib.hid (hv1 ▸ HP1.out.set ⟨g, 2, none⟩ (.int .i64 (x.t - 1)) HY.out)
        have HH2 := Lib.hid (hv1 ▸ HH1.out.setCell (p := ⟨g, 2, none⟩) HGG.out (.int .i64 (x.t - 1)))
        have HK2 : Hid (Blk v1 g x.dec.cells) := Lib.hid (hv1 ▸ HK.out.set 2 (.int .i64 (x.t - 1)))
        clear hv1 HO1 HP1 HH1 HK
        have k0 := HK2.out.cell 0 rfl
        have k1 := HK2.out.cell 1 rfl
        have k2 := HK2.out.cell 2 rfl
        go_wp2_with (at_builtin; go_must (refine rec_app (S := alS) rfl (.tmp 21) (.tmp 23) 25 rfl rfl w.heap.size z (tickOn (L.take i)) [x.dec] (some ⟨v1.heap.size, 0, none⟩) 1 1 rfl rfl (HO2.out.next _) (Rec.one (Blk.new v1 x.dec.cells 23)) (by have := (tick_le L i).1; have := HM.out; have := HL.out.1; omega) (by have := HH2.out.size; simp only [World.size_alloc]; omega) ?_); intro v' w2 hown hgr hpl)
        have HO3 := Lib.hid hown
        have HP3 := Lib.hid ((HP2.out.next (.cells x.dec.cells.toArray 23)).kept hgr (fun k hk => HA.out.symm k hk))
        have HA3 := Lib.hid (apart_new HA.out (HP2.out.next (.cells x.dec.cells.toArray 23)) hpl)
        have HH3 := Lib.hid ((HH2.out.alloc HH2.out.size _).grown hgr (by have := HH2.out.size; simp only [World.size_alloc]; omega) (fun k hk => (HO2.out.lt k hk).1))
        clear hown hgr hpl k0 k1 k2
        go_roundw
        case rel => exact ⟨i + 1, _, _, rfl, rfl, HI.out, by go_num, by rw [HN.out]; exact HO3.out, by rw [HG.out, List.append_nil]; exact HP3.out, HA3, HH3.out⟩
        case measure => exact tim_meas m i HI.out _ rfl
      · have d1 : decide (1 < x.t) = false := decide_eq_false h1
        rw [if_neg h1] at HN HG
        clear h1 ht
        have f2 := HK.out.thaw 2
        go_upto_region 9 with fail
        clear k0 k1 k2 f2
        obtain ⟨v1, hv1⟩ : ∃ v1, v.setCell ⟨g, 2, none⟩ (.int .i64 0) = v1 := ⟨_, rfl⟩
        rw [hv1]
        have HO2 := Lib.hid (hv1 ▸ HO1.out.set ⟨g, 2, none⟩ (.int .i64 0) HZ.out)
        have HP2 := Lib.hid (hv1 ▸ HP1.out.set ⟨g, 2, none⟩ (.int .i64 0) HY.out)
        have HH2 := Lib.hid (hv1 ▸ HH1.out.setCell (p := ⟨g, 2, none⟩) HGG.out (.int .i64 0))
        have HK2 : Hid (Blk v1 g x.off.cells) := Lib.hid (hv1 ▸ HK.out.set 2 (.int .i64 0))
        clear hv1 HO1 HP1 HH1 HK
        have k0 := HK2.out.cell 0 rfl
        have k1 := HK2.out.cell 1 rfl
        have k2 := HK2.out.cell 2 rfl
        go_wp2_with (at_builtin; go_must (refine rec_app (S := alS) rfl (.tmp 26) (.tmp 28) 25 rfl rfl w.heap.size y (tickOff (L.take i)) [x.off] (some ⟨v1.heap.size, 0, none⟩) 1 1 rfl rfl (HP2.out.next _) (Rec.one (Blk.new v1 x.off.cells 23)) (by have := (tick_le L i).2; have := HM.out; have := HL.out.1; omega) (by have := HH2.out.size; simp only [World.size_alloc]; omega) ?_); intro v' w2 hown hgr hpl)
        have HP3 := Lib.hid hown
        have HO3 := Lib.hid ((HO2.out.next (.cells x.off.cells.toArray 23)).kept hgr (fun k hk => HA.out k hk))
        have HA3 := Lib.hid (apart_new HA.out.symm (HO2.out.next (.cells x.off.cells.toArray 23)) hpl).symm
        have HH3 := Lib.hid ((HH2.out.alloc HH2.out.size _).grown hgr (by have := HH2.out.size; simp only [World.size_alloc]; omega) (fun k hk => (HP2.out.lt k hk).1))
        clear hown hgr hpl k0 k1 k2
        go_roundw
        case rel => exact ⟨i + 1, _, _, rfl, rfl, HI.out, by go_num, by rw [HN.out, List.append_nil]; exact HO3.out, by rw [HG.out]; exact HP3.out, HA3, HH3.out⟩
        case measure => exact tim_meas m i HI.out _ rfl
    · obtain rfl : i = m := by omega
      go_wp2_with fail
      have h1 := HO.out
      have h2 := HP.out
      rw [← HL.out.1, List.take_length] at h1 h2
      refine bodyPost_ret (v := .tuple #[z, y]) (by simp [results, Try.results6, go_sem]) rfl ⟨z, y, rfl, h1, h2, HA.out, HH.out⟩

set_option maxHeartbeats 1000000 in
theorem rtick_any (a : Option Addr) (m c : Nat) (L : List Alm) (w : World) (hL : alS.At w a m c L) (hm : m ≤ 1000000) (hf : Fits L) :
    Calls Try.prog 23 #[.slice a m c] w (GotTwo (tickOn L) (tickOff L) w) := by
  have HL := Lib.hid hL
  have HM := Lib.hid hm
  have HF := Lib.hid hf
  have hlen := hL.1
  clear hL hf
  go_enter Try.func23, Try.ntmps23
  go_upto_region 3 with fail
  go_loopw [4, 5, 10] (fun u o j wr => ∃ (i : Nat) (z y : Value), z = u ∧ y = o ∧ i ≤ m ∧ j = .int .i64 (i : Int) ∧ alS.Own wr w.heap.size z (tickOn (L.take i)) ∧ alS.Own wr w.heap.size y (tickOff (L.take i)) ∧ Hid (Apart z y) ∧ Below w.heap.size w wr) (fun _ _ j _ => (m - intOf j).toNat)
  case atStart => exact ⟨0, _, _, rfl, rfl, Nat.zero_le _, rfl, Shp.Own.none_ _ _, Shp.Own.none_ _ _, Lib.hid (fun k hk => by cases hk), Below.refl _ _⟩
  case round =>
    obtain ⟨i, z, y, rfl, rfl, hi, rfl, hO, hP, HA, hH⟩ := hrel
    have HO := Lib.hid hO
    have HP := Lib.hid hP
    have HH := Lib.hid hH
    clear hO hP hH
    by_cases him : i < m
    · obtain ⟨x, hx⟩ : ∃ x, L[i]? = some x := ⟨_, List.getElem?_eq_getElem (by omega)⟩
      obtain ⟨b, q, rfl, hq, c0, c1, c2⟩ := al_at (HL.out.on HH.out) hx
      have HN := Lib.hid (on_snoc hx)
      have HG := Lib.hid (off_snoc hx)
      have ht := HF.out x (List.mem_of_getElem? hx)
      have him' : (i : Int) < (m : Int) := by omega
      have HI : Hid (i < m) := Lib.hid him
      have e1 : wrap64 ((i : Int) + 1) = (i : Int) + 1 := IntWalk.wrap64_in _ (by omega)
      clear hx him hi
      go_upto_region 5 with fail
      clear c0 c1 c2 hq
      obtain ⟨v, hv⟩ : ∃ v, wr.alloc (.cells #[.int .i64 x.k, .int .i64 x.n, .int .i64 x.t] 23) = v := ⟨_, rfl⟩
      obtain ⟨g, hg⟩ : ∃ g, wr.heap.size = g := ⟨_, rfl⟩
      rw [hv, hg]
      have HO1 := Lib.hid (hv ▸ HO.out.next (.cells #[.int .i64 x.k, .int .i64 x.n, .int .i64 x.t] 23))
      have HP1 := Lib.hid (hv ▸ HP.out.next (.cells #[.int .i64 x.k, .int .i64 x.n, .int .i64 x.t] 23))
      have HZ : Hid (∀ k, z.ownBlock = some k → k ≠ g) := Lib.hid (fun k hk => by have := (HO.out.lt k hk).2; omega)
      have HY : Hid (∀ k, y.ownBlock = some k → k ≠ g) := Lib.hid (fun k hk => by have := (HP.out.lt k hk).2; omega)
      have HGG : Hid (w.heap.size ≤ g) := Lib.hid (hg ▸ HH.out.size)
      have HH1 := Lib.hid (hv ▸ HH.out.alloc HH.out.size (.cells #[.int .i64 x.k, .int .i64 x.n, .int .i64 x.t] 23))
      have HK : Hid (Blk v g x.cells) := Lib.hid (hv ▸ Blk.newAt hg x.cells 23)
      clear hv hg HH HO HP
      have k0 := HK.out.cell 0 rfl
      have k1 := HK.out.cell 1 rfl
      have k2 := HK.out.cell 2 rfl
      by_cases h1 : 1 < x.t
      · have d1 : decide (1 < x.t) = true := decide_eq_true h1
        have e2 : wrap64 (x.t - 1) = x.t - 1 := IntWalk.wrap64_in _ (by omega)
        rw [if_pos h1] at HN HG
        clear h1 ht
        go_wp2_with (at_builtin; go_must (refine rec_app (S := alS) rfl (.tmp 17) (.tmp 26) 25 rfl rfl w.heap.size z (tickOn (L.take i)) [x.dec] (some ⟨v.heap.size, 0, none⟩) 1 1 rfl rfl (HO1.out.next _) (Rec.one (Blk.new v x.dec.cells 23)) (by have := (tick_le L i).1; have := HM.out; have := HL.out.1; omega) (by have := HH1.out.size; simp only [World.size_alloc]; omega) ?_); intro v' w2 hown hgr hpl)
        have HO3 := Lib.hid hown
        have HP3 := Lib.hid ((HP1.out.next (.cells x.dec.cells.toArray 23)).kept hgr (fun k hk => HA.out.symm k hk))
        have HA3 := Lib.hid (apart_new HA.out (HP1.out.next (.cells x.dec.cells.toArray 23)) hpl)
        have HH3 := Lib.hid ((HH1.out.alloc HH1.out.size _).grown hgr (by have := HH1.out.size; simp only [World.size_alloc]; omega) (fun k hk => (HO1.out.lt k hk).1))
        clear hown hgr hpl k0 k1 k2
        go_roundw
        case rel => exact ⟨i + 1, _, _, rfl, rfl, HI.out, by go_num, by rw [HN.out]; exact HO3.out, by rw [HG.out, List.append_nil]; exact HP3.out, HA3, HH3.out⟩
        case measure => exact tim_meas m i HI.out _ rfl
      · have d1 : decide (1 < x.t) = false := decide_eq_false h1
        rw [if_neg h1] at HN HG
        clear h1 ht
        go_wp2_with (at_builtin; go_must (refine rec_app (S := alS) rfl (.tmp 28) (.tmp 34) 25 rfl rfl w.heap.size y (tickOff (L.take i)) [x.off] (some ⟨v.heap.size, 0, none⟩) 1 1 rfl rfl (HP1.out.next _) (Rec.one (Blk.new v x.off.cells 23)) (by have := (tick_le L i).2; have := HM.out; have := HL.out.1; omega) (by have := HH1.out.size; simp only [World.size_alloc]; omega) ?_); intro v' w2 hown hgr hpl)
        have HP3 := Lib.hid hown
        have HO3 := Lib.hid ((HO1.out.next (.cells x.off.cells.toArray 23)).kept hgr (fun k hk => HA.out k hk))
        have HA3 := Lib.hid (apart_new HA.out.symm (HO1.out.next (.cells x.off.cells.toArray 23)) hpl).symm
        have HH3 := Lib.hid ((HH1.out.alloc HH1.out.size _).grown hgr (by have := HH1.out.size; simp only [World.size_alloc]; omega) (fun k hk => (HP1.out.lt k hk).1))
        clear hown hgr hpl k0 k1 k2
        go_roundw
        case rel => exact ⟨i + 1, _, _, rfl, rfl, HI.out, by go_num, by rw [HN.out, List.append_nil]; exact HO3.out, by rw [HG.out]; exact HP3.out, HA3, HH3.out⟩
        case measure => exact tim_meas m i HI.out _ rfl
    · obtain rfl : i = m := by omega
      go_wp2_with fail
      have h1 := HO.out
      have h2 := HP.out
      rw [← HL.out.1, List.take_length] at h1 h2
      refine bodyPost_ret (v := .tuple #[z, y]) (by simp [results, Try.results23, go_sem]) rfl ⟨z, y, rfl, h1, h2, HA.out, HH.out⟩

set_option maxHeartbeats 1000000 in
theorem rof_any (n : Int) (a : Option Addr) (m c : Nat) (L : List Alm) (w : World) (hL : alS.At w a m c L) (hm : m ≤ 1000000) :
    Calls Try.prog 13 #[.slice a m c, .int .i64 n] w (alS.Got (ofL L n) w) := by
  have HL := Lib.hid hL
  have HM := Lib.hid hm
  have hlen := hL.1
  clear hL
  go_enter Try.func13, Try.ntmps13
  go_upto_region 3 with fail
  go_loopw [5, 10] (fun u j wr => ∃ (i : Nat) (z : Value), z = u ∧ i ≤ m ∧ j = .int .i64 (i : Int) ∧ alS.Own wr w.heap.size z ((L.take i).filter fun x => x.n == n) ∧ Below w.heap.size w wr) (fun _ j _ => (m - intOf j).toNat)
  case atStart => exact ⟨0, _, rfl, Nat.zero_le _, rfl, Shp.Own.none_ _ _, Below.refl _ _⟩
  case round =>
    obtain ⟨i, z, rfl, hi, rfl, hO, hH⟩ := hrel
    have HO := Lib.hid hO
    have HH := Lib.hid hH
    clear hO hH
    by_cases him : i < m
    · obtain ⟨x, hx⟩ : ∃ x, L[i]? = some x := ⟨_, List.getElem?_eq_getElem (by omega)⟩
      obtain ⟨b, q, rfl, hq, c0, c1, c2⟩ := al_at (HL.out.on HH.out) hx
      obtain ⟨r, hr⟩ : ∃ r, (x.n == n) = r := ⟨_, rfl⟩
      have HF := Lib.hid (filter_snoc (fun x => x.n == n) hx _ rfl)
      have him' : (i : Int) < (m : Int) := by omega
      have HI : Hid (i < m) := Lib.hid him
      have e1 : wrap64 ((i : Int) + 1) = (i : Int) + 1 := IntWalk.wrap64_in _ (by omega)
      clear hx him hi
      go_upto_region 5 with fail
      clear c0 c1 c2 hq
      obtain ⟨v, hv⟩ : ∃ v, wr.alloc (.cells #[.int .i64 x.k, .int .i64 x.n, .int .i64 x.t] 23) = v := ⟨_, rfl⟩
      obtain ⟨g, hg⟩ : ∃ g, wr.heap.size = g := ⟨_, rfl⟩
      rw [hv, hg]
      have HO1 := Lib.hid (hv ▸ HO.out.next (.cells #[.int .i64 x.k, .int .i64 x.n, .int .i64 x.t] 23))
      have HH1 := Lib.hid (hv ▸ HH.out.alloc HH.out.size (.cells #[.int .i64 x.k, .int .i64 x.n, .int .i64 x.t] 23))
      have HK : Hid (Blk v g x.cells) := Lib.hid (hv ▸ Blk.newAt hg x.cells 23)
      clear hv hg HH HO
      have k0 := HK.out.cell 0 rfl
      have k1 := HK.out.cell 1 rfl
      have k2 := HK.out.cell 2 rfl
      have HR := Lib.hid hr
      cases r with
      | true =>
        go_wp2_with (at_builtin; refine rec_app (S := alS) rfl (.tmp 18) (.tmp 20) 25 rfl rfl w.heap.size z ((L.take i).filter fun x => x.n == n) [x] (some ⟨v.heap.size, 0, none⟩) 1 1 rfl rfl (HO1.out.next _) (Rec.one (Blk.new v x.cells 23)) (by have := filter_le (fun x => x.n == n) L i 1000000 (by have := HM.out; omega); omega) (by have := HH1.out.size; simp only [World.size_alloc]; omega) ?_; intro v' w2 hown hgr _)
        have HO3 := Lib.hid hown
        have HH3 := Lib.hid ((HH1.out.alloc HH1.out.size _).grown hgr (by have := HH1.out.size; simp only [World.size_alloc]; omega) (fun k hk => (HO1.out.lt k hk).1))
        clear hown hgr k0 k1 k2
        go_roundw
        case rel => exact ⟨i + 1, _, rfl, HI.out, by go_num, by rw [HF.out]; show alS.Own _ _ _ (_ ++ if (x.n == n) = true then [x] else []); rw [HR.out]; exact HO3.out, HH3.out⟩
        case measure => exact tim_meas m i HI.out _ rfl
      | false =>
        go_wp2_with fail
        go_roundw
        case rel => exact ⟨i + 1, _, rfl, HI.out, by go_num, by rw [HF.out]; show alS.Own _ _ _ (_ ++ if (x.n == n) = true then [x] else []); rw [HR.out]; simpa using HO1.out, HH1.out⟩
        case measure => exact tim_meas m i HI.out _ rfl
    · obtain rfl : i = m := by omega
      go_wp2_with fail
      go_ret
      refine ⟨_, rfl, ?_, HH.out⟩
      have := HO.out
      rw [← HL.out.1, List.take_length] at this
      exact this

set_option maxHeartbeats 1000000 in
theorem left_any (k n : Int) (a : Option Addr) (m c : Nat) (L : List Alm) (w : World) (hL : alS.At w a m c L) (hm : m ≤ 1000000) :
    Calls Try.prog 7 #[.slice a m c, .int .i64 k, .int .i64 n] w fun e w' => e = .returned (.int .i64 (leftL L k n)) ∧ Below w.heap.size w w' := by
  have HL := Lib.hid hL
  have hlen := hL.1
  have IS := Lib.hid (fun x => is_gives x k n)
  clear hL
  go_enter Try.func7, Try.ntmps7
  go_upto_region 2 with fail
  go_loopw [11] (fun j wr => ∃ (i : Nat), i ≤ m ∧ j = .int .i64 (i : Int) ∧ Hid (∀ (p : Nat) z, p < i → L[p]? = some z → z.is k n = false) ∧ Below w.heap.size w wr) (fun j _ => (m - intOf j).toNat)
  case atStart => exact ⟨0, Nat.zero_le _, rfl, Lib.hid (fun p z hp => by omega), Below.refl _ _⟩
  case round =>
    obtain ⟨i, hi, rfl, HP, hH⟩ := hrel
    have HH := Lib.hid hH
    clear hH
    by_cases him : i < m
    · obtain ⟨x, hx⟩ : ∃ x, L[i]? = some x := ⟨_, List.getElem?_eq_getElem (by omega)⟩
      obtain ⟨b, q, rfl, hq, c0, c1, c2⟩ := al_at (HL.out.on HH.out) hx
      have HX := Lib.hid hx
      have him' : (i : Int) < (m : Int) := by omega
      have HI : Hid (i < m) := Lib.hid him
      have e1 : wrap64 ((i : Int) + 1) = (i : Int) + 1 := IntWalk.wrap64_in _ (by omega)
      clear hx him hi
      go_upto_region 4 with fail
      clear c0 c1 c2 hq
      obtain ⟨v, hv⟩ : ∃ v, wr.alloc (.cells #[.int .i64 x.k, .int .i64 x.n, .int .i64 x.t] 23) = v := ⟨_, rfl⟩
      obtain ⟨g, hg⟩ : ∃ g, wr.heap.size = g := ⟨_, rfl⟩
      rw [hv, hg]
      have HH1 := Lib.hid (hv ▸ HH.out.alloc HH.out.size (.cells #[.int .i64 x.k, .int .i64 x.n, .int .i64 x.t] 23))
      have HK : Hid (Blk v g x.cells) := Lib.hid (hv ▸ Blk.newAt hg x.cells 23)
      clear hv hg HH
      have k0 := HK.out.cell 0 rfl
      have k1 := HK.out.cell 1 rfl
      have k2 := HK.out.cell 2 rfl
      have ISX := Lib.hid (IS.out x)
      obtain ⟨r, hr⟩ : ∃ r, x.is k n = r := ⟨_, rfl⟩
      rw [hr] at ISX
      have HR := Lib.hid hr
      clear hr
      go_wp2_with fail
      refine (ISX.out _).mono ?_
      rintro e w1 ⟨rfl, hb⟩
      have HH2 := Lib.hid (bel_on HH1.out hb)
      have HK2 := Lib.hid (HK.out.on hb)
      clear hb k0 k1 k2 HH1 HK ISX
      have k2 := HK2.out.cell 2 rfl
      cases r with
      | true =>
        have HE := Lib.hid (left_at HP.out HX.out HR.out)
        go_wp2_with fail
        go_ret
        exact ⟨by rw [HE.out]; rfl, HH2.out⟩
      | false =>
        have HP2 : Hid (∀ (p : Nat) z, p < i + 1 → L[p]? = some z → z.is k n = false) := Lib.hid (fun p z hp hz => by
          by_cases hpi : p = i
          · subst hpi
            rw [HX.out] at hz
            obtain rfl := Option.some.inj hz
            exact HR.out
          · exact HP.out p z (by omega) hz)
        go_wp2_with fail
        go_roundw
        case rel => exact ⟨i + 1, HI.out, by go_num, HP2, HH2.out⟩
        case measure => exact tim_meas m i HI.out _ rfl
    · obtain rfl : i = m := by omega
      have HE := Lib.hid (left_none (L := L) (k := k) (n := n) (fun p z hz => HP.out p z (by have := (List.getElem?_eq_some_iff.1 hz).1; omega) hz))
      go_wp2_with fail
      go_ret
      exact ⟨by rw [HE.out]; rfl, HH.out⟩

set_option maxHeartbeats 1000000 in
theorem next_any (a : Option Addr) (m c : Nat) (L : List Alm) (w : World) (hL : alS.At w a m c L) (hm : m ≤ 1000000) :
    Calls Try.prog 14 #[.slice a m c] w fun e w' => e = .returned (.int .i64 (nextL L)) ∧ Below w.heap.size w w' := by
  have HL := Lib.hid hL
  have hlen := hL.1
  clear hL
  go_enter Try.func14, Try.ntmps14
  go_upto_region 3 with fail
  go_loopw [3, 9] (fun u j wr => ∃ (i : Nat) (N : Int), i ≤ m ∧ j = .int .i64 (i : Int) ∧ u = .int .i64 N ∧ Hid (nextL (L.take i) = N) ∧ Below w.heap.size w wr) (fun _ j _ => (m - intOf j).toNat)
  case atStart => exact ⟨0, 0, Nat.zero_le _, rfl, rfl, Lib.hid rfl, Below.refl _ _⟩
  case round =>
    obtain ⟨i, N, hi, rfl, rfl, HN, hH⟩ := hrel
    have HH := Lib.hid hH
    clear hH
    by_cases him : i < m
    · obtain ⟨x, hx⟩ : ∃ x, L[i]? = some x := ⟨_, List.getElem?_eq_getElem (by omega)⟩
      obtain ⟨b, q, rfl, hq, c0, c1, c2⟩ := al_at (HL.out.on HH.out) hx
      have HX := Lib.hid (next_snoc hx)
      have him' : (i : Int) < (m : Int) := by omega
      have HI : Hid (i < m) := Lib.hid him
      have e1 : wrap64 ((i : Int) + 1) = (i : Int) + 1 := IntWalk.wrap64_in _ (by omega)
      clear hx him hi
      go_upto_region 5 with fail
      clear c0 c1 c2 hq
      obtain ⟨v, hv⟩ : ∃ v, wr.alloc (.cells #[.int .i64 x.k, .int .i64 x.n, .int .i64 x.t] 23) = v := ⟨_, rfl⟩
      obtain ⟨g, hg⟩ : ∃ g, wr.heap.size = g := ⟨_, rfl⟩
      rw [hv, hg]
      have HH1 := Lib.hid (hv ▸ HH.out.alloc HH.out.size (.cells #[.int .i64 x.k, .int .i64 x.n, .int .i64 x.t] 23))
      have HK : Hid (Blk v g x.cells) := Lib.hid (hv ▸ Blk.newAt hg x.cells 23)
      clear hv hg HH
      have k0 := HK.out.cell 0 rfl
      have k1 := HK.out.cell 1 rfl
      have k2 := HK.out.cell 2 rfl
      obtain ⟨y, hy⟩ : ∃ y, max x.t 1 = y := ⟨_, rfl⟩
      have HY : Hid (minL N x.t = if N = 0 ∨ y < N then y else N) := Lib.hid (by
        have hy2 : max x.t 1 = y := by omega
        unfold minL
        rw [hy2])
      by_cases h0 : N = 0
      · have HY2 : Hid (minL N x.t = y) := Lib.hid (by rw [HY.out, if_pos (.inl h0)])
        have t1 : (N == 0) = true := by simpa using h0
        clear h0
        go_wp2_with fail
        go_roundw
        case rel => exact ⟨i + 1, y, HI.out, by go_num, rfl, Lib.hid (by rw [HX.out, HN.out, HY2.out]), HH1.out⟩
        case measure => exact tim_meas m i HI.out _ rfl
      · have t1 : (N == 0) = false := by simpa using h0
        by_cases h1 : y < N
        · have HY2 : Hid (minL N x.t = y) := Lib.hid (by rw [HY.out, if_pos (.inr h1)])
          have t2 : decide (y < N) = true := decide_eq_true h1
          clear h0 h1
          go_wp2_with fail
          go_roundw
          case rel => exact ⟨i + 1, y, HI.out, by go_num, rfl, Lib.hid (by rw [HX.out, HN.out, HY2.out]), HH1.out⟩
          case measure => exact tim_meas m i HI.out _ rfl
        · have HY2 : Hid (minL N x.t = N) := Lib.hid (by rw [HY.out, if_neg (by omega)])
          have t2 : decide (y < N) = false := decide_eq_false h1
          clear h0 h1
          go_wp2_with fail
          go_roundw
          case rel => exact ⟨i + 1, N, HI.out, by go_num, rfl, Lib.hid (by rw [HX.out, HN.out, HY2.out]), HH1.out⟩
          case measure => exact tim_meas m i HI.out _ rfl
    · obtain rfl : i = m := by omega
      have HE : Hid (nextL L = N) := Lib.hid (by
        have := HN.out
        rwa [← HL.out.1, List.take_length] at this)
      go_wp2_with fail
      go_ret
      exact ⟨by rw [HE.out]; rfl, HH.out⟩

set_option maxHeartbeats 1000000 in
theorem rnext_any (a : Option Addr) (m c : Nat) (L : List Alm) (w : World) (hL : alS.At w a m c L) (hm : m ≤ 1000000) :
    Calls Try.prog 15 #[.slice a m c] w fun e w' => e = .returned (.int .i64 (nextL L)) ∧ Below w.heap.size w w' := by
  have HL := Lib.hid hL
  have hlen := hL.1
  clear hL
  go_enter Try.func15, Try.ntmps15
  go_upto_region 3 with fail
  go_loopw [3, 9] (fun u j wr => ∃ (i : Nat) (N : Int), i ≤ m ∧ j = .int .i64 (i : Int) ∧ u = .int .i64 N ∧ Hid (nextL (L.take i) = N) ∧ Below w.heap.size w wr) (fun _ j _ => (m - intOf j).toNat)
  case atStart => exact ⟨0, 0, Nat.zero_le _, rfl, rfl, Lib.hid rfl, Below.refl _ _⟩
  case round =>
    obtain ⟨i, N, hi, rfl, rfl, HN, hH⟩ := hrel
    have HH := Lib.hid hH
    clear hH
    by_cases him : i < m
    · obtain ⟨x, hx⟩ : ∃ x, L[i]? = some x := ⟨_, List.getElem?_eq_getElem (by omega)⟩
      obtain ⟨b, q, rfl, hq, c0, c1, c2⟩ := al_at (HL.out.on HH.out) hx
      have HX := Lib.hid (next_snoc hx)
      have him' : (i : Int) < (m : Int) := by omega
      have HI : Hid (i < m) := Lib.hid him
      have e1 : wrap64 ((i : Int) + 1) = (i : Int) + 1 := IntWalk.wrap64_in _ (by omega)
      clear hx him hi
      go_upto_region 5 with fail
      clear c0 c1 c2 hq
      obtain ⟨v, hv⟩ : ∃ v, wr.alloc (.cells #[.int .i64 x.k, .int .i64 x.n, .int .i64 x.t] 23) = v := ⟨_, rfl⟩
      obtain ⟨g, hg⟩ : ∃ g, wr.heap.size = g := ⟨_, rfl⟩
      rw [hv, hg]
      have HH1 := Lib.hid (hv ▸ HH.out.alloc HH.out.size (.cells #[.int .i64 x.k, .int .i64 x.n, .int .i64 x.t] 23))
      have HK : Hid (Blk v g x.cells) := Lib.hid (hv ▸ Blk.newAt hg x.cells 23)
      clear hv hg HH
      have k0 := HK.out.cell 0 rfl
      have k1 := HK.out.cell 1 rfl
      have k2 := HK.out.cell 2 rfl
      obtain ⟨y, hy⟩ : ∃ y, max 1 x.t = y := ⟨_, rfl⟩
      have HY : Hid (minL N x.t = if N = 0 ∨ y < N then y else N) := Lib.hid (by
        have hy2 : max x.t 1 = y := by omega
        unfold minL
        rw [hy2])
      by_cases h0 : N = 0
      · have HY2 : Hid (minL N x.t = y) := Lib.hid (by rw [HY.out, if_pos (.inl h0)])
        have t1 : (N == 0) = true := by simpa using h0
        clear h0
        go_wp2_with fail
        go_roundw
        case rel => exact ⟨i + 1, y, HI.out, by go_num, rfl, Lib.hid (by rw [HX.out, HN.out, HY2.out]), HH1.out⟩
        case measure => exact tim_meas m i HI.out _ rfl
      · have t1 : (N == 0) = false := by simpa using h0
        by_cases h1 : y < N
        · have HY2 : Hid (minL N x.t = y) := Lib.hid (by rw [HY.out, if_pos (.inr h1)])
          have t2 : decide (y < N) = true := decide_eq_true h1
          clear h0 h1
          go_wp2_with fail
          go_roundw
          case rel => exact ⟨i + 1, y, HI.out, by go_num, rfl, Lib.hid (by rw [HX.out, HN.out, HY2.out]), HH1.out⟩
          case measure => exact tim_meas m i HI.out _ rfl
        · have HY2 : Hid (minL N x.t = N) := Lib.hid (by rw [HY.out, if_neg (by omega)])
          have t2 : decide (y < N) = false := decide_eq_false h1
          clear h0 h1
          go_wp2_with fail
          go_roundw
          case rel => exact ⟨i + 1, N, HI.out, by go_num, rfl, Lib.hid (by rw [HX.out, HN.out, HY2.out]), HH1.out⟩
          case measure => exact tim_meas m i HI.out _ rfl
    · obtain rfl : i = m := by omega
      have HE : Hid (nextL L = N) := Lib.hid (by
        have := HN.out
        rwa [← HL.out.1, List.take_length] at this)
      go_wp2_with fail
      go_ret
      exact ⟨by rw [HE.out]; rfl, HH.out⟩
end Go.Proofs.Ytpfgbdcnfmlkcaa
