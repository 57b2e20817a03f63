/- Contracts of package timer, part B: only, Stop, Of; the document's own Of. -/
import Derived.Test.YtpfgbdcnfmlkcaaTimA
namespace Go.Proofs.Ytpfgbdcnfmlkcaa
open Go.RowKit Go.Sort

theorem tim_meas (m i : Nat) (h : i < m) (v : Int) (hv : v = (i : Int) + 1) : (m - intOf (.int .i64 v)).toNat < (m - intOf (.int .i64 (i : Int))).toNat := by
  subst hv
  simp [intOf]; omega
theorem filter_snoc {L : List Alm} {i : Nat} {x : Alm} (p : Alm → Bool) (h : L[i]? = some x) (M : List Alm) (hM : (L.take i).filter p = M) : (L.take (i + 1)).filter p = M ++ (if p x = true then [x] else []) := by
  rw [take_snoc h, List.filter_append, hM]
  by_cases hp : p x = true
  · rw [if_pos hp, List.filter_cons_of_pos hp]; rfl
  · rw [if_neg hp, List.filter_cons_of_neg hp]; rfl
theorem filter_le (p : Alm → Bool) (L : List Alm) (i m : Nat) (h : L.length ≤ m) : ((L.take i).filter p).length ≤ m := Nat.le_trans (List.length_filter_le _ _) (by rw [List.length_take]; omega)

set_option maxHeartbeats 1000000 in
theorem only_stop (k n : Int) (b1 b2 : Nat) (a : Option Addr) (m c : Nat) (L : List Alm) (w : World) (hL : alS.At w a m c L) (hm : m ≤ 1000000) (h1 : Blk w b1 [.int .i64 k]) (h2 : Blk w b2 [.int .i64 n]) :
    Calls Try.prog 24 #[.slice a m c, .func (.func 29) #[] #[.pointer (some ⟨b1, 0, none⟩), .pointer (some ⟨b2, 0, none⟩)]] w (alS.Got (L.filter fun x => !x.is k n) w) := by
  have HC : Hid (∀ w', Below w.heap.size w w' → ∀ x : Alm, Calls Try.prog 29 #[(.agg #[.int .i64 x.k, .int .i64 x.n, .int .i64 x.t] : Value), .pointer (some ⟨b1, 0, none⟩), .pointer (some ⟨b2, 0, none⟩)] w' fun e w'' => e = .returned (.bool (!x.is k n)) ∧ Below w'.heap.size w' w'') := Lib.hid (fun w' hb x => stopper_any x k n b1 b2 w' (h1.on hb) (h2.on hb))
  have HL := Lib.hid hL
  have HM := Lib.hid hm
  have hlen := hL.1
  clear hL h1 h2
  go_enter Try.func24, Try.ntmps24
  go_upto_region 3 with fail
  go_loopw [5, 10] (fun u j wr => ∃ (i : Nat) (z : Value), z = u ∧ i ≤ m ∧ j = .int .i64 (i : Int) ∧ alS.Own wr w.heap.size z ((L.take i).filter fun x => !x.is k n) ∧ Below w.heap.size w wr) (fun _ j _ => (m - intOf j).toNat)
  case atStart => exact ⟨0, _, rfl, Nat.zero_le _, rfl, Shp.Own.none_ _ _, Below.refl _ _⟩
  case round =>
    obtain ⟨i, z, rfl, hi, rfl, hO, hH⟩ := hrel
    have HO := Lib.hid hO
    have HH := Lib.hid hH
    clear hO hH
    by_cases him : i < m
    · obtain ⟨x, hx⟩ : ∃ x, L[i]? = some x := ⟨_, List.getElem?_eq_getElem (by omega)⟩
      obtain ⟨b, q, rfl, hq, c0, c1, c2⟩ := al_at (HL.out.on HH.out) hx
      obtain ⟨r, hr⟩ : ∃ r, (!x.is k n) = r := ⟨_, rfl⟩
      have HF := Lib.hid (filter_snoc (fun x => !x.is k n) hx _ rfl)
      have HR := Lib.hid hr
      have him' : (i : Int) < (m : Int) := by omega
      have HI : Hid (i < m) := Lib.hid him
      have e1 : wrap64 ((i : Int) + 1) = (i : Int) + 1 := IntWalk.wrap64_in _ (by omega)
      clear hx hr him hi
      go_upto_region 5 with fail
      clear c0 c1 c2 hq
      obtain ⟨v, hv⟩ : ∃ v, wr.alloc (.cells #[.int .i64 x.k, .int .i64 x.n, .int .i64 x.t] 23) = v := ⟨_, rfl⟩
      obtain ⟨g, hg⟩ : ∃ g, wr.heap.size = g := ⟨_, rfl⟩
      rw [hv, hg]
      have HO1 := Lib.hid (hv ▸ HO.out.next (.cells #[.int .i64 x.k, .int .i64 x.n, .int .i64 x.t] 23))
      have HH1 := Lib.hid (hv ▸ HH.out.alloc HH.out.size (.cells #[.int .i64 x.k, .int .i64 x.n, .int .i64 x.t] 23))
      have HK : Hid (Blk v g x.cells) := Lib.hid (hv ▸ Blk.newAt hg x.cells 23)
      clear hv hg HO HH
      have k0 := HK.out.cell 0 rfl
      have k1 := HK.out.cell 1 rfl
      have k2 := HK.out.cell 2 rfl
      have HCX := Lib.hid (HC.out _ HH1.out x)
      rw [HR.out] at HCX
      go_wp2_with fail
      refine (HCX.out).mono ?_
      rintro e w1 ⟨rfl, hb⟩
      have HO2 := Lib.hid (HO1.out.on hb)
      have HH2 := Lib.hid (bel_on HH1.out hb)
      have HK2 := Lib.hid (HK.out.on hb)
      clear hb k0 k1 k2 HO1 HH1 HK HCX
      cases r with
      | true =>
        have k0 := HK2.out.cell 0 rfl
        have k1 := HK2.out.cell 1 rfl
        have k2 := HK2.out.cell 2 rfl
        go_wp2_with (at_builtin; go_must (refine rec_app (S := alS) rfl (.tmp 17) (.tmp 19) 25 rfl rfl w.heap.size z ((L.take i).filter fun x => !x.is k n) [x] (some ⟨w1.heap.size, 0, none⟩) 1 1 rfl rfl (HO2.out.next _) (Rec.one (Blk.new w1 x.cells 23)) (by have := filter_le (fun x => !x.is k n) L i 1000000 (by have := HM.out; omega); omega) (by have := HH2.out.size; simp only [World.size_alloc]; omega) ?_); intro v' w2 hown hgr _)
        have HO3 := Lib.hid hown
        have HH3 := Lib.hid ((HH2.out.alloc HH2.out.size _).grown hgr (by have := HH2.out.size; simp only [World.size_alloc]; omega) (fun k hk => (HO2.out.lt k hk).1))
        clear hown hgr k0 k1 k2
        go_roundw
        case rel => exact ⟨i + 1, _, rfl, HI.out, by go_num, by rw [HF.out]; show alS.Own _ _ _ (_ ++ if (!x.is k n) = true then [x] else []); rw [HR.out]; exact HO3.out, HH3.out⟩
        case measure => exact tim_meas m i HI.out _ rfl
      | false =>
        go_wp2_with fail
        go_roundw
        case rel => exact ⟨i + 1, _, rfl, HI.out, by go_num, by rw [HF.out]; show alS.Own _ _ _ (_ ++ if (!x.is k n) = true then [x] else []); rw [HR.out]; simpa using HO2.out, HH2.out⟩
        case measure => exact tim_meas m i HI.out _ rfl
    · obtain rfl : i = m := by omega
      go_wp2_with fail
      go_ret
      refine ⟨_, rfl, ?_, HH.out⟩
      have := HO.out
      rw [← HL.out.1, List.take_length] at this
      exact this

set_option maxHeartbeats 1000000 in
theorem only_of (n : Int) (b1 : Nat) (a : Option Addr) (m c : Nat) (L : List Alm) (w : World) (hL : alS.At w a m c L) (hm : m ≤ 1000000) (h1 : Blk w b1 [.int .i64 n]) :
    Calls Try.prog 24 #[.slice a m c, .func (.func 25) #[] #[.pointer (some ⟨b1, 0, none⟩)]] w (alS.Got (L.filter fun x => x.n == n) w) := by
  have HC : Hid (∀ w', Below w.heap.size w w' → ∀ x : Alm, Calls Try.prog 25 #[(.agg #[.int .i64 x.k, .int .i64 x.n, .int .i64 x.t] : Value), .pointer (some ⟨b1, 0, none⟩)] w' fun e w'' => e = .returned (.bool (x.n == n)) ∧ Below w'.heap.size w' w'') := Lib.hid (fun w' hb x => ofer_any x n b1 w' (h1.on hb))
  have HL := Lib.hid hL
  have HM := Lib.hid hm
  have hlen := hL.1
  clear hL h1
  go_enter Try.func24, Try.ntmps24
  go_upto_region 3 with fail
  go_loopw [5, 10] (fun u j wr => ∃ (i : Nat) (z : Value), z = u ∧ i ≤ m ∧ j = .int .i64 (i : Int) ∧ alS.Own wr w.heap.size z ((L.take i).filter fun x => x.n == n) ∧ Below w.heap.size w wr) (fun _ j _ => (m - intOf j).toNat)
  case atStart => exact ⟨0, _, rfl, Nat.zero_le _, rfl, Shp.Own.none_ _ _, Below.refl _ _⟩
  case round =>
    obtain ⟨i, z, rfl, hi, rfl, hO, hH⟩ := hrel
    have HO := Lib.hid hO
    have HH := Lib.hid hH
    clear hO hH
    by_cases him : i < m
    · obtain ⟨x, hx⟩ : ∃ x, L[i]? = some x := ⟨_, List.getElem?_eq_getElem (by omega)⟩
      obtain ⟨b, q, rfl, hq, c0, c1, c2⟩ := al_at (HL.out.on HH.out) hx
      obtain ⟨r, hr⟩ : ∃ r, (x.n == n) = r := ⟨_, rfl⟩
      have HF := Lib.hid (filter_snoc (fun x => x.n == n) hx _ rfl)
      have HR := Lib.hid hr
      have him' : (i : Int) < (m : Int) := by omega
      have HI : Hid (i < m) := Lib.hid him
      have e1 : wrap64 ((i : Int) + 1) = (i : Int) + 1 := IntWalk.wrap64_in _ (by omega)
      clear hx hr him hi
      go_upto_region 5 with fail
      clear c0 c1 c2 hq
      obtain ⟨v, hv⟩ : ∃ v, wr.alloc (.cells #[.int .i64 x.k, .int .i64 x.n, .int .i64 x.t] 23) = v := ⟨_, rfl⟩
      obtain ⟨g, hg⟩ : ∃ g, wr.heap.size = g := ⟨_, rfl⟩
      rw [hv, hg]
      have HO1 := Lib.hid (hv ▸ HO.out.next (.cells #[.int .i64 x.k, .int .i64 x.n, .int .i64 x.t] 23))
      have HH1 := Lib.hid (hv ▸ HH.out.alloc HH.out.size (.cells #[.int .i64 x.k, .int .i64 x.n, .int .i64 x.t] 23))
      have HK : Hid (Blk v g x.cells) := Lib.hid (hv ▸ Blk.newAt hg x.cells 23)
      clear hv hg HO HH
      have k0 := HK.out.cell 0 rfl
      have k1 := HK.out.cell 1 rfl
      have k2 := HK.out.cell 2 rfl
      have HCX := Lib.hid (HC.out _ HH1.out x)
      rw [HR.out] at HCX
      go_wp2_with fail
      refine (HCX.out).mono ?_
      rintro e w1 ⟨rfl, hb⟩
      have HO2 := Lib.hid (HO1.out.on hb)
      have HH2 := Lib.hid (bel_on HH1.out hb)
      have HK2 := Lib.hid (HK.out.on hb)
      clear hb k0 k1 k2 HO1 HH1 HK HCX
      cases r with
      | true =>
        have k0 := HK2.out.cell 0 rfl
        have k1 := HK2.out.cell 1 rfl
        have k2 := HK2.out.cell 2 rfl
        go_wp2_with (at_builtin; go_must (refine rec_app (S := alS) rfl (.tmp 17) (.tmp 19) 25 rfl rfl w.heap.size z ((L.take i).filter fun x => x.n == n) [x] (some ⟨w1.heap.size, 0, none⟩) 1 1 rfl rfl (HO2.out.next _) (Rec.one (Blk.new w1 x.cells 23)) (by have := filter_le (fun x => x.n == n) L i 1000000 (by have := HM.out; omega); omega) (by have := HH2.out.size; simp only [World.size_alloc]; omega) ?_); intro v' w2 hown hgr _)
        have HO3 := Lib.hid hown
        have HH3 := Lib.hid ((HH2.out.alloc HH2.out.size _).grown hgr (by have := HH2.out.size; simp only [World.size_alloc]; omega) (fun k hk => (HO2.out.lt k hk).1))
        clear hown hgr k0 k1 k2
        go_roundw
        case rel => exact ⟨i + 1, _, rfl, HI.out, by go_num, by rw [HF.out]; show alS.Own _ _ _ (_ ++ if (x.n == n) = true then [x] else []); rw [HR.out]; exact HO3.out, HH3.out⟩
        case measure => exact tim_meas m i HI.out _ rfl
      | false =>
        go_wp2_with fail
        go_roundw
        case rel => exact ⟨i + 1, _, rfl, HI.out, by go_num, by rw [HF.out]; show alS.Own _ _ _ (_ ++ if (x.n == n) = true then [x] else []); rw [HR.out]; simpa using HO2.out, HH2.out⟩
        case measure => exact tim_meas m i HI.out _ rfl
    · obtain rfl : i = m := by omega
      go_wp2_with fail
      go_ret
      refine ⟨_, rfl, ?_, HH.out⟩
      have := HO.out
      rw [← HL.out.1, List.take_length] at this
      exact this

theorem stop_any (k n : Int) (a : Option Addr) (m c : Nat) (L : List Alm) (w : World) (hL : alS.At w a m c L) (hm : m ≤ 1000000) :
    Calls Try.prog 20 #[.slice a m c, .int .i64 k, .int .i64 n] w (alS.Got (stopL L k n) w) := by
  have hmf : ∀ (fn : Fn) (first cap : Array Value) (w : World), (Instr.makeFunc fn first cap).run Try.prog w = .ok (.func fn first cap) w := fun _ _ _ _ => rfl
  have HB : Hid (Below w.heap.size w ((w.alloc (.cells #[.int .i64 k] 3)).alloc (.cells #[.int .i64 n] 3))) := Lib.hid (((Below.refl _ _).alloc (Nat.le_refl _) _).alloc (by simp only [World.size_alloc]; omega) _)
  have ON := Lib.hid (only_stop k n w.heap.size (w.heap.size + 1) a m c L _ (hL.on HB.out) hm ((Blk.new w [.int .i64 k] 3).next _) (Blk.newAt (by simp only [World.size_alloc]) [.int .i64 n] 3))
  clear hL hm
  go_enter Try.func20, Try.ntmps20
  go_wp2_with fail
  refine (ON.out).mono ?_
  rintro e w1 ⟨v, rfl, ho, hb⟩
  have HO := Lib.hid (ho.lower HB.out.size)
  have HH := Lib.hid (bel_on HB.out hb)
  clear ho hb
  go_wp2_with fail
  go_ret
  exact ⟨_, rfl, HO.out, HH.out⟩

theorem of_any (n : Int) (a : Option Addr) (m c : Nat) (L : List Alm) (w : World) (hL : alS.At w a m c L) (hm : m ≤ 1000000) :
    Calls Try.prog 12 #[.slice a m c, .int .i64 n] w (alS.Got (ofL L n) w) := by
  have hmf : ∀ (fn : Fn) (first cap : Array Value) (w : World), (Instr.makeFunc fn first cap).run Try.prog w = .ok (.func fn first cap) w := fun _ _ _ _ => rfl
  have HB : Hid (Below w.heap.size w (w.alloc (.cells #[.int .i64 n] 3))) := Lib.hid ((Below.refl _ _).alloc (Nat.le_refl _) _)
  have ON := Lib.hid (only_of n w.heap.size a m c L _ (hL.on HB.out) hm (Blk.new w [.int .i64 n] 3))
  clear hL hm
  go_enter Try.func12, Try.ntmps12
  go_wp2_with fail
  refine (ON.out).mono ?_
  rintro e w1 ⟨v, rfl, ho, hb⟩
  have HO := Lib.hid (ho.lower HB.out.size)
  have HH := Lib.hid (bel_on HB.out hb)
  clear ho hb
  go_wp2_with fail
  go_ret
  exact ⟨_, rfl, HO.out, HH.out⟩
end Go.Proofs.Ytpfgbdcnfmlkcaa
