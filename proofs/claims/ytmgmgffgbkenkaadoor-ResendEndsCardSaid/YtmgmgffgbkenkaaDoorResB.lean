/- Contracts of package resend, part B: the closure of wrong, IndexFunc, ContainsFunc, wrong, Add. -/
import Derived.Test.YtmgmgffgbkenkaaDoorResA
namespace Go.Proofs.YtmgmgffgbkenkaaDoor
open Go.RowKit Go.Sort

theorem notless_any (x : Snt) (s : Int) (b : Nat) (w : World) (h : Blk w b [.int .i64 s]) :
    Calls Tryd.prog 16 #[(.agg #[.int .i64 x.s, .string x.y, .int .i64 x.t, .int .i64 x.l] : Value), .pointer (some ⟨b, 0, none⟩)] w fun e w' => e = .returned (.bool (decide (s ≤ x.s))) ∧ Below w.heap.size w w' := by
  have c1 := (h.next (.cells #[.int .i64 x.s, .string x.y, .int .i64 x.t, .int .i64 x.l] 37)).cell 0 rfl
  clear h
  go_enter Tryd.func16, Tryd.ntmps16
  go_wp2_with fail
  go_ret
  exact ⟨rfl, (Below.refl w.heap.size w).alloc (Nat.le_refl _) _⟩

/-- A number that is not below 0 just if one is not below s. -/
def Found (L : List Snt) (s : Int) (w : World) (e : Ending) (w' : World) : Prop := ∃ k, e = .returned (.int .i64 k) ∧ decide (0 ≤ k) = (L.any fun x => decide (s ≤ x.s)) ∧ Below w.heap.size w w'
set_option maxHeartbeats 1000000 in
theorem sindex_any (s : Int) (b1 : Nat) (a : Option Addr) (m c : Nat) (L : List Snt) (w : World) (hL : snS.At w a m c L) (hm : m ≤ 1000000) (h1 : Blk w b1 [.int .i64 s]) :
    Calls Tryd.prog 20 #[.slice a m c, .func (.func 16) #[] #[.pointer (some ⟨b1, 0, none⟩)]] w (Found L s w) := by
  have HC : Hid (∀ w', Below w.heap.size w w' → ∀ x : Snt, Calls Tryd.prog 16 #[(.agg #[.int .i64 x.s, .string x.y, .int .i64 x.t, .int .i64 x.l] : Value), .pointer (some ⟨b1, 0, none⟩)] w' fun e w'' => e = .returned (.bool (decide (s ≤ x.s))) ∧ Below w'.heap.size w' w'') := Lib.hid (fun w' hb x => notless_any x s b1 w' (h1.on hb))
  have HL := Lib.hid hL
  have hlen := hL.1
  clear hL h1
  go_enter Tryd.func20, Tryd.ntmps20
  go_upto_region 2 with fail
  go_loopw [8] (fun j wr => ∃ (i : Nat), i ≤ m ∧ j = .int .i64 (i : Int) ∧ Hid (∀ (p : Nat) z, p < i → L[p]? = some z → decide (s ≤ z.s) = false) ∧ Below w.heap.size w wr) (fun j _ => (m - intOf j).toNat)
  case atStart => exact ⟨0, Nat.zero_le _, rfl, Lib.hid (fun p z hp => by omega), Below.refl _ _⟩
  case round =>
    obtain ⟨i, hi, rfl, HP, hH⟩ := hrel
    have HH := Lib.hid hH
    clear hH
    by_cases him : i < m
    · obtain ⟨x, hx⟩ : ∃ x, L[i]? = some x := ⟨_, List.getElem?_eq_getElem (by omega)⟩
      obtain ⟨b, q, rfl, hq, c0, c1, c2, c3⟩ := sn_at (HL.out.on HH.out) hx
      have HX := Lib.hid hx
      have him' : (i : Int) < (m : Int) := by omega
      have HI : Hid (i < m) := Lib.hid him
      have e1 : wrap64 ((i : Int) + 1) = (i : Int) + 1 := IntWalk.wrap64_in _ (by omega)
      obtain ⟨r, hr⟩ : ∃ r, decide (s ≤ x.s) = r := ⟨_, rfl⟩
      have HR := Lib.hid hr
      have HCX := Lib.hid (HC.out _ HH.out x)
      rw [HR.out] at HCX
      have d0 : decide (0 ≤ (i : Int)) = true := decide_eq_true (by omega)
      clear hx him hi hr
      go_wp2_with fail
      refine (HCX.out).mono ?_
      rintro e w1 ⟨rfl, hb⟩
      have HH2 := Lib.hid (bel_on HH.out hb)
      clear hb c0 c1 c2 c3 HCX
      cases r with
      | true =>
        go_wp2_with fail
        go_ret
        exact ⟨_, rfl, d0.trans (any_some HX.out HR.out).symm, HH2.out⟩
      | false =>
        have HP2 : Hid (∀ (p : Nat) z, p < i + 1 → L[p]? = some z → decide (s ≤ z.s) = false) := Lib.hid (fun p z hp hz => by
          by_cases hpi : p = i
          · subst hpi
            rw [HX.out] at hz
            obtain rfl := Option.some.inj hz
            exact HR.out
          · exact HP.out p z (by omega) hz)
        go_wp2_with fail
        go_roundw
        case rel => exact ⟨i + 1, HI.out, by go_num, HP2, HH2.out⟩
        case measure => exact meas_k m i HI.out _ rfl
    · obtain rfl : i = m := by omega
      have HE := Lib.hid (any_none (L := L) (s := s) (fun p z hz => HP.out p z (by have := (List.getElem?_eq_some_iff.1 hz).1; omega) hz))
      go_wp2_with fail
      go_ret
      exact ⟨_, rfl, by rw [HE.out]; rfl, HH.out⟩
theorem scontains_any (s : Int) (b1 : Nat) (a : Option Addr) (m c : Nat) (L : List Snt) (w : World) (hL : snS.At w a m c L) (hm : m ≤ 1000000) (h1 : Blk w b1 [.int .i64 s]) :
    Calls Tryd.prog 15 #[.slice a m c, .func (.func 16) #[] #[.pointer (some ⟨b1, 0, none⟩)]] w fun e w' => e = .returned (.bool (L.any fun x => decide (s ≤ x.s))) ∧ Below w.heap.size w w' := by
  have IX := Lib.hid (sindex_any s b1 a m c L w hL hm h1)
  obtain ⟨r, hr⟩ : ∃ r, (L.any fun x => decide (s ≤ x.s)) = r := ⟨_, rfl⟩
  rw [hr]
  have HR := Lib.hid hr
  clear hL hm h1 hr
  go_enter Tryd.func15, Tryd.ntmps15
  go_wp2_with fail
  refine (IX.out).mono ?_
  rintro e w1 ⟨k, rfl, hk, hb⟩
  rw [HR.out] at hk
  have HB := Lib.hid hb
  clear hb
  go_wp2_with fail
  go_ret
  exact ⟨rfl, HB.out⟩

theorem wrong_range {L : List Snt} {s r : Int} (h : rightS s = false) : wrongE L s r = 1 := by
  unfold wrongE
  rw [if_pos]
  refine .inl ?_
  unfold rightS at h
  by_cases h0 : s < 0
  · exact .inl h0
  · by_cases h1 : 65535 < s
    · exact .inr h1
    · rw [decide_eq_true (by omega : 0 ≤ s), decide_eq_true (by omega : s ≤ 65535)] at h; cases h
theorem wrong_low {L : List Snt} {s r : Int} (h : r < 1) : wrongE L s r = 1 := by
  unfold wrongE
  rw [if_pos (.inr h)]
theorem wrong_in {L : List Snt} {s r : Int} (h : rightS s = true) (hr : ¬ r < 1) : wrongE L s r = if 8 ≤ L.length then 8 else if (L.any fun x => decide (s ≤ x.s)) = true then 10 else 0 := by
  have hb : 0 ≤ s ∧ s ≤ 65535 := by simpa [rightS] using h
  unfold wrongE
  rw [if_neg (by omega)]

set_option maxHeartbeats 1000000 in
theorem wrong_any (s p d r t : Int) (a : Option Addr) (m c : Nat) (L : List Snt) (w : World) (hL : snS.At w a m c L) (hm : m ≤ 1000000) :
    Calls Tryd.prog 10 #[.slice a m c, .int .i64 s, (.agg #[.int .i64 p, .int .i64 d, .int .i64 r, .int .i64 t] : Value)] w fun e w' => e = .returned (.int .i64 (wrongE L s r)) ∧ Below w.heap.size w w' := by
  have hmf : ∀ (fn : Fn) (first cap : Array Value) (w : World), (Instr.makeFunc fn first cap).run Tryd.prog w = .ok (.func fn first cap) w := fun _ _ _ _ => rfl
  have HB : Hid (Below w.heap.size w ((w.alloc (.cells #[.int .i64 s] 3)).alloc (.cells #[.int .i64 p, .int .i64 d, .int .i64 r, .int .i64 t] 24))) := Lib.hid (((Below.refl _ _).alloc (Nat.le_refl _) _).alloc (by simp only [World.size_alloc]; omega) _)
  have CF := Lib.hid (scontains_any s w.heap.size a m c L _ (hL.on HB.out) hm ((Blk.new w [.int .i64 s] 3).next _))
  have R := Lib.hid (fun w => sright_any s w)
  have hlen := hL.1
  obtain ⟨q, hq⟩ : ∃ q, rightS s = q := ⟨_, rfl⟩
  rw [hq] at R
  clear hL hm
  cases q with
  | false =>
    rw [wrong_range hq]
    clear hq CF
    go_enter Tryd.func10, Tryd.ntmps10
    go_wp2_with fail
    refine (R.out _).mono ?_
    rintro e w1 ⟨rfl, rfl⟩
    go_wp2_with fail
    go_ret
    exact ⟨rfl, HB.out⟩
  | true =>
    by_cases h1 : r < 1
    · rw [wrong_low h1]
      have d1 : decide (r < 1) = true := decide_eq_true h1
      clear hq CF h1
      go_enter Tryd.func10, Tryd.ntmps10
      go_wp2_with fail
      refine (R.out _).mono ?_
      rintro e w1 ⟨rfl, rfl⟩
      go_wp2_with fail
      go_ret
      exact ⟨rfl, HB.out⟩
    · have HW := Lib.hid (wrong_in (L := L) hq h1)
      have d1 : decide (r < 1) = false := decide_eq_false h1
      by_cases h8 : 8 ≤ m
      · have HE : Hid (wrongE L s r = 8) := Lib.hid (by rw [HW.out, if_pos (by omega)])
        have d2 : decide ((8 : Int) ≤ (m : Int)) = true := decide_eq_true (by omega)
        rw [HE.out]
        clear hq CF h1 h8 HW
        go_enter Tryd.func10, Tryd.ntmps10
        go_wp2_with fail
        refine (R.out _).mono ?_
        rintro e w1 ⟨rfl, rfl⟩
        go_wp2_with fail
        go_ret
        exact ⟨rfl, HB.out⟩
      · have HE : Hid (wrongE L s r = if (L.any fun x => decide (s ≤ x.s)) = true then 10 else 0) := Lib.hid (by rw [HW.out, if_neg (by omega)])
        have d2 : decide ((8 : Int) ≤ (m : Int)) = false := decide_eq_false (by omega)
        rw [HE.out]
        obtain ⟨z, hz⟩ : ∃ z, (L.any fun x => decide (s ≤ x.s)) = z := ⟨_, rfl⟩
        rw [hz] at CF ⊢
        clear hq h1 h8 HW HE hz
        cases z with
        | true =>
          rw [if_pos rfl]
          go_enter Tryd.func10, Tryd.ntmps10
          go_wp2_with fail
          refine (R.out _).mono ?_
          rintro e w1 ⟨rfl, rfl⟩
          go_wp2_with fail
          refine (CF.out).mono ?_
          rintro e w1 ⟨rfl, hb⟩
          have HB2 := Lib.hid (bel_on HB.out hb)
          clear hb
          go_wp2_with fail
          go_ret
          exact ⟨rfl, HB2.out⟩
        | false =>
          rw [if_neg Bool.false_ne_true]
          go_enter Tryd.func10, Tryd.ntmps10
          go_wp2_with fail
          refine (R.out _).mono ?_
          rintro e w1 ⟨rfl, rfl⟩
          go_wp2_with fail
          refine (CF.out).mono ?_
          rintro e w1 ⟨rfl, hb⟩
          have HB2 := Lib.hid (bel_on HB.out hb)
          clear hb
          go_wp2_with fail
          go_ret
          exact ⟨rfl, HB2.out⟩

/-- What Add answers: a row of its own, and the error. -/
def GotE (L : List Snt) (k : Int) (w : World) (e : Ending) (w' : World) : Prop := ∃ v, e = .returned (.tuple #[v, .int .i64 k]) ∧ snS.Own w' w.heap.size v L ∧ Below w.heap.size w w'
set_option maxHeartbeats 1000000 in
theorem add_any (s : Int) (y : ByteArray) (p d r t : Int) (a : Option Addr) (m c : Nat) (L : List Snt) (w : World) (hL : snS.At w a m c L) (hm : m ≤ 1000000) :
    Calls Tryd.prog 5 #[.slice a m c, .int .i64 s, .string y, (.agg #[.int .i64 p, .int .i64 d, .int .i64 r, .int .i64 t] : Value)] w (GotE (addL L s y r) (wrongE L s r) w) := by
  have HB : Hid (Below w.heap.size w (w.alloc (.cells #[.int .i64 p, .int .i64 d, .int .i64 r, .int .i64 t] 24))) := Lib.hid ((Below.refl _ _).alloc (Nat.le_refl _) _)
  have HK : Hid (Blk (w.alloc (.cells #[.int .i64 p, .int .i64 d, .int .i64 r, .int .i64 t] 24)) w.heap.size [.int .i64 p, .int .i64 d, .int .i64 r, .int .i64 t]) := Lib.hid (Blk.new w [.int .i64 p, .int .i64 d, .int .i64 r, .int .i64 t] 24)
  have CL := Lib.hid (sclone_any a m c L _ (hL.on HB.out) hm)
  have HM : Hid (L.length ≤ 1000000) := Lib.hid (by have := hL.1; omega)
  obtain ⟨k, hk⟩ : ∃ k, wrongE L s r = k := ⟨_, rfl⟩
  have HE := Lib.hid hk
  rw [hk]
  clear hL hm hk
  go_enter Tryd.func5, Tryd.ntmps5
  go_wp2_with fail
  refine (CL.out).mono ?_
  rintro e w1 ⟨v, rfl, ho, hb⟩
  obtain ⟨a1, c1, rfl, hat, _⟩ := ho.shape
  have HO := Lib.hid (ho.lower HB.out.size)
  have HB1 := Lib.hid (bel_on HB.out hb)
  have HK1 := Lib.hid (HK.out.on hb)
  have WR := Lib.hid (wrong_any s p d r t a1 L.length c1 L w1 hat HM.out)
  rw [HE.out] at WR
  clear ho hb hat CL HK
  have k0 := HK1.out.cell 0 rfl
  have k1 := HK1.out.cell 1 rfl
  have k2 := HK1.out.cell 2 rfl
  have k3 := HK1.out.cell 3 rfl
  go_wp2_with fail
  refine (WR.out).mono ?_
  rintro e w2 ⟨rfl, hb⟩
  have HO2 := Lib.hid (HO.out.on hb)
  have HB2 := Lib.hid (bel_on HB1.out hb)
  have HK2 := Lib.hid (HK1.out.on hb)
  clear hb k0 k1 k2 k3 HO HB1 HK1 WR
  have k2 := HK2.out.cell 2 rfl
  by_cases h0 : k = 0
  · subst h0
    have HA := Lib.hid (addL_ok y HE.out)
    go_wp2_with (at_builtin; go_must (refine rec_app (S := snS) rfl (.tmp 21) (.tmp 27) 27 rfl rfl w.heap.size _ L [⟨s, y, 1, r⟩] (some ⟨w2.heap.size, 0, none⟩) 1 1 rfl rfl (HO2.out.next _) (Rec.one (Blk.new w2 (Snt.cells ⟨s, y, 1, r⟩) 37)) (by have := HM.out; omega) (by have := HB2.out.size; simp only [World.size_alloc]; omega) ?_); intro v' w3 hown hgr _)
    go_wp2_with fail
    refine bodyPost_ret (v := .tuple #[v', .int .i64 0]) (by simp [results, Tryd.results5, go_sem]) rfl ⟨v', rfl, by rw [HA.out]; exact hown, ?_⟩
    exact (HB2.out.alloc HB2.out.size _).grown hgr (by have := HB2.out.size; simp only [World.size_alloc]; omega) (fun k hk => (HO2.out.lt k hk).1)
  · have HA := Lib.hid (addL_no y (by rw [HE.out]; exact h0))
    have t1 : (k != 0) = true := by simpa using h0
    clear h0
    go_wp2_with fail
    exact bodyPost_ret (v := .tuple #[.slice a1 L.length c1, .int .i64 k]) (by simp [results, Tryd.results5, go_sem]) rfl ⟨_, rfl, by rw [HA.out]; exact HO2.out, HB2.out⟩
end Go.Proofs.YtmgmgffgbkenkaaDoor
