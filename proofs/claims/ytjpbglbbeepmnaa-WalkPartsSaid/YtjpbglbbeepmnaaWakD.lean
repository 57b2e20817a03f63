/- Contracts of law 24: its own comparison, tree and example (same, some, awake). -/
import Derived.Test.YtjpbglbbeepmnaaWakC
namespace Go.Proofs.Ytjpbglbbeepmnaa
open Go.RowKit Go.Sort TreF WakF
attribute [local go_sem ↓] loadAt_tre storeAt_tre loadAt_ent storeAt_ent

theorem same_take {l m : List Nat} {k x y : Nat} (h : l.take k = m.take k) (hx : l[k]? = some x) (hy : m[k]? = some y) (he : x = y) : l.take (k + 1) = m.take (k + 1) := by
  subst he
  rw [List.take_add_one, List.take_add_one, hx, hy, h]
set_option maxRecDepth 100000 in
theorem same_any (a b : Option Addr) (c d : Nat) (l m : List Nat) (w : World) (h : NatAt w a 0 l) (h2 : NatAt w b 0 m) (hl : l.length ≤ 16) (hm : m.length ≤ 16) :
    Calls Try.prog 10 #[.slice a l.length c, .slice b m.length d] w fun e w' => e = .returned (.bool (decide (l = m))) ∧ Below w.heap.size w w' := by
  have H := Lib.hid h
  have H2 := Lib.hid h2
  obtain ⟨p, hp⟩ : ∃ p, l.length = p := ⟨_, rfl⟩
  obtain ⟨q, hq⟩ : ∃ q, m.length = q := ⟨_, rfl⟩
  have HP := Lib.hid hp
  have HQ := Lib.hid hq
  rw [hp] at hl ⊢
  rw [hq] at hm ⊢
  clear h h2 hp hq
  by_cases hpq : p = q
  · subst hpq
    have hne : ((p : Int) != (p : Int)) = false := by simp
    go_enter Try.func10, Try.ntmps10
    go_wp2_with fail
    go_loopw [13] (fun v wr => ∃ k : Nat, v = .int .i64 (k : Int) ∧ k ≤ p ∧ Hid (l.take k = m.take k) ∧ Hid (Below w.heap.size w wr)) (fun v _ => (p - intOf v).toNat)
    case atStart => exact ⟨0, rfl, Nat.zero_le _, Lib.hid rfl, Lib.hid (Below.refl _ _)⟩
    case round =>
      obtain ⟨k, rfl, hk, HA, HB⟩ := hrel
      by_cases hkp : k < p
      · obtain ⟨x, hx⟩ : ∃ x, l[k]? = some x := ⟨_, List.getElem?_eq_getElem (by have := HP.out; omega)⟩
        obtain ⟨y, hy⟩ : ∃ y, m[k]? = some y := ⟨_, List.getElem?_eq_getElem (by have := HQ.out; omega)⟩
        obtain ⟨g, rfl, _, c1⟩ := (H.out.on HB.out).read hx
        obtain ⟨g2, rfl, _, c2⟩ := (H2.out.on HB.out).read hy
        have HX := Lib.hid hx
        have HY := Lib.hid hy
        have HK := Lib.hid hkp
        have k0 : (0 : Int) ≤ (k : Int) := by omega
        have k1 : (k : Int) < (p : Int) := by omega
        clear hx hy
        by_cases hxy : x = y
        · subst hxy
          have hz : ((x : Int) != (x : Int)) = false := by simp
          have HE := Lib.hid (same_take HA.out HX.out HY.out rfl)
          go_upto_region 6 with fail
          go_quiet (fail)
          go_wp2_with fail
          go_roundw
          case rel => exact ⟨k + 1, by go_num, HK.out, HE, Lib.hid (below_drewN HB.out _)⟩
          case measure => exact meas_up p k _ rfl HK.out
        · have hz : ((x : Int) != (y : Int)) = true := by simp only [bne_iff_ne]; omega
          have HE : Hid (decide (l = m) = false) := Lib.hid (decide_eq_false fun e => hxy (by
            have h1 := HX.out
            rw [e, HY.out] at h1
            exact (Option.some.inj h1).symm))
          clear hxy
          go_upto_region 6 with fail
          go_quiet (fail)
          go_wp2_with fail
          go_ret
          exact ⟨by rw [HE.out]; rfl, below_drewN HB.out _⟩
      · obtain rfl : k = p := by omega
        have HE : Hid (decide (l = m) = true) := Lib.hid (decide_eq_true (by
          have h1 := HA.out
          rwa [List.take_of_length_le (by have := HP.out; omega), List.take_of_length_le (by have := HQ.out; omega)] at h1))
        go_wp2_with fail
        go_ret
        exact ⟨by rw [HE.out]; rfl, HB.out⟩
  · have hne : ((p : Int) != (q : Int)) = true := by simp only [bne_iff_ne]; omega
    have HE : Hid (decide (l = m) = false) := Lib.hid (decide_eq_false fun e => hpq (by
      have h1 := HP.out
      rw [e, HQ.out] at h1
      exact h1.symm))
    clear hpq
    go_enter Try.func10, Try.ntmps10
    go_wp2_with fail
    go_ret
    exact ⟨by rw [HE.out]; rfl, Below.refl _ _⟩

/-- The law's own tree. -/
def t24a : Tr := putT (newT 2) 5 (7, 2)
def t24b : Tr := putT t24a 1 (9, 5)
def t24c : Tr := putT t24b 8 (9, 8)
theorem ok24a : Ok (7, 2) := by refine ⟨?_, ?_, ?_⟩ <;> decide
theorem ok24b : Ok (9, 5) := by refine ⟨?_, ?_, ?_⟩ <;> decide
theorem ok24c : Ok (9, 8) := by refine ⟨?_, ?_, ?_⟩ <;> decide
theorem t24a_tre : Tre t24a := (Tre.new 2).put 5 ok24a
theorem t24b_tre : Tre t24b := t24a_tre.put 1 ok24b
theorem t24c_tre : Tre t24c := t24b_tre.put 8 ok24c
theorem ex1 : backT t24c 2 1 = [1, 5, 2] := by decide +kernel
theorem ex2 : backT t24c 2 8 = [] := by decide +kernel
theorem ex3 : backT t24c 2 9 = [] := by decide +kernel
theorem ex4 : pathT t24c 2 1 = [2, 5, 1] := by decide +kernel
theorem ex5 : firstT t24c 2 1 = 5 := by decide +kernel
theorem ex6 : firstT t24c 2 2 = -1 := by decide +kernel
theorem ex7 : hopsT t24c 2 1 = 2 := by decide +kernel
theorem ex8 : hopsT t24c 2 2 = 0 := by decide +kernel
theorem ex9 : hopsT t24c 2 8 = -1 := by decide +kernel

set_option maxRecDepth 100000 in
theorem some_any : Gives Try.prog 36 #[] (.agg (treC t24c).toArray) := fun w => by
  have N2 := Lib.hid (tnew_any 2)
  have P1 : Hid (Gives Try.prog 41 #[.agg (treC (newT 2)).toArray, .int .i64 5, .agg #[.int .u32 7, .int .i64 2]] (.agg (treC t24a).toArray)) := Lib.hid (tput_any (newT 2) 5 7 2 (Tre.new 2) ok24a)
  have P2 : Hid (Gives Try.prog 41 #[.agg (treC t24a).toArray, .int .i64 1, .agg #[.int .u32 9, .int .i64 5]] (.agg (treC t24b).toArray)) := Lib.hid (tput_any t24a 1 9 5 t24a_tre ok24b)
  have P3 : Hid (Gives Try.prog 41 #[.agg (treC t24b).toArray, .int .i64 8, .agg #[.int .u32 9, .int .i64 8]] (.agg (treC t24c).toArray)) := Lib.hid (tput_any t24b 8 9 8 t24b_tre ok24c)
  have HA := Lib.hid t24a_tre
  have HBt := Lib.hid t24b_tre
  have HC := Lib.hid t24c_tre
  generalize newT 2 = n2 at N2 P1
  generalize t24a = ta at P1 P2 HA
  generalize t24b = tb at P2 P3 HBt
  generalize t24c = tc at P3 HC ⊢
  go_enter Try.func36, Try.ntmps36
  go_upto_region 1 with fail
  have b0 := tzero_new w
  have bb := (Below.refl w.heap.size w).alloc (Nat.le_refl _) (.cells (treC zero16).toArray 26)
  rw [zero_cells] at bb
  obtain ⟨w1, hw1⟩ : ∃ v, w.alloc (.cells #[.int .u32 0, .int .i64 0, .int .u32 0, .int .i64 0, .int .u32 0, .int .i64 0, .int .u32 0, .int .i64 0, .int .u32 0, .int .i64 0, .int .u32 0, .int .i64 0, .int .u32 0, .int .i64 0, .int .u32 0, .int .i64 0, .int .u32 0, .int .i64 0, .int .u32 0, .int .i64 0, .int .u32 0, .int .i64 0, .int .u32 0, .int .i64 0, .int .u32 0, .int .i64 0, .int .u32 0, .int .i64 0, .int .u32 0, .int .i64 0, .int .u32 0, .int .i64 0] 26) = v := ⟨_, rfl⟩
  rw [hw1] at b0 bb ⊢
  clear hw1
  have K0 := Lib.hid b0
  have KB := Lib.hid bb
  clear b0 bb
  go_wp2_with fail
  refine (N2.out _).mono ?_
  rintro e w2 ⟨rfl, hb⟩
  have K0' := Lib.hid (K0.out.on hb)
  have KB' := Lib.hid (bel_on KB.out hb)
  clear hb K0 KB
  go_wp2_with fail
  refine (P1.out _).mono ?_
  rintro e w3 ⟨rfl, hb⟩
  have K0 := Lib.hid (K0'.out.on hb)
  have KB := Lib.hid (bel_on KB'.out hb)
  clear hb K0' KB'
  have hst := new_tre (w := w3) rfl HA.out
  go_upto_region 2 with fail
  clear hst
  have k1 := Blk.new w3 (treC ta) 26
  have k0 := K0.out.next (.cells (treC ta).toArray 26)
  have kb := KB.out.alloc KB.out.size (.cells (treC ta).toArray 26)
  have hlt := K0.out.lt
  obtain ⟨w4, hw4⟩ : ∃ v, w3.alloc (.cells (treC ta).toArray 26) = v := ⟨_, rfl⟩
  rw [hw4] at k0 k1 kb ⊢
  obtain ⟨b, hbn⟩ : ∃ b, w3.heap.size = b := ⟨_, rfl⟩
  rw [hbn] at k1 hlt ⊢
  clear hbn hw4 K0 KB
  have K0 := Lib.hid k0
  have K1 := Lib.hid k1
  have KB := Lib.hid kb
  have HLT := Lib.hid hlt
  clear k0 k1 kb hlt
  have l1 := tre_load K1.out HA.out
  go_wp2_with fail
  refine (P2.out _).mono ?_
  rintro e w5 ⟨rfl, hb⟩
  clear l1
  have s1 := tre_store (K1.out.on hb) HA.out HBt.out
  have K1' := Lib.hid ((K1.out.on hb).put (treC tb))
  have K0' := Lib.hid ((K0.out.on hb).beside b (by have := HLT.out; omega) (treC tb).toArray)
  have KB' := Lib.hid (below_setRow (bel_on KB.out hb) (show w.heap.size ≤ b by have := HLT.out; omega) (treC tb).toArray)
  clear hb K0 K1 KB
  go_upto_region 3 with fail
  clear s1
  obtain ⟨w6, hw6⟩ : ∃ v, w5.setRow b (treC tb).toArray = v := ⟨_, rfl⟩
  have K0 : Hid (Blk w6 w.heap.size (treC zero16)) := Lib.hid (hw6 ▸ K0'.out)
  have K1 : Hid (Blk w6 b (treC tb)) := Lib.hid (hw6 ▸ K1'.out)
  have KB : Hid (Below w.heap.size w w6) := Lib.hid (hw6 ▸ KB'.out)
  rw [hw6]
  clear hw6 K0' K1' KB'
  have l1 := tre_load K1.out HBt.out
  go_wp2_with fail
  refine (P3.out _).mono ?_
  rintro e w7 ⟨rfl, hb⟩
  clear l1
  have s1 := tre_store (K0.out.on hb) Tre.zero HC.out
  have hv := tre_var ((K0.out.on hb).put (treC tc)) HC.out
  have HB := below_setRow (bel_on KB.out hb) (Nat.le_refl _) (treC tc).toArray
  clear hb K0 K1 KB
  go_wp2_with fail
  exact bodyPost_ret (v := .agg (treC tc).toArray) (by simp [results, Try.results36, asAddr, hv]) rfl ⟨rfl, HB⟩

theorem lit_new (w : World) (l : List Nat) : NatAt (w.alloc (.cells (natV l).toArray 3)) (some ⟨w.heap.size, 0, none⟩) 0 l := NatAt.lit (heap_alloc_new w _) 0 (Nat.zero_le _)
set_option maxHeartbeats 1000000 in
set_option maxRecDepth 100000 in
theorem awake_any : Gives Try.prog 15 #[] (.bool true) := fun w => by
  have SO := Lib.hid some_any
  have B1 : Hid (∀ w, Calls Try.prog 6 #[.agg (treC t24c).toArray, .int .i64 2, .int .i64 1] w (BackP [1, 5, 2] w)) := Lib.hid (fun w => by have h := wback_any t24c 2 1 t24c_tre w; rwa [ex1] at h)
  have B8 : Hid (∀ w, Calls Try.prog 6 #[.agg (treC t24c).toArray, .int .i64 2, .int .i64 8] w (BackP [] w)) := Lib.hid (fun w => by have h := wback_any t24c 2 8 t24c_tre w; rwa [ex2] at h)
  have B9 : Hid (∀ w, Calls Try.prog 6 #[.agg (treC t24c).toArray, .int .i64 2, .int .i64 9] w (BackP [] w)) := Lib.hid (fun w => by have h := wback_any t24c 2 9 t24c_tre w; rwa [ex3] at h)
  have PA : Hid (∀ w, Calls Try.prog 8 #[.agg (treC t24c).toArray, .int .i64 2, .int .i64 1] w (BackP [2, 5, 1] w)) := Lib.hid (fun w => by have h := wpath_any t24c 2 1 t24c_tre w; rwa [ex4] at h)
  have F1 : Hid (Gives Try.prog 11 #[.agg (treC t24c).toArray, .int .i64 2, .int .i64 1] (.int .i64 5)) := Lib.hid (by have h := wfirst_any t24c 2 1 t24c_tre; rwa [ex5] at h)
  have F2 : Hid (Gives Try.prog 11 #[.agg (treC t24c).toArray, .int .i64 2, .int .i64 2] (.int .i64 (-1))) := Lib.hid (by have h := wfirst_any t24c 2 2 t24c_tre; rwa [ex6] at h)
  have H1 : Hid (Gives Try.prog 13 #[.agg (treC t24c).toArray, .int .i64 2, .int .i64 1] (.int .i64 2)) := Lib.hid (by have h := whops_any t24c 2 1 t24c_tre; rwa [ex7] at h)
  have H2 : Hid (Gives Try.prog 13 #[.agg (treC t24c).toArray, .int .i64 2, .int .i64 2] (.int .i64 0)) := Lib.hid (by have h := whops_any t24c 2 2 t24c_tre; rwa [ex8] at h)
  have H8 : Hid (Gives Try.prog 13 #[.agg (treC t24c).toArray, .int .i64 2, .int .i64 8] (.int .i64 (-1))) := Lib.hid (by have h := whops_any t24c 2 8 t24c_tre; rwa [ex9] at h)
  generalize t24c = t at SO B1 B8 B9 PA F1 F2 H1 H2 H8
  go_enter Try.func15, Try.ntmps15
  go_wp2_with fail
  refine (SO.out _).mono ?_
  rintro e w1 ⟨rfl, hb⟩
  have HB := Lib.hid hb
  clear hb
  go_wp2_with fail
  refine (B1.out _).mono ?_
  rintro e w2 hp
  obtain ⟨LAa, LAc, rfl, ho, hb⟩ := hp.at (Nat.zero_le _)
  have HB' := Lib.hid (bel_on HB.out hb)
  clear HB
  clear hb
  have LA : Hid (NatAt w2 LAa 0 [1, 5, 2]) := Lib.hid (NatAt.own ho)
  clear ho hp
  go_wp2_with fail
  refine (SO.out _).mono ?_
  rintro e w3 ⟨rfl, hb⟩
  have HB := Lib.hid (bel_on HB'.out hb)
  clear HB'
  have LA' := Lib.hid (LA.out.on hb)
  clear LA
  clear hb
  go_wp2_with fail
  refine (PA.out _).mono ?_
  rintro e w4 hp
  obtain ⟨LPa, LPc, rfl, ho, hb⟩ := hp.at (Nat.zero_le _)
  have HB' := Lib.hid (bel_on HB.out hb)
  clear HB
  have LA := Lib.hid (LA'.out.on hb)
  clear LA'
  clear hb
  have LP : Hid (NatAt w4 LPa 0 [2, 5, 1]) := Lib.hid (NatAt.own ho)
  clear ho hp
  go_wp2_with fail
  refine (SO.out _).mono ?_
  rintro e w5 ⟨rfl, hb⟩
  have HB := Lib.hid (bel_on HB'.out hb)
  clear HB'
  have LA' := Lib.hid (LA.out.on hb)
  clear LA
  have LP' := Lib.hid (LP.out.on hb)
  clear LP
  clear hb
  go_wp2_with fail
  refine (B8.out _).mono ?_
  rintro e w6 hp
  obtain ⟨LXa, LXc, rfl, ho, hb⟩ := hp.at (Nat.zero_le _)
  have HB' := Lib.hid (bel_on HB.out hb)
  clear HB
  have LA := Lib.hid (LA'.out.on hb)
  clear LA'
  have LP := Lib.hid (LP'.out.on hb)
  clear LP'
  clear hb
  clear ho hp
  go_wp2_with fail
  refine (SO.out _).mono ?_
  rintro e w7 ⟨rfl, hb⟩
  have HB := Lib.hid (bel_on HB'.out hb)
  clear HB'
  have LA' := Lib.hid (LA.out.on hb)
  clear LA
  have LP' := Lib.hid (LP.out.on hb)
  clear LP
  clear hb
  go_wp2_with fail
  refine (B9.out _).mono ?_
  rintro e w8 hp
  obtain ⟨LYa, LYc, rfl, ho, hb⟩ := hp.at (Nat.zero_le _)
  have HB' := Lib.hid (bel_on HB.out hb)
  clear HB
  have LA := Lib.hid (LA'.out.on hb)
  clear LA'
  have LP := Lib.hid (LP'.out.on hb)
  clear LP'
  clear hb
  clear ho hp
  go_wp2_with fail
  have nl := lit_new w8 [1, 5, 2]
  have hb := (Below.refl w8.heap.size w8).alloc (Nat.le_refl _) (.cells (natV [1, 5, 2]).toArray 3)
  rw [show (natV [1, 5, 2]).toArray = #[.int .i64 1, .int .i64 5, .int .i64 2] from rfl] at nl hb
  obtain ⟨w9, hw⟩ : ∃ v, w8.alloc (.cells #[.int .i64 1, .int .i64 5, .int .i64 2] 3) = v := ⟨_, rfl⟩
  rw [hw] at nl hb ⊢
  clear hw
  have HB := Lib.hid (bel_on HB'.out hb)
  clear HB'
  have LA' := Lib.hid (LA.out.on hb)
  clear LA
  have LP' := Lib.hid (LP.out.on hb)
  clear LP
  clear hb
  refine (same_any _ _ _ _ [1, 5, 2] [1, 5, 2] _ LA'.out nl (by decide) (by decide)).mono ?_
  rintro e w10 ⟨rfl, hb⟩
  rw [decide_eq_true rfl]
  clear nl
  have HB' := Lib.hid (bel_on HB.out hb)
  clear HB
  have LA := Lib.hid (LA'.out.on hb)
  clear LA'
  have LP := Lib.hid (LP'.out.on hb)
  clear LP'
  clear hb
  go_wp2_with fail
  have nl := lit_new w10 [2, 5, 1]
  have hb := (Below.refl w10.heap.size w10).alloc (Nat.le_refl _) (.cells (natV [2, 5, 1]).toArray 3)
  rw [show (natV [2, 5, 1]).toArray = #[.int .i64 2, .int .i64 5, .int .i64 1] from rfl] at nl hb
  obtain ⟨w11, hw⟩ : ∃ v, w10.alloc (.cells #[.int .i64 2, .int .i64 5, .int .i64 1] 3) = v := ⟨_, rfl⟩
  rw [hw] at nl hb ⊢
  clear hw
  have HB := Lib.hid (bel_on HB'.out hb)
  clear HB'
  have LA' := Lib.hid (LA.out.on hb)
  clear LA
  have LP' := Lib.hid (LP.out.on hb)
  clear LP
  clear hb
  refine (same_any _ _ _ _ [2, 5, 1] [2, 5, 1] _ LP'.out nl (by decide) (by decide)).mono ?_
  rintro e w12 ⟨rfl, hb⟩
  rw [decide_eq_true rfl]
  clear nl
  have HB' := Lib.hid (bel_on HB.out hb)
  clear HB
  have LA := Lib.hid (LA'.out.on hb)
  clear LA'
  have LP := Lib.hid (LP'.out.on hb)
  clear LP'
  clear hb
  go_wp2_with fail
  refine (SO.out _).mono ?_
  rintro e w13 ⟨rfl, hb⟩
  have HB := Lib.hid (bel_on HB'.out hb)
  clear HB'
  have LA' := Lib.hid (LA.out.on hb)
  clear LA
  have LP' := Lib.hid (LP.out.on hb)
  clear LP
  clear hb
  go_wp2_with fail
  refine (F1.out _).mono ?_
  rintro e w14 ⟨rfl, hb⟩
  have HB' := Lib.hid (bel_on HB.out hb)
  clear HB
  have LA := Lib.hid (LA'.out.on hb)
  clear LA'
  have LP := Lib.hid (LP'.out.on hb)
  clear LP'
  clear hb
  go_wp2_with fail
  refine (SO.out _).mono ?_
  rintro e w15 ⟨rfl, hb⟩
  have HB := Lib.hid (bel_on HB'.out hb)
  clear HB'
  have LA' := Lib.hid (LA.out.on hb)
  clear LA
  have LP' := Lib.hid (LP.out.on hb)
  clear LP
  clear hb
  go_wp2_with fail
  refine (F2.out _).mono ?_
  rintro e w16 ⟨rfl, hb⟩
  have HB' := Lib.hid (bel_on HB.out hb)
  clear HB
  have LA := Lib.hid (LA'.out.on hb)
  clear LA'
  have LP := Lib.hid (LP'.out.on hb)
  clear LP'
  clear hb
  go_wp2_with fail
  refine (SO.out _).mono ?_
  rintro e w17 ⟨rfl, hb⟩
  have HB := Lib.hid (bel_on HB'.out hb)
  clear HB'
  have LA' := Lib.hid (LA.out.on hb)
  clear LA
  have LP' := Lib.hid (LP.out.on hb)
  clear LP
  clear hb
  go_wp2_with fail
  refine (H1.out _).mono ?_
  rintro e w18 ⟨rfl, hb⟩
  have HB' := Lib.hid (bel_on HB.out hb)
  clear HB
  have LA := Lib.hid (LA'.out.on hb)
  clear LA'
  have LP := Lib.hid (LP'.out.on hb)
  clear LP'
  clear hb
  go_wp2_with fail
  refine (SO.out _).mono ?_
  rintro e w19 ⟨rfl, hb⟩
  have HB := Lib.hid (bel_on HB'.out hb)
  clear HB'
  have LA' := Lib.hid (LA.out.on hb)
  clear LA
  have LP' := Lib.hid (LP.out.on hb)
  clear LP
  clear hb
  go_wp2_with fail
  refine (H2.out _).mono ?_
  rintro e w20 ⟨rfl, hb⟩
  have HB' := Lib.hid (bel_on HB.out hb)
  clear HB
  have LA := Lib.hid (LA'.out.on hb)
  clear LA'
  have LP := Lib.hid (LP'.out.on hb)
  clear LP'
  clear hb
  go_wp2_with fail
  refine (SO.out _).mono ?_
  rintro e w21 ⟨rfl, hb⟩
  have HB := Lib.hid (bel_on HB'.out hb)
  clear HB'
  have LA' := Lib.hid (LA.out.on hb)
  clear LA
  have LP' := Lib.hid (LP.out.on hb)
  clear LP
  clear hb
  go_wp2_with fail
  refine (H8.out _).mono ?_
  rintro e w22 ⟨rfl, hb⟩
  have HB' := Lib.hid (bel_on HB.out hb)
  clear HB
  have LA := Lib.hid (LA'.out.on hb)
  clear LA'
  have LP := Lib.hid (LP'.out.on hb)
  clear LP'
  clear hb
  go_wp2_with fail
  go_ret
  exact ⟨rfl, HB'.out⟩
end Go.Proofs.Ytjpbglbbeepmnaa
