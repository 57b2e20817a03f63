/- Contracts of package timer, part O: order, place. -/
import Derived.Test.YtpfgbdcnfmlkcaaTimB
namespace Go.Proofs.Ytpfgbdcnfmlkcaa
open Go.RowKit Go.Sort

set_option maxHeartbeats 1000000 in
theorem order_gives (x y : Alm) : Gives Try.prog 27 #[(.agg #[.int .i64 x.k, .int .i64 x.n, .int .i64 x.t] : Value), (.agg #[.int .i64 y.k, .int .i64 y.n, .int .i64 y.t] : Value)] (.int .i64 (ordA x y)) := by
  intro w
  have CK := Lib.hid (fun w => compare_any x.k y.k w)
  have CN := Lib.hid (fun w => compare_any x.n y.n w)
  have HO : Hid (ordA x y = orI (cmpI x.k y.k) (cmpI x.n y.n)) := Lib.hid rfl
  rw [HO.out]
  clear HO
  generalize cmpI x.k y.k = p at *
  generalize cmpI x.n y.n = q at *
  have OR := Lib.hid (fun g w h => or_any g p q w h)
  obtain ⟨v0, hv0⟩ : ∃ v, (w.alloc (.cells #[.int .i64 x.k, .int .i64 x.n, .int .i64 x.t] 23)).alloc (.cells #[.int .i64 y.k, .int .i64 y.n, .int .i64 y.t] 23) = v := ⟨_, rfl⟩
  have K0 : Hid (Blk v0 w.heap.size x.cells) := Lib.hid (hv0 ▸ (Blk.new w x.cells 23).next _)
  have K1 : Hid (Blk v0 (w.heap.size + 1) y.cells) := Lib.hid (hv0 ▸ Blk.newAt (by simp only [World.size_alloc]) y.cells 23)
  have HB : Hid (Below w.heap.size w v0) := Lib.hid (hv0 ▸ ((Below.refl _ _).alloc (Nat.le_refl _) _).alloc (by simp only [World.size_alloc]; omega) _)
  go_enter Try.func27, Try.ntmps27
  go_upto_region 1 with fail
  clear hv0
  have s0 : v0.drew.cell? ⟨w.heap.size, 0, none⟩ = some (.int .i64 x.k) ∧ v0.drew.cell? ⟨w.heap.size, 1, none⟩ = some (.int .i64 x.n) ∧ v0.drew.cell? ⟨w.heap.size + 1, 0, none⟩ = some (.int .i64 y.k) ∧ v0.drew.cell? ⟨w.heap.size + 1, 1, none⟩ = some (.int .i64 y.n) := ⟨K0.out.drew.cell 0 rfl, K0.out.drew.cell 1 rfl, K1.out.drew.cell 0 rfl, K1.out.drew.cell 1 rfl⟩
  refine wp_region_tail (fun w' => w'.cell? ⟨w.heap.size, 0, none⟩ = some (.int .i64 x.k) ∧ w'.cell? ⟨w.heap.size, 1, none⟩ = some (.int .i64 x.n) ∧ w'.cell? ⟨w.heap.size + 1, 0, none⟩ = some (.int .i64 y.k) ∧ w'.cell? ⟨w.heap.size + 1, 1, none⟩ = some (.int .i64 y.n)) (fun j => j == 12) (by kernel_rfl) s0 (fun hS => ?_)
  clear s0
  refine wpAnyT_take 0 rfl (by kernel_rfl) (by kernel_rfl) (by kernel_rfl) (by kernel_rfl) (fun _ _ _ h => h) (by rfl) (by intro w hSw; (try dsimp only at hSw); go_simp <;> with_reducible rfl) (by assumption) ?_
  try simp only [Act.put]
  try simp only [List.setIfInBounds_toArray]
  try simp only [List.set]
  refine wpAnyT_take 1 rfl (by kernel_rfl) (by kernel_rfl) (by kernel_rfl) (by kernel_rfl) (fun _ _ _ h => h) (by rfl) (by intro w hSw; (try dsimp only at hSw); go_simp <;> with_reducible rfl) (by assumption) ?_
  try simp only [Act.put]
  try simp only [List.setIfInBounds_toArray]
  try simp only [List.set]
  refine wpAnyT_take 2 rfl (by kernel_rfl) (by kernel_rfl) (by kernel_rfl) (by kernel_rfl) (fun _ _ _ h => h) (by rfl) (by intro w hSw; (try dsimp only at hSw); go_simp <;> with_reducible rfl) (by assumption) ?_
  try simp only [Act.put]
  try simp only [List.setIfInBounds_toArray]
  try simp only [List.set]
  refine wpAnyT_take 3 rfl (by kernel_rfl) (by kernel_rfl) (by kernel_rfl) (by kernel_rfl) (fun _ _ _ h => h) (by rfl) (by intro w hSw; (try dsimp only at hSw); go_simp <;> with_reducible rfl) (by assumption) ?_
  try simp only [Act.put]
  try simp only [List.setIfInBounds_toArray]
  try simp only [List.set]
  refine wpAnyT_take 5 rfl (by kernel_rfl) (by kernel_rfl) (by kernel_rfl) (by kernel_rfl) (fun _ _ _ h => h) (by rfl) (by intro w hSw; (try dsimp only at hSw); go_simp <;> with_reducible rfl) (by assumption) ?_
  try simp only [Act.put]
  try simp only [List.setIfInBounds_toArray]
  try simp only [List.set]
  refine wpAnyT_take 6 rfl (by kernel_rfl) (by kernel_rfl) (by kernel_rfl) (by kernel_rfl) (fun _ _ _ h => h) (by rfl) (by intro w hSw; (try dsimp only at hSw); go_simp <;> with_reducible rfl) (by assumption) ?_
  try simp only [Act.put]
  try simp only [List.setIfInBounds_toArray]
  try simp only [List.set]
  refine wpAnyT_take 7 rfl (by kernel_rfl) (by kernel_rfl) (by kernel_rfl) (by kernel_rfl) (fun _ _ _ h => h) (by rfl) (by intro w hSw; (try dsimp only at hSw); go_simp <;> with_reducible rfl) (by assumption) ?_
  try simp only [Act.put]
  try simp only [List.setIfInBounds_toArray]
  try simp only [List.set]
  refine wpAnyT_take 8 rfl (by kernel_rfl) (by kernel_rfl) (by kernel_rfl) (by kernel_rfl) (fun _ _ _ h => h) (by rfl) (by intro w hSw; (try dsimp only at hSw); go_simp <;> with_reducible rfl) (by assumption) ?_
  try simp only [Act.put]
  try simp only [List.setIfInBounds_toArray]
  try simp only [List.set]
  refine wpAnyT_one 4 rfl (by kernel_rfl) (fun K hK => ?_)
  go_simp
  refine (CK.out _).mono ?_
  rintro e w1 ⟨rfl, rfl⟩
  go_simp
  refine hK.out _ _ (by first | (intro hno; cases hno; done) | exact fun _ => hS) (fun _ => ?_)
  clear hK K
  try simp only [Act.put]
  try simp only [List.setIfInBounds_toArray]
  try simp only [List.set]
  refine wpAnyT_one 9 rfl (by kernel_rfl) (fun K hK => ?_)
  go_simp
  refine (CN.out _).mono ?_
  rintro e w1 ⟨rfl, rfl⟩
  go_simp
  refine hK.out _ _ (by first | (intro hno; cases hno; done) | exact fun _ => hS) (fun _ => ?_)
  clear hK K
  try simp only [Act.put]
  try simp only [List.setIfInBounds_toArray]
  try simp only [List.set]
  refine wpAnyT_one 10 rfl (by kernel_rfl) (fun K hK => ?_)
  go_simp
  have hx : Below v0.drew.heap.size v0.drew (v0.drew.alloc (.cells #[.int .i64 p, .int .i64 q] 3)) := (Below.refl _ _).alloc (Nat.le_refl _) _
  have hS2 := And.intro (cell_later hx hS.1) (And.intro (cell_later hx hS.2.1) (And.intro (cell_later hx hS.2.2.1) (cell_later hx hS.2.2.2)))
  refine hK.out _ _ (fun _ => hS2) (fun _ => ?_)
  clear hK K hS
  have hS := hS2
  clear hS2 hx
  try simp only [Act.put]
  try simp only [List.setIfInBounds_toArray]
  try simp only [List.set]
  refine wpAnyT_one 11 rfl (by kernel_rfl) (fun K hK => ?_)
  go_simp
  refine (OR.out _ _ (Blk.new v0.drew [.int .i64 p, .int .i64 q] 3)).mono ?_
  rintro e w1 ⟨rfl, rfl⟩
  go_simp
  refine hK.out _ _ (by first | (intro hno; cases hno; done) | exact fun _ => hS) (fun _ => ?_)
  clear hK K
  try simp only [Act.put]
  try simp only [List.setIfInBounds_toArray]
  try simp only [List.set]
  refine wpAnyT_one 12 rfl (by kernel_rfl) (fun K hK => ?_)
  go_simp
  refine hK.out _ _ (by first | (intro hno; cases hno; done) | exact fun _ => hS) (fun _ => ?_)
  clear hK K
  try simp only [Act.put]
  try simp only [List.setIfInBounds_toArray]
  try simp only [List.set]
  refine wpAnyT_done (by kernel_rfl) ?_ _
  clear hS
  go_wp2_with fail
  go_ret
  exact ⟨rfl, HB.out.drew.alloc HB.out.drew.size _⟩

set_option maxHeartbeats 1000000 in
theorem place_any (y : Alm) (a : Option Addr) (m c : Nat) (L : List Alm) (w : World) (hL : alS.At w a m c L) (hm : m ≤ 1000000) :
    Calls Try.prog 18 #[.slice a m c, (.agg #[.int .i64 y.k, .int .i64 y.n, .int .i64 y.t] : Value)] w fun e w' => e = .returned (.int .i64 ((placeA L y : Nat) : Int)) ∧ Below w.heap.size w w' := by
  have HL := Lib.hid hL
  have HM := Lib.hid hm
  have hlen := hL.1
  have OR := Lib.hid (fun x => order_gives x y)
  clear hL
  go_enter Try.func18, Try.ntmps18
  go_wp2
  go_step3
  go_wp2
  go_step3
  go_wp2
  go_loopw [5, 10] (fun u j wr => ∃ i : Nat, i ≤ m ∧ j = .int .i64 (i : Int) ∧ u = .int .i64 (i : Int) ∧ Hid (∀ (p : Nat) z, p < i → L[p]? = some z → (ordA z y == -1) = true) ∧ Blk wr w.heap.size y.cells ∧ Below w.heap.size w wr) (fun _ j _ => (m - intOf j).toNat)
  case atStart => exact ⟨0, Nat.zero_le _, rfl, rfl, Lib.hid (fun p z hp => by omega), Blk.new w y.cells 23, (Below.refl _ _).alloc (Nat.le_refl _) _⟩
  case round =>
    obtain ⟨i, hi, rfl, rfl, HP, hY, hH⟩ := hrel
    have HY := Lib.hid hY
    have HH := Lib.hid hH
    clear hY hH
    by_cases him : i < m
    · obtain ⟨x, hx⟩ : ∃ x, L[i]? = some x := ⟨_, List.getElem?_eq_getElem (by omega)⟩
      obtain ⟨b, q, rfl, hq, c0, c1, c2⟩ := al_at (HL.out.on HH.out) hx
      have HX := Lib.hid hx
      have him' : (i : Int) < (m : Int) := by omega
      have HI : Hid (i < m) := Lib.hid him
      have e1 : wrap64 ((i : Int) + 1) = (i : Int) + 1 := IntWalk.wrap64_in _ (by omega)
      clear hx him hi
      go_upto_region 5 with fail
      clear c0 c1 c2 hq
      obtain ⟨v, hv⟩ : ∃ v, wr.alloc (.cells #[.int .i64 x.k, .int .i64 x.n, .int .i64 x.t] 23) = v := ⟨_, rfl⟩
      obtain ⟨g, hg⟩ : ∃ g, wr.heap.size = g := ⟨_, rfl⟩
      rw [hv, hg]
      have HY1 := Lib.hid (hv ▸ HY.out.next (.cells #[.int .i64 x.k, .int .i64 x.n, .int .i64 x.t] 23))
      have HH1 := Lib.hid (hv ▸ HH.out.alloc HH.out.size (.cells #[.int .i64 x.k, .int .i64 x.n, .int .i64 x.t] 23))
      have HK : Hid (Blk v g x.cells) := Lib.hid (hv ▸ Blk.newAt hg x.cells 23)
      clear hv hg HY HH
      have k0 := HK.out.cell 0 rfl
      have k1 := HK.out.cell 1 rfl
      have k2 := HK.out.cell 2 rfl
      have y0 := HY1.out.cell 0 rfl
      have y1 := HY1.out.cell 1 rfl
      have y2 := HY1.out.cell 2 rfl
      have ORX := Lib.hid (OR.out x)
      obtain ⟨o, ho⟩ : ∃ o, ordA x y = o := ⟨_, rfl⟩
      rw [ho] at ORX
      have HO := Lib.hid ho
      clear ho
      obtain ⟨r, hr⟩ : ∃ r, (o == -1) = r := ⟨_, rfl⟩
      go_wp2_with fail
      refine (ORX.out _).mono ?_
      rintro e w1 ⟨rfl, hb⟩
      have HY2 := Lib.hid (HY1.out.on hb)
      have HH2 := Lib.hid (bel_on HH1.out hb)
      clear hb k0 k1 k2 y0 y1 y2 HY1 HH1 HK ORX
      cases r with
      | true =>
        have HP2 : Hid (∀ (p : Nat) z, p < i + 1 → L[p]? = some z → (ordA z y == -1) = true) := Lib.hid (fun p z hp hz => by
          by_cases hpi : p = i
          · subst hpi
            rw [HX.out] at hz
            obtain rfl := Option.some.inj hz
            rw [HO.out]; exact hr
          · exact HP.out p z (by omega) hz)
        go_wp2_with fail
        go_roundw
        case rel => exact ⟨i + 1, HI.out, by go_num, by go_num, HP2, HY2.out, HH2.out⟩
        case measure => exact tim_meas m i HI.out _ rfl
      | false =>
        have HE : Hid (placeA L y = i) := Lib.hid (take_len _ L i (fun p z hp hz => HP.out p z hp hz) (by have := HI.out; omega) (fun z hz => by
          rw [HX.out] at hz
          obtain rfl := Option.some.inj hz
          show (ordA x y == -1) = false
          rw [HO.out]; exact hr))
        go_wp2_with fail
        try rw [Exit.noGoto_ret]
        go_ret
        exact ⟨by rw [HE.out]; rfl, HH2.out⟩
    · obtain rfl : i = m := by omega
      have HE : Hid (placeA L y = i) := Lib.hid (take_len _ L i (fun p z hp hz => HP.out p z hp hz) (by omega) (fun z hz => by
        have := (List.getElem?_eq_some_iff.1 hz).1
        omega))
      go_wp2_with fail
      try rw [Exit.noGoto_ret]
      go_ret
      exact ⟨by rw [HE.out]; rfl, HH.out⟩
end Go.Proofs.Ytpfgbdcnfmlkcaa
