/- Contracts of package ring, part F: New; the example that the statements ask (awake). -/
import Derived.Test.YtogmneidfoedbaaRingE
namespace Go.Proofs.Ytogmneidfoedbaa
open Go.RowKit Go.Sort

theorem add_zero' (q : Addr) : q.add 0 = q := by simp [Addr.add]
theorem new_ok (r : Int) (h1 : 1 ≤ r) (h2 : r ≤ 64) : Gives Try.prog 6 #[.int .i64 r] (.tuple #[(.agg #[.int .i64 r, .slice none 0 0] : Value), .int .i64 0]) := by
  intro w
  have d1 : decide (r < 1) = false := decide_eq_false (by omega)
  have d2 : decide (64 < r) = false := decide_eq_false (by omega)
  clear h1 h2
  go_enter Try.func6, Try.ntmps6
  go_wp2
  refine bodyPost_ret (v := .tuple #[(.agg #[.int .i64 r, .slice none 0 0] : Value), .int .i64 0]) (by simp [results, Try.results6, go_sem]) rfl ⟨rfl, (Below.refl _ _).alloc (Nat.le_refl _) _⟩
theorem new_bad : Gives Try.prog 6 #[.int .i64 0] (.tuple #[(.agg #[.int .i64 0, .slice none 0 0] : Value), .int .i64 1]) := by
  intro w
  go_enter Try.func6, Try.ntmps6
  go_wp2
  refine bodyPost_ret (v := .tuple #[(.agg #[.int .i64 0, .slice none 0 0] : Value), .int .i64 1]) (by simp [results, Try.results6, go_sem]) rfl ⟨rfl, (Below.refl _ _).alloc (Nat.le_refl _) _⟩

set_option maxRecDepth 100000 in
set_option maxHeartbeats 2000000 in
theorem rawake_any : Gives Try.prog 5 #[] (.bool true) := by
  intro w
  have N2 := Lib.hid (new_ok 2 (by omega) (by omega))
  have N0 := Lib.hid new_bad
  go_enter Try.func5, Try.ntmps5
  go_wp2_with fail
  refine (N2.out _).mono ?_
  rintro e w1 ⟨rfl, hb⟩
  have H1 := Lib.hid hb
  clear hb
  go_upto_region 2 with fail
  obtain ⟨bq, hbq⟩ : ∃ b, w1.heap.size = b := ⟨_, rfl⟩
  obtain ⟨v1, hv1⟩ : ∃ v, w1.alloc (.cells #[.int .i64 2, .slice none 0 0] 27) = v := ⟨_, rfl⟩
  rw [hbq, hv1]
  have KQ : Hid (Blk v1 bq [.int .i64 2, .slice none 0 0]) := Lib.hid (hv1 ▸ Blk.newAt hbq [.int .i64 2, .slice none 0 0] 27)
  have HH : Hid (Below w.heap.size w v1) := Lib.hid (hv1 ▸ H1.out.alloc H1.out.size _)
  have HQ : Hid (w.heap.size ≤ bq) := Lib.hid (hbq ▸ H1.out.size)
  have TQ : Hid (Txts v1 none 0 0 []) := Lib.hid (Txts.nil _)
  clear hv1 hbq H1
  have c_KQ0 := KQ.out.cell 0 rfl
  have c_KQ1 := KQ.out.cell 1 rfl
  have f_KQ0 := KQ.out.thaw 0
  have f_KQ1 := KQ.out.thaw 1
  go_wp2_with fail
  refine (put_ok 2 none 0 0 [] ⟨#[97]⟩ _ TQ.out (by omega) (by omega) (by omega)).mono ?_
  rintro e w2 ⟨aq2, nq, cq2, rfl, ht, ho, hb⟩
  obtain rfl : 1 = nq := ht.1
  have hlt := KQ.out.lt
  have hko := KQ.out.on hb
  clear c_KQ0 c_KQ1 f_KQ0 f_KQ1
  have c_KQ0 := hko.cell 0 rfl
  have c_KQ1 := hko.cell 1 rfl
  have f_KQ0 := hko.thaw 0
  have f_KQ1 := hko.thaw 1
  have x_KQ := Lib.hid ((hko.set 0 (.int .i64 2)).set 1 (.slice aq2 1 cq2))
  have x_TQ := Lib.hid ((ht.set ho ⟨bq, 0, none⟩ (.int .i64 2) (Nat.zero_le _) hlt).set ho ⟨bq, 1, none⟩ (.slice aq2 1 cq2) (Nat.zero_le _) hlt)
  have x_HH := Lib.hid (((bel_on HH.out hb).setCell (p := ⟨bq, 0, none⟩) HQ.out (.int .i64 2)).setCell (p := ⟨bq, 1, none⟩) HQ.out (.slice aq2 1 cq2))
  clear hko ht ho hb hlt KQ TQ HH
  go_upto_region 3 with fail
  clear c_KQ0 c_KQ1 f_KQ0 f_KQ1
  obtain ⟨v2, hv2⟩ : ∃ v, ((w2.setCell ⟨bq, 0, none⟩ (.int .i64 2)).setCell ⟨bq, 1, none⟩ (.slice aq2 1 cq2)) = v := ⟨_, rfl⟩
  rw [hv2] at x_KQ x_TQ x_HH ⊢
  clear hv2
  have KQ := x_KQ
  have TQ := x_TQ
  have HH := x_HH
  clear x_KQ x_TQ x_HH
  have c_KQ0 := KQ.out.cell 0 rfl
  have c_KQ1 := KQ.out.cell 1 rfl
  have f_KQ0 := KQ.out.thaw 0
  have f_KQ1 := KQ.out.thaw 1
  go_wp2_with fail
  refine (put_ok 2 aq2 1 cq2 [⟨#[97]⟩] ⟨#[98]⟩ _ TQ.out (by omega) (by omega) (by omega)).mono ?_
  rintro e w3 ⟨aq3, nq, cq3, rfl, ht, ho, hb⟩
  obtain rfl : 2 = nq := ht.1
  have hlt := KQ.out.lt
  have hko := KQ.out.on hb
  clear c_KQ0 c_KQ1 f_KQ0 f_KQ1
  have c_KQ0 := hko.cell 0 rfl
  have c_KQ1 := hko.cell 1 rfl
  have f_KQ0 := hko.thaw 0
  have f_KQ1 := hko.thaw 1
  have x_KQ := Lib.hid ((hko.set 0 (.int .i64 2)).set 1 (.slice aq3 2 cq3))
  have x_TQ := Lib.hid ((ht.set ho ⟨bq, 0, none⟩ (.int .i64 2) (Nat.zero_le _) hlt).set ho ⟨bq, 1, none⟩ (.slice aq3 2 cq3) (Nat.zero_le _) hlt)
  have x_HH := Lib.hid (((bel_on HH.out hb).setCell (p := ⟨bq, 0, none⟩) HQ.out (.int .i64 2)).setCell (p := ⟨bq, 1, none⟩) HQ.out (.slice aq3 2 cq3))
  clear hko ht ho hb hlt KQ TQ HH
  go_upto_region 4 with fail
  clear c_KQ0 c_KQ1 f_KQ0 f_KQ1
  obtain ⟨v3, hv3⟩ : ∃ v, ((w3.setCell ⟨bq, 0, none⟩ (.int .i64 2)).setCell ⟨bq, 1, none⟩ (.slice aq3 2 cq3)) = v := ⟨_, rfl⟩
  rw [hv3] at x_KQ x_TQ x_HH ⊢
  clear hv3
  have KQ := x_KQ
  have TQ := x_TQ
  have HH := x_HH
  clear x_KQ x_TQ x_HH
  have c_KQ0 := KQ.out.cell 0 rfl
  have c_KQ1 := KQ.out.cell 1 rfl
  go_wp2_with fail
  refine (put_full 2 aq3 2 cq3 [⟨#[97]⟩, ⟨#[98]⟩] ⟨#[99]⟩ _ TQ.out (by omega) (by omega) (by omega)).mono ?_
  rintro e w4 ⟨af, nf, cf, rfl, ht, ho, hb⟩
  obtain rfl : 2 = nf := ht.1
  clear ht ho
  clear c_KQ0 c_KQ1
  have x_KQ := Lib.hid (KQ.out.on hb)
  have x_TQ := Lib.hid (TQ.out.on hb)
  have x_HH := Lib.hid (bel_on HH.out hb)
  clear KQ
  have KQ := x_KQ
  clear x_KQ
  clear TQ
  have TQ := x_TQ
  clear x_TQ
  clear HH
  have HH := x_HH
  clear x_HH
  clear hb
  go_upto_region 5 with fail
  obtain ⟨v4, hv4⟩ : ∃ v, w4.alloc (.cells #[.int .i64 2, .slice af 2 cf] 27) = v := ⟨_, rfl⟩
  rw [hv4]
  have hb : Below w4.heap.size w4 v4 := hv4 ▸ (Below.refl _ _).alloc (Nat.le_refl _) _
  have x_KQ := Lib.hid (KQ.out.on hb)
  have x_TQ := Lib.hid (TQ.out.on hb)
  have x_HH := Lib.hid (bel_on HH.out hb)
  clear KQ
  have KQ := x_KQ
  clear x_KQ
  clear TQ
  have TQ := x_TQ
  clear x_TQ
  clear HH
  have HH := x_HH
  clear x_HH
  clear hb hv4
  have c_KQ0 := KQ.out.cell 0 rfl
  have c_KQ1 := KQ.out.cell 1 rfl
  go_wp2_with fail
  refine (drop_ok 2 aq3 2 cq3 1 1 ⟨#[98]⟩ [⟨#[97]⟩, ⟨#[98]⟩] _ TQ.out (by omega) rfl rfl).mono ?_
  rintro e w5 ⟨ad, nd, cd, rfl, ht, ho, hb⟩
  obtain rfl : 1 = nd := ht.1
  clear c_KQ0 c_KQ1
  have x_KQ := Lib.hid (KQ.out.on hb)
  have x_TQ := Lib.hid (TQ.out.on hb)
  have x_HH := Lib.hid (bel_on HH.out hb)
  clear KQ
  have KQ := x_KQ
  clear x_KQ
  clear TQ
  have TQ := x_TQ
  clear x_TQ
  clear HH
  have HH := x_HH
  clear x_HH
  clear hb
  go_upto_region 6 with fail
  obtain ⟨v5, hv5⟩ : ∃ v, w5.alloc (.cells #[.int .i64 2, .slice ad 1 cd] 27) = v := ⟨_, rfl⟩
  rw [hv5]
  have hb : Below w5.heap.size w5 v5 := hv5 ▸ (Below.refl _ _).alloc (Nat.le_refl _) _
  obtain ⟨bd, hbd⟩ : ∃ b, w5.heap.size = b := ⟨_, rfl⟩
  rw [hbd]
  have KD : Hid (Blk v5 bd [.int .i64 2, .slice ad 1 cd]) := Lib.hid (hv5 ▸ Blk.newAt hbd [.int .i64 2, .slice ad 1 cd] 27)
  have TD := Lib.hid (ht.on hb)
  clear ht ho
  have x_KQ := Lib.hid (KQ.out.on hb)
  have x_TQ := Lib.hid (TQ.out.on hb)
  have x_HH := Lib.hid (bel_on HH.out hb)
  clear KQ
  have KQ := x_KQ
  clear x_KQ
  clear TQ
  have TQ := x_TQ
  clear x_TQ
  clear HH
  have HH := x_HH
  clear x_HH
  clear hb hv5
  clear hbd
  have c_KQ0 := KQ.out.cell 0 rfl
  have c_KQ1 := KQ.out.cell 1 rfl
  go_wp2_with fail
  refine (take_ok 2 aq3 2 cq3 ⟨#[97]⟩ [⟨#[97]⟩, ⟨#[98]⟩] _ TQ.out (by omega) rfl).mono ?_
  rintro e w6 ⟨at', nt, ct, rfl, ht, ho, hb⟩
  obtain rfl : 1 = nt := ht.1
  clear c_KQ0 c_KQ1
  have x_KQ := Lib.hid (KQ.out.on hb)
  have x_TQ := Lib.hid (TQ.out.on hb)
  have x_KD := Lib.hid (KD.out.on hb)
  have x_TD := Lib.hid (TD.out.on hb)
  have x_HH := Lib.hid (bel_on HH.out hb)
  clear KQ
  have KQ := x_KQ
  clear x_KQ
  clear TQ
  have TQ := x_TQ
  clear x_TQ
  clear KD
  have KD := x_KD
  clear x_KD
  clear TD
  have TD := x_TD
  clear x_TD
  clear HH
  have HH := x_HH
  clear x_HH
  clear hb
  go_upto_region 7 with fail
  obtain ⟨v6, hv6⟩ : ∃ v, w6.alloc (.cells #[.int .i64 2, .slice at' 1 ct] 27) = v := ⟨_, rfl⟩
  rw [hv6]
  have hb : Below w6.heap.size w6 v6 := hv6 ▸ (Below.refl _ _).alloc (Nat.le_refl _) _
  obtain ⟨bt, hbt⟩ : ∃ b, w6.heap.size = b := ⟨_, rfl⟩
  rw [hbt]
  have KT : Hid (Blk v6 bt [.int .i64 2, .slice at' 1 ct]) := Lib.hid (hv6 ▸ Blk.newAt hbt [.int .i64 2, .slice at' 1 ct] 27)
  have TT := Lib.hid (ht.on hb)
  clear ht ho
  have x_KQ := Lib.hid (KQ.out.on hb)
  have x_TQ := Lib.hid (TQ.out.on hb)
  have x_KD := Lib.hid (KD.out.on hb)
  have x_TD := Lib.hid (TD.out.on hb)
  have x_HH := Lib.hid (bel_on HH.out hb)
  clear KQ
  have KQ := x_KQ
  clear x_KQ
  clear TQ
  have TQ := x_TQ
  clear x_TQ
  clear KD
  have KD := x_KD
  clear x_KD
  clear TD
  have TD := x_TD
  clear x_TD
  clear HH
  have HH := x_HH
  clear x_HH
  clear hb hv6
  clear hbt
  have c_KQ0 := KQ.out.cell 0 rfl
  have c_KQ1 := KQ.out.cell 1 rfl
  go_wp2_with fail
  refine (take_none 1 none 0 _ (Txts.nil _)).mono ?_
  rintro e w7 ⟨au, nu, cu, rfl, ht, ho, hb⟩
  obtain rfl : 0 = nu := ht.1
  clear ht ho
  clear c_KQ0 c_KQ1
  have x_KQ := Lib.hid (KQ.out.on hb)
  have x_TQ := Lib.hid (TQ.out.on hb)
  have x_KD := Lib.hid (KD.out.on hb)
  have x_TD := Lib.hid (TD.out.on hb)
  have x_KT := Lib.hid (KT.out.on hb)
  have x_TT := Lib.hid (TT.out.on hb)
  have x_HH := Lib.hid (bel_on HH.out hb)
  clear KQ
  have KQ := x_KQ
  clear x_KQ
  clear TQ
  have TQ := x_TQ
  clear x_TQ
  clear KD
  have KD := x_KD
  clear x_KD
  clear TD
  have TD := x_TD
  clear x_TD
  clear KT
  have KT := x_KT
  clear x_KT
  clear TT
  have TT := x_TT
  clear x_TT
  clear HH
  have HH := x_HH
  clear x_HH
  clear hb
  go_upto_region 8 with fail
  obtain ⟨v7, hv7⟩ : ∃ v, w7.alloc (.cells #[.int .i64 1, .slice au 0 cu] 27) = v := ⟨_, rfl⟩
  rw [hv7]
  have hb : Below w7.heap.size w7 v7 := hv7 ▸ (Below.refl _ _).alloc (Nat.le_refl _) _
  have x_KQ := Lib.hid (KQ.out.on hb)
  have x_TQ := Lib.hid (TQ.out.on hb)
  have x_KD := Lib.hid (KD.out.on hb)
  have x_TD := Lib.hid (TD.out.on hb)
  have x_KT := Lib.hid (KT.out.on hb)
  have x_TT := Lib.hid (TT.out.on hb)
  have x_HH := Lib.hid (bel_on HH.out hb)
  clear KQ
  have KQ := x_KQ
  clear x_KQ
  clear TQ
  have TQ := x_TQ
  clear x_TQ
  clear KD
  have KD := x_KD
  clear x_KD
  clear TD
  have TD := x_TD
  clear x_TD
  clear KT
  have KT := x_KT
  clear x_KT
  clear TT
  have TT := x_TT
  clear x_TT
  clear HH
  have HH := x_HH
  clear x_HH
  clear hb hv7
  have c_KQ0 := KQ.out.cell 0 rfl
  have c_KQ1 := KQ.out.cell 1 rfl
  go_wp2_with fail
  refine (N0.out _).mono ?_
  rintro e w8 ⟨rfl, hb⟩
  clear c_KQ0 c_KQ1
  have x_KQ := Lib.hid (KQ.out.on hb)
  have x_TQ := Lib.hid (TQ.out.on hb)
  have x_KD := Lib.hid (KD.out.on hb)
  have x_TD := Lib.hid (TD.out.on hb)
  have x_KT := Lib.hid (KT.out.on hb)
  have x_TT := Lib.hid (TT.out.on hb)
  have x_HH := Lib.hid (bel_on HH.out hb)
  clear KQ
  have KQ := x_KQ
  clear x_KQ
  clear TQ
  have TQ := x_TQ
  clear x_TQ
  clear KD
  have KD := x_KD
  clear x_KD
  clear TD
  have TD := x_TD
  clear x_TD
  clear KT
  have KT := x_KT
  clear x_KT
  clear TT
  have TT := x_TT
  clear x_TT
  clear HH
  have HH := x_HH
  clear x_HH
  clear hb
  go_upto_region 9 with fail
  obtain ⟨v8, hv8⟩ : ∃ v, w8.alloc (.cells #[.int .i64 0, .slice none 0 0] 27) = v := ⟨_, rfl⟩
  rw [hv8]
  have hb : Below w8.heap.size w8 v8 := hv8 ▸ (Below.refl _ _).alloc (Nat.le_refl _) _
  have x_KQ := Lib.hid (KQ.out.on hb)
  have x_TQ := Lib.hid (TQ.out.on hb)
  have x_KD := Lib.hid (KD.out.on hb)
  have x_TD := Lib.hid (TD.out.on hb)
  have x_KT := Lib.hid (KT.out.on hb)
  have x_TT := Lib.hid (TT.out.on hb)
  have x_HH := Lib.hid (bel_on HH.out hb)
  clear KQ
  have KQ := x_KQ
  clear x_KQ
  clear TQ
  have TQ := x_TQ
  clear x_TQ
  clear KD
  have KD := x_KD
  clear x_KD
  clear TD
  have TD := x_TD
  clear x_TD
  clear KT
  have KT := x_KT
  clear x_KT
  clear TT
  have TT := x_TT
  clear x_TT
  clear HH
  have HH := x_HH
  clear x_HH
  clear hb hv8
  have c_KQ0 := KQ.out.cell 0 rfl
  have c_KQ1 := KQ.out.cell 1 rfl
  go_wp2_with fail
  refine (drop_none 2 aq3 2 cq3 2 [⟨#[97]⟩, ⟨#[98]⟩] _ TQ.out (by omega) (by omega)).mono ?_
  rintro e w9 ⟨ax, nx, cx, rfl, ht, ho, hb⟩
  obtain rfl : 2 = nx := ht.1
  clear ht ho
  clear c_KQ0 c_KQ1
  have x_KQ := Lib.hid (KQ.out.on hb)
  have x_TQ := Lib.hid (TQ.out.on hb)
  have x_KD := Lib.hid (KD.out.on hb)
  have x_TD := Lib.hid (TD.out.on hb)
  have x_KT := Lib.hid (KT.out.on hb)
  have x_TT := Lib.hid (TT.out.on hb)
  have x_HH := Lib.hid (bel_on HH.out hb)
  clear KQ
  have KQ := x_KQ
  clear x_KQ
  clear TQ
  have TQ := x_TQ
  clear x_TQ
  clear KD
  have KD := x_KD
  clear x_KD
  clear TD
  have TD := x_TD
  clear x_TD
  clear KT
  have KT := x_KT
  clear x_KT
  clear TT
  have TT := x_TT
  clear x_TT
  clear HH
  have HH := x_HH
  clear x_HH
  clear hb
  go_upto_region 10 with fail
  obtain ⟨v9, hv9⟩ : ∃ v, w9.alloc (.cells #[.int .i64 2, .slice ax 2 cx] 27) = v := ⟨_, rfl⟩
  rw [hv9]
  have hb : Below w9.heap.size w9 v9 := hv9 ▸ (Below.refl _ _).alloc (Nat.le_refl _) _
  have x_KQ := Lib.hid (KQ.out.on hb)
  have x_TQ := Lib.hid (TQ.out.on hb)
  have x_KD := Lib.hid (KD.out.on hb)
  have x_TD := Lib.hid (TD.out.on hb)
  have x_KT := Lib.hid (KT.out.on hb)
  have x_TT := Lib.hid (TT.out.on hb)
  have x_HH := Lib.hid (bel_on HH.out hb)
  clear KQ
  have KQ := x_KQ
  clear x_KQ
  clear TQ
  have TQ := x_TQ
  clear x_TQ
  clear KD
  have KD := x_KD
  clear x_KD
  clear TD
  have TD := x_TD
  clear x_TD
  clear KT
  have KT := x_KT
  clear x_KT
  clear TT
  have TT := x_TT
  clear x_TT
  clear HH
  have HH := x_HH
  clear x_HH
  clear hb hv9
  obtain ⟨pd, rfl, cd'⟩ := TD.out.2.2.2.2 0 ⟨#[97]⟩ rfl
  obtain ⟨pt, rfl, ct'⟩ := TT.out.2.2.2.2 0 ⟨#[98]⟩ rfl
  rw [add_zero'] at cd' ct'
  have c_KQ0 := KQ.out.cell 0 rfl
  have c_KQ1 := KQ.out.cell 1 rfl
  have c_KD0 := KD.out.cell 0 rfl
  have c_KD1 := KD.out.cell 1 rfl
  have c_KT0 := KT.out.cell 0 rfl
  have c_KT1 := KT.out.cell 1 rfl
  go_wp2_with fail
  refine (long_gives 2 aq3 2 cq3 _).mono ?_
  rintro e w10 ⟨rfl, hb⟩
  have x_KQ := Lib.hid (KQ.out.on hb)
  have x_TQ := Lib.hid (TQ.out.on hb)
  have x_KT := Lib.hid (KT.out.on hb)
  have x_TT := Lib.hid (TT.out.on hb)
  have x_HH := Lib.hid (bel_on HH.out hb)
  clear hb c_KQ0 c_KQ1 c_KD0 c_KD1 c_KT0 c_KT1 cd' ct' KQ TQ KT TT HH KD TD
  have c_KQ0 := x_KQ.out.cell 0 rfl
  have c_KQ1 := x_KQ.out.cell 1 rfl
  have c_KT0 := x_KT.out.cell 0 rfl
  have c_KT1 := x_KT.out.cell 1 rfl
  go_wp2_with fail
  refine (same_is 2 2 aq3 aq3 2 cq3 2 cq3 [⟨#[97]⟩, ⟨#[98]⟩] [⟨#[97]⟩, ⟨#[98]⟩] true _ x_TQ.out x_TQ.out (by decide)).mono ?_
  rintro e w11 ⟨rfl, hb⟩
  have KQ := Lib.hid (x_KQ.out.on hb)
  have KT := Lib.hid (x_KT.out.on hb)
  have TQ2 := Lib.hid (x_TQ.out.on hb)
  have TT2 := Lib.hid (x_TT.out.on hb)
  have HH := Lib.hid (bel_on x_HH.out hb)
  clear hb c_KQ0 c_KQ1 c_KT0 c_KT1
  have c_KQ0 := KQ.out.cell 0 rfl
  have c_KQ1 := KQ.out.cell 1 rfl
  have c_KT0 := KT.out.cell 0 rfl
  have c_KT1 := KT.out.cell 1 rfl
  go_wp2_with fail
  refine (same_is 2 2 aq3 (some pt) 2 cq3 1 ct [⟨#[97]⟩, ⟨#[98]⟩] [⟨#[98]⟩] false _ TQ2.out TT2.out (by decide)).mono ?_
  rintro e w12 ⟨rfl, hb⟩
  have H2 := Lib.hid (bel_on HH.out hb)
  clear hb c_KQ0 c_KQ1 c_KT0 c_KT1
  go_wp2_with fail
  go_ret
  exact ⟨rfl, H2.out⟩
end Go.Proofs.Ytogmneidfoedbaa
