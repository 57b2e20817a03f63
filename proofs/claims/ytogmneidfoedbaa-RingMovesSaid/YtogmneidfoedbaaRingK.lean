/- Contracts of package ring, part K: Move. -/
import Derived.Test.YtogmneidfoedbaaRingD
namespace Go.Proofs.Ytogmneidfoedbaa
open Go.RowKit Go.Sort

/-- How many are moved. -/
def moveN (most : Int) (n : Nat) (r : Int) (m : Nat) : Nat := (max (min (min most (n : Int)) (max (max r 0 - (m : Int)) 0)) 0).toNat
theorem moveN_is (most : Int) (n : Nat) (r : Int) (m : Nat) : max (min (min most (n : Int)) (max (max r 0 - (m : Int)) 0)) 0 = (moveN most n r m : Int) ∧ moveN most n r m ≤ n := by
  unfold moveN; omega
theorem min_three (x y z k : Int) (h : min (min x y) z = k) : (if z < (if y < x then y else x) then z else (if y < x then y else x)) = k := by
  subst h
  split <;> split <;> simp_all <;> omega
/-- Two rings of its own, and a number. -/
def GotMove (r r' : Int) (A B : List ByteArray) (x : Nat) (w : World) (e : Ending) (w' : World) : Prop := ∃ a n c b m d, e = .returned (.tuple #[(.agg #[.int .i64 r, .slice a n c] : Value), (.agg #[.int .i64 r', .slice b m d] : Value), .int .i64 (x : Int)]) ∧ Txts w' a n c A ∧ Txts w' b m d B ∧ Off a n 0 w.heap.size ∧ Off b m 0 w.heap.size ∧ Below w.heap.size w w'
/-- The parameters' boxes, the results' blocks, behind the entry. -/
theorem four_boxes (w : World) (r r' : Int) (a b : Option Addr) (n c m d : Nat) : ∃ W, ((((w.alloc (.cells #[.int .i64 r, .slice a n c] 27)).alloc (.cells #[.int .i64 r', .slice b m d] 27)).alloc (.cells #[.int .i64 0, .slice none 0 0] 27)).alloc (.cells #[.int .i64 0, .slice none 0 0] 27)) = W ∧
    Blk W w.heap.size [.int .i64 r, .slice a n c] ∧ Blk W (w.heap.size + 1) [.int .i64 r', .slice b m d] ∧ Blk W (w.heap.size + 1 + 1) [.int .i64 0, .slice none 0 0] ∧ Blk W (w.heap.size + 1 + 1 + 1) [.int .i64 0, .slice none 0 0] ∧ Below w.heap.size w W :=
  ⟨_, rfl, (((Blk.new w [.int .i64 r, .slice a n c] 27).next _).next _).next _, ((Blk.newAt (by simp only [World.size_alloc]) [.int .i64 r', .slice b m d] 27).next _).next _,
    (Blk.newAt (by simp only [World.size_alloc]) [.int .i64 0, .slice none 0 0] 27).next _, Blk.newAt (by simp only [World.size_alloc]) [.int .i64 0, .slice none 0 0] 27,
    ((((Below.refl _ _).alloc (Nat.le_refl _) _).alloc (by simp only [World.size_alloc]; omega) _).alloc (by simp only [World.size_alloc]; omega) _).alloc (by simp only [World.size_alloc]; omega) _⟩

theorem move_tail {w v : World} {a b : Option Addr} {n c m d : Nat} {A B : List ByteArray} {r r' : Int} {x y x' y' : Value} (k2 : Blk v (w.heap.size + 1 + 1) [x, y]) (k3 : Blk v (w.heap.size + 1 + 1 + 1) [x', y']) (hA : Txts v a n c A) (hB : Txts v b m d B)
    (oA : Off a n w.heap.size (w.heap.size + 1 + 1 + 1 + 1)) (oB : Off b m w.heap.size (w.heap.size + 1 + 1 + 1 + 1)) (hb : Below w.heap.size w v) : ∀ V, V = ((((v.setCell ⟨w.heap.size + 1 + 1, 0, none⟩ (.int .i64 r)).setCell ⟨w.heap.size + 1 + 1, 1, none⟩ (.slice a n c)).setCell ⟨w.heap.size + 1 + 1 + 1, 0, none⟩ (.int .i64 r')).setCell ⟨w.heap.size + 1 + 1 + 1, 1, none⟩ (.slice b m d)).drew →
    Blk V (w.heap.size + 1 + 1) [.int .i64 r, .slice a n c] ∧ Blk V (w.heap.size + 1 + 1 + 1) [.int .i64 r', .slice b m d] ∧ Txts V a n c A ∧ Txts V b m d B ∧ Below w.heap.size w V := by
  intro V hV
  subst hV
  have g1 : w.heap.size ≤ w.heap.size + 1 + 1 := by omega
  have g2 : w.heap.size ≤ w.heap.size + 1 + 1 + 1 := by omega
  have s1 : w.heap.size + 1 + 1 < w.heap.size + 1 + 1 + 1 + 1 := by omega
  have s2 : w.heap.size + 1 + 1 + 1 < w.heap.size + 1 + 1 + 1 + 1 := by omega
  refine ⟨((((k2.set 0 (.int .i64 r)).set 1 (.slice a n c)).other ⟨w.heap.size + 1 + 1 + 1, 0, none⟩ (.int .i64 r') (by dsimp only; omega)).other ⟨w.heap.size + 1 + 1 + 1, 1, none⟩ (.slice b m d) (by dsimp only; omega)).drew,
    ((((k3.other ⟨w.heap.size + 1 + 1, 0, none⟩ (.int .i64 r) (by dsimp only; omega)).other ⟨w.heap.size + 1 + 1, 1, none⟩ (.slice a n c) (by dsimp only; omega)).set 0 (.int .i64 r')).set 1 (.slice b m d)).drew,
    ((((hA.set oA ⟨w.heap.size + 1 + 1, 0, none⟩ (.int .i64 r) g1 s1).set oA ⟨w.heap.size + 1 + 1, 1, none⟩ (.slice a n c) g1 s1).set oA ⟨w.heap.size + 1 + 1 + 1, 0, none⟩ (.int .i64 r') g2 s2).set oA ⟨w.heap.size + 1 + 1 + 1, 1, none⟩ (.slice b m d) g2 s2).drew,
    ((((hB.set oB ⟨w.heap.size + 1 + 1, 0, none⟩ (.int .i64 r) g1 s1).set oB ⟨w.heap.size + 1 + 1, 1, none⟩ (.slice a n c) g1 s1).set oB ⟨w.heap.size + 1 + 1 + 1, 0, none⟩ (.int .i64 r') g2 s2).set oB ⟨w.heap.size + 1 + 1 + 1, 1, none⟩ (.slice b m d) g2 s2).drew,
    ?_⟩
  exact ((((hb.setCell (p := ⟨w.heap.size + 1 + 1, 0, none⟩) g1 _).setCell (p := ⟨w.heap.size + 1 + 1, 1, none⟩) g1 _).setCell (p := ⟨w.heap.size + 1 + 1 + 1, 0, none⟩) g2 _).setCell (p := ⟨w.heap.size + 1 + 1 + 1, 1, none⟩) g2 _).drew

set_option maxRecDepth 100000 in
set_option maxHeartbeats 4000000 in
theorem move_any (r r' : Int) (a b : Option Addr) (n c m d : Nat) (most : Int) (A B : List ByteArray) (w : World) (hA : Txts w a n c A) (hB : Txts w b m d B) (hn : n ≤ 1000000) (hm : m ≤ 1000000) (hr : -9223372036854775808 ≤ r' ∧ r' < 9223372036854775808) :
    Calls Try.prog 14 #[(.agg #[.int .i64 r, .slice a n c] : Value), (.agg #[.int .i64 r', .slice b m d] : Value), .int .i64 most] w (GotMove r r' (A.drop (moveN most n r' m)) (B ++ A.take (moveN most n r' m)) (moveN most n r' m) w) := by
  obtain ⟨hx1, hx2⟩ := moveN_is most n r' m
  obtain ⟨x, hx⟩ : ∃ x, moveN most n r' m = x := ⟨_, rfl⟩
  rw [hx] at hx1 hx2 ⊢
  obtain ⟨k, hk⟩ : ∃ k, max (max r' 0 - (m : Int)) 0 = k := ⟨_, rfl⟩
  obtain ⟨y, hy⟩ : ∃ y, min (min most (n : Int)) k = y := ⟨_, rfl⟩
  rw [hk, hy] at hx1
  have hif := min_three _ _ _ _ hy
  have LG := Lib.hid (left_gives r' b m d k (by omega) hr hk)
  obtain ⟨W, hW, w0, w1, w2, w3, wB⟩ := four_boxes w r r' a b n c m d
  have K0 := Lib.hid w0
  have K1 := Lib.hid w1
  have K2 := Lib.hid w2
  have K3 := Lib.hid w3
  have HB := Lib.hid wB
  have HW := Lib.hid hW
  have HA := Lib.hid hA
  have HBB := Lib.hid hB
  have HN := Lib.hid hn
  have HM := Lib.hid hm
  have HX := Lib.hid hx2
  obtain ⟨z, hz⟩ : ∃ z, n - x = z := ⟨_, rfl⟩
  have hnc := hA.2.1
  have CU := Lib.hid (fun w => cut_zero a n c x w (by omega))
  have CV : Hid (∀ w, Calls Try.prog 23 #[.slice a n c, .int .i64 (x : Int), .int .i64 (n : Int)] w fun e w' => e = .returned (.slice (cutA a x n) z z) ∧ w = w') := Lib.hid (fun w => by rw [← hz]; exact cut_any a n c x n w hx2 hnc)
  have TA : Hid (∀ w', Below w.heap.size w w' → Txts w' (cutA a 0 x) x x (A.take x)) := Lib.hid (fun w' hb => (hA.on hb).cut0 x hx2)
  have TZ : Hid (∀ w', Below w.heap.size w w' → Txts w' (cutA a x n) z z (A.drop x)) := Lib.hid (fun w' hb => by
    have e := (hA.on hb).cut x n hx2 (Nat.le_refl _)
    rw [List.take_of_length_le (by rw [List.length_drop, hA.1]; omega), hz] at e
    exact e)
  have HZ : Hid (z ≤ 1000000) := Lib.hid (by omega)
  have HX6 : Hid (x ≤ 1000000) := Lib.hid (by omega)
  clear hz hnc hx hk hy hr hW w0 w1 w2 w3 wB hA hB hn hm hx2
  go_enter Try.func14, Try.ntmps14
  go_upto_region 1 with fail
  rw [HW.out]
  have c0 := cell_regrown (K0.out.cell 0 rfl)
  have c1 := cell_regrown (K0.out.cell 1 rfl)
  have d0 := cell_regrown (K1.out.cell 0 rfl)
  have d1 := cell_regrown (K1.out.cell 1 rfl)
  refine wp_region_quiet_below (by kernel_rfl) (by kernel_rfl) ?_
  repeat (first | go_big_quiet_step (first | with_reducible exact LG.out.at _ _ _) | quiet_step (first | with_reducible exact LG.out.at _ _ _))
  refine wpQuiet_nil ?_
  intro _ hw'
  obtain ⟨⟨dq, osq⟩, hw''⟩ := hw'
  subst hw''
  clear c0 c1 d0 d1 hif hx1 LG
  obtain ⟨v1, hv1⟩ : ∃ v, grow (redrawn W dq) osq = v := ⟨_, rfl⟩
  have hr1 := below_regrown W dq osq
  rw [hv1] at hr1 ⊢
  have k0 := Lib.hid (K0.out.on hr1)
  have k1 := Lib.hid (K1.out.on hr1)
  have k2 := Lib.hid (K2.out.on hr1)
  have k3 := Lib.hid (K3.out.on hr1)
  have hB := Lib.hid (bel_on HB.out hr1)
  clear hr1 hv1 K0 K1 K2 K3 HB HW
  go_upto_region 2 with fail
  have s0 : v1.drew.cell? ⟨w.heap.size + 1, 1, none⟩ = some (.slice b m d) ∧ v1.drew.cell? ⟨w.heap.size, 1, none⟩ = some (.slice a n c) := ⟨k1.out.drew.cell 1 rfl, k0.out.drew.cell 1 rfl⟩
  refine wp_region_tail (fun w' => w'.cell? ⟨w.heap.size + 1, 1, none⟩ = some (.slice b m d) ∧ w'.cell? ⟨w.heap.size, 1, none⟩ = some (.slice a n c)) (fun j => j == 9) (by kernel_rfl) s0 (fun hS => ?_)
  refine wpAnyT_take 0 rfl (by kernel_rfl) (by kernel_rfl) (by kernel_rfl) (by kernel_rfl) (fun _ _ _ h => h) (by rfl) (by intro w hSw; (try dsimp only at hSw); go_simp <;> with_reducible rfl) (by assumption) ?_
  try simp only [Act.put]
  try simp only [List.setIfInBounds_toArray]
  try simp only [List.set]
  refine wpAnyT_take 1 rfl (by kernel_rfl) (by kernel_rfl) (by kernel_rfl) (by kernel_rfl) (fun _ _ _ h => h) (by rfl) (by intro w hSw; (try dsimp only at hSw); go_simp <;> with_reducible rfl) (by assumption) ?_
  try simp only [Act.put]
  try simp only [List.setIfInBounds_toArray]
  try simp only [List.set]
  refine wpAnyT_take 2 rfl (by kernel_rfl) (by kernel_rfl) (by kernel_rfl) (by kernel_rfl) (fun _ _ _ h => h) (by rfl) (by intro w hSw; (try dsimp only at hSw); go_simp <;> with_reducible rfl) (by assumption) ?_
  try simp only [Act.put]
  try simp only [List.setIfInBounds_toArray]
  try simp only [List.set]
  refine wpAnyT_take 3 rfl (by kernel_rfl) (by kernel_rfl) (by kernel_rfl) (by kernel_rfl) (fun _ _ _ h => h) (by rfl) (by intro w hSw; (try dsimp only at hSw); go_simp <;> with_reducible rfl) (by assumption) ?_
  try simp only [Act.put]
  try simp only [List.setIfInBounds_toArray]
  try simp only [List.set]
  refine wpAnyT_take 4 rfl (by kernel_rfl) (by kernel_rfl) (by kernel_rfl) (by kernel_rfl) (fun _ _ _ h => h) (by rfl) (by intro w hSw; (try dsimp only at hSw); go_simp <;> with_reducible rfl) (by assumption) ?_
  try simp only [Act.put]
  try simp only [List.setIfInBounds_toArray]
  try simp only [List.set]
  refine wpAnyT_one 5 rfl (by kernel_rfl) (fun K hK => ?_)
  go_simp
  refine (CU.out _).mono ?_
  rintro e w1 ⟨rfl, rfl⟩
  go_simp
  refine hK.out _ _ (by first | (intro hno; cases hno; done) | exact fun _ => hS) (fun _ => ?_)
  clear hK K
  try simp only [Act.put]
  try simp only [List.setIfInBounds_toArray]
  try simp only [List.set]
  refine wpAnyT_one 6 rfl (by kernel_rfl) (fun K hK => ?_)
  go_simp
  refine hK.out _ _ (fun _ => ⟨cell_later ((Below.refl _ _).alloc (Nat.le_refl _) _) hS.1, cell_later ((Below.refl _ _).alloc (Nat.le_refl _) _) hS.2⟩) (fun _ => ?_)
  clear hK K
  try simp only [Act.put]
  try simp only [List.setIfInBounds_toArray]
  try simp only [List.set]
  refine wpAnyT_one 7 rfl (by kernel_rfl) (fun K hK => ?_)
  go_simp
  have HB1 : Below w.heap.size w v1.drew := hB.out.drew
  refine (concat_any _ b (cutA a 0 x) m d x x B (A.take x) _ (Blk.new v1.drew [.slice b m d, .slice (cutA a 0 x) x x] 25) (HBB.out.on (HB1.alloc HB1.size _)) (TA.out _ (HB1.alloc HB1.size _)) HM.out HX6.out).mono ?_
  rintro e w2 ⟨b2, m2, d2, rfl, ht, ho, hb⟩
  have B0 := (k0.out.drew.next (.cells #[.slice b m d, .slice (cutA a 0 x) x x] 25)).on hb
  have B1 := (k1.out.drew.next (.cells #[.slice b m d, .slice (cutA a 0 x) x x] 25)).on hb
  have B2 := (k2.out.drew.next (.cells #[.slice b m d, .slice (cutA a 0 x) x x] 25)).on hb
  have B3 := (k3.out.drew.next (.cells #[.slice b m d, .slice (cutA a 0 x) x x] 25)).on hb
  have hlt3 : w.heap.size + 1 + 1 + 1 < v1.heap.size := k3.out.lt
  have hsz : (v1.drew.alloc (.cells #[.slice b m d, .slice (cutA a 0 x) x x] 25)).heap.size = v1.heap.size + 1 := by simp only [World.size_alloc]; rfl
  rw [hsz] at ho
  have hb2 := bel_on (HB1.alloc HB1.size (.cells #[.slice b m d, .slice (cutA a 0 x) x x] 25)) hb
  have hS2 := And.intro (B1.cell 1 rfl) (B0.cell 1 rfl)
  go_simp
  refine hK.out _ _ (fun _ => hS2) (fun _ => ?_)
  clear hK K hS
  have hS := hS2
  try simp only [Act.put]
  try simp only [List.setIfInBounds_toArray]
  try simp only [List.set]
  refine wpAnyT_take 8 rfl (by kernel_rfl) (by kernel_rfl) (by kernel_rfl) (by kernel_rfl) (fun _ _ _ h => h) (by rfl) (by intro w hSw; (try dsimp only at hSw); go_simp <;> with_reducible rfl) (by assumption) ?_
  try simp only [Act.put]
  try simp only [List.setIfInBounds_toArray]
  try simp only [List.set]
  have t1 := B1.thaw 1
  refine wpAnyT_one 9 rfl (by kernel_rfl) (fun K hK => ?_)
  go_simp
  refine hK.out _ _ (by first | (intro hno; cases hno; done) | exact fun _ => hS) (fun _ => ?_)
  clear hK K
  try simp only [Act.put]
  try simp only [List.setIfInBounds_toArray]
  try simp only [List.set]
  refine wpAnyT_done (by kernel_rfl) ?_ _
  obtain ⟨v2, hv2⟩ : ∃ v, w2.setCell ⟨w.heap.size + 1, 1, none⟩ (.slice b2 m2 d2) = v := ⟨_, rfl⟩
  clear hS hS2 t1 s0 k0 k1 k2 k3 hB
  have k0 := Lib.hid (hv2 ▸ B0.other ⟨w.heap.size + 1, 1, none⟩ (.slice b2 m2 d2) (by dsimp only; omega))
  have k1 := Lib.hid (hv2 ▸ B1.set 1 (.slice b2 m2 d2))
  have k2 := Lib.hid (hv2 ▸ B2.other ⟨w.heap.size + 1, 1, none⟩ (.slice b2 m2 d2) (by dsimp only; omega))
  have k3 := Lib.hid (hv2 ▸ B3.other ⟨w.heap.size + 1, 1, none⟩ (.slice b2 m2 d2) (by dsimp only; omega))
  have T2 := Lib.hid (hv2 ▸ ht.set ho ⟨w.heap.size + 1, 1, none⟩ (.slice b2 m2 d2) (Nat.zero_le _) (by show w.heap.size + 1 < _; omega))
  have O2 : Hid (Off b2 m2 0 (w.heap.size + 1 + 1 + 1 + 1)) := Lib.hid (ho.mono (Nat.le_refl _) (by omega))
  have hB := Lib.hid (hv2 ▸ hb2.setCell (p := ⟨w.heap.size + 1, 1, none⟩) (by simp) (.slice b2 m2 d2))
  rw [hv2]
  clear hv2 B0 B1 B2 B3 ht ho hb hb2 hlt3 hsz HB1 CU TA
  have c0 := k0.out.cell 0 rfl
  have c1 := k0.out.cell 1 rfl
  go_wp2_with fail
  refine (CV.out _).mono ?_
  rintro e w3 ⟨rfl, rfl⟩
  go_wp2_with fail
  refine (clone_any (cutA a x n) z z (A.drop x) _ (TZ.out _ hB.out) HZ.out).mono ?_
  rintro e w4 ⟨a4, n4, c4, rfl, ht, ho, hb⟩
  have B0 := k0.out.on hb
  have B1 := k1.out.on hb
  have B2 := k2.out.on hb
  have B3 := k3.out.on hb
  have t2 := T2.out.on hb
  have hlt3 : w.heap.size + 1 + 1 + 1 < v2.heap.size := k3.out.lt
  clear c0 c1
  have c1 := B0.cell 1 rfl
  have f1 := B0.thaw 1
  go_upto_region 4 with fail
  obtain ⟨v3, hv3⟩ : ∃ v, w4.setCell ⟨w.heap.size, 1, none⟩ (.slice a4 n4 c4) = v := ⟨_, rfl⟩
  have hb4 := (bel_on hB.out hb).setCell (p := ⟨w.heap.size, 1, none⟩) (Nat.le_refl _) (.slice a4 n4 c4)
  have r0 := B0.set 1 (.slice a4 n4 c4)
  have r1 := B1.other ⟨w.heap.size, 1, none⟩ (.slice a4 n4 c4) (by dsimp only; omega)
  have r2 := B2.other ⟨w.heap.size, 1, none⟩ (.slice a4 n4 c4) (by dsimp only; omega)
  have r3 := B3.other ⟨w.heap.size, 1, none⟩ (.slice a4 n4 c4) (by dsimp only; omega)
  have u2 := t2.set O2.out ⟨w.heap.size, 1, none⟩ (.slice a4 n4 c4) (Nat.zero_le _) (by show w.heap.size < _; omega)
  have u4 := ht.set ho ⟨w.heap.size, 1, none⟩ (.slice a4 n4 c4) (Nat.zero_le _) (by show w.heap.size < _; omega)
  have o4 : Off a4 n4 0 (w.heap.size + 1 + 1 + 1 + 1) := ho.mono (Nat.le_refl _) (by omega)
  rw [hv3] at hb4 r0 r1 r2 r3 u2 u4 ⊢
  have k0' := Lib.hid r0
  have k1' := Lib.hid r1
  have k2' := Lib.hid r2
  have k3' := Lib.hid r3
  have U2 := Lib.hid u2
  have U4 := Lib.hid u4
  have O4 := Lib.hid o4
  have HB4 := Lib.hid hb4
  clear hv3 hb4 r0 r1 r2 r3 u2 u4 o4 B0 B1 B2 B3 t2 ht ho hb hlt3 c1 f1 k0 k1 k2 k3 T2 hB
  have a0 := k0'.out.cell 0 rfl
  have a1 := k0'.out.cell 1 rfl
  have b0 := k1'.out.cell 0 rfl
  have b1 := k1'.out.cell 1 rfl
  have x0 := k2'.out.cell 0 rfl
  have x1 := k2'.out.cell 1 rfl
  have y0 := k3'.out.cell 0 rfl
  have y1 := k3'.out.cell 1 rfl
  have p0 := k2'.out.thaw 0
  have p1 := k2'.out.thaw 1
  have q0 := k3'.out.thaw 0
  have q1 := k3'.out.thaw 1
  have RT := Lib.hid (move_tail (r := r) (r' := r') k2'.out k3'.out U4.out U2.out (O4.out.mono (Nat.zero_le _) (Nat.le_refl _)) (O2.out.mono (Nat.zero_le _) (Nat.le_refl _)) HB4.out _ rfl)
  go_region
  go_wp2_with fail
  have e0 := RT.out.1.cell 0 rfl
  have e1 := RT.out.1.cell 1 rfl
  have e2 := RT.out.2.1.cell 0 rfl
  have e3 := RT.out.2.1.cell 1 rfl
  refine bodyPost_ret (v := .tuple #[(.agg #[.int .i64 r, .slice a4 n4 c4] : Value), (.agg #[.int .i64 r', .slice b2 m2 d2] : Value), .int .i64 (x : Int)]) (by simp [results, Try.results14, go_sem, e0, e1, e2, e3]) rfl ⟨a4, n4, c4, b2, m2, d2, rfl, RT.out.2.2.1, RT.out.2.2.2.1, O4.out.mono (Nat.le_refl _) (by omega), O2.out.mono (Nat.le_refl _) (by omega), RT.out.2.2.2.2⟩
end Go.Proofs.Ytogmneidfoedbaa
