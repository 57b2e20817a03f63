/- Contracts of package ring, part D: Drop, Take. -/
import Derived.Test.YtogmneidfoedbaaRingC
import Derived.Test.YtogmneidfoedbaaTail
namespace Go.Proofs.Ytogmneidfoedbaa
open Go.RowKit Go.Sort

set_option maxHeartbeats 1000000 in
theorem drop_none (r : Int) (a : Option Addr) (n c : Nat) (i : Int) (L : List ByteArray) (w : World) (h : Txts w a n c L) (hn : n ≤ 1000000) (hi : i < 0 ∨ (n : Int) ≤ i) :
    Calls Try.prog 19 #[(.agg #[.int .i64 r, .slice a n c] : Value), .int .i64 i] w (GotRingErr r L 9 w) := by
  have H := Lib.hid h
  have PK := Lib.hid (peek_no r a n c i hi)
  have HN := Lib.hid hn
  clear h hn hi
  go_enter Try.func19, Try.ntmps19
  go_wp2_with fail
  refine (PK.out _).mono ?_
  rintro e w1 ⟨rfl, hb⟩
  obtain ⟨T0, T1, TB⟩ := two_boxes w r a n c
  have K0 := Lib.hid (T0.on hb)
  have K1 := Lib.hid (T1.on hb)
  have HB := Lib.hid (bel_on TB hb)
  have c0 := K0.out.cell 0 rfl
  have c1 := K0.out.cell 1 rfl
  clear hb T0 T1 TB
  go_wp2_with fail
  refine (copied_any r a n c L _ (H.out.on HB.out) HN.out).mono ?_
  rintro e w2 ⟨a', m, c', rfl, ht, ho, hb⟩
  have B1 := K1.out.on hb
  have hlt : w.heap.size + 1 < w1.heap.size := K1.out.lt
  have RT := Lib.hid (ring_tail2 (r := r) B1 ht ho hlt (bel_on HB.out hb))
  have d0 := B1.cell 0 rfl
  have d1 := B1.cell 1 rfl
  have g0 := B1.thaw 0
  have g1 := B1.thaw 1
  clear B1 ht ho hb c0 c1 hlt
  go_wp2_with fail
  have e0 := RT.out.1.cell 0 rfl
  have e1 := RT.out.1.cell 1 rfl
  refine bodyPost_ret (v := .tuple #[(.agg #[.int .i64 r, .slice a' m c'] : Value), .int .i64 9]) (by simp [results, Try.results19, go_sem, e0, e1]) rfl ⟨a', m, c', rfl, RT.out.2⟩

set_option maxHeartbeats 2000000 in
theorem drop_ok (r : Int) (a : Option Addr) (n c : Nat) (i : Int) (k : Nat) (x : ByteArray) (L : List ByteArray) (w : World) (h : Txts w a n c L) (hn : n ≤ 1000000) (hi : i = (k : Int)) (hx : L[k]? = some x) :
    Calls Try.prog 19 #[(.agg #[.int .i64 r, .slice a n c] : Value), .int .i64 i] w (GotRingErr r (L.take k ++ L.drop (k + 1)) 0 w) := by
  have H := Lib.hid h
  have PK := Lib.hid (fun w' (hb : Below w.heap.size w w') => peek_at r a n c i k x L w' (h.on hb) hi hx)
  have hkl := (List.getElem?_eq_some_iff.1 hx).1
  have hkn : k < n := by have := h.1; omega
  have hnc := h.2.1
  subst hi
  obtain ⟨k1, hk1⟩ : ∃ k1, k + 1 = k1 := ⟨_, rfl⟩
  obtain ⟨m, hm⟩ : ∃ m, n - k1 = m := ⟨_, rfl⟩
  have es : (k : Int) + 1 = (k1 : Int) := by omega
  have ew : wrap64 (k1 : Int) = (k1 : Int) := IntWalk.wrap64_in _ (by omega)
  have ew2 : IntKind.i64.wrap (k1 : Int) = (k1 : Int) := IntWalk.i64_in _ (by omega)
  have CA := Lib.hid (fun w => cut_zero a n c k w (by omega))
  have CB : Hid (∀ w, Calls Try.prog 23 #[.slice a n c, .int .i64 (k1 : Int), .int .i64 (n : Int)] w fun e w' => e = .returned (.slice (cutA a k1 n) m m) ∧ w = w') := Lib.hid (fun w => by rw [← hm]; exact cut_any a n c k1 n w (by omega) hnc)
  have TA : Hid (∀ w', Below w.heap.size w w' → Txts w' (cutA a 0 k) k k (L.take k)) := Lib.hid (fun w' hb => (h.on hb).cut0 k (by omega))
  have TB2 : Hid (∀ w', Below w.heap.size w w' → Txts w' (cutA a k1 n) m m (L.drop (k + 1))) := Lib.hid (fun w' hb => by
    have e := (h.on hb).cut k1 n (by omega) (Nat.le_refl _)
    rw [List.take_of_length_le (by rw [List.length_drop, h.1]; omega)] at e
    rw [hm] at e
    rw [hk1]; exact e)
  have HK : Hid (k ≤ 1000000) := Lib.hid (by omega)
  have HM : Hid (m ≤ 1000000) := Lib.hid (by omega)
  clear h hn hx hkl hkn hnc hk1 hm
  go_enter Try.func19, Try.ntmps19
  go_wp2_with fail
  obtain ⟨T0, T1, TB⟩ := two_boxes w r a n c
  refine (PK.out _ TB).mono ?_
  rintro e w1 ⟨rfl, hb⟩
  have K0 := Lib.hid (T0.on hb)
  have K1 := Lib.hid (T1.on hb)
  have HB := Lib.hid (bel_on TB hb)
  clear hb T0 T1 TB
  go_upto_region 4 with fail
  have s0 : w1.drew.cell? ⟨w.heap.size, 1, none⟩ = some (.slice a n c) := K0.out.drew.cell 1 rfl
  refine wp_region_tail (fun w' => w'.cell? ⟨w.heap.size, 1, none⟩ = some (.slice a n c)) (fun j => j == 15) (by kernel_rfl) s0 (fun hS => ?_)
  refine wpAnyT_take 0 rfl (by kernel_rfl) (by kernel_rfl) (by kernel_rfl) (by kernel_rfl) (fun _ _ _ h => h) (by rfl) (by intro w hSw; (try dsimp only at hSw); go_simp <;> with_reducible rfl) (by assumption) ?_
  try simp only [Act.put]
  try simp only [List.setIfInBounds_toArray]
  try simp only [List.set]
  refine wpAnyT_take 1 rfl (by kernel_rfl) (by kernel_rfl) (by kernel_rfl) (by kernel_rfl) (fun _ _ _ h => h) (by rfl) (by intro w hSw; (try dsimp only at hSw); go_simp <;> with_reducible rfl) (by assumption) ?_
  try simp only [Act.put]
  try simp only [List.setIfInBounds_toArray]
  try simp only [List.set]
  refine wpAnyT_take 2 rfl (by kernel_rfl) (by kernel_rfl) (by kernel_rfl) (by kernel_rfl) (fun _ _ _ h => h) (by rfl) (by intro w hSw; (try dsimp only at hSw); go_simp <;> with_reducible rfl) (by assumption) ?_
  try simp only [Act.put]
  try simp only [List.setIfInBounds_toArray]
  try simp only [List.set]
  refine wpAnyT_take 4 rfl (by kernel_rfl) (by kernel_rfl) (by kernel_rfl) (by kernel_rfl) (fun _ _ _ h => h) (by rfl) (by intro w hSw; (try dsimp only at hSw); go_simp <;> with_reducible rfl) (by assumption) ?_
  try simp only [Act.put]
  try simp only [List.setIfInBounds_toArray]
  try simp only [List.set]
  refine wpAnyT_take 5 rfl (by kernel_rfl) (by kernel_rfl) (by kernel_rfl) (by kernel_rfl) (fun _ _ _ h => h) (by rfl) (by intro w hSw; (try dsimp only at hSw); go_simp <;> with_reducible rfl) (by assumption) ?_
  try simp only [Act.put]
  try simp only [List.setIfInBounds_toArray]
  try simp only [List.set]
  refine wpAnyT_take 6 rfl (by kernel_rfl) (by kernel_rfl) (by kernel_rfl) (by kernel_rfl) (fun _ _ _ h => h) (by rfl) (by intro w hSw; (try dsimp only at hSw); go_simp <;> with_reducible rfl) (by assumption) ?_
  try simp only [Act.put]
  try simp only [List.setIfInBounds_toArray]
  try simp only [List.set]
  refine wpAnyT_take 7 rfl (by kernel_rfl) (by kernel_rfl) (by kernel_rfl) (by kernel_rfl) (fun _ _ _ h => h) (by rfl) (by intro w hSw; (try dsimp only at hSw); go_simp <;> with_reducible rfl) (by assumption) ?_
  try simp only [Act.put]
  try simp only [List.setIfInBounds_toArray]
  try simp only [List.set]
  refine wpAnyT_take 8 rfl (by kernel_rfl) (by kernel_rfl) (by kernel_rfl) (by kernel_rfl) (fun _ _ _ h => h) (by rfl) (by intro w hSw; (try dsimp only at hSw); go_simp <;> with_reducible rfl) (by assumption) ?_
  try simp only [Act.put]
  try simp only [List.setIfInBounds_toArray]
  try simp only [List.set]
  refine wpAnyT_take 9 rfl (by kernel_rfl) (by kernel_rfl) (by kernel_rfl) (by kernel_rfl) (fun _ _ _ h => h) (by rfl) (by intro w hSw; (try dsimp only at hSw); go_simp <;> with_reducible rfl) (by assumption) ?_
  try simp only [Act.put]
  try simp only [List.setIfInBounds_toArray]
  try simp only [List.set]
  refine wpAnyT_take 10 rfl (by kernel_rfl) (by kernel_rfl) (by kernel_rfl) (by kernel_rfl) (fun _ _ _ h => h) (by rfl) (by intro w hSw; (try dsimp only at hSw); go_simp <;> with_reducible rfl) (by assumption) ?_
  try simp only [Act.put]
  try simp only [List.setIfInBounds_toArray]
  try simp only [List.set]
  refine wpAnyT_one 3 rfl (by kernel_rfl) (fun K hK => ?_)
  go_simp
  refine (CA.out _).mono ?_
  rintro e w1 ⟨rfl, rfl⟩
  go_simp
  refine hK.out _ _ (by first | (intro hno; cases hno; done) | exact fun _ => hS) (fun _ => ?_)
  clear hK K
  try simp only [Act.put]
  try simp only [List.setIfInBounds_toArray]
  try simp only [List.set]
  refine wpAnyT_one 11 rfl (by kernel_rfl) (fun K hK => ?_)
  go_simp
  refine (CB.out _).mono ?_
  rintro e w1 ⟨rfl, rfl⟩
  go_simp
  refine hK.out _ _ (by first | (intro hno; cases hno; done) | exact fun _ => hS) (fun _ => ?_)
  clear hK K
  try simp only [Act.put]
  try simp only [List.setIfInBounds_toArray]
  try simp only [List.set]
  refine wpAnyT_one 12 rfl (by kernel_rfl) (fun K hK => ?_)
  go_simp
  refine hK.out _ _ (fun _ => cell_later ((Below.refl _ _).alloc (Nat.le_refl _) _) hS) (fun _ => ?_)
  clear hK K
  try simp only [Act.put]
  try simp only [List.setIfInBounds_toArray]
  try simp only [List.set]
  refine wpAnyT_one 13 rfl (by kernel_rfl) (fun K hK => ?_)
  go_simp
  have HB1 : Below w.heap.size w w1.drew := HB.out.drew
  refine (concat_any _ (cutA a 0 k) (cutA a k1 n) k k m m _ _ _ (Blk.new w1.drew [.slice (cutA a 0 k) k k, .slice (cutA a k1 n) m m] 25) (TA.out _ (HB1.alloc HB1.size _)) (TB2.out _ (HB1.alloc HB1.size _)) HK.out HM.out).mono ?_
  rintro e w2 ⟨a', n', c', rfl, ht, ho, hb⟩
  have B0 := (K0.out.drew.next (.cells #[.slice (cutA a 0 k) k k, .slice (cutA a k1 n) m m] 25)).on hb
  have B1 := (K1.out.drew.next (.cells #[.slice (cutA a 0 k) k k, .slice (cutA a k1 n) m m] 25)).on hb
  have RT := Lib.hid (ring_tail (r := r) B1 ht ho (Nat.lt_trans K1.out.lt (by simp only [World.size_alloc]; show w1.heap.size < w1.heap.size + 1; omega)) (bel_on (HB1.alloc HB1.size _) hb))
  have hS2 := B0.cell 1 rfl
  go_simp
  refine hK.out _ _ (fun _ => hS2) (fun _ => ?_)
  clear hK K hS
  have hS := hS2
  try simp only [Act.put]
  try simp only [List.setIfInBounds_toArray]
  try simp only [List.set]
  refine wpAnyT_take 14 rfl (by kernel_rfl) (by kernel_rfl) (by kernel_rfl) (by kernel_rfl) (fun _ _ _ h => h) (by rfl) (by intro w hSw; (try dsimp only at hSw); go_simp <;> with_reducible rfl) (by assumption) ?_
  try simp only [Act.put]
  try simp only [List.setIfInBounds_toArray]
  try simp only [List.set]
  have t1 := B0.thaw 1
  refine wpAnyT_one 15 rfl (by kernel_rfl) (fun K hK => ?_)
  go_simp
  refine hK.out _ _ (by first | (intro hno; cases hno; done) | exact fun _ => hS) (fun _ => ?_)
  clear hK K
  try simp only [Act.put]
  try simp only [List.setIfInBounds_toArray]
  try simp only [List.set]
  refine wpAnyT_done (by kernel_rfl) ?_ _
  clear hS hS2 t1 hb ht ho
  have c0 := B0.cell 0 rfl
  have f1 := B0.thaw 1
  have d0 := B1.cell 0 rfl
  have d1 := B1.cell 1 rfl
  have g0 := B1.thaw 0
  have g1 := B1.thaw 1
  clear B0 B1 HB1
  go_wp2_with fail
  have e0 := RT.out.1.cell 0 rfl
  have e1 := RT.out.1.cell 1 rfl
  refine bodyPost_ret (v := .tuple #[(.agg #[.int .i64 r, .slice a' n' c'] : Value), .int .i64 0]) (by simp [results, Try.results19, go_sem, e0, e1]) rfl ⟨a', n', c', rfl, RT.out.2⟩

/-- A ring of its own with these texts, a text, and an error's number. -/
def GotRingStr (r : Int) (L : List ByteArray) (s : ByteArray) (x : Int) (w : World) (e : Ending) (w' : World) : Prop := ∃ a n c, e = .returned (.tuple #[(.agg #[.int .i64 r, .slice a n c] : Value), .string s, .int .i64 x]) ∧ Txts w' a n c L ∧ Off a n 0 w.heap.size ∧ Below w.heap.size w w'

set_option maxHeartbeats 1000000 in
theorem take_none (r : Int) (a : Option Addr) (c : Nat) (w : World) (h : Txts w a 0 c []) :
    Calls Try.prog 8 #[(.agg #[.int .i64 r, .slice a 0 c] : Value)] w (GotRingStr r [] ⟨#[]⟩ 9 w) := by
  have H := Lib.hid h
  have PK : Hid (Gives Try.prog 10 #[(.agg #[.int .i64 r, .slice a 0 c] : Value), .int .i64 0] (.tuple #[.string ⟨#[]⟩, .bool false])) := Lib.hid (peek_no r a 0 c 0 (by omega))
  clear h
  go_enter Try.func8, Try.ntmps8
  go_wp2_with fail
  refine (PK.out _).mono ?_
  rintro e w1 ⟨rfl, hb⟩
  obtain ⟨T0, T1, TB⟩ := two_boxes w r a 0 c
  have K0 := Lib.hid (T0.on hb)
  have K1 := Lib.hid (T1.on hb)
  have HB := Lib.hid (bel_on TB hb)
  have c0 := K0.out.cell 0 rfl
  have c1 := K0.out.cell 1 rfl
  clear hb T0 T1 TB
  go_wp2_with fail
  refine (copied_any r a 0 c [] _ (H.out.on HB.out) (Nat.zero_le _)).mono ?_
  rintro e w2 ⟨a', m, c', rfl, ht, ho, hb⟩
  have B1 := K1.out.on hb
  have hlt : w.heap.size + 1 < w1.heap.size := K1.out.lt
  have RT := Lib.hid (ring_tail2 (r := r) B1 ht ho hlt (bel_on HB.out hb))
  have d0 := B1.cell 0 rfl
  have d1 := B1.cell 1 rfl
  have g0 := B1.thaw 0
  have g1 := B1.thaw 1
  clear B1 ht ho hb c0 c1 hlt
  go_wp2_with fail
  have e0 := RT.out.1.cell 0 rfl
  have e1 := RT.out.1.cell 1 rfl
  refine bodyPost_ret (v := .tuple #[(.agg #[.int .i64 r, .slice a' m c'] : Value), .string ⟨#[]⟩, .int .i64 9]) (by simp [results, Try.results8, go_sem, e0, e1]) rfl ⟨a', m, c', rfl, RT.out.2⟩

set_option maxHeartbeats 1000000 in
theorem take_ok (r : Int) (a : Option Addr) (n c : Nat) (x : ByteArray) (L : List ByteArray) (w : World) (h : Txts w a n c L) (hn : n ≤ 1000000) (hx : L[0]? = some x) :
    Calls Try.prog 8 #[(.agg #[.int .i64 r, .slice a n c] : Value)] w (GotRingStr r (L.drop 1) x 0 w) := by
  have PK : Hid (∀ w' (_ : Below w.heap.size w w'), Calls Try.prog 10 #[(.agg #[.int .i64 r, .slice a n c] : Value), .int .i64 0] w' fun e w'' => e = .returned (.tuple #[.string x, .bool true]) ∧ Below w'.heap.size w' w'') := Lib.hid (fun w' hb => peek_at r a n c 0 0 x L w' (h.on hb) rfl hx)
  have DR : Hid (∀ w' (_ : Below w.heap.size w w'), Calls Try.prog 19 #[(.agg #[.int .i64 r, .slice a n c] : Value), .int .i64 0] w' (GotRingErr r (L.drop 1) 0 w')) := Lib.hid (fun w' hb => by simpa using drop_ok r a n c 0 0 x L w' (h.on hb) hn rfl hx)
  clear h hn hx
  go_enter Try.func8, Try.ntmps8
  go_wp2_with fail
  obtain ⟨T0, T1, TB⟩ := two_boxes w r a n c
  refine (PK.out _ TB).mono ?_
  rintro e w1 ⟨rfl, hb⟩
  have K0 := Lib.hid (T0.on hb)
  have K1 := Lib.hid (T1.on hb)
  have HB := Lib.hid (bel_on TB hb)
  have c0 := K0.out.cell 0 rfl
  have c1 := K0.out.cell 1 rfl
  clear hb T0 T1 TB
  go_wp2_with fail
  refine (DR.out _ HB.out).mono ?_
  rintro e w2 ⟨a', m, c', rfl, ht, ho, hb⟩
  have B0 := K0.out.on hb
  have B1 := K1.out.on hb
  have hlt : w.heap.size + 1 < w1.heap.size := K1.out.lt
  have RT := Lib.hid (ring_tail4 (r := r) B1 ht ho hlt (bel_on HB.out hb))
  clear c0 c1
  have c0 := B0.cell 0 rfl
  have c1 := B0.cell 1 rfl
  have f0 := B0.thaw 0
  have f1 := B0.thaw 1
  have d0 := B1.cell 0 rfl
  have d1 := B1.cell 1 rfl
  have g0 := B1.thaw 0
  have g1 := B1.thaw 1
  clear B0 B1 ht ho hb hlt
  go_wp2_with fail
  have e0 := RT.out.1.cell 0 rfl
  have e1 := RT.out.1.cell 1 rfl
  refine bodyPost_ret (v := .tuple #[(.agg #[.int .i64 r, .slice a' m c'] : Value), .string x, .int .i64 0]) (by simp [results, Try.results8, go_sem, e0, e1]) rfl ⟨a', m, c', rfl, RT.out.2⟩
end Go.Proofs.Ytogmneidfoedbaa
