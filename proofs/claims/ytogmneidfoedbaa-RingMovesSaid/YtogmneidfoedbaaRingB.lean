/- Contracts of package ring, part B: Peek, Long, Put. -/
import Derived.Test.YtogmneidfoedbaaRingA
namespace Go.Proofs.Ytogmneidfoedbaa
open Go.RowKit Go.Sort

set_option maxHeartbeats 400000 in
theorem peek_no (r : Int) (a : Option Addr) (n c : Nat) (i : Int) (h : i < 0 ∨ (n : Int) ≤ i) :
    Gives Try.prog 10 #[(.agg #[.int .i64 r, .slice a n c] : Value), .int .i64 i] (.tuple #[.string ⟨#[]⟩, .bool false]) := by
  intro w
  by_cases h0 : i < 0
  · have d0 : decide (i < 0) = true := decide_eq_true h0
    clear h h0
    go_enter Try.func10, Try.ntmps10
    go_wp2
    go_ret2
    exact ⟨rfl, (Below.refl _ _).alloc (Nat.le_refl _) _⟩
  · have d0 : decide (i < 0) = false := decide_eq_false h0
    have d1 : decide ((n : Int) ≤ i) = true := decide_eq_true (by omega)
    clear h h0
    go_enter Try.func10, Try.ntmps10
    go_wp2
    go_ret2
    exact ⟨rfl, (Below.refl _ _).alloc (Nat.le_refl _) _⟩

set_option maxHeartbeats 400000 in
theorem peek_at (r : Int) (a : Option Addr) (n c : Nat) (i : Int) (k : Nat) (x : ByteArray) (L : List ByteArray) (w : World) (h : Txts w a n c L) (hi : i = (k : Int)) (hx : L[k]? = some x) :
    Calls Try.prog 10 #[(.agg #[.int .i64 r, .slice a n c] : Value), .int .i64 i] w fun e w' => e = .returned (.tuple #[.string x, .bool true]) ∧ Below w.heap.size w w' := by
  obtain ⟨b, rfl, hc⟩ := (h.next (.cells #[.int .i64 r, .slice a n c] 27)).2.2.2.2 k x hx
  have hk := (List.getElem?_eq_some_iff.1 hx).1
  have hkn : k < n := by have := h.1; omega
  subst hi
  have d0 : decide ((k : Int) < 0) = false := decide_eq_false (by omega)
  have d1 : decide (n ≤ k) = false := decide_eq_false (by omega)
  have l0 : (0 : Int) ≤ (k : Int) := by omega
  have l1 : (k : Int) < (n : Int) := by omega
  clear h hx hk hkn
  go_enter Try.func10, Try.ntmps10
  go_wp2
  go_ret2
  exact ⟨rfl, (Below.refl _ _).alloc (Nat.le_refl _) _⟩

theorem long_gives (r : Int) (a : Option Addr) (n c : Nat) : Gives Try.prog 9 #[(.agg #[.int .i64 r, .slice a n c] : Value)] (.int .i64 (n : Int)) := by
  intro w
  go_enter Try.func9, Try.ntmps9
  go_wp2
  go_ret
  exact ⟨rfl, (Below.refl _ _).alloc (Nat.le_refl _) _⟩

/-- A ring of its own with these texts, and an error's number. -/
def GotRingErr (r : Int) (L : List ByteArray) (x : Int) (w : World) (e : Ending) (w' : World) : Prop := ∃ a n c, e = .returned (.tuple #[(.agg #[.int .i64 r, .slice a n c] : Value), .int .i64 x]) ∧ Txts w' a n c L ∧ Off a n 0 w.heap.size ∧ Below w.heap.size w w'

set_option maxHeartbeats 1000000 in
theorem put_full (r : Int) (a : Option Addr) (n c : Nat) (L : List ByteArray) (s : ByteArray) (w : World) (h : Txts w a n c L) (hn : n ≤ 1000000) (hr : -9223372036854775808 ≤ r ∧ r < 9223372036854775808) (hf : r ≤ (n : Int)) :
    Calls Try.prog 7 #[(.agg #[.int .i64 r, .slice a n c] : Value), .string s] w (GotRingErr r L 8 w) := by
  have H := Lib.hid h
  have LG := Lib.hid (left_gives r a n c 0 (by omega) hr (by omega))
  have HN := Lib.hid hn
  clear h hn hr hf
  go_enter Try.func7, Try.ntmps7
  go_wp2_with fail
  refine (LG.out _).mono ?_
  rintro e w1 ⟨rfl, hb⟩
  obtain ⟨T0, T1, TB⟩ := two_boxes w r a n c
  have K0 := Lib.hid (T0.on hb)
  have K1 := Lib.hid (T1.on hb)
  have HB := Lib.hid (bel_on TB hb)
  have c0 := K0.out.cell 0 rfl
  have c1 := K0.out.cell 1 rfl
  clear hb T0 T1 TB
  go_wp2_with fail
  refine (copied_any r a n c L _ (H.out.on HB.out) HN.out).mono ?_
  rintro e w2 ⟨a', m, c', rfl, ht, ho, hb⟩
  have B1 := K1.out.on hb
  have hlt : w.heap.size + 1 < w1.heap.size := K1.out.lt
  have RT := Lib.hid (ring_tail2 (r := r) B1 ht ho hlt (bel_on HB.out hb))
  have d0 := B1.cell 0 rfl
  have d1 := B1.cell 1 rfl
  have g0 := B1.thaw 0
  have g1 := B1.thaw 1
  clear B1 ht ho hb c0 c1 hlt
  go_wp2_with fail
  have e0 := RT.out.1.cell 0 rfl
  have e1 := RT.out.1.cell 1 rfl
  refine bodyPost_ret (v := .tuple #[(.agg #[.int .i64 r, .slice a' m c'] : Value), .int .i64 8]) (by simp [results, Try.results7, go_sem, e0, e1]) rfl ⟨a', m, c', rfl, RT.out.2⟩

set_option maxHeartbeats 1000000 in
theorem put_ok (r : Int) (a : Option Addr) (n c : Nat) (L : List ByteArray) (s : ByteArray) (w : World) (h : Txts w a n c L) (hn : n ≤ 1000000) (hr : -9223372036854775808 ≤ r ∧ r < 9223372036854775808) (hf : (n : Int) < r) :
    Calls Try.prog 7 #[(.agg #[.int .i64 r, .slice a n c] : Value), .string s] w (GotRingErr r (L ++ [s]) 0 w) := by
  have H := Lib.hid h
  obtain ⟨k, hk⟩ : ∃ k, max (max r 0 - (n : Int)) 0 = k := ⟨_, rfl⟩
  have hk0 : (k == 0) = false := by
    have : k ≠ 0 := by omega
    simpa using this
  have LG := Lib.hid (left_gives r a n c k (by omega) hr hk)
  have HN := Lib.hid hn
  have hl := h.2.1
  have CU := Lib.hid (fun w => cut_zero a n c n w hl)
  clear h hn hr hf hk hl
  go_enter Try.func7, Try.ntmps7
  go_wp2_with fail
  refine (LG.out _).mono ?_
  rintro e w1 ⟨rfl, hb⟩
  obtain ⟨T0, T1, TB⟩ := two_boxes w r a n c
  have K0 := Lib.hid (T0.on hb)
  have K1 := Lib.hid (T1.on hb)
  have HB := Lib.hid (bel_on TB hb)
  have HT := Lib.hid (H.out.on HB.out).full
  have c0 := K0.out.cell 0 rfl
  have c1 := K0.out.cell 1 rfl
  have f1 := K0.out.thaw 1
  clear hb T0 T1 TB
  go_wp2_with fail
  refine (CU.out _).mono ?_
  rintro e w2 ⟨rfl, rfl⟩
  go_wp2_with (at_builtin; refine app_grow rfl (.tmp 16) (.tmp 18) rfl (cutA a 0 n) (some ⟨w1.heap.size, 0, none⟩) n n 1 1 L [s] rfl rfl (HT.out.next _) (one_txts (Blk.new w1 [.string s] 9)) (Nat.lt_succ_self _) (by have := HN.out; omega) ?_; intro a' c' w2 ht ho hg; have B0 := blk_grown (K0.out.next (.cells #[.string s] 9)) hg (fun k e => by cases e); have B1 := blk_grown (K1.out.next (.cells #[.string s] 9)) hg (fun k e => by cases e); have RT := Lib.hid (ring_tail (r := r) B1 ht ho (Nat.lt_trans K1.out.lt (by simp only [World.size_alloc]; omega)) ((HB.out.alloc HB.out.size _).grown hg (Nat.le_trans HB.out.size (by simp only [World.size_alloc]; omega)) (fun k e => by cases e))); have c0' := B0.cell 0 rfl; have c1' := B0.cell 1 rfl; have d0' := B1.cell 0 rfl; have d1' := B1.cell 1 rfl; have f1' := B0.thaw 1; have g0' := B1.thaw 0; have g1' := B1.thaw 1; clear B0 B1 ht ho hg)
  have e0 := RT.out.1.cell 0 rfl
  have e1 := RT.out.1.cell 1 rfl
  refine bodyPost_ret (v := .tuple #[(.agg #[.int .i64 r, .slice a' (n + 1) c'] : Value), .int .i64 0]) (by simp [results, Try.results7, go_sem, e0, e1]) rfl ⟨a', n + 1, c', rfl, RT.out.2⟩
end Go.Proofs.Ytogmneidfoedbaa
