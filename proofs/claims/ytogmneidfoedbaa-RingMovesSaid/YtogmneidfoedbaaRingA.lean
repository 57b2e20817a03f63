/- Contracts of package ring, part A: left, cut; slices.Clone; copied. -/
import Derived.Test.YtogmneidfoedbaaQuiet
import Derived.Test.YtogmneidfoedbaaStrsApp
import Derived.Lib.MinMax
import Derived.WalkSpells
namespace Go.Proofs.Ytogmneidfoedbaa
open Go.RowKit Go.Sort

set_option maxHeartbeats 400000 in
theorem left_gives (r : Int) (a : Option Addr) (n c : Nat) (k : Int) (hn : n ≤ 1000000000) (hr : -9223372036854775808 ≤ r ∧ r < 9223372036854775808) (hk : max (max r 0 - (n : Int)) 0 = k) :
    Gives Try.prog 21 #[(.agg #[.int .i64 r, .slice a n c] : Value)] (.int .i64 k) := by
  intro w
  obtain ⟨m, hm⟩ : ∃ m, max r 0 = m := ⟨_, rfl⟩
  obtain ⟨d, hd⟩ : ∃ d, m - (n : Int) = d := ⟨_, rfl⟩
  have hw : wrap64 (m - (n : Int)) = d := by rw [hd]; exact IntWalk.wrap64_in _ (by omega)
  rw [hm, hd] at hk
  clear hr hn hd
  go_enter Try.func21, Try.ntmps21
  go_wp2
  go_ret
  exact ⟨rfl, (Below.refl _ _).alloc (Nat.le_refl _) _⟩

set_option maxHeartbeats 400000 in
theorem cut_any (a : Option Addr) (n c i j : Nat) (w : World) (hi : i ≤ j) (hj : j ≤ c) :
    Calls Try.prog 23 #[.slice a n c, .int .i64 (i : Int), .int .i64 (j : Int)] w fun e w' => e = .returned (.slice (cutA a i j) (j - i) (j - i)) ∧ w = w' := by
  have hs : ∀ w, (Instr.slice 25 (.slice a n c) (some (.int .i64 (i : Int))) (some (.int .i64 (j : Int))) (some (.int .i64 (j : Int)))).run Try.prog w = .ok (.slice (cutA a i j) (j - i) (j - i)) w := fun w => by
    rw [run_slice_lhm (w := w) 25 a n c (by kernel_rfl) .i64 .i64 .i64 (i : Int) (j : Int) (j : Int) (by omega) (by omega) (by omega) (by omega)]
    have hz : (sizeOf (Try.prog.elem 25)).run Try.prog w = .ok 1 w := by kernel_rfl
    rw [hz]
    rfl
  clear hi hj
  go_enter Try.func23, Try.ntmps23
  go_wp2
  go_ret
  exact ⟨rfl, rfl⟩

theorem cut_zero (a : Option Addr) (n c j : Nat) (w : World) (hj : j ≤ c) :
    Calls Try.prog 23 #[.slice a n c, .int .i64 0, .int .i64 (j : Int)] w fun e w' => e = .returned (.slice (cutA a 0 j) j j) ∧ w = w' := cut_any a n c 0 j w (Nat.zero_le _) hj
theorem Txts.cut0 {w : World} {a : Option Addr} {n c : Nat} {L : List ByteArray} (h : Txts w a n c L) (j : Nat) (hj : j ≤ n) : Txts w (cutA a 0 j) j j (L.take j) := by
  have e := h.cut 0 j (Nat.zero_le _) hj
  simpa using e
theorem Txts.full {w : World} {a : Option Addr} {n c : Nat} {L : List ByteArray} (h : Txts w a n c L) : Txts w (cutA a 0 n) n n L := by
  have e := h.cut0 n (Nat.le_refl _)
  rwa [List.take_of_length_le (by rw [h.1]; omega)] at e
theorem nil_eql (w : World) (a : Option Addr) (n c n' c' : Nat) : (binOp .eql 25 (.slice a n c) (.slice none n' c')).run Try.prog w = .ok (.bool a.isNone) w := Lib.run_eql_slice_nil w _ _ a n c n' c' Try.underlying25

set_option maxHeartbeats 400000 in
theorem clone_any (a : Option Addr) (n c : Nat) (L : List ByteArray) (w : World) (h : Txts w a n c L) (hn : n ≤ 1000000) :
    Calls Try.prog 25 #[.slice a n c] w (GotTxts L w) := by
  obtain ⟨i0, hi, hz0, hz1, hz2⟩ := info_parts info_string
  have q := nil_eql
  have H := Lib.hid h
  cases a with
  | none =>
    have h0 := h.2.2.2.1 rfl
    have h1 := h.2.1
    obtain rfl : n = 0 := by omega
    subst h0
    obtain rfl := List.eq_nil_of_length_eq_zero h.1
    clear h h1 hn
    go_enter Try.func25, Try.ntmps25
    go_wp2
    go_ret
    exact ⟨_, _, _, rfl, Txts.nil w, fun h => absurd h (by simp), Below.refl _ _⟩
  | some b =>
    clear h
    go_enter Try.func25, Try.ntmps25
    go_wp2_with (at_builtin; refine wpList_append_own _ rfl _ _ 25 rfl w.heap.size 9 i0 (.string ⟨#[]⟩) 1 16 Try.underlying25 hi hz0 hz1 hz2 rfl (by decide) _ _ _ rfl (World.ownsRow_made w #[] 0 (Nat.le_refl _) (Nat.zero_le _) rfl) b n c (strV L) rfl (by rw [strV_length, H.out.1]; omega) (fun j u hj => (H.out.next _).olds b rfl j u hj) (strV_one L) (by unfold maxLen; omega) (by omega) (by simp) ?_; intro v' w1 hown hgrow _)
    go_wp2
    go_ret
    simp only [Nat.zero_add, List.nil_append] at hown
    obtain ⟨a', c', rfl, ht, ho⟩ := row_shape hown H.out.1
    refine ⟨a', n, c', rfl, ht, ho, ?_⟩
    exact ((Below.refl _ w).alloc (Nat.le_refl _) _).grown hgrow (by simp) (fun k hk => by have e : some w.heap.size = some k := hk; cases e; exact Nat.le_refl _)

/-- What stands at the end: the texts go into the parameter's box (block B), the whole ring into the result (block B + 1). -/
theorem ring_tail {w w2 : World} {a : Option Addr} {n c hi : Nat} {L : List ByteArray} {r : Int} {x y : Value} (K1 : Blk w2 (w.heap.size + 1) [x, y]) (ht : Txts w2 a n c L) (ho : Off a n 0 hi) (hhi : w.heap.size + 1 < hi) (hb : Below w.heap.size w w2) :
    Blk (((w2.setCell ⟨w.heap.size, 1, none⟩ (.slice a n c)).setCell ⟨w.heap.size + 1, 0, none⟩ (.int .i64 r)).setCell ⟨w.heap.size + 1, 1, none⟩ (.slice a n c)) (w.heap.size + 1) [.int .i64 r, .slice a n c] ∧
    Txts (((w2.setCell ⟨w.heap.size, 1, none⟩ (.slice a n c)).setCell ⟨w.heap.size + 1, 0, none⟩ (.int .i64 r)).setCell ⟨w.heap.size + 1, 1, none⟩ (.slice a n c)) a n c L ∧ Off a n 0 w.heap.size ∧
    Below w.heap.size w (((w2.setCell ⟨w.heap.size, 1, none⟩ (.slice a n c)).setCell ⟨w.heap.size + 1, 0, none⟩ (.int .i64 r)).setCell ⟨w.heap.size + 1, 1, none⟩ (.slice a n c)) :=
  ⟨((K1.other ⟨w.heap.size, 1, none⟩ (.slice a n c) (by simp)).set 0 (.int .i64 r)).set 1 (.slice a n c),
    ((ht.set ho ⟨w.heap.size, 1, none⟩ (.slice a n c) (Nat.zero_le _) (by show w.heap.size < hi; omega)).set ho ⟨w.heap.size + 1, 0, none⟩ (.int .i64 r) (Nat.zero_le _) hhi).set ho ⟨w.heap.size + 1, 1, none⟩ (.slice a n c) (Nat.zero_le _) hhi,
    ho.mono (Nat.le_refl 0) (by omega),
    ((hb.setCell (p := ⟨w.heap.size, 1, none⟩) (Nat.le_refl _) (.slice a n c)).setCell (p := ⟨w.heap.size + 1, 0, none⟩) (by simp) (.int .i64 r)).setCell (p := ⟨w.heap.size + 1, 1, none⟩) (by simp) (.slice a n c)⟩
theorem ring_tail2 {w w2 : World} {a : Option Addr} {n c hi : Nat} {L : List ByteArray} {r : Int} {x y : Value} (K1 : Blk w2 (w.heap.size + 1) [x, y]) (ht : Txts w2 a n c L) (ho : Off a n 0 hi) (hhi : w.heap.size + 1 < hi) (hb : Below w.heap.size w w2) :
    Blk ((w2.setCell ⟨w.heap.size + 1, 0, none⟩ (.int .i64 r)).setCell ⟨w.heap.size + 1, 1, none⟩ (.slice a n c)) (w.heap.size + 1) [.int .i64 r, .slice a n c] ∧
    Txts ((w2.setCell ⟨w.heap.size + 1, 0, none⟩ (.int .i64 r)).setCell ⟨w.heap.size + 1, 1, none⟩ (.slice a n c)) a n c L ∧ Off a n 0 w.heap.size ∧
    Below w.heap.size w ((w2.setCell ⟨w.heap.size + 1, 0, none⟩ (.int .i64 r)).setCell ⟨w.heap.size + 1, 1, none⟩ (.slice a n c)) :=
  ⟨(K1.set 0 (.int .i64 r)).set 1 (.slice a n c),
    (ht.set ho ⟨w.heap.size + 1, 0, none⟩ (.int .i64 r) (Nat.zero_le _) hhi).set ho ⟨w.heap.size + 1, 1, none⟩ (.slice a n c) (Nat.zero_le _) hhi,
    ho.mono (Nat.le_refl 0) (by omega),
    (hb.setCell (p := ⟨w.heap.size + 1, 0, none⟩) (by simp) (.int .i64 r)).setCell (p := ⟨w.heap.size + 1, 1, none⟩) (by simp) (.slice a n c)⟩
theorem ring_tail4 {w w2 : World} {a : Option Addr} {n c hi : Nat} {L : List ByteArray} {r : Int} {x y : Value} (K1 : Blk w2 (w.heap.size + 1) [x, y]) (ht : Txts w2 a n c L) (ho : Off a n 0 hi) (hhi : w.heap.size + 1 < hi) (hb : Below w.heap.size w w2) :
    Blk ((((w2.setCell ⟨w.heap.size, 0, none⟩ (.int .i64 r)).setCell ⟨w.heap.size, 1, none⟩ (.slice a n c)).setCell ⟨w.heap.size + 1, 0, none⟩ (.int .i64 r)).setCell ⟨w.heap.size + 1, 1, none⟩ (.slice a n c)) (w.heap.size + 1) [.int .i64 r, .slice a n c] ∧
    Txts ((((w2.setCell ⟨w.heap.size, 0, none⟩ (.int .i64 r)).setCell ⟨w.heap.size, 1, none⟩ (.slice a n c)).setCell ⟨w.heap.size + 1, 0, none⟩ (.int .i64 r)).setCell ⟨w.heap.size + 1, 1, none⟩ (.slice a n c)) a n c L ∧ Off a n 0 w.heap.size ∧
    Below w.heap.size w ((((w2.setCell ⟨w.heap.size, 0, none⟩ (.int .i64 r)).setCell ⟨w.heap.size, 1, none⟩ (.slice a n c)).setCell ⟨w.heap.size + 1, 0, none⟩ (.int .i64 r)).setCell ⟨w.heap.size + 1, 1, none⟩ (.slice a n c)) :=
  ring_tail (K1.other ⟨w.heap.size, 0, none⟩ (.int .i64 r) (by simp)) (ht.set ho ⟨w.heap.size, 0, none⟩ (.int .i64 r) (Nat.zero_le _) (by show w.heap.size < hi; omega)) ho hhi (hb.setCell (p := ⟨w.heap.size, 0, none⟩) (Nat.le_refl _) (.int .i64 r))
/-- The parameter's box, the result's block, behind the entry. -/
theorem two_boxes (w : World) (r : Int) (a : Option Addr) (n c : Nat) :
    Blk ((w.alloc (.cells #[.int .i64 r, .slice a n c] 27)).alloc (.cells #[.int .i64 0, .slice none 0 0] 27)) w.heap.size [.int .i64 r, .slice a n c] ∧
    Blk ((w.alloc (.cells #[.int .i64 r, .slice a n c] 27)).alloc (.cells #[.int .i64 0, .slice none 0 0] 27)) (w.heap.size + 1) [.int .i64 0, .slice none 0 0] ∧
    Below w.heap.size w ((w.alloc (.cells #[.int .i64 r, .slice a n c] 27)).alloc (.cells #[.int .i64 0, .slice none 0 0] 27)) :=
  ⟨(Blk.new w [.int .i64 r, .slice a n c] 27).next _, Blk.newAt (by simp only [World.size_alloc]) [.int .i64 0, .slice none 0 0] 27,
    ((Below.refl _ _).alloc (Nat.le_refl _) _).alloc (by simp only [World.size_alloc]; omega) _⟩

/-- A ring of its own with these texts. -/
def GotRing (r : Int) (L : List ByteArray) (w : World) (e : Ending) (w' : World) : Prop := ∃ a n c, e = .returned (.agg #[.int .i64 r, .slice a n c] : Value) ∧ Txts w' a n c L ∧ Off a n 0 w.heap.size ∧ Below w.heap.size w w'

set_option maxHeartbeats 400000 in
theorem copied_any (r : Int) (a : Option Addr) (n c : Nat) (L : List ByteArray) (w : World) (h : Txts w a n c L) (hn : n ≤ 1000000) :
    Calls Try.prog 22 #[(.agg #[.int .i64 r, .slice a n c] : Value)] w (GotRing r L w) := by
  have H := Lib.hid h
  clear h
  go_enter Try.func22, Try.ntmps22
  go_wp2_with fail
  refine (clone_any a n c L _ ((H.out.next _).next _) hn).mono ?_
  rintro e w1 ⟨a', m, c', rfl, ht, ho, hb⟩
  obtain ⟨T0, T1, TB⟩ := two_boxes w r a n c
  have B0 := T0.on hb
  have B1 := T1.on hb
  have RT := Lib.hid (ring_tail (r := r) B1 ht ho (by simp only [World.size_alloc]; omega) (bel_on TB hb))
  have c0 := B0.cell 0 rfl
  have c1 := B0.cell 1 rfl
  have f1 := B0.thaw 1
  have d0 := B1.cell 0 rfl
  have d1 := B1.cell 1 rfl
  have g0 := B1.thaw 0
  have g1 := B1.thaw 1
  clear B0 B1 T0 T1 TB ht ho hb
  go_wp2_with fail
  have e0 := RT.out.1.cell 0 rfl
  have e1 := RT.out.1.cell 1 rfl
  refine bodyPost_ret (v := (.agg #[.int .i64 r, .slice a' m c'] : Value)) (by simp [results, Try.results22, go_sem, e0, e1]) rfl ⟨a', m, c', rfl, RT.out.2⟩
end Go.Proofs.Ytogmneidfoedbaa
