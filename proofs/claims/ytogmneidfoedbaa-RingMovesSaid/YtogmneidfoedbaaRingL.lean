/- Contracts of package ring, part L: the document's own Take and Put. -/
import Derived.Test.YtogmneidfoedbaaRingK
namespace Go.Proofs.Ytogmneidfoedbaa
open Go.RowKit Go.Sort

theorem rtake_none (r : Int) (a : Option Addr) (c : Nat) (w : World) :
    Calls Try.prog 26 #[(.agg #[.int .i64 r, .slice a 0 c] : Value)] w fun e w' => e = .returned (.tuple #[(.agg #[.int .i64 r, .slice a 0 c] : Value), .string ⟨#[]⟩, .int .i64 9]) ∧ Below w.heap.size w w' := by
  obtain ⟨T0, T1, TB⟩ := two_boxes w r a 0 c
  have HB := Lib.hid ((TB.setCell (p := ⟨w.heap.size + 1, 0, none⟩) (by simp) (.int .i64 r)).setCell (p := ⟨w.heap.size + 1, 1, none⟩) (by simp) (.slice a 0 c))
  have HB2 := Lib.hid (((Below.refl w.heap.size w).alloc (Nat.le_refl _) (.cells #[.int .i64 r, .slice a 0 c] 27)).alloc (by simp only [World.size_alloc]; omega) (.cells #[.int .i64 r, .slice a 0 c] 27))
  clear T0 T1 TB
  go_enter Try.func26, Try.ntmps26
  go_wp2
  refine bodyPost_ret (v := .tuple #[(.agg #[.int .i64 r, .slice a 0 c] : Value), .string ⟨#[]⟩, .int .i64 9]) (by simp [results, Try.results26, go_sem]) rfl ⟨rfl, by first | exact HB.out | exact HB2.out⟩
/-- Where l[1:] begins. -/
def tailA (a : Option Addr) (c : Nat) : Option Addr := if c = 1 then a else a.map (·.add (1 * 1))
theorem Txts.tail {w : World} {a : Option Addr} {n c : Nat} {L : List ByteArray} (h : Txts w a n c L) (hn : 0 < n) : Txts w (tailA a c) (n - 1) (c - 1) (L.drop 1) := by
  have h1 := h.2.1
  have h2 := h.2.2.1
  refine ⟨by rw [List.length_drop, h.1], by omega, by omega, ?_, ?_⟩
  · intro e
    unfold tailA at e
    split at e
    · omega
    · cases a with
      | none => have := h.2.2.2.1 rfl; omega
      | some b => simp at e
  · intro k x hk
    have hkl := (List.getElem?_eq_some_iff.1 hk).1
    rw [List.length_drop, h.1] at hkl
    rw [List.getElem?_drop] at hk
    obtain ⟨b, rfl, hc⟩ := h.2.2.2.2 _ x hk
    refine ⟨b.add 1, ?_, by rw [addr_add]; exact hc⟩
    unfold tailA
    rw [if_neg (by omega)]
    simp
theorem add_nil (q : Addr) : q.add 0 = q := by simp [Addr.add]

set_option maxHeartbeats 1000000 in
theorem rtake_ok (r : Int) (a : Option Addr) (n c : Nat) (x : ByteArray) (L : List ByteArray) (w : World) (h : Txts w a n c L) (hn : n ≤ 1000000) (hx : L[0]? = some x) :
    Calls Try.prog 26 #[(.agg #[.int .i64 r, .slice a n c] : Value)] w (GotRingStr r (L.drop 1) x 0 w) := by
  have hl := (List.getElem?_eq_some_iff.1 hx).1
  have hn0 : 0 < n := by have := h.1; omega
  have hnc := h.2.1
  obtain ⟨b, rfl, hc⟩ := ((h.next (.cells #[.int .i64 r, .slice a n c] 27)).next (.cells #[.int .i64 0, .slice none 0 0] 27)).2.2.2.2 0 x hx
  rw [add_nil] at hc
  have t0 : ((n : Int) == 0) = false := by
    have : (n : Int) ≠ 0 := by omega
    simpa using this
  have hs : ∀ w, (Instr.slice 25 (.slice (some b) n c) (some (.int .i64 1)) none none).run Try.prog w = .ok (.slice (tailA (some b) c) (n - 1) (c - 1)) w := fun w => by
    rw [run_slice_l (w := w) 25 (some b) n c (by kernel_rfl) .i64 1 (by omega) (by omega)]
    have hz : (sizeOf (Try.prog.elem 25)).run Try.prog w = .ok 1 w := by kernel_rfl
    rw [hz]
    rfl
  have HT := Lib.hid (fun (w' : World) (hb : Below w.heap.size w w') => (h.on hb).tail hn0)
  have hlt : (0 : Int) < (n : Int) := by omega
  obtain ⟨z, hz⟩ : ∃ z, n - 1 = z := ⟨_, rfl⟩
  have HZ : Hid (z ≤ 1000000) := Lib.hid (by omega)
  rw [hz] at hs HT
  have BX := Lib.hid (two_boxes w r (some b) n c)
  have HDL : Hid ((L.drop 1).length = z) := Lib.hid (by rw [List.length_drop, h.1, hz])
  obtain ⟨W, hW⟩ : ∃ W, ((w.alloc (.cells #[.int .i64 r, .slice (some b) n c] 27)).alloc (.cells #[.int .i64 0, .slice none 0 0] 27)) = W := ⟨_, rfl⟩
  rw [hW] at hc BX
  have HW := Lib.hid hW
  clear h hn hx hl hn0 hnc hz hW
  go_enter Try.func26, Try.ntmps26
  go_upto_region 1 with fail
  rw [HW.out]
  have c0 := BX.out.1.cell 0 rfl
  have c1 := BX.out.1.cell 1 rfl
  have hws : W.heap.size = w.heap.size + 1 + 1 := by rw [← HW.out]; simp only [World.size_alloc]
  have HWS := Lib.hid hws
  have h0' : w.heap.size < W.heap.size := by omega
  clear hws
  have c1' := (BX.out.1.next (.cells #[] 9)).cell 1 rfl
  go_wp2_with (at_builtin; (refine app_own rfl (.tmp 15) (.tmp 18) rfl W.heap.size (some ⟨W.heap.size, 0, none⟩) (tailA (some b) c) 0 0 z (c - 1) [] (L.drop 1) rfl rfl (World.ownsRow_made W #[] 0 (Nat.le_refl _) (Nat.zero_le _) rfl) rfl (HT.out _ (BX.out.2.2.alloc BX.out.2.2.size _)) (by have := HZ.out; omega) (by simp only [World.size_alloc]; omega) ?_; intro a2 c2 w2 hown2 hg2; have B0 := blk_grown (BX.out.1.next (.cells #[] 9)) hg2 (fun j hj => by have e : some W.heap.size = some j := hj; cases e; have := HWS.out; omega); have B1 := blk_grown (BX.out.2.1.next (.cells #[] 9)) hg2 (fun j hj => by have e : some W.heap.size = some j := hj; cases e; have := HWS.out; omega); have HG := Lib.hid hg2; have HO := Lib.hid hown2; have K1 := Lib.hid B1; have b0 := B0.cell 0 rfl; have b1 := B0.cell 1 rfl; have f1 := B0.thaw 1; have d0 := B1.cell 0 rfl; have d1 := B1.cell 1 rfl; have g0 := B1.thaw 0; have g1 := B1.thaw 1; clear B0 B1 hg2 hown2 hc c0 c1 c1'))
  obtain ⟨a3, c3, he, ht, ho⟩ := row_shape HO.out (by rw [List.nil_append, HDL.out, Nat.zero_add])
  simp only [Value.slice.injEq, true_and] at he
  obtain ⟨rfl, rfl⟩ := he
  simp only [Nat.zero_add, List.nil_append] at ht ho
  have RT := ring_tail (r := r) K1.out ht ho (by have := HWS.out; omega) ((BX.out.2.2.alloc BX.out.2.2.size (.cells #[] 9)).grown HG.out (by have := BX.out.2.2.size; simp only [World.size_alloc]; omega) (fun j hj => by have e : some W.heap.size = some j := hj; cases e; exact BX.out.2.2.size))
  have e0 := RT.1.cell 0 rfl
  have e1 := RT.1.cell 1 rfl
  refine bodyPost_ret (v := .tuple #[(.agg #[.int .i64 r, .slice a2 z c2] : Value), .string x, .int .i64 0]) (by simp [results, Try.results26, go_sem, e0, e1]) rfl ⟨a2, z, c2, rfl, RT.2⟩

theorem rput_full (r : Int) (a : Option Addr) (n c : Nat) (s : ByteArray) (w : World) (hf : r ≤ (n : Int)) :
    Calls Try.prog 27 #[(.agg #[.int .i64 r, .slice a n c] : Value), .string s] w fun e w' => e = .returned (.tuple #[(.agg #[.int .i64 r, .slice a n c] : Value), .int .i64 8]) ∧ Below w.heap.size w w' := by
  obtain ⟨T0, T1, TB⟩ := two_boxes w r a n c
  have HB := Lib.hid ((TB.setCell (p := ⟨w.heap.size + 1, 0, none⟩) (by simp) (.int .i64 r)).setCell (p := ⟨w.heap.size + 1, 1, none⟩) (by simp) (.slice a n c))
  have HB2 := Lib.hid (((Below.refl w.heap.size w).alloc (Nat.le_refl _) (.cells #[.int .i64 r, .slice a n c] 27)).alloc (by simp only [World.size_alloc]; omega) (.cells #[.int .i64 r, .slice a n c] 27))
  have t0 : decide (r ≤ (n : Int)) = true := decide_eq_true hf
  clear T0 T1 TB hf
  go_enter Try.func27, Try.ntmps27
  go_wp2
  refine bodyPost_ret (v := .tuple #[(.agg #[.int .i64 r, .slice a n c] : Value), .int .i64 8]) (by simp [results, Try.results27, go_sem]) rfl ⟨rfl, by first | exact HB.out | exact HB2.out⟩

set_option maxHeartbeats 1000000 in
theorem rput_ok (r : Int) (a : Option Addr) (n c : Nat) (L : List ByteArray) (s : ByteArray) (w : World) (h : Txts w a n c L) (hn : n ≤ 1000000) (hf : (n : Int) < r) :
    Calls Try.prog 27 #[(.agg #[.int .i64 r, .slice a n c] : Value), .string s] w (GotRingErr r (L ++ [s]) 0 w) := by
  have t0 : decide (r ≤ (n : Int)) = false := decide_eq_false (by omega)
  have HT := Lib.hid h
  have HN := Lib.hid hn
  have BX := Lib.hid (two_boxes w r a n c)
  obtain ⟨W, hW⟩ : ∃ W, ((w.alloc (.cells #[.int .i64 r, .slice a n c] 27)).alloc (.cells #[.int .i64 0, .slice none 0 0] 27)) = W := ⟨_, rfl⟩
  rw [hW] at BX
  have HW := Lib.hid hW
  clear h hn hf hW
  go_enter Try.func27, Try.ntmps27
  go_upto_region 1 with fail
  rw [HW.out]
  have c0 := BX.out.1.cell 0 rfl
  have c1 := BX.out.1.cell 1 rfl
  have hws : W.heap.size = w.heap.size + 1 + 1 := by rw [← HW.out]; simp only [World.size_alloc]
  have HWS := Lib.hid hws
  have h0' : w.heap.size < W.heap.size := by omega
  clear hws
  have c1' := (BX.out.1.next (.cells #[] 9)).cell 1 rfl
  have HWB : Hid (Below w.heap.size w (W.alloc (.cells #[] 9))) := Lib.hid (BX.out.2.2.alloc BX.out.2.2.size _)
  have HWZ : Hid (w.heap.size + 1 + 1 ≤ (W.alloc (.cells #[] 9)).heap.size) := Lib.hid (by simp only [World.size_alloc, HWS.out]; omega)
  have BA0 := Lib.hid (BX.out.1.next (.cells #[] 9))
  have BA1 := Lib.hid (BX.out.2.1.next (.cells #[] 9))
  go_wp2_with (first
    | (at_builtin; refine app_own rfl (.tmp 13) (.tmp 15) rfl W.heap.size (some ⟨W.heap.size, 0, none⟩) a 0 0 n c [] L rfl rfl (World.ownsRow_made W #[] 0 (Nat.le_refl _) (Nat.zero_le _) rfl) rfl (HT.out.on HWB.out) (by have := HN.out; omega) (by simp only [World.size_alloc]; omega) ?_; intro a2 c2 w2 hown2 hg2; rw [Nat.zero_add, List.nil_append] at hown2; have HO := Lib.hid hown2; have HG := Lib.hid hg2; have HB2 := Lib.hid (HWB.out.grown hg2 HWB.out.size (fun j hj => by have e : some W.heap.size = some j := hj; cases e; exact BX.out.2.2.size)); have BB0 := Lib.hid (blk_grown BA0.out hg2 (fun j hj => by have e : some W.heap.size = some j := hj; cases e; have := HWS.out; omega)); have BB1 := Lib.hid (blk_grown BA1.out hg2 (fun j hj => by have e : some W.heap.size = some j := hj; cases e; have := HWS.out; omega)); clear hg2 hown2 c0 c1 c1')
    | (at_builtin; refine app_own rfl (.tmp 16) (.tmp 18) rfl W.heap.size a2 (some ⟨w2.heap.size, 0, none⟩) n c2 1 1 L [s] rfl rfl (HO.out.alloc _) HT.out.1 (one_txts (Blk.new w2 [.string s] 9)) (by have := HN.out; omega) (by have := HG.out.size; simp only [World.size_alloc] at this ⊢; omega) ?_; intro a3 c3 w3 hown3 hg3; have hlo := fun j (hj : Value.ownBlock (.slice a2 n c2) = some j) => (HO.out.lt j hj).1; have HLO := Lib.hid hlo; clear hlo; have hws2 := HWS.out; have HB3 := Lib.hid ((HB2.out.alloc HB2.out.size (.cells #[.string s] 9)).grown hg3 (by have := HB2.out.size; simp only [World.size_alloc]; omega) (fun j hj => by have := HLO.out j hj; omega)); have B0 := blk_grown (BB0.out.next (.cells #[.string s] 9)) hg3 (fun j hj => by have := HLO.out j hj; omega); have B1 := blk_grown (BB1.out.next (.cells #[.string s] 9)) hg3 (fun j hj => by have := HLO.out j hj; omega); clear hws2; have K1 := Lib.hid B1; have b0 := B0.cell 0 rfl; have b1 := B0.cell 1 rfl; have f1 := B0.thaw 1; have d0 := B1.cell 0 rfl; have d1 := B1.cell 1 rfl; have g0 := B1.thaw 0; have g1 := B1.thaw 1; have HO3 := Lib.hid hown3; clear B0 B1 hg3 hown3))
  obtain ⟨a4, c4, he, ht, ho⟩ := row_shape HO3.out (by rw [List.length_append, HT.out.1]; rfl)
  simp only [Value.slice.injEq, true_and] at he
  obtain ⟨rfl, rfl⟩ := he
  have RT := ring_tail (r := r) K1.out ht ho (by have := HWS.out; omega) HB3.out
  have e0 := RT.1.cell 0 rfl
  have e1 := RT.1.cell 1 rfl
  refine bodyPost_ret (v := .tuple #[(.agg #[.int .i64 r, .slice a3 (n + 1) c3] : Value), .int .i64 0]) (by simp [results, Try.results27, go_sem, e0, e1]) rfl ⟨a3, n + 1, c3, rfl, RT.2⟩
end Go.Proofs.Ytogmneidfoedbaa
