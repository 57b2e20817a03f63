/- Contracts of package nodes, part D: Text, Parse. -/
import Derived.Test.YtelfbkfmngjheaaDoorNodesC
import Derived.Lib.OthersKept
import Derived.Laws.Cover4
namespace Go.Proofs.YtelfbkfmngjheaaDoor
open Go.RowKit

/-- No row of the call's own lies where a text's iterator lies. -/
theorem iter_ne {w : World} {B e size n k pos : Nat} {v : Value} {xs : List Value} {s : ByteArray} (h : w.ownsRow B e size v n xs) (hk : w.heap[k]? = some (.stringIter s pos)) : some k ≠ v.ownBlock := by
  intro hv
  obtain ⟨_, ⟨e1, _⟩ | ⟨g, _, _, e1, _, hg, _⟩⟩ := h <;> rw [e1] at hv <;> simp [Value.ownBlock] at hv
  rw [← hv, hk] at hg
  simp at hg
theorem iter_own {w : World} {B e size n k pos : Nat} {v : Value} {xs : List Value} {s : ByteArray} (h : w.ownsRow B e size v n xs) (hk : w.heap[k]? = some (.stringIter s pos)) (q : Nat) : (w.iterAt k s q).ownsRow B e size v n xs :=
  h.kept (row := some k) ⟨rfl, rfl, rfl, Nat.le_of_eq (Lib.iterAt_size w k s q).symm, fun j _ hj => Lib.iterAt_other w k j s q fun ej => hj (congrArg some ej)⟩ (.inr (iter_ne h hk).symm)

theorem Tryd.info21 : (Tryd.prog.info? 21).map (fun i => (i.zero, i.size, i.bytes)) = some (some (.int .i32 0), 1, 4) := by kernel_rfl
/-- The letters of nodes as cells. -/
def runeV (l : List Nat) : List Value := l.map fun (n : Nat) => .int .i32 ((97 + n : Nat) : Int)
theorem runeV_length (l : List Nat) : (runeV l).length = l.length := by simp [runeV]
theorem runeV_snoc (l : List Nat) (n : Nat) : runeV (l ++ [n]) = runeV l ++ [.int .i32 ((97 + n : Nat) : Int)] := by simp [runeV]

theorem encode_ascii (n : Nat) (h : n < 128) : Utf8.encode (n : Int) = str [UInt8.ofNat n] := by
  have hv : Utf8.valid (n : Int) = true := by rw [validRune_eq]; unfold validRune; rw [decide_eq_true]; omega
  unfold Utf8.encode
  simp only [hv, if_true, Int.toNat_natCast, h]
  rfl
theorem runes_fold (l : List Nat) (h : ∀ n ∈ l, n < 16) (a : List UInt8) :
    (l.map fun (n : Nat) => ((97 + n : Nat) : Int)).foldl (fun r n => r ++ Utf8.encode n) (str a) = str (a ++ l.map NodesF.letF) := by
  induction l generalizing a with
  | nil => simp
  | cons n l ih =>
    have hn := h n (by simp)
    simp only [List.map_cons, List.foldl_cons]
    rw [encode_ascii _ (by omega), str_append, ← NodesF.letF, ih (fun m hm => h m (by simp [hm]))]
    simp
theorem runes_text (l : List Nat) (h : ∀ n ∈ l, n < 16) : runesBytes (l.map fun (n : Nat) => ((97 + n : Nat) : Int)) = str (l.map NodesF.letF) := by
  unfold runesBytes
  exact runes_fold l h []

/-- A slice of runes of the call's own, as a text. -/
theorem own_runes {P : Program} {w : World} {B : Nat} {v : Value} {l : List Nat} (src dst e : TypeId) (hl : ∀ n ∈ l, n < 16) (h0 : 0 < l.length) (h : w.ownsRow B e 1 v l.length (runeV l))
    (hs : P.underlying src = some (.slice e)) (he : P.underlying e = some (.int .i32)) (hd : P.underlying dst = some .string) :
    (convert src dst v).run P w = .ok (.string (str (l.map NodesF.letF))) w := by
  obtain ⟨g, cap, rfl⟩ := own_some h h0
  rw [run_convert_runes (P := P) w src dst e ⟨g, 0, none⟩ l.length cap (l.map fun (n : Nat) => ((97 + n : Nat) : Int)) (by simp) hs he hd (fun j hj => ?_)]
  · rw [List.take_of_length_le (by simp), runes_text l hl]
  · have hj' : j < l.length := by simpa using hj
    exact h.cells rfl j _ (by simp [runeV, hj', List.getD])

/-- The letters. -/
def letterS : ByteArray := ⟨#[97, 98, 99, 100, 101, 102, 103, 104, 105, 106, 107, 108, 109, 110, 111, 112]⟩
theorem letter_size : letterS.size = 16 := rfl
theorem letter_at (k : Nat) (h : k < letterS.size) : (letterS[k]'h).toNat = 97 + k := by
  have h' : k < 16 := h
  rcases NodesF.n16 k h' with h | h | h | h | h | h | h | h | h | h | h | h | h | h | h | h <;> subst h <;> rfl

set_option maxRecDepth 100000 in
set_option maxHeartbeats 400000 in
theorem text_any (s : Int) (w : World) : Calls Tryd.prog 47 #[.int .i64 s] w fun e w' => e = .returned (.string (str (NodesF.textL (NodesF.lowN s)))) ∧ Below w.heap.size w w' := by
  obtain ⟨i0, hi, hz0, hz1, hz2⟩ := info_parts Tryd.info21
  obtain ⟨L, hL⟩ : ∃ L, L = letterS := ⟨_, rfl⟩
  have hfold : (⟨#[97, 98, 99, 100, 101, 102, 103, 104, 105, 106, 107, 108, 109, 110, 111, 112]⟩ : ByteArray) = L := hL.symm
  have HL := Lib.hid hL
  clear hL
  have hmem := NodesF.nodes_mem (NodesF.lowN s) 16 (by omega)
  have HM := Lib.hid hmem
  clear hmem
  go_enter Tryd.func47, Tryd.ntmps47
  go_wp2
  clear hfold
  go_loopw [3] (fun v wr => ∃ (pre : List Nat) (k : Nat), wr.heap[w.heap.size]? = some (.stringIter L k) ∧ k ≤ 16 ∧ pre.length ≤ k ∧ pre ++ NodesF.nodesN (NodesF.lowN s) (16 - k) = NodesF.nodesN (NodesF.lowN s) 16 ∧
      wr.ownsRow (w.heap.size + 1) 21 1 v pre.length (runeV pre) ∧ Below w.heap.size w wr)
    (fun _ wr => 16 - wr.iterPos w.heap.size)
  case atStart => exact ⟨[], 0, World.iter_heap w L 0, by omega, by simp, rfl, World.ownsRow_nil _ _ _ _, (Below.refl _ _).alloc (Nat.le_refl _) _⟩
  case round =>
    obtain ⟨pre, k, hit, hk, hpk, heq, hown, hbel⟩ := hrel
    have HEQ := Lib.hid heq
    have HIT := Lib.hid hit
    have hsz : w.heap.size < wr.heap.size := (Array.getElem?_eq_some_iff.1 hit).1
    have HBL := Lib.hid hbel
    have HOWN := Lib.hid hown
    clear heq hbel
    by_cases h : k < 16
    · have hp : k < L.size := by rw [HL.out]; exact h
      have hc : (L[k]'hp).toNat = 97 + k := by
        have e := HL.out
        subst e
        exact letter_at k hp
      have hnx : ∀ ty, (Instr.next (.pointer (some ⟨w.heap.size, 0, none⟩)) true ty).run Tryd.prog wr = .ok (.tuple #[.bool true, .int .i64 (k : Int), .int .i32 ((97 + k : Nat) : Int)]) (wr.iterAt w.heap.size L (k + 1)) := fun ty => by
        rw [Lib.run_next_ascii_at wr w.heap.size L k ty hit hp (by omega), hc]
      have hit2 := Lib.iterAt_heap wr w.heap.size L k (k + 1) hit
      have hown2 := iter_own hown hit (k + 1)
      have hsz2 : w.heap.size + 1 ≤ (wr.iterAt w.heap.size L (k + 1)).heap.size := by rw [Lib.iterAt_size]; omega
      have hsz3 : w.heap.size ≤ (wr.iterAt w.heap.size L (k + 1)).heap.size := by omega
      have HB2 := Lib.hid (Lib.below_iterAt HBL.out (k := w.heap.size) (Nat.le_refl _) L (k + 1))
      have HIT2 := Lib.hid hit2
      have HOWN2 := Lib.hid hown2
      have HP := Lib.hid (show (wr.iterPos w.heap.size) = k by simp only [World.iterPos, hit])
      have HS := Lib.hid (NodesF.nodes_step (NodesF.lowN s) k h)
      have HLO := Lib.hid (NodesF.has_low s k h)
      obtain ⟨b, hb⟩ : ∃ b, NodesF.hasN s k = b := ⟨_, rfl⟩
      have HB := Lib.hid hb
      clear hb hc hit hit2 hown hown2
      generalize hw2 : wr.iterAt w.heap.size L (k + 1) = wi at *
      clear hw2
      have hown2 := HOWN2.out
      go_wp2_with fail
      ((with_reducible refine (has_in s k _ h).mono ?_); skip)
      rintro e w1 ⟨rfl, rfl⟩
      rw [HB.out]
      cases b with
      | true =>
        have HN : Hid (NodesF.nodesN (NodesF.lowN s) (16 - k) = k :: NodesF.nodesN (NodesF.lowN s) (16 - (k + 1))) := by
          rw [HS.out, if_pos (by have := HLO.out; rw [HB.out] at this; exact of_decide_eq_true this.symm)]; trivial
        go_wp2_with (at_builtin; refine wpList_append_own _ rfl (.tmp 14) (.tmp 16) 71 rfl (w.heap.size + 1) 21 i0 (.int .i32 0) 1 4 Tryd.underlying71 hi hz0 hz1 hz2 rfl (by decide) _ _ _ rfl (hown2.alloc _) ⟨wi.heap.size, 0, none⟩ 1 1 [_] rfl rfl (cell_one_new _ _ _) (by simp [Value.oneCell']) (by unfold maxLen; omega) (by omega) (by simp; omega) ?_; intro v1 w1 hown1 hg1 _)
        have HI3 : Hid (w1.heap[w.heap.size]? = some (.stringIter L (k + 1))) := by
          have e := hg1.block w.heap.size (by simp; omega) (iter_ne HOWN2.out HIT2.out)
          rw [e, heap_alloc_old]
          · exact HIT2.out
          · omega
        go_roundw
        case rel =>
          exact ⟨pre ++ [k], k + 1, HI3.out, by omega, by rw [List.length_append]; simp; omega, by rw [← HEQ.out, HN.out]; simp, by rw [runeV_snoc, List.length_append]; exact hown1,
            (HB2.out.alloc hsz3 _).grown hg1 (by simp; omega) (fun k hk => by have := (HOWN2.out.lt k hk).1; omega)⟩
        case measure => 
          have e := iterPos_of HI3.out
          have e2 := HP.out
          omega
      | false =>
        have HN : Hid (NodesF.nodesN (NodesF.lowN s) (16 - k) = NodesF.nodesN (NodesF.lowN s) (16 - (k + 1))) := by
          rw [HS.out, if_neg (by have := HLO.out; rw [HB.out] at this; exact of_decide_eq_false this.symm)]; trivial
        go_wp2
        go_roundw
        case rel => exact ⟨pre, k + 1, HIT2.out, by omega, by omega, by rw [← HEQ.out, HN.out], HOWN2.out, HB2.out⟩
        case measure => 
          have e := iterPos_of HIT2.out
          have e2 := HP.out
          omega
    · obtain rfl : k = 16 := by omega
      have hnx : ∀ ty, (Instr.next (.pointer (some ⟨w.heap.size, 0, none⟩)) true ty).run Tryd.prog wr = .ok (.tuple #[.bool false]) wr := fun ty =>
        Lib.run_next_end_at wr w.heap.size L 16 ty hit (by rw [HL.out]; decide)
      have he : pre = NodesF.nodesN (NodesF.lowN s) 16 := by rw [← HEQ.out]; simp [NodesF.nodesN]
      clear hit hown
      by_cases hz : pre.length = 0
      · obtain ⟨a, c, rfl⟩ := own_slice HOWN.out
        have hz2 : ((pre.length : Int) == 0) = true := by rw [hz]; rfl
        have HE : Hid (str (NodesF.textL (NodesF.lowN s)) = ⟨#[46]⟩) := by
          unfold NodesF.textL
          rw [if_pos (by rw [← he]; exact List.eq_nil_of_length_eq_zero hz)]; rfl
        clear hz he
        go_wp2
        go_ret
        exact ⟨by rw [HE.out]; rfl, HBL.out⟩
      · have hcv := own_runes (P := Tryd.prog) 71 9 21 (fun n hn => by rw [he] at hn; exact (HM.out n hn).2.1) (by omega) HOWN.out Tryd.underlying71 Tryd.underlying21 Tryd.underlying9
        obtain ⟨a, c, rfl⟩ := own_slice HOWN.out
        have hz2 : ((pre.length : Int) == 0) = false := beq_eq_false_iff_ne.2 (by omega)
        have HE : Hid (str (NodesF.textL (NodesF.lowN s)) = str (pre.map NodesF.letF)) := by
          unfold NodesF.textL
          rw [if_neg (by rw [← he]; intro e; rw [e] at hz; exact hz rfl), NodesF.lettersN, ← he]; trivial
        clear hz he
        go_wp2
        go_ret
        exact ⟨by rw [HE.out]; rfl, HBL.out⟩
end Go.Proofs.YtelfbkfmngjheaaDoor
