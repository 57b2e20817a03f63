/- Contracts of package nodes, part E: Parse. -/
import Derived.Test.YtelfbkfmngjheaaDoorNodesD
namespace Go.Proofs.YtelfbkfmngjheaaDoor
open Go.RowKit

/-- What Parse answers. -/
def parseV (l : List UInt8) : Value := .tuple #[.int .i64 (NodesF.parseF l).1, .int .i64 (NodesF.parseF l).2]
theorem parseV_dot (s : ByteArray) (h : s.data.toList = [46]) : parseV s.data.toList = .tuple #[.int .i64 0, .int .i64 0] := by
  unfold parseV NodesF.parseF; rw [if_pos h]
theorem parseV_nil (s : ByteArray) (h : s.data.toList = []) : parseV s.data.toList = .tuple #[.int .i64 0, .int .i64 3] := by
  unfold parseV NodesF.parseF; rw [if_neg (by rw [h]; simp), if_pos h]
theorem parseV_none (l : List UInt8) (h1 : l ≠ [46]) (h2 : l ≠ []) (h : NodesF.parF l 0 97 = none) : parseV l = .tuple #[.int .i64 0, .int .i64 3] := by
  unfold parseV NodesF.parseF; rw [if_neg h1, if_neg h2, h]
theorem parseV_some (l : List UInt8) (n : Nat) (h1 : l ≠ [46]) (h2 : l ≠ []) (h : NodesF.parF l 0 97 = some n) : parseV l = .tuple #[.int .i64 (n : Int), .int .i64 0] := by
  unfold parseV NodesF.parseF; rw [if_neg h1, if_neg h2, h]
theorem par_room (set j : Nat) (hj : j < 16) (h : set < 2 ^ j) : NodesF.withN (set : Int) j = ((set + 2 ^ j : Nat) : Int) ∧ set + 2 ^ j < 2 ^ (j + 1) ∧ set < 65536 := by
  have hp : 2 ^ j ≤ 2 ^ 15 := Nat.pow_le_pow_right (by omega) (by omega)
  refine ⟨?_, by rw [Nat.pow_succ]; omega, by omega⟩
  unfold NodesF.withN
  have e : (set : Int) / 2 ^ j = 0 := by
    have := NodesF.lt_pow set j h
    have e2 : ((set / 2 ^ j : Nat) : Int) = 0 := by rw [this]; rfl
    simpa using e2
  rw [e, if_neg (by decide)]
  simp
theorem drop_cons (s : ByteArray) (k : Nat) (h : k < s.size) : s.data.toList.drop k = s[k] :: s.data.toList.drop (k + 1) := by
  have hl : k < s.data.toList.length := by rw [size_list]; exact h
  rw [List.drop_eq_getElem_cons hl]; rfl

set_option maxRecDepth 100000 in
set_option maxHeartbeats 400000 in
theorem parse_any (s : ByteArray) (w : World) :
    Calls Tryd.prog 63 #[.string s] w fun e w' => e = .returned (parseV s.data.toList) ∧ Below w.heap.size w w' := by
  by_cases h46 : s.data.toList = [46]
  · have HV := Lib.hid (parseV_dot s h46)
    have h1 : s.toList = [46] := by rw [Lib.toList_data]; exact h46
    have h2 : (s.toList == [46]) = true := by rw [h1]; rfl
    clear h46 h1
    go_enter Tryd.func63, Tryd.ntmps63
    go_wp2
    go_ret2
    exact ⟨by rw [HV.out]; rfl, Below.refl _ _⟩
  have q46 : (s.toList == [46]) = false := by rw [Lib.toList_data]; exact beq_eq_false_iff_ne.2 h46
  by_cases hnil : s.data.toList = []
  · have HV := Lib.hid (parseV_nil s hnil)
    have h1 : s.toList = [] := by rw [Lib.toList_data]; exact hnil
    clear h46 hnil
    go_enter Tryd.func63, Tryd.ntmps63
    go_wp2
    go_ret2
    exact ⟨by rw [HV.out]; rfl, Below.refl _ _⟩
  have qn1 : s.toList.isEmpty = false := by rw [Lib.toList_data]; simpa using hnil
  have H46 := Lib.hid h46
  have HNIL := Lib.hid hnil
  clear h46 hnil
  go_enter Tryd.func63, Tryd.ntmps63
  go_wp2
  go_loopw [4, 5] (fun set least wr => ∃ (k m j : Nat), wr = w.iter s k ∧ k ≤ s.size ∧ set = .int .i64 (m : Int) ∧ least = .int .i32 ((97 + j : Nat) : Int) ∧ j ≤ 16 ∧ m < 2 ^ j ∧ NodesF.parF (s.data.toList.drop k) m (97 + j) = NodesF.parF s.data.toList 0 97)
    (fun _ _ wr => s.size - wr.iterPos w.heap.size)
  case atStart => exact ⟨0, 0, 0, rfl, Nat.zero_le _, rfl, rfl, by omega, by simp, rfl⟩
  case round =>
    obtain ⟨k, m, j, rfl, hk, rfl, rfl, hj, hm, heq⟩ := hrel
    have HEQ := Lib.hid heq
    have HM := Lib.hid hm
    clear heq hm
    by_cases hp : k < s.size
    · have HD := Lib.hid (drop_cons s k hp)
      by_cases ha : (s[k]).toNat < 128
      · have hnx : ∀ ty, (Instr.next (.pointer (some ⟨w.heap.size, 0, none⟩)) true ty).run Tryd.prog (w.iter s k) = _ := fun ty => run_next_ascii w s k ty hp ha
        obtain ⟨c, hc⟩ : ∃ c, (s[k]).toNat = c := ⟨_, rfl⟩
        rw [hc] at hnx ha
        have HC := Lib.hid hc
        clear hc
        by_cases hb : c < 97 + j
        · have HN : Hid (NodesF.parF s.data.toList 0 97 = none) := by
            rw [← HEQ.out, HD.out, NodesF.parF, HC.out, if_pos (.inl hb)]; trivial
          have q1 : (c : Int) < ((97 + j : Nat) : Int) := by omega
          go_wp2
          go_ret2
          exact ⟨by rw [parseV_none _ H46.out HNIL.out HN.out]; rfl, (Below.refl _ _).alloc (Nat.le_refl _) _⟩
        · by_cases hb2 : 112 < c
          · have HN : Hid (NodesF.parF s.data.toList 0 97 = none) := by
              rw [← HEQ.out, HD.out, NodesF.parF, HC.out, if_pos (.inr hb2)]; trivial
            have q1 : ¬ (c : Int) < ((97 + j : Nat) : Int) := by omega
            have q2 : (112 : Int) < (c : Int) := by omega
            go_wp2
            go_ret2
            exact ⟨by rw [parseV_none _ H46.out HNIL.out HN.out]; rfl, (Below.refl _ _).alloc (Nat.le_refl _) _⟩
          · obtain ⟨i, rfl⟩ : ∃ i, c = 97 + i := ⟨c - 97, by omega⟩
            have hR := par_room m i (by omega) (Nat.lt_of_lt_of_le HM.out (Nat.pow_le_pow_right (by omega) (by omega)))
            have HR := Lib.hid hR
            have hm6 := hR.2.2
            have q1 : ¬ ((97 + i : Nat) : Int) < ((97 + j : Nat) : Int) := by omega
            have q2 : ¬ (112 : Int) < ((97 + i : Nat) : Int) := by omega
            have HN : Hid (NodesF.parF (s.data.toList.drop (k + 1)) (m + 2 ^ i) (97 + (i + 1)) = NodesF.parF s.data.toList 0 97) := by
              rw [← HEQ.out, HD.out, NodesF.parF, HC.out, if_neg (by omega), Nat.add_sub_cancel_left, ← Nat.add_assoc]; trivial
            clear hR
            have q3 : (97 : Int) + (i : Int) - 97 = (i : Int) := by omega
            go_wp2_with fail
            ((with_reducible refine (with_in (m : Int) i _ (by omega) (by omega) (by omega)).mono ?_); skip)
            rintro e w1 ⟨rfl, rfl⟩
            go_wp2
            go_roundw
            case rel => exact ⟨k + 1, m + 2 ^ i, i + 1, rfl, by omega, congrArg _ HR.out.1, by go_num, by omega, HR.out.2.1, HN.out⟩
            case measure => simp; omega
      · have hhi := decode_high s k hp (by omega)
        have hnx : ∀ ty, (Instr.next (.pointer (some ⟨w.heap.size, 0, none⟩)) true ty).run Tryd.prog (w.iter s k) = _ := fun ty => run_next_any w s k ty hp
        have HN : Hid (NodesF.parF s.data.toList 0 97 = none) := by
          rw [← HEQ.out, HD.out, NodesF.parF, if_pos (.inr (by omega))]; trivial
        generalize Utf8.decode s k = d at *
        have q1 : ¬ (d.1 : Int) < ((97 + j : Nat) : Int) := by omega
        have q2 : (112 : Int) < (d.1 : Int) := by omega
        go_wp2
        go_ret2
        exact ⟨by rw [parseV_none _ H46.out HNIL.out HN.out]; rfl, (Below.refl _ _).alloc (Nat.le_refl _) _⟩
    · obtain rfl : k = s.size := by omega
      have hnx : ∀ ty, (Instr.next (.pointer (some ⟨w.heap.size, 0, none⟩)) true ty).run Tryd.prog (w.iter s s.size) = _ := fun ty => run_next_end w s s.size ty (by omega)
      have HN : Hid (NodesF.parF s.data.toList 0 97 = some m) := by
        rw [← HEQ.out, ← size_list, List.drop_length]; trivial
      go_wp2
      go_ret2
      exact ⟨by rw [parseV_some _ m H46.out HNIL.out HN.out]; rfl, (Below.refl _ _).alloc (Nat.le_refl _) _⟩
end Go.Proofs.YtelfbkfmngjheaaDoor
