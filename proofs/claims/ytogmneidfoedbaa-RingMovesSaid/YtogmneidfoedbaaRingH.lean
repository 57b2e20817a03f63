/- Contracts of package ring, part H: slices.Index, Find, and the document's own Find and Peek. -/
import Derived.Test.YtogmneidfoedbaaRingE
import Derived.Test.YtogmneidfoedbaaRingP
namespace Go.Proofs.Ytogmneidfoedbaa
open Go.RowKit Go.Sort

set_option maxHeartbeats 1000000 in
theorem index_any (a : Option Addr) (n c : Nat) (L : List ByteArray) (s : ByteArray) (w : World) (hL : Txts w a n c L) :
    Calls Try.prog 28 #[.slice a n c, .string s] w fun e w' => e = .returned (.int .i64 (idxI L s)) ∧ w = w' := by
  have HL := Lib.hid hL
  have hc : n ≤ 9223372036854775807 := by have := hL.2.1; have := hL.2.2.1; unfold maxLen at this; omega
  clear hL
  go_enter Try.func28, Try.ntmps28
  go_upto_region 2 with fail
  go_loopw [8] (fun v wr => ∃ k : Nat, k ≤ n ∧ v = .int .i64 (k : Int) ∧ (∀ j, j < k → L[j]? ≠ some s) ∧ w = wr) (fun v _ => (n - intOf v).toNat)
  case atStart => exact ⟨0, Nat.zero_le _, rfl, fun j hj => absurd hj (Nat.not_lt_zero _), rfl⟩
  case round =>
    obtain ⟨k, hk, rfl, hall, rfl⟩ := hrel
    have HA := Lib.hid hall
    clear hall
    by_cases hkn : k < n
    · have hx : L[k]? = some (L[k]'(by have := HL.out.1; omega)) := List.getElem?_eq_getElem _
      obtain ⟨x, hxe⟩ : ∃ x, (L[k]'(by have := HL.out.1; omega)) = x := ⟨_, rfl⟩
      rw [hxe] at hx
      obtain ⟨p, rfl, hpc⟩ := HL.out.2.2.2.2 k x hx
      have HX := Lib.hid hx
      have te := text_eq s x
      have HK := Lib.hid hkn
      have HF := Lib.hid hc
      clear hx hxe
      by_cases hxy : x = s
      · have t1 : (s.toList == x.toList) = true := by rw [te]; exact decide_eq_true hxy.symm
        have HE : Hid (idxI L s = (k : Int)) := Lib.hid (idx_at HA.out (by rw [HX.out, hxy]))
        clear te hxy
        go_wp2_with fail
        go_ret
        exact ⟨by rw [HE.out]; rfl, rfl⟩
      · have t1 : (s.toList == x.toList) = false := by rw [te]; exact decide_eq_false (fun e => hxy e.symm)
        have HE := Lib.hid (none_up HA.out HX.out hxy)
        clear te hxy
        go_wp2_with fail
        go_roundw
        case rel => exact ⟨k + 1, HK.out, by go_num, HE.out, trivial⟩
        case measure => exact meas_k n k _ rfl HK.out
    · have HE : Hid (idxI L s = -1) := Lib.hid (idx_none HL.out.1 (fun j hj => HA.out j (by omega)))
      go_wp2_with fail
      go_ret
      exact ⟨by rw [HE.out]; rfl, rfl⟩

set_option maxHeartbeats 400000 in
theorem find_any (r : Int) (a : Option Addr) (n c : Nat) (L : List ByteArray) (s : ByteArray) (w : World) (hL : Txts w a n c L) :
    Calls Try.prog 17 #[(.agg #[.int .i64 r, .slice a n c] : Value), .string s] w fun e w' => e = .returned (.int .i64 (idxI L s)) ∧ Below w.heap.size w w' := by
  have HL := Lib.hid hL
  clear hL
  go_enter Try.func17, Try.ntmps17
  go_wp2_with fail
  refine (index_any a n c L s _ (HL.out.next _)).mono ?_
  rintro e w1 ⟨rfl, rfl⟩
  go_wp2_with fail
  go_ret
  exact ⟨rfl, (Below.refl _ _).alloc (Nat.le_refl _) _⟩

set_option maxHeartbeats 1000000 in
theorem rfind_any (r : Int) (a : Option Addr) (n c : Nat) (L : List ByteArray) (s : ByteArray) (w : World) (hL : Txts w a n c L) :
    Calls Try.prog 18 #[(.agg #[.int .i64 r, .slice a n c] : Value), .string s] w fun e w' => e = .returned (.int .i64 (idxI L s)) ∧ Below w.heap.size w w' := by
  obtain ⟨w0, hw0⟩ : ∃ w0, w.alloc (.cells #[.int .i64 r, .slice a n c] 27) = w0 := ⟨_, rfl⟩
  have HL := Lib.hid (hw0 ▸ hL.next (.cells #[.int .i64 r, .slice a n c] 27))
  have HB : Hid (Below w.heap.size w w0) := Lib.hid (hw0 ▸ (Below.refl _ _).alloc (Nat.le_refl _) _)
  have hc : n ≤ 9223372036854775807 := by have := hL.2.1; have := hL.2.2.1; unfold maxLen at this; omega
  have HW := Lib.hid hw0
  clear hL hw0
  go_enter Try.func18, Try.ntmps18
  go_upto_region 2 with fail
  rw [HW.out]
  go_loopw [10] (fun v wr => ∃ k : Nat, k ≤ n ∧ v = .int .i64 (k : Int) ∧ (∀ j, j < k → L[j]? ≠ some s) ∧ w0 = wr) (fun v _ => (n - intOf v).toNat)
  case atStart => exact ⟨0, Nat.zero_le _, rfl, fun j hj => absurd hj (Nat.not_lt_zero _), rfl⟩
  case round =>
    obtain ⟨k, hk, rfl, hall, rfl⟩ := hrel
    have HA := Lib.hid hall
    clear hall
    by_cases hkn : k < n
    · have hx : L[k]? = some (L[k]'(by have := HL.out.1; omega)) := List.getElem?_eq_getElem _
      obtain ⟨x, hxe⟩ : ∃ x, (L[k]'(by have := HL.out.1; omega)) = x := ⟨_, rfl⟩
      rw [hxe] at hx
      obtain ⟨p, rfl, hpc⟩ := HL.out.2.2.2.2 k x hx
      have HX := Lib.hid hx
      have te := text_eq x s
      have HK := Lib.hid hkn
      have HF := Lib.hid hc
      clear hx hxe
      by_cases hxy : x = s
      · have t1 : (x.toList == s.toList) = true := by rw [te]; exact decide_eq_true hxy
        have HE : Hid (idxI L s = (k : Int)) := Lib.hid (idx_at HA.out (by rw [HX.out, hxy]))
        clear te hxy
        go_wp2_with fail
        go_ret
        exact ⟨by rw [HE.out]; rfl, HB.out⟩
      · have t1 : (x.toList == s.toList) = false := by rw [te]; exact decide_eq_false hxy
        have HE := Lib.hid (none_up HA.out HX.out hxy)
        clear te hxy
        go_wp2_with fail
        go_roundw
        case rel => exact ⟨k + 1, HK.out, by go_num, HE.out, trivial⟩
        case measure => exact meas_k n k _ rfl HK.out
    · have HE : Hid (idxI L s = -1) := Lib.hid (idx_none HL.out.1 (fun j hj => HA.out j (by omega)))
      go_wp2_with fail
      go_ret
      exact ⟨by rw [HE.out]; rfl, HB.out⟩

set_option maxHeartbeats 400000 in
theorem rpeek_no (r : Int) (a : Option Addr) (n c : Nat) (i : Int) (h : i < 0 ∨ (n : Int) ≤ i) :
    Gives Try.prog 11 #[(.agg #[.int .i64 r, .slice a n c] : Value), .int .i64 i] (.tuple #[.string ⟨#[]⟩, .bool false]) := by
  intro w
  by_cases h0 : i < 0
  · have d0 : decide (i < 0) = true := decide_eq_true h0
    clear h h0
    go_enter Try.func11, Try.ntmps11
    go_wp2
    go_ret2
    exact ⟨rfl, (Below.refl _ _).alloc (Nat.le_refl _) _⟩
  · have d0 : decide (i < 0) = false := decide_eq_false h0
    have d1 : decide ((n : Int) ≤ i) = true := decide_eq_true (by omega)
    clear h h0
    go_enter Try.func11, Try.ntmps11
    go_wp2
    go_ret2
    exact ⟨rfl, (Below.refl _ _).alloc (Nat.le_refl _) _⟩

set_option maxHeartbeats 400000 in
theorem rpeek_at (r : Int) (a : Option Addr) (n c : Nat) (i : Int) (k : Nat) (x : ByteArray) (L : List ByteArray) (w : World) (h : Txts w a n c L) (hi : i = (k : Int)) (hx : L[k]? = some x) :
    Calls Try.prog 11 #[(.agg #[.int .i64 r, .slice a n c] : Value), .int .i64 i] w fun e w' => e = .returned (.tuple #[.string x, .bool true]) ∧ Below w.heap.size w w' := by
  obtain ⟨b, rfl, hc⟩ := (h.next (.cells #[.int .i64 r, .slice a n c] 27)).2.2.2.2 k x hx
  have hk := (List.getElem?_eq_some_iff.1 hx).1
  have hkn : k < n := by have := h.1; omega
  subst hi
  have d0 : decide ((k : Int) < 0) = false := decide_eq_false (by omega)
  have d1 : decide (n ≤ k) = false := decide_eq_false (by omega)
  have l0 : (0 : Int) ≤ (k : Int) := by omega
  have l1 : (k : Int) < (n : Int) := by omega
  clear h hx hk hkn
  go_enter Try.func11, Try.ntmps11
  go_wp2
  go_ret2
  exact ⟨rfl, (Below.refl _ _).alloc (Nat.le_refl _) _⟩

/-- What Peek answers: the text there, or nothing. -/
def peekS (L : List ByteArray) (i : Int) : ByteArray := if 0 ≤ i then L[i.toNat]?.getD ⟨#[]⟩ else ⟨#[]⟩
def peekB (n : Nat) (i : Int) : Bool := decide (0 ≤ i ∧ i < (n : Int))
theorem peek_case (L : List ByteArray) (n : Nat) (hn : L.length = n) (i : Int) : ((i < 0 ∨ (n : Int) ≤ i) ∧ peekS L i = ⟨#[]⟩ ∧ peekB n i = false) ∨ ∃ (k : Nat) (x : ByteArray), i = (k : Int) ∧ L[k]? = some x ∧ peekS L i = x ∧ peekB n i = true := by
  by_cases h0 : i < 0
  · exact .inl ⟨.inl h0, by unfold peekS; rw [if_neg (by omega)], decide_eq_false (by omega)⟩
  · obtain ⟨k, rfl⟩ := Int.eq_ofNat_of_zero_le (show 0 ≤ i by omega)
    by_cases hk : k < n
    · refine .inr ⟨k, L[k]'(by omega), rfl, List.getElem?_eq_getElem _, ?_, decide_eq_true (by omega)⟩
      unfold peekS
      rw [if_pos (by omega), Int.toNat_natCast, List.getElem?_eq_getElem (by omega)]; rfl
    · refine .inl ⟨.inr (by omega), ?_, decide_eq_false (by omega)⟩
      unfold peekS
      rw [if_pos (by omega), Int.toNat_natCast, List.getElem?_eq_none (by omega)]; rfl
theorem peek_any (r : Int) (a : Option Addr) (n c : Nat) (i : Int) (L : List ByteArray) (w : World) (h : Txts w a n c L) :
    Calls Try.prog 10 #[(.agg #[.int .i64 r, .slice a n c] : Value), .int .i64 i] w fun e w' => e = .returned (.tuple #[.string (peekS L i), .bool (peekB n i)]) ∧ Below w.heap.size w w' := by
  rcases peek_case L n h.1 i with ⟨hi, e1, e2⟩ | ⟨k, x, hi, hx, e1, e2⟩
  · rw [e1, e2]; exact peek_no r a n c i hi w
  · rw [e1, e2]; exact peek_at r a n c i k x L w h hi hx
theorem rpeek_any (r : Int) (a : Option Addr) (n c : Nat) (i : Int) (L : List ByteArray) (w : World) (h : Txts w a n c L) :
    Calls Try.prog 11 #[(.agg #[.int .i64 r, .slice a n c] : Value), .int .i64 i] w fun e w' => e = .returned (.tuple #[.string (peekS L i), .bool (peekB n i)]) ∧ Below w.heap.size w w' := by
  rcases peek_case L n h.1 i with ⟨hi, e1, e2⟩ | ⟨k, x, hi, hx, e1, e2⟩
  · rw [e1, e2]; exact rpeek_no r a n c i hi w
  · rw [e1, e2]; exact rpeek_at r a n c i k x L w h hi hx
end Go.Proofs.Ytogmneidfoedbaa
