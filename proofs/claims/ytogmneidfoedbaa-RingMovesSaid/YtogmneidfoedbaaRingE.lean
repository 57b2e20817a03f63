/- Contracts of package ring, part E: slices.Equal, Same, and the document's own Same. -/
import Derived.Test.YtogmneidfoedbaaRingD
namespace Go.Proofs.Ytogmneidfoedbaa
open Go.RowKit Go.Sort

theorem text_eq (x y : ByteArray) : (x.toList == y.toList) = decide (x = y) := by
  rw [Lib.toList_data, Lib.toList_data]
  by_cases h : x = y
  · subst h; simp
  · rw [decide_eq_false h]
    refine beq_eq_false_iff_ne.2 (fun e => h ?_)
    apply ByteArray.ext
    exact Array.ext' e
/-- Are these the same texts? -/
def eqB (L M : List ByteArray) : Bool := decide (L = M)
theorem eqB_len {L M : List ByteArray} (h : L.length ≠ M.length) : eqB L M = false := decide_eq_false (fun e => h (by rw [e]))
theorem eqB_at {L M : List ByteArray} {k : Nat} {x y : ByteArray} (hx : L[k]? = some x) (hy : M[k]? = some y) (h : x ≠ y) : eqB L M = false := decide_eq_false (fun e => h (by rw [e] at hx; rw [hx] at hy; exact Option.some.inj hy))
theorem eqB_all {L M : List ByteArray} {n : Nat} (hl : L.length = n) (hm : M.length = n) (h : ∀ j, j < n → L[j]? = M[j]?) : eqB L M = true := decide_eq_true (List.ext_getElem? fun j => by
  by_cases hj : j < n
  · exact h j hj
  · rw [List.getElem?_eq_none (by omega), List.getElem?_eq_none (by omega)])
theorem same_up {L M : List ByteArray} {k : Nat} {x y : ByteArray} (h : ∀ j, j < k → L[j]? = M[j]?) (hx : L[k]? = some x) (hy : M[k]? = some y) (e : x = y) : ∀ j, j < k + 1 → L[j]? = M[j]? := fun j hj => by
  by_cases hjk : j = k
  · subst hjk; rw [hx, hy, e]
  · exact h j (by omega)
theorem meas_k (n k : Nat) (v : Int) (hv : v = (k : Int) + 1) (h : k < n) : (n - intOf (.int .i64 v)).toNat < (n - intOf (.int .i64 (k : Int))).toNat := by
  subst hv
  simp [intOf]; omega

set_option maxHeartbeats 1000000 in
theorem equal_any (a b : Option Addr) (n c m d : Nat) (L M : List ByteArray) (w : World) (hL : Txts w a n c L) (hM : Txts w b m d M) :
    Calls Try.prog 29 #[.slice a n c, .slice b m d] w fun e w' => e = .returned (.bool (eqB L M)) ∧ Below w.heap.size w w' := by
  by_cases hnm : n = m
  · subst hnm
    have HL := Lib.hid hL
    have HM := Lib.hid hM
    have hc : n ≤ 9223372036854775807 := by have := hL.2.1; have := hL.2.2.1; unfold maxLen at this; omega
    clear hL hM
    go_enter Try.func29, Try.ntmps29
    go_upto_region 4 with fail
    go_loopw [13] (fun v wr => ∃ k : Nat, k ≤ n ∧ v = .int .i64 (k : Int) ∧ (∀ j, j < k → L[j]? = M[j]?) ∧ ∃ q, wr = w.drewN q) (fun v _ => (n - intOf v).toNat)
    case atStart => exact ⟨0, Nat.zero_le _, rfl, fun j hj => absurd hj (Nat.not_lt_zero _), 0, rfl⟩
    case round =>
      obtain ⟨k, hk, rfl, hall, q, hwr⟩ := hrel
      have HA := Lib.hid hall
      have HW := Lib.hid hwr
      clear hall
      by_cases hkn : k < n
      · have hx : L[k]? = some (L[k]'(by have := HL.out.1; omega)) := List.getElem?_eq_getElem _
        have hy : M[k]? = some (M[k]'(by have := HM.out.1; omega)) := List.getElem?_eq_getElem _
        obtain ⟨x, hxe⟩ : ∃ x, (L[k]'(by have := HL.out.1; omega)) = x := ⟨_, rfl⟩
        obtain ⟨y, hye⟩ : ∃ y, (M[k]'(by have := HM.out.1; omega)) = y := ⟨_, rfl⟩
        rw [hxe] at hx
        rw [hye] at hy
        obtain ⟨p, rfl, hpc⟩ := (HL.out.drewN q).2.2.2.2 k x hx
        obtain ⟨p', rfl, hpc'⟩ := (HM.out.drewN q).2.2.2.2 k y hy
        rw [← hwr] at hpc hpc'
        have HX := Lib.hid hx
        have HY := Lib.hid hy
        have te := text_eq x y
        have l0 : (0 : Int) ≤ (k : Int) := by omega
        have l1 : (k : Int) < (n : Int) := by omega
        have ew : IntKind.i64.wrap ((k : Int) + 1) = (k : Int) + 1 := IntWalk.i64_in _ (by omega)
        have HK := Lib.hid hkn
        have HF := Lib.hid hc
        clear hx hy hxe hye hwr hk hc
        by_cases hxy : x = y
        · have t1 : (x.toList == y.toList) = true := by rw [te]; exact decide_eq_true hxy
          have HXY := Lib.hid hxy
          clear te hxy
          go_upto_region 6 with fail
          go_quiet (fail)
          go_wp2_with fail
          go_roundw
          case rel => exact ⟨k + 1, HK.out, by go_num, same_up HA.out HX.out HY.out HXY.out, by rw [HW.out]; exact ⟨_, World.drewN_drewN _ _ _⟩⟩
          case measure => exact meas_k n k _ rfl HK.out
        · have t1 : (x.toList == y.toList) = false := by rw [te]; exact decide_eq_false hxy
          have HE : Hid (eqB L M = false) := Lib.hid (eqB_at HX.out HY.out hxy)
          clear te hxy
          go_upto_region 6 with fail
          go_quiet (fail)
          go_wp2_with fail
          go_ret
          exact ⟨by rw [HE.out]; rfl, by rw [HW.out]; exact below_drewN (below_drewN (Below.refl _ _) _) _⟩
      · have HE : Hid (eqB L M = true) := Lib.hid (eqB_all HL.out.1 HM.out.1 (fun j hj => HA.out j (by omega)))
        clear hwr
        go_wp2_with fail
        go_ret
        exact ⟨by rw [HE.out]; rfl, by rw [HW.out]; exact below_drewN (Below.refl _ _) _⟩
  · have HE : Hid (eqB L M = false) := Lib.hid (eqB_len (by rw [hL.1, hM.1]; exact hnm))
    have t1 : ((n : Int) == (m : Int)) = false := by
      have : (n : Int) ≠ (m : Int) := by omega
      simpa using this
    clear hL hM hnm
    go_enter Try.func29, Try.ntmps29
    go_wp2
    go_ret
    exact ⟨by rw [HE.out]; rfl, Below.refl _ _⟩

set_option maxHeartbeats 1000000 in
theorem same_any (r r' : Int) (a b : Option Addr) (n c m d : Nat) (L M : List ByteArray) (w : World) (hL : Txts w a n c L) (hM : Txts w b m d M) :
    Calls Try.prog 20 #[(.agg #[.int .i64 r, .slice a n c] : Value), (.agg #[.int .i64 r', .slice b m d] : Value)] w fun e w' => e = .returned (.bool (decide (r = r') && eqB L M)) ∧ Below w.heap.size w w' := by
  have EQ : Hid (∀ w' (_ : Below w.heap.size w w'), Calls Try.prog 29 #[.slice a n c, .slice b m d] w' fun e w'' => e = .returned (.bool (eqB L M)) ∧ Below w'.heap.size w' w'') := Lib.hid (fun w' hb => equal_any a b n c m d L M w' (hL.on hb) (hM.on hb))
  have BB : Hid (Below w.heap.size w ((w.alloc (.cells #[.int .i64 r, .slice a n c] 27)).alloc (.cells #[.int .i64 r', .slice b m d] 27))) := Lib.hid (((Below.refl _ _).alloc (Nat.le_refl _) _).alloc (by simp only [World.size_alloc]; omega) _)
  obtain ⟨x, hx⟩ : ∃ x, eqB L M = x := ⟨_, rfl⟩
  rw [hx] at EQ ⊢
  clear hL hM hx
  by_cases h : r = r'
  · have t1 : (r == r') = true := by rw [h]; simp
    have HD : Hid (decide (r = r') = true) := Lib.hid (decide_eq_true h)
    clear h
    go_enter Try.func20, Try.ntmps20
    go_wp2_with fail
    refine (EQ.out _ BB.out).mono ?_
    rintro e w1 ⟨rfl, hb⟩
    have HB := Lib.hid hb
    clear hb
    go_wp2_with fail
    go_ret
    exact ⟨by rw [HD.out, Bool.true_and]; rfl, bel_on BB.out HB.out⟩
  · have t1 : (r == r') = false := by simpa using h
    have HD : Hid (decide (r = r') = false) := Lib.hid (decide_eq_false h)
    clear h
    go_enter Try.func20, Try.ntmps20
    go_wp2_with fail
    go_ret
    exact ⟨by rw [HD.out, Bool.false_and]; rfl, BB.out⟩

theorem same_is (r r' : Int) (a b : Option Addr) (n c m d : Nat) (L M : List ByteArray) (x : Bool) (w : World) (hL : Txts w a n c L) (hM : Txts w b m d M) (hx : (decide (r = r') && eqB L M) = x) :
    Calls Try.prog 20 #[(.agg #[.int .i64 r, .slice a n c] : Value), (.agg #[.int .i64 r', .slice b m d] : Value)] w fun e w' => e = .returned (.bool x) ∧ Below w.heap.size w w' := hx ▸ same_any r r' a b n c m d L M w hL hM

set_option maxHeartbeats 1000000 in
theorem rsame_any (r r' : Int) (a b : Option Addr) (n c m d : Nat) (L M : List ByteArray) (w : World) (hL : Txts w a n c L) (hM : Txts w b m d M) :
    Calls Try.prog 16 #[(.agg #[.int .i64 r, .slice a n c] : Value), (.agg #[.int .i64 r', .slice b m d] : Value)] w fun e w' => e = .returned (.bool (decide (r = r') && eqB L M)) ∧ Below w.heap.size w w' := by
  have BB : Hid (Below w.heap.size w ((w.alloc (.cells #[.int .i64 r, .slice a n c] 27)).alloc (.cells #[.int .i64 r', .slice b m d] 27))) := Lib.hid (((Below.refl _ _).alloc (Nat.le_refl _) _).alloc (by simp only [World.size_alloc]; omega) _)
  by_cases h : r = r'
  · subst h
    have t1 : (r == r) = true := by simp
    have HD : Hid (decide (r = r) = true) := Lib.hid (decide_eq_true rfl)
    by_cases hnm : n = m
    · subst hnm
      obtain ⟨w0, hw0⟩ : ∃ w0, ((w.alloc (.cells #[.int .i64 r, .slice a n c] 27)).alloc (.cells #[.int .i64 r, .slice b n d] 27)) = w0 := ⟨_, rfl⟩
      have K0 : Hid (Blk w0 w.heap.size [.int .i64 r, .slice a n c]) := Lib.hid (hw0 ▸ (Blk.new w [.int .i64 r, .slice a n c] 27).next _)
      have K1 : Hid (Blk w0 (w.heap.size + 1) [.int .i64 r, .slice b n d]) := Lib.hid (hw0 ▸ Blk.newAt (by simp only [World.size_alloc]) [.int .i64 r, .slice b n d] 27)
      have HL := Lib.hid (hL.on BB.out)
      have HM := Lib.hid (hM.on BB.out)
      have hc : n ≤ 9223372036854775807 := by have := hL.2.1; have := hL.2.2.1; unfold maxLen at this; omega
      rw [hw0] at HL HM BB
      have HW0 := Lib.hid hw0
      clear hL hM hw0
      go_enter Try.func16, Try.ntmps16
      go_upto_region 4 with fail
      rw [HW0.out]
      clear t1
      go_loopw [23] (fun v wr => ∃ k : Nat, k ≤ n ∧ v = .int .i64 (k : Int) ∧ (∀ j, j < k → L[j]? = M[j]?) ∧ ∃ q, wr = w0.drewN q) (fun v _ => (n - intOf v).toNat)
      case atStart => exact ⟨0, Nat.zero_le _, rfl, fun j hj => absurd hj (Nat.not_lt_zero _), 0, rfl⟩
      case round =>
        obtain ⟨k, hk, rfl, hall, q, hwr⟩ := hrel
        have HA := Lib.hid hall
        have HW := Lib.hid hwr
        clear hall
        have k0 := (K0.out.drewN q).cell 1 rfl
        have k1 := (K1.out.drewN q).cell 1 rfl
        rw [← hwr] at k0 k1
        by_cases hkn : k < n
        · have hx : L[k]? = some (L[k]'(by have := HL.out.1; omega)) := List.getElem?_eq_getElem _
          have hy : M[k]? = some (M[k]'(by have := HM.out.1; omega)) := List.getElem?_eq_getElem _
          obtain ⟨x, hxe⟩ : ∃ x, (L[k]'(by have := HL.out.1; omega)) = x := ⟨_, rfl⟩
          obtain ⟨y, hye⟩ : ∃ y, (M[k]'(by have := HM.out.1; omega)) = y := ⟨_, rfl⟩
          rw [hxe] at hx
          rw [hye] at hy
          obtain ⟨p, rfl, hpc⟩ := (HL.out.drewN q).2.2.2.2 k x hx
          obtain ⟨p', rfl, hpc'⟩ := (HM.out.drewN q).2.2.2.2 k y hy
          rw [← hwr] at hpc hpc'
          have HX := Lib.hid hx
          have HY := Lib.hid hy
          have te := text_eq x y
          have l0 : (0 : Int) ≤ (k : Int) := by omega
          have l1 : (k : Int) < (n : Int) := by omega
          have ew : IntKind.i64.wrap ((k : Int) + 1) = (k : Int) + 1 := IntWalk.i64_in _ (by omega)
          have HK := Lib.hid hkn
          have HF := Lib.hid hc
          clear hx hy hxe hye hwr hk hc
          by_cases hxy : x = y
          · have t1 : (x.toList == y.toList) = true := by rw [te]; exact decide_eq_true hxy
            have HXY := Lib.hid hxy
            clear te hxy
            go_upto_region 6 with fail
            go_quiet (fail)
            go_wp2_with fail
            go_roundw
            case rel => exact ⟨k + 1, HK.out, by go_num, same_up HA.out HX.out HY.out HXY.out, by rw [HW.out]; exact ⟨_, World.drewN_drewN _ _ _⟩⟩
            case measure => exact meas_k n k _ rfl HK.out
          · have t1 : (x.toList == y.toList) = false := by rw [te]; exact decide_eq_false hxy
            have HE : Hid (eqB L M = false) := Lib.hid (eqB_at HX.out HY.out hxy)
            clear te hxy
            go_upto_region 6 with fail
            go_quiet (fail)
            go_wp2_with fail
            go_ret
            exact ⟨by rw [HE.out]; first | rfl | (rw [Bool.and_false]; rfl), by rw [HW.out]; exact below_drewN (below_drewN BB.out _) _⟩
        · have HE : Hid (eqB L M = true) := Lib.hid (eqB_all HL.out.1 HM.out.1 (fun j hj => HA.out j (by omega)))
          clear hwr
          go_wp2_with fail
          go_ret
          exact ⟨by rw [HE.out]; first | rfl | (rw [HD.out]; rfl), by rw [HW.out]; exact below_drewN BB.out _⟩
    · have HE : Hid (eqB L M = false) := Lib.hid (eqB_len (by rw [hL.1, hM.1]; exact hnm))
      have t2 : ((n : Int) == (m : Int)) = false := by
        have : (n : Int) ≠ (m : Int) := by omega
        simpa using this
      clear hL hM hnm
      go_enter Try.func16, Try.ntmps16
      go_wp2_with fail
      go_ret
      exact ⟨by rw [HE.out]; first | rfl | (rw [Bool.and_false]; rfl), BB.out⟩
  · have t1 : (r == r') = false := by simpa using h
    have HD : Hid (decide (r = r') = false) := Lib.hid (decide_eq_false h)
    clear h hL hM
    go_enter Try.func16, Try.ntmps16
    go_wp2_with fail
    go_ret
    exact ⟨by rw [HD.out, Bool.false_and]; rfl, BB.out⟩
theorem rsame_is (r r' : Int) (a b : Option Addr) (n c m d : Nat) (L M : List ByteArray) (x : Bool) (w : World) (hL : Txts w a n c L) (hM : Txts w b m d M) (hx : (decide (r = r') && eqB L M) = x) :
    Calls Try.prog 16 #[(.agg #[.int .i64 r, .slice a n c] : Value), (.agg #[.int .i64 r', .slice b m d] : Value)] w fun e w' => e = .returned (.bool x) ∧ Below w.heap.size w w' := hx ▸ rsame_any r r' a b n c m d L M w hL hM
end Go.Proofs.Ytogmneidfoedbaa
