/- Contracts of package resend, part E: slices.Equal, Same. -/
import Derived.Test.YtmgmgffgbkenkaaDoorResD
import Derived.Laws.StructEq
namespace Go.Proofs.YtmgmgffgbkenkaaDoor
open Go.RowKit Go.Sort

theorem stext_eq (x y : ByteArray) : (x.toList == y.toList) = decide (x = y) := by
  rw [Lib.toList_data, Lib.toList_data]
  by_cases h : x = y
  · subst h; simp
  · rw [decide_eq_false h]
    refine beq_eq_false_iff_ne.2 (fun e => h ?_)
    apply ByteArray.ext
    apply Array.ext'
    exact e
/-- Whether two of what was sent are the same. -/
def sameA (x y : Snt) : Bool := (x.s == y.s) && (x.y.toList == y.y.toList) && (x.t == y.t) && (x.l == y.l)
theorem sameA_iff (x y : Snt) : sameA x y = true ↔ x = y := by
  cases x; cases y
  simp [sameA, stext_eq, and_assoc]
instance : DecidableEq Snt := fun x y => decidable_of_iff (sameA x y = true) (sameA_iff x y)
theorem run_al_eq (x y : Snt) (w : World) : (binOp .eql 37 (.agg #[.int .i64 x.s, .string x.y, .int .i64 x.t, .int .i64 x.l] : Value) (.agg #[.int .i64 y.s, .string y.y, .int .i64 y.t, .int .i64 y.l] : Value)).run Tryd.prog w = .ok (.bool (sameA x y)) w := by
  unfold sameA
  rw [run_eql_struct, run_equalIn_agg _ _ _ _ _ (by kernel_rfl) (by kernel_rfl)]
  generalize hx : (x.y.toList == y.y.toList) = q
  simp [go_sem, Tryd.underlying37, hx]
  by_cases g0 : x.s = y.s
  case neg => simp [g0]
  by_cases g1 : x.t = y.t
  case neg => simp [g1]
  by_cases g2 : x.l = y.l
  case neg => simp [g2]
  cases q <;> simp [g0, g1, g2]
theorem run_al_ne (x y : Snt) (w : World) : (binOp .neq 37 (.agg #[.int .i64 x.s, .string x.y, .int .i64 x.t, .int .i64 x.l] : Value) (.agg #[.int .i64 y.s, .string y.y, .int .i64 y.t, .int .i64 y.l] : Value)).run Tryd.prog w = .ok (.bool (!sameA x y)) w := by
  have h := run_al_eq x y w
  rw [run_eql_struct] at h
  rw [run_neq_struct]
  revert h
  generalize (Op.equalIn 10000 37 (.agg #[.int .i64 x.s, .string x.y, .int .i64 x.t, .int .i64 x.l] : Value) (.agg #[.int .i64 y.s, .string y.y, .int .i64 y.t, .int .i64 y.l] : Value)).run Tryd.prog w = r
  intro h
  cases r with
  | ok q w1 => simp [Result.andThen] at h ⊢; obtain ⟨h1, h2⟩ := h; simp [h1, h2]
  | halt q w1 => simp [Result.andThen] at h

/-- Are these the same ? -/
def eqA (L M : List Snt) : Bool := decide (L = M)
theorem eqA_len {L M : List Snt} (h : L.length ≠ M.length) : eqA L M = false := decide_eq_false (fun e => h (by rw [e]))
theorem eqA_at {L M : List Snt} {k : Nat} {x y : Snt} (hx : L[k]? = some x) (hy : M[k]? = some y) (h : sameA x y = false) : eqA L M = false := decide_eq_false (fun e => by
  rw [e] at hx
  rw [hx] at hy
  rw [(sameA_iff x y).2 (Option.some.inj hy)] at h
  cases h)
theorem eqA_all {L M : List Snt} {n : Nat} (hl : L.length = n) (hm : M.length = n) (h : ∀ j, j < n → L[j]? = M[j]?) : eqA L M = true := decide_eq_true (List.ext_getElem? fun j => by
  by_cases hj : j < n
  · exact h j hj
  · rw [List.getElem?_eq_none (by omega), List.getElem?_eq_none (by omega)])
theorem eqA_up {L M : List Snt} {k : Nat} {x y : Snt} (h : ∀ j, j < k → L[j]? = M[j]?) (hx : L[k]? = some x) (hy : M[k]? = some y) (e : sameA x y = true) : ∀ j, j < k + 1 → L[j]? = M[j]? := fun j hj => by
  by_cases hjk : j = k
  · subst hjk; rw [hx, hy, (sameA_iff x y).1 e]
  · exact h j (by omega)

set_option maxHeartbeats 1000000 in
theorem tequal_any (a b : Option Addr) (n c m d : Nat) (L M : List Snt) (w : World) (hL : snS.At w a n c L) (hM : snS.At w b m d M) :
    Calls Tryd.prog 19 #[.slice a n c, .slice b m d] w fun e w' => e = .returned (.bool (eqA L M)) ∧ Below w.heap.size w w' := by
  by_cases hnm : n = m
  · subst hnm
    have HL := Lib.hid hL
    have HM := Lib.hid hM
    have hc : n ≤ 9223372036854775807 := by have := hL.2.1; have := hL.2.2.1; unfold maxLen at this; omega
    clear hL hM
    go_enter Tryd.func19, Tryd.ntmps19
    go_upto_region 4 with fail
    go_loopw [13] (fun v wr => ∃ k : Nat, k ≤ n ∧ v = .int .i64 (k : Int) ∧ Hid (∀ j, j < k → L[j]? = M[j]?) ∧ ∃ q, wr = w.drewN q) (fun v _ => (n - intOf v).toNat)
    case atStart => exact ⟨0, Nat.zero_le _, rfl, Lib.hid (fun j hj => absurd hj (Nat.not_lt_zero _)), 0, rfl⟩
    case round =>
      obtain ⟨k, hk, rfl, HA, q, hwr⟩ := hrel
      have HW := Lib.hid hwr
      by_cases hkn : k < n
      · obtain ⟨x, hx⟩ : ∃ x, L[k]? = some x := ⟨_, List.getElem?_eq_getElem (by have := HL.out.1; omega)⟩
        obtain ⟨y, hy⟩ : ∃ y, M[k]? = some y := ⟨_, List.getElem?_eq_getElem (by have := HM.out.1; omega)⟩
        obtain ⟨p, p1, rfl, hp, c0, c1, c2, c3⟩ := sn_at (HL.out.drewN q) hx
        obtain ⟨r, r1, rfl, hr, d0, d1, d2, d3⟩ := sn_at (HM.out.drewN q) hy
        rw [← hwr] at c0 c1 c2 c3 d0 d1 d2 d3
        have HX := Lib.hid hx
        have HY := Lib.hid hy
        have l0 : (0 : Int) ≤ (k : Int) := by omega
        have l1 : (k : Int) < (n : Int) := by omega
        have ew : IntKind.i64.wrap ((k : Int) + 1) = (k : Int) + 1 := IntWalk.i64_in _ (by omega)
        have HK := Lib.hid hkn
        have NE : ∀ w, (binOp .neq 37 (.agg #[.int .i64 x.s, .string x.y, .int .i64 x.t, .int .i64 x.l] : Value) (.agg #[.int .i64 y.s, .string y.y, .int .i64 y.t, .int .i64 y.l] : Value)).run Tryd.prog w = .ok (.bool (!sameA x y)) w := fun w => run_al_ne x y w
        obtain ⟨s, hs⟩ : ∃ s, sameA x y = s := ⟨_, rfl⟩
        rw [hs] at NE
        have HS := Lib.hid hs
        clear hx hy hwr hk hc hs
        cases s with
        | true =>
          go_upto_region 6 with fail
          go_quiet (fail)
          go_wp2_with fail
          go_roundw
          case rel => exact ⟨k + 1, HK.out, by go_num, Lib.hid (eqA_up HA.out HX.out HY.out HS.out), by rw [HW.out]; exact ⟨_, World.drewN_drewN _ _ _⟩⟩
          case measure => exact meas_k n k HK.out _ rfl
        | false =>
          have HE : Hid (eqA L M = false) := Lib.hid (eqA_at HX.out HY.out HS.out)
          go_upto_region 6 with fail
          go_quiet (fail)
          go_wp2_with fail
          go_ret
          exact ⟨by rw [HE.out]; rfl, by rw [HW.out]; exact below_drewN (below_drewN (Below.refl _ _) _) _⟩
      · have HE : Hid (eqA L M = true) := Lib.hid (eqA_all HL.out.1 HM.out.1 (fun j hj => HA.out j (by omega)))
        clear hwr
        go_wp2_with fail
        go_ret
        exact ⟨by rw [HE.out]; rfl, by rw [HW.out]; exact below_drewN (Below.refl _ _) _⟩
  · have HE : Hid (eqA L M = false) := Lib.hid (eqA_len (by rw [hL.1, hM.1]; exact hnm))
    have t1 : ((n : Int) == (m : Int)) = false := by
      have : (n : Int) ≠ (m : Int) := by omega
      simpa using this
    clear hL hM hnm
    go_enter Tryd.func19, Tryd.ntmps19
    go_wp2
    go_ret
    exact ⟨by rw [HE.out]; rfl, Below.refl _ _⟩

theorem same_is (a b : Option Addr) (n c m d : Nat) (L M : List Snt) (x : Bool) (w : World) (hL : snS.At w a n c L) (hM : snS.At w b m d M) (hx : eqA L M = x) :
    Calls Tryd.prog 13 #[.slice a n c, .slice b m d] w fun e w' => e = .returned (.bool x) ∧ Below w.heap.size w w' := by
  have EQ := Lib.hid (tequal_any a b n c m d L M w hL hM)
  rw [hx] at EQ
  clear hL hM hx
  go_enter Tryd.func13, Tryd.ntmps13
  go_wp2_with fail
  refine (EQ.out).mono ?_
  rintro e w1 ⟨rfl, hb⟩
  have HB := Lib.hid hb
  clear hb
  go_wp2_with fail
  go_ret
  exact ⟨rfl, HB.out⟩
end Go.Proofs.YtmgmgffgbkenkaaDoor
