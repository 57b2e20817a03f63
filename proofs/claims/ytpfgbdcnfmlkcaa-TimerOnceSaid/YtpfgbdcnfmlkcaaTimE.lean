/- Contracts of package timer, part E: slices.Equal, Same; the document's own Same. -/
import Derived.Test.YtpfgbdcnfmlkcaaTimC
import Derived.Laws.StructEq
namespace Go.Proofs.Ytpfgbdcnfmlkcaa
open Go.RowKit Go.Sort

/-- Whether two timers are the same. -/
def sameA (x y : Alm) : Bool := (x.k == y.k) && (x.n == y.n) && (x.t == y.t)
theorem sameA_iff (x y : Alm) : sameA x y = true ↔ x = y := by
  cases x; cases y
  simp [sameA, and_assoc]
instance : DecidableEq Alm := fun x y => decidable_of_iff (sameA x y = true) (sameA_iff x y)
theorem run_al_eq (x y : Alm) (w : World) : (binOp .eql 23 (.agg #[.int .i64 x.k, .int .i64 x.n, .int .i64 x.t] : Value) (.agg #[.int .i64 y.k, .int .i64 y.n, .int .i64 y.t] : Value)).run Try.prog w = .ok (.bool (sameA x y)) w := by
  unfold sameA
  rw [run_eql_struct, run_equalIn_agg _ _ _ _ _ (by kernel_rfl) (by kernel_rfl)]
  simp [go_sem, Try.underlying23]
  by_cases g0 : x.k = y.k
  case neg => simp [g0]
  by_cases g1 : x.n = y.n
  case neg => simp [g1]
  by_cases g2 : x.t = y.t
  case neg => simp [g2]
  simp [g0, g1, g2]
theorem run_al_ne (x y : Alm) (w : World) : (binOp .neq 23 (.agg #[.int .i64 x.k, .int .i64 x.n, .int .i64 x.t] : Value) (.agg #[.int .i64 y.k, .int .i64 y.n, .int .i64 y.t] : Value)).run Try.prog w = .ok (.bool (!sameA x y)) w := by
  have h := run_al_eq x y w
  rw [run_eql_struct] at h
  rw [run_neq_struct]
  revert h
  generalize (Op.equalIn 10000 23 (.agg #[.int .i64 x.k, .int .i64 x.n, .int .i64 x.t] : Value) (.agg #[.int .i64 y.k, .int .i64 y.n, .int .i64 y.t] : Value)).run Try.prog w = r
  intro h
  cases r with
  | ok q w1 => simp [Result.andThen] at h ⊢; obtain ⟨h1, h2⟩ := h; simp [h1, h2]
  | halt q w1 => simp [Result.andThen] at h

/-- Are these the same timers? -/
def eqA (L M : List Alm) : Bool := decide (L = M)
theorem eqA_len {L M : List Alm} (h : L.length ≠ M.length) : eqA L M = false := decide_eq_false (fun e => h (by rw [e]))
theorem eqA_at {L M : List Alm} {k : Nat} {x y : Alm} (hx : L[k]? = some x) (hy : M[k]? = some y) (h : sameA x y = false) : eqA L M = false := decide_eq_false (fun e => by
  rw [e] at hx
  rw [hx] at hy
  rw [(sameA_iff x y).2 (Option.some.inj hy)] at h
  cases h)
theorem eqA_all {L M : List Alm} {n : Nat} (hl : L.length = n) (hm : M.length = n) (h : ∀ j, j < n → L[j]? = M[j]?) : eqA L M = true := decide_eq_true (List.ext_getElem? fun j => by
  by_cases hj : j < n
  · exact h j hj
  · rw [List.getElem?_eq_none (by omega), List.getElem?_eq_none (by omega)])
theorem eqA_up {L M : List Alm} {k : Nat} {x y : Alm} (h : ∀ j, j < k → L[j]? = M[j]?) (hx : L[k]? = some x) (hy : M[k]? = some y) (e : sameA x y = true) : ∀ j, j < k + 1 → L[j]? = M[j]? := fun j hj => by
  by_cases hjk : j = k
  · subst hjk; rw [hx, hy, (sameA_iff x y).1 e]
  · exact h j (by omega)

set_option maxHeartbeats 1000000 in
theorem tequal_any (a b : Option Addr) (n c m d : Nat) (L M : List Alm) (w : World) (hL : alS.At w a n c L) (hM : alS.At w b m d M) :
    Calls Try.prog 30 #[.slice a n c, .slice b m d] w fun e w' => e = .returned (.bool (eqA L M)) ∧ Below w.heap.size w w' := by
  by_cases hnm : n = m
  · subst hnm
    have HL := Lib.hid hL
    have HM := Lib.hid hM
    have hc : n ≤ 9223372036854775807 := by have := hL.2.1; have := hL.2.2.1; unfold maxLen at this; omega
    clear hL hM
    go_enter Try.func30, Try.ntmps30
    go_upto_region 4 with fail
    go_loopw [13] (fun v wr => ∃ k : Nat, k ≤ n ∧ v = .int .i64 (k : Int) ∧ Hid (∀ j, j < k → L[j]? = M[j]?) ∧ ∃ q, wr = w.drewN q) (fun v _ => (n - intOf v).toNat)
    case atStart => exact ⟨0, Nat.zero_le _, rfl, Lib.hid (fun j hj => absurd hj (Nat.not_lt_zero _)), 0, rfl⟩
    case round =>
      obtain ⟨k, hk, rfl, HA, q, hwr⟩ := hrel
      have HW := Lib.hid hwr
      by_cases hkn : k < n
      · obtain ⟨x, hx⟩ : ∃ x, L[k]? = some x := ⟨_, List.getElem?_eq_getElem (by have := HL.out.1; omega)⟩
        obtain ⟨y, hy⟩ : ∃ y, M[k]? = some y := ⟨_, List.getElem?_eq_getElem (by have := HM.out.1; omega)⟩
        obtain ⟨p, p1, rfl, hp, c0, c1, c2⟩ := al_at (HL.out.drewN q) hx
        obtain ⟨r, r1, rfl, hr, d0, d1, d2⟩ := al_at (HM.out.drewN q) hy
        rw [← hwr] at c0 c1 c2 d0 d1 d2
        have HX := Lib.hid hx
        have HY := Lib.hid hy
        have l0 : (0 : Int) ≤ (k : Int) := by omega
        have l1 : (k : Int) < (n : Int) := by omega
        have ew : IntKind.i64.wrap ((k : Int) + 1) = (k : Int) + 1 := IntWalk.i64_in _ (by omega)
        have HK := Lib.hid hkn
        have NE : ∀ w, (binOp .neq 23 (.agg #[.int .i64 x.k, .int .i64 x.n, .int .i64 x.t] : Value) (.agg #[.int .i64 y.k, .int .i64 y.n, .int .i64 y.t] : Value)).run Try.prog w = .ok (.bool (!sameA x y)) w := fun w => run_al_ne x y w
        obtain ⟨s, hs⟩ : ∃ s, sameA x y = s := ⟨_, rfl⟩
        rw [hs] at NE
        have HS := Lib.hid hs
        clear hx hy hwr hk hc hs
        cases s with
        | true =>
          go_upto_region 6 with fail
          go_quiet (fail)
          go_wp2_with fail
          go_roundw
          case rel => exact ⟨k + 1, HK.out, by go_num, Lib.hid (eqA_up HA.out HX.out HY.out HS.out), by rw [HW.out]; exact ⟨_, World.drewN_drewN _ _ _⟩⟩
          case measure => exact tim_meas n k HK.out _ rfl
        | false =>
          have HE : Hid (eqA L M = false) := Lib.hid (eqA_at HX.out HY.out HS.out)
          go_upto_region 6 with fail
          go_quiet (fail)
          go_wp2_with fail
          go_ret
          exact ⟨by rw [HE.out]; rfl, by rw [HW.out]; exact below_drewN (below_drewN (Below.refl _ _) _) _⟩
      · have HE : Hid (eqA L M = true) := Lib.hid (eqA_all HL.out.1 HM.out.1 (fun j hj => HA.out j (by omega)))
        clear hwr
        go_wp2_with fail
        go_ret
        exact ⟨by rw [HE.out]; rfl, by rw [HW.out]; exact below_drewN (Below.refl _ _) _⟩
  · have HE : Hid (eqA L M = false) := Lib.hid (eqA_len (by rw [hL.1, hM.1]; exact hnm))
    have t1 : ((n : Int) == (m : Int)) = false := by
      have : (n : Int) ≠ (m : Int) := by omega
      simpa using this
    clear hL hM hnm
    go_enter Try.func30, Try.ntmps30
    go_wp2
    go_ret
    exact ⟨by rw [HE.out]; rfl, Below.refl _ _⟩

set_option maxHeartbeats 1000000 in
theorem rsame_any (a b : Option Addr) (n c m d : Nat) (L M : List Alm) (w : World) (hL : alS.At w a n c L) (hM : alS.At w b m d M) :
    Calls Try.prog 11 #[.slice a n c, .slice b m d] w fun e w' => e = .returned (.bool (eqA L M)) ∧ Below w.heap.size w w' := by
  by_cases hnm : n = m
  · subst hnm
    have HL := Lib.hid hL
    have HM := Lib.hid hM
    have hc : n ≤ 9223372036854775807 := by have := hL.2.1; have := hL.2.2.1; unfold maxLen at this; omega
    clear hL hM
    go_enter Try.func11, Try.ntmps11
    go_upto_region 4 with fail
    go_loopw [13] (fun v wr => ∃ k : Nat, k ≤ n ∧ v = .int .i64 (k : Int) ∧ Hid (∀ j, j < k → L[j]? = M[j]?) ∧ ∃ q, wr = w.drewN q) (fun v _ => (n - intOf v).toNat)
    case atStart => exact ⟨0, Nat.zero_le _, rfl, Lib.hid (fun j hj => absurd hj (Nat.not_lt_zero _)), 0, rfl⟩
    case round =>
      obtain ⟨k, hk, rfl, HA, q, hwr⟩ := hrel
      have HW := Lib.hid hwr
      by_cases hkn : k < n
      · obtain ⟨x, hx⟩ : ∃ x, L[k]? = some x := ⟨_, List.getElem?_eq_getElem (by have := HL.out.1; omega)⟩
        obtain ⟨y, hy⟩ : ∃ y, M[k]? = some y := ⟨_, List.getElem?_eq_getElem (by have := HM.out.1; omega)⟩
        obtain ⟨p, p1, rfl, hp, c0, c1, c2⟩ := al_at (HL.out.drewN q) hx
        obtain ⟨r, r1, rfl, hr, d0, d1, d2⟩ := al_at (HM.out.drewN q) hy
        rw [← hwr] at c0 c1 c2 d0 d1 d2
        have HX := Lib.hid hx
        have HY := Lib.hid hy
        have l0 : (0 : Int) ≤ (k : Int) := by omega
        have l1 : (k : Int) < (n : Int) := by omega
        have ew : IntKind.i64.wrap ((k : Int) + 1) = (k : Int) + 1 := IntWalk.i64_in _ (by omega)
        have HK := Lib.hid hkn
        have NE : ∀ w, (binOp .neq 23 (.agg #[.int .i64 x.k, .int .i64 x.n, .int .i64 x.t] : Value) (.agg #[.int .i64 y.k, .int .i64 y.n, .int .i64 y.t] : Value)).run Try.prog w = .ok (.bool (!sameA x y)) w := fun w => run_al_ne x y w
        obtain ⟨s, hs⟩ : ∃ s, sameA x y = s := ⟨_, rfl⟩
        rw [hs] at NE
        have HS := Lib.hid hs
        clear hx hy hwr hk hc hs
        cases s with
        | true =>
          go_upto_region 6 with fail
          go_quiet (fail)
          go_wp2_with fail
          go_roundw
          case rel => exact ⟨k + 1, HK.out, by go_num, Lib.hid (eqA_up HA.out HX.out HY.out HS.out), by rw [HW.out]; exact ⟨_, World.drewN_drewN _ _ _⟩⟩
          case measure => exact tim_meas n k HK.out _ rfl
        | false =>
          have HE : Hid (eqA L M = false) := Lib.hid (eqA_at HX.out HY.out HS.out)
          go_upto_region 6 with fail
          go_quiet (fail)
          go_wp2_with fail
          go_ret
          exact ⟨by rw [HE.out]; rfl, by rw [HW.out]; exact below_drewN (below_drewN (Below.refl _ _) _) _⟩
      · have HE : Hid (eqA L M = true) := Lib.hid (eqA_all HL.out.1 HM.out.1 (fun j hj => HA.out j (by omega)))
        clear hwr
        go_wp2_with fail
        go_ret
        exact ⟨by rw [HE.out]; rfl, by rw [HW.out]; exact below_drewN (Below.refl _ _) _⟩
  · have HE : Hid (eqA L M = false) := Lib.hid (eqA_len (by rw [hL.1, hM.1]; exact hnm))
    have t1 : ((n : Int) == (m : Int)) = false := by
      have : (n : Int) ≠ (m : Int) := by omega
      simpa using this
    clear hL hM hnm
    go_enter Try.func11, Try.ntmps11
    go_wp2
    go_ret
    exact ⟨by rw [HE.out]; rfl, Below.refl _ _⟩

theorem same_is (a b : Option Addr) (n c m d : Nat) (L M : List Alm) (x : Bool) (w : World) (hL : alS.At w a n c L) (hM : alS.At w b m d M) (hx : eqA L M = x) :
    Calls Try.prog 22 #[.slice a n c, .slice b m d] w fun e w' => e = .returned (.bool x) ∧ Below w.heap.size w w' := by
  have EQ := Lib.hid (tequal_any a b n c m d L M w hL hM)
  rw [hx] at EQ
  clear hL hM hx
  go_enter Try.func22, Try.ntmps22
  go_wp2_with fail
  refine (EQ.out).mono ?_
  rintro e w1 ⟨rfl, hb⟩
  have HB := Lib.hid hb
  clear hb
  go_wp2_with fail
  go_ret
  exact ⟨rfl, HB.out⟩
theorem rsame_is (a b : Option Addr) (n c m d : Nat) (L M : List Alm) (x : Bool) (w : World) (hL : alS.At w a n c L) (hM : alS.At w b m d M) (hx : eqA L M = x) :
    Calls Try.prog 11 #[.slice a n c, .slice b m d] w fun e w' => e = .returned (.bool x) ∧ Below w.heap.size w w' := hx ▸ rsame_any a b n c m d L M w hL hM
end Go.Proofs.Ytpfgbdcnfmlkcaa
