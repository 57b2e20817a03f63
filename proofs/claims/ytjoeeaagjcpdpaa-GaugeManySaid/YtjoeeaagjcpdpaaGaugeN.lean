/- The contracts of gauge.rising, notAbove, and sort.Search as it asks. -/
import Derived.Test.YtjoeeaagjcpdpaaGaugeM
namespace Go.Proofs.Ytjoeeaagjcpdpaa
open Go.RowKit

/-- Each edge is a number, and above the one ahead of it. -/
def Ris (es : List Nat) : Prop := ∀ i x, es[i]? = some x → GaugeF.nanB x = false ∧ ∀ y, 0 < i → es[i - 1]? = some y → GaugeF.val y < GaugeF.val x
/-- So far. -/
def RisTo (es : List Nat) (k : Nat) : Prop := ∀ i x, i < k → es[i]? = some x → GaugeF.nanB x = false ∧ ∀ y, 0 < i → es[i - 1]? = some y → GaugeF.val y < GaugeF.val x
theorem ris_all {es : List Nat} {n : Nat} (hn : es.length = n) (h : RisTo es n) : Ris es := fun i x hi => h i x (by have := (List.getElem?_eq_some_iff.1 hi).1; omega) hi
theorem risTo_next {es : List Nat} {k x : Nat} (h : RisTo es k) (hx : es[k]? = some x) (h1 : GaugeF.nanB x = false) (h2 : ∀ y, 0 < k → es[k - 1]? = some y → GaugeF.val y < GaugeF.val x) : RisTo es (k + 1) := fun i y hi hy => by
  by_cases e : i = k
  · subst e
    rw [hx] at hy; cases hy
    exact ⟨h1, h2⟩
  · exact h i y (by omega) hy

set_option maxRecDepth 100000 in
set_option maxHeartbeats 400000 in
theorem rising_is (a : Option Addr) (c : Nat) (es : List Nat) (r : Bool) (w : World) (hl : FlAt w a es) (hsz : es.length ≤ 1000) (hr : r = true ↔ Ris es) :
    Calls Try.prog 34 #[.slice a es.length c] w fun e w' => e = .returned (.bool r) ∧ w = w' := by
  obtain ⟨n, hn⟩ : ∃ n, es.length = n := ⟨_, rfl⟩
  rw [hn] at hsz ⊢
  have HN := Lib.hid hn
  have HL := Lib.hid hl
  have HR := Lib.hid hr
  clear hn hl hr
  go_enter Try.func34, Try.ntmps34
  go_wp2
  go_loop [7] (fun i => ∃ (k : Nat), i = .int .i64 (k : Int) ∧ k ≤ n ∧ Hid (RisTo es k)) (fun i => (n - intOf i).toNat)
  case atStart => exact ⟨0, rfl, by omega, Lib.hid fun i x hi => by omega⟩
  case round =>
    obtain ⟨k, rfl, hk, R⟩ := hrel
    by_cases h : k < n
    · obtain ⟨x, hx⟩ : ∃ x, es[k]? = some x := ⟨_, List.getElem?_eq_getElem (by rw [HN.out]; exact h)⟩
      obtain ⟨hw, b, rfl, hc⟩ := HL.out k x hx
      have HX := Lib.hid hx
      cases hnan : GaugeF.nanB x
      · have H1 := Lib.hid hnan
        by_cases h0 : k = 0
        · subst h0
          have hc0 : w.cell? b = some (.float .f64 x) := hc
          clear hx hnan
          go_wp2_with fail
          ((with_reducible refine (isnan_is _ hw H1.out).mono ?_); skip)
          rintro e w1 ⟨rfl, rfl⟩
          go_wp2_with fail
          go_round
          case rel => exact ⟨1, by go_num, by omega, Lib.hid (risTo_next R.out HX.out H1.out fun y h3 _ => by omega)⟩
          case measure => simp [intOf]; omega
        · obtain ⟨q, hq⟩ : ∃ q, k - 1 = q := ⟨_, rfl⟩
          have ek : (k : Int) - 1 = (q : Int) := by omega
          have k0 : (0 : Int) < (k : Int) := by omega
          have HQ := Lib.hid hq
          clear hq
          obtain ⟨y, hy⟩ : ∃ y, es[q]? = some y := ⟨_, List.getElem?_eq_getElem (by rw [HN.out]; have := HQ.out; omega)⟩
          obtain ⟨hw2, b2, hb2, hc2⟩ := HL.out q y hy
          cases hb2
          have ny := (R.out q y (by have := HQ.out; omega) hy).1
          have hle := GaugeF.le_test hw hw2
          rw [hnan, ny] at hle
          have q0 : (0 : Int) ≤ (q : Int) := by omega
          have q1 : (q : Int) < (n : Int) := by have := HQ.out; omega
          have qw : IntKind.i64.wrap (q : Int) = (q : Int) := by rw [IntWalk.i64_in _ (by omega)]
          have HY := Lib.hid hy
          by_cases hv : GaugeF.val x ≤ GaugeF.val y
          · rw [decide_eq_true hv] at hle
            replace hle : (FloatKind.f64.format.order x y == some .lt || FloatKind.f64.format.order x y == some .eq) = true := hle
            obtain rfl : r = false := by
              cases r
              · rfl
              · have := ((HR.out.1 rfl) k x HX.out).2 y (by omega) (by rw [HQ.out]; exact HY.out)
                omega
            clear hx hnan ny hy hv
            go_wp2_with fail
            ((with_reducible refine (isnan_is _ hw H1.out).mono ?_); skip)
            rintro e w1 ⟨rfl, rfl⟩
            go_wp2_with fail
            go_ret
            exact ⟨rfl, rfl⟩
          · rw [decide_eq_false hv] at hle
            replace hle : (FloatKind.f64.format.order x y == some .lt || FloatKind.f64.format.order x y == some .eq) = false := hle
            have HV := Lib.hid hv
            clear hx hnan ny hy hv
            go_wp2_with fail
            ((with_reducible refine (isnan_is _ hw H1.out).mono ?_); skip)
            rintro e w1 ⟨rfl, rfl⟩
            go_wp2_with fail
            go_round
            case rel => exact ⟨k + 1, by go_num, by omega, Lib.hid (risTo_next R.out HX.out H1.out fun y' h3 hy' => by
              rw [HQ.out, HY.out] at hy'
              cases hy'
              have := HV.out
              omega)⟩
            case measure => simp [intOf]; omega
      · have H1 := Lib.hid hnan
        obtain rfl : r = false := by
          cases r
          · rfl
          · have := ((HR.out.1 rfl) k x HX.out).1
            rw [hnan] at this; cases this
        clear hx hnan
        by_cases h0 : k = 0
        · subst h0
          have hc0 : w.cell? b = some (.float .f64 x) := hc
          go_wp2_with fail
          ((with_reducible refine (isnan_is _ hw H1.out).mono ?_); skip)
          rintro e w1 ⟨rfl, rfl⟩
          go_wp2_with fail
          go_ret
          exact ⟨rfl, rfl⟩
        · go_wp2_with fail
          ((with_reducible refine (isnan_is _ hw H1.out).mono ?_); skip)
          rintro e w1 ⟨rfl, rfl⟩
          go_wp2_with fail
          go_ret
          exact ⟨rfl, rfl⟩
    · obtain rfl : k = n := by omega
      obtain rfl : r = true := HR.out.2 (ris_all HN.out R.out)
      go_wp2_with fail
      go_ret
      exact ⟨rfl, rfl⟩

/-- How many edges are not above x. -/
def atN (es : List Nat) (x : Nat) : Nat := (es.takeWhile fun e => decide (GaugeF.val e ≤ GaugeF.val x)).length
def IsAt (es : List Nat) (x k : Nat) : Prop := k ≤ es.length ∧ (∀ t y, t < k → es[t]? = some y → GaugeF.val y ≤ GaugeF.val x) ∧ ∀ y, es[k]? = some y → GaugeF.val x < GaugeF.val y
theorem atN_is : ∀ (es : List Nat) (x : Nat), IsAt es x (atN es x)
  | [], x => ⟨Nat.le_refl _, fun t y h => by simp [atN] at h, fun y h => by simp at h⟩
  | e :: es, x => by
    by_cases h : GaugeF.val e ≤ GaugeF.val x
    · have ha : atN (e :: es) x = atN es x + 1 := by unfold atN; rw [List.takeWhile_cons_of_pos (by simpa using h)]; rfl
      obtain ⟨h1, h2, h3⟩ := atN_is es x
      rw [ha]
      refine ⟨by simpa using h1, fun t y ht hy => ?_, fun y hy => h3 y (by simpa using hy)⟩
      cases t with
      | zero => simp at hy; subst hy; exact h
      | succ t => exact h2 t y (by omega) (by simpa using hy)
    · have ha : atN (e :: es) x = 0 := by unfold atN; rw [List.takeWhile_cons_of_neg (by simpa using h)]; rfl
      rw [ha]
      refine ⟨Nat.zero_le _, fun t y ht => by omega, fun y hy => ?_⟩
      simp at hy; subst hy; omega
theorem isAt_eq {es : List Nat} {x k : Nat} (h : IsAt es x k) : k = atN es x := by
  obtain ⟨g1, g2, g3⟩ := atN_is es x
  obtain ⟨h1, h2, h3⟩ := h
  rcases Nat.lt_trichotomy k (atN es x) with c | c | c
  · have hy := List.getElem?_eq_getElem (l := es) (i := k) (by omega)
    have := g2 k _ c hy
    have := h3 _ hy
    omega
  · exact c
  · have hy := List.getElem?_eq_getElem (l := es) (i := atN es x) (by omega)
    have := h2 _ _ c hy
    have := g3 _ hy
    omega
/-- Of rising edges the boundary alone is asked. -/
theorem isAt_of {es : List Nat} {x k : Nat} (hr : Ris es) (hk : k ≤ es.length) (h1 : ∀ y, 0 < k → es[k - 1]? = some y → GaugeF.val y ≤ GaugeF.val x) (h2 : ∀ y, es[k]? = some y → GaugeF.val x < GaugeF.val y) : IsAt es x k := by
  refine ⟨hk, ?_, h2⟩
  have mono : ∀ j i y z : Nat, i < j → es[i]? = some y → es[j]? = some z → GaugeF.val y < GaugeF.val z := by
    intro j
    induction j with
    | zero => intro i y z h; omega
    | succ j ih =>
      intro i y z hij hy hz
      have hj := List.getElem?_eq_getElem (l := es) (i := j) (by have := (List.getElem?_eq_some_iff.1 hz).1; omega)
      have h3 := (hr (j + 1) z hz).2 _ (by omega) (by rw [Nat.add_sub_cancel]; exact hj)
      by_cases e : i = j
      · subst e; rw [hy] at hj; cases hj; exact h3
      · exact Int.lt_trans (ih i y _ (by omega) hy hj) h3
  intro t y ht hy
  have hq := List.getElem?_eq_getElem (l := es) (i := k - 1) (by omega)
  have h3 := h1 _ (by omega) hq
  by_cases e : t = k - 1
  · subst e; rw [hy] at hq; cases hq; exact h3
  · have := mono (k - 1) t y _ (by omega) hy hq
    omega
end Go.Proofs.Ytjoeeaagjcpdpaa
