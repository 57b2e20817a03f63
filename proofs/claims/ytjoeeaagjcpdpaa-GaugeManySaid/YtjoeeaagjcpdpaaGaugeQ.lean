/- The contract of fingerpostref04.Bins. -/
import Derived.Test.YtjoeeaagjcpdpaaGaugeP
namespace Go.Proofs.Ytjoeeaagjcpdpaa
open Go.RowKit

theorem not_ris {es : List Nat} {k x y : Nat} (hx : es[k]? = some x) (h0 : 0 < k) (hy : es[k - 1]? = some y) (hv : ¬ GaugeF.val y < GaugeF.val x) : ¬ Ris es := fun h => hv ((h k x hx).2 y h0 hy)
theorem not_ris_nan {es : List Nat} {k x : Nat} (hx : es[k]? = some x) (hn : GaugeF.nanB x = true) : ¬ Ris es := fun h => by
  have := (h k x hx).1
  rw [hn] at this; cases this

set_option maxRecDepth 100000 in
set_option maxHeartbeats 2000000 in
theorem refbins_any (a a2 : Option Addr) (c c2 : Nat) (l es : List Nat) (w : World) (hl : FlAt w a l) (hl2 : FlAt w a2 es) (hsz : l.length ≤ 1000) (hsz2 : es.length ≤ 1000) :
    Calls Try.prog 22 #[.slice a l.length c, .slice a2 es.length c2] w (BinsTo l es w) := by
  obtain ⟨i0, hi, hz0, hz1, hz2⟩ := info_parts Try.info3
  obtain ⟨n, hn⟩ : ∃ n, l.length = n := ⟨_, rfl⟩
  obtain ⟨m, hm⟩ : ∃ m, es.length = m := ⟨_, rfl⟩
  rw [hn] at hsz ⊢
  rw [hm] at hsz2 ⊢
  obtain ⟨M, hM⟩ : ∃ M, m + 1 = M := ⟨_, rfl⟩
  have eM : (m : Int) + 1 = (M : Int) := by omega
  have M1 : M ≤ 1001 := by omega
  have M2 : m < M := by omega
  have HN := Lib.hid hn
  have HM := Lib.hid hm
  have HMM := Lib.hid hM
  have HL := Lib.hid hl
  have HL2 := Lib.hid hl2
  have hmk := run_make_row (P := Try.prog) 41 3 i0 (.int .i64 0) Try.underlying41 hi hz0 hz1 rfl .i64 .i64 M (by rw [hz2]; omega) (by omega)
  have HMK := Lib.hid hmk
  clear hn hm hM hl hl2 hmk
  go_enter Try.func22, Try.ntmps22
  go_wp2_with fail
  go_loop [13] (fun i => ∃ (k : Nat), i = .int .i64 (k : Int) ∧ k ≤ m ∧ Hid (RisTo es k)) (fun i => (m - intOf i).toNat)
  case atStart => exact ⟨0, rfl, by omega, Lib.hid fun i x hi => by omega⟩
  case round =>
    obtain ⟨k, rfl, hk, R⟩ := hrel
    by_cases h : k < m
    · obtain ⟨x, hx⟩ : ∃ x, es[k]? = some x := ⟨_, List.getElem?_eq_getElem (by rw [HM.out]; exact h)⟩
      obtain ⟨hw, b, rfl, hc⟩ := HL2.out k x hx
      have HX := Lib.hid hx
      cases hnan : GaugeF.nanB x
      · have H1 := Lib.hid hnan
        by_cases h0 : k = 0
        · subst h0
          have hc0 : w.cell? b = some (.float .f64 x) := hc
          clear hx hnan
          go_wp2_with fail
          ((with_reducible refine (isnan_is _ hw H1.out).mono ?_); skip)
          rintro e w1 ⟨rfl, rfl⟩
          go_wp2_with fail
          go_round
          case rel => exact ⟨1, by go_num, by omega, Lib.hid (risTo_next R.out HX.out H1.out fun y h3 _ => by omega)⟩
          case measure => simp [intOf]; omega
        · obtain ⟨q, hq⟩ : ∃ q, k - 1 = q := ⟨_, rfl⟩
          have ek : (k : Int) - 1 = (q : Int) := by omega
          have k0 : (0 : Int) < (k : Int) := by omega
          have HQ := Lib.hid hq
          clear hq
          obtain ⟨y, hy⟩ : ∃ y, es[q]? = some y := ⟨_, List.getElem?_eq_getElem (by rw [HM.out]; have := HQ.out; omega)⟩
          obtain ⟨hw2, b2, hb2, hc2⟩ := HL2.out q y hy
          cases hb2
          have ny := (R.out q y (by have := HQ.out; omega) hy).1
          have hlt := GaugeF.lt_test hw2 hw
          rw [hnan, ny] at hlt
          have q0 : (0 : Int) ≤ (q : Int) := by omega
          have q1 : (q : Int) < (m : Int) := by have := HQ.out; omega
          have qw : IntKind.i64.wrap (q : Int) = (q : Int) := by rw [IntWalk.i64_in _ (by omega)]
          have HY := Lib.hid hy
          by_cases hv : GaugeF.val y < GaugeF.val x
          · rw [decide_eq_true hv] at hlt
            replace hlt : (FloatKind.f64.format.order y x == some .lt) = true := hlt
            have HV := Lib.hid hv
            clear hx hnan ny hy hv
            go_wp2_with fail
            ((with_reducible refine (isnan_is _ hw H1.out).mono ?_); skip)
            rintro e w1 ⟨rfl, rfl⟩
            go_wp2_with fail
            go_round
            case rel => exact ⟨k + 1, by go_num, by omega, Lib.hid (risTo_next R.out HX.out H1.out fun y' h3 hy' => by
              rw [HQ.out, HY.out] at hy'
              cases hy'
              exact HV.out)⟩
            case measure => simp [intOf]; omega
          · rw [decide_eq_false hv] at hlt
            replace hlt : (FloatKind.f64.format.order y x == some .lt) = false := hlt
            have NR := Lib.hid (not_ris hx (by omega) (by rw [HQ.out]; exact hy) hv)
            clear hx hnan ny hy hv
            go_wp2_with fail
            ((with_reducible refine (isnan_is _ hw H1.out).mono ?_); skip)
            rintro e w1 ⟨rfl, rfl⟩
            go_wp2_with fail
            go_ret
            exact ⟨Below.refl _ _, .inl ⟨NR.out, rfl⟩⟩
      · have H1 := Lib.hid hnan
        have NR := Lib.hid (not_ris_nan hx hnan)
        clear hx hnan
        by_cases h0 : k = 0
        · subst h0
          have hc0 : w.cell? b = some (.float .f64 x) := hc
          go_wp2_with fail
          ((with_reducible refine (isnan_is _ hw H1.out).mono ?_); skip)
          rintro e w1 ⟨rfl, rfl⟩
          go_wp2_with fail
          go_ret
          exact ⟨Below.refl _ _, .inl ⟨NR.out, rfl⟩⟩
        · go_wp2_with fail
          ((with_reducible refine (isnan_is _ hw H1.out).mono ?_); skip)
          rintro e w1 ⟨rfl, rfl⟩
          go_wp2_with fail
          go_ret
          exact ⟨Below.refl _ _, .inl ⟨NR.out, rfl⟩⟩
    · obtain rfl : m = k := by omega
      have HR := Lib.hid (ris_all HM.out R.out)
      clear h hk
      have HO := Lib.hid (World.ownsRow_lit (base := w.heap.size) (e := 3) (size := 1) w (madeCells #[.int .i64 0] M) M (Nat.le_refl _) (by unfold maxLen; omega) (by rw [size_madeCells, Nat.mul_one]))
      have HB0 := Lib.hid ((Below.refl w.heap.size w).alloc (Nat.le_refl _) (.cells (madeCells #[.int .i64 0] M) 3))
      go_upto_region 8 with (simp only [HMK.out])
      generalize w.alloc (.cells (madeCells #[.int .i64 0] M) 3) = wm at HO HB0 ⊢
      obtain ⟨g, hg⟩ : ∃ g, w.heap.size = g := ⟨_, rfl⟩
      rw [hg] at HO HB0 ⊢
      have HG := Lib.hid hg
      clear hg
      go_wp2_with fail
      go_loopw [41] (fun v wr => ∃ (i : Nat) (L : List Nat), v = .int .i64 (i : Int) ∧ i ≤ n ∧ Hid (L = binsL (l.take i) es) ∧ Hid (wr.ownsRow g 3 1 (.slice (some ⟨g, 0, none⟩) M M) M (inV L)) ∧ Hid (Below g w wr))
        (fun v _ => (n - intOf v).toNat)
      case atStart =>
        refine ⟨0, binsL [] es, rfl, by omega, Lib.hid (by simp), Lib.hid ?_, HB0⟩
        have := HO.out
        rw [made_inV] at this
        rw [binsL_nil, HM.out, HMM.out]
        exact this
      case round =>
        clear HO HB0
        obtain ⟨k, L, rfl, hk, HLL, HOW, HBL⟩ := hrel
        by_cases h : k < n
        · obtain ⟨x, hx⟩ : ∃ x, l[k]? = some x := ⟨_, List.getElem?_eq_getElem (by rw [HN.out]; exact h)⟩
          have HBW : Hid (Below w.heap.size w wr) := Lib.hid (by rw [HG.out]; exact HBL.out)
          obtain ⟨hw, b, rfl, hc⟩ := flAt_later HL.out HBW.out k x hx
          have HF2 := Lib.hid (flAt_later HL2.out HBW.out)
          cases hnan : GaugeF.nanB x
          · have H1 := Lib.hid hnan
            have HX := Lib.hid hx
            clear hx hnan
            go_wp2_with fail
            ((with_reducible refine (isnan_is _ hw H1.out).mono ?_); skip)
            rintro e w1 ⟨rfl, rfl⟩
            go_wp2_with fail
            go_loop [10] (fun u => ∃ t : Nat, u = .int .i64 (t : Int) ∧ t ≤ m ∧ Hid (∀ t' y, t' < t → es[t']? = some y → GaugeF.val y ≤ GaugeF.val x)) (fun u => (m - intOf u).toNat)
            case atStart => exact ⟨0, rfl, by omega, Lib.hid fun t' y ht => by omega⟩
            case round =>
              obtain ⟨t, rfl, ht, K⟩ := hrel
              by_cases h2 : t < m
              · obtain ⟨y, hy⟩ : ∃ y, es[t]? = some y := ⟨_, List.getElem?_eq_getElem (by rw [HM.out]; exact h2)⟩
                obtain ⟨hyw, b2, rfl, hc2⟩ := HF2.out t y hy
                have hge := GaugeF.ge_test hw hyw
                rw [H1.out, (HR.out t y hy).1] at hge
                have HY := Lib.hid hy
                by_cases hv : GaugeF.val y ≤ GaugeF.val x
                · rw [decide_eq_true hv] at hge
                  replace hge : (FloatKind.f64.format.order x y == some .gt || FloatKind.f64.format.order x y == some .eq) = true := hge
                  have HV := Lib.hid hv
                  clear hv hy
                  go_wp2_with fail
                  go_round
                  case rel => exact ⟨t + 1, by go_num, by omega, Lib.hid fun t' y' ht' hy' => by
                    by_cases e : t' = t
                    · subst e
                      have e2 := HY.out
                      rw [hy'] at e2; cases e2
                      exact HV.out
                    · exact K.out t' y' (by omega) hy'⟩
                  case measure => simp [intOf]; omega
                · rw [decide_eq_false hv] at hge
                  replace hge : (FloatKind.f64.format.order x y == some .gt || FloatKind.f64.format.order x y == some .eq) = false := hge
                  have IA : Hid (IsAt es x t) := Lib.hid ⟨by rw [HM.out]; exact ht, K.out, fun y' hy' => by
                    rw [hy] at hy'; cases hy'; omega⟩
                  clear hv hy
                  have hta : t = atN es x := isAt_eq IA.out
                  have HS := Lib.hid (binsL_set (es := es) HX.out H1.out)
                  rw [← hta] at HS
                  obtain ⟨old, hold⟩ : ∃ old, binN (l.take k) es t = old := ⟨_, rfl⟩
                  have hol : old ≤ 1000 := by
                    have := binN_le (l.take k) es t
                    rw [List.length_take] at this
                    omega
                  rw [hold] at HS
                  have hcj : wr.cell? ⟨g, t, none⟩ = some (.int .i64 (old : Int)) := by
                    rw [HOW.out.cellAt t (by omega)]
                    refine inV_at ?_
                    rw [HLL.out, binsL_at _ _ t (by rw [HM.out]; omega), hold]
                  have hfj : wr.frozen? ⟨g, t, none⟩ = false := HOW.out.frozenAt t
                  have j0 : (0 : Int) ≤ (t : Int) := by omega
                  have j1 : (t : Int) < (M : Int) := by omega
                  clear hold hta
                  go_wp2_with fail
                  go_roundw
                  case rel =>
                    refine ⟨k + 1, L.set t (old + 1), by go_num, by omega, Lib.hid (by rw [HS.out, HLL.out]), Lib.hid ?_, Lib.hid (HBL.out.setCell (Nat.le_refl _) _)⟩
                    rw [← inV_set]
                    exact (HOW.out.stored t _).1
                  case measure => simp [intOf]; omega
              · have IA : Hid (IsAt es x t) := Lib.hid ⟨by rw [HM.out]; exact ht, K.out, fun y' hy' => by
                  have := (List.getElem?_eq_some_iff.1 hy').1
                  rw [HM.out] at this
                  exact absurd this h2⟩
                have hta : t = atN es x := isAt_eq IA.out
                have HS := Lib.hid (binsL_set (es := es) HX.out H1.out)
                rw [← hta] at HS
                obtain ⟨old, hold⟩ : ∃ old, binN (l.take k) es t = old := ⟨_, rfl⟩
                have hol : old ≤ 1000 := by
                  have := binN_le (l.take k) es t
                  rw [List.length_take] at this
                  omega
                rw [hold] at HS
                have hcj : wr.cell? ⟨g, t, none⟩ = some (.int .i64 (old : Int)) := by
                  rw [HOW.out.cellAt t (by omega)]
                  refine inV_at ?_
                  rw [HLL.out, binsL_at _ _ t (by rw [HM.out]; omega), hold]
                have hfj : wr.frozen? ⟨g, t, none⟩ = false := HOW.out.frozenAt t
                have j0 : (0 : Int) ≤ (t : Int) := by omega
                have j1 : (t : Int) < (M : Int) := by omega
                clear hold hta
                go_wp2_with fail
                go_roundw
                case rel =>
                  refine ⟨k + 1, L.set t (old + 1), by go_num, by omega, Lib.hid (by rw [HS.out, HLL.out]), Lib.hid ?_, Lib.hid (HBL.out.setCell (Nat.le_refl _) _)⟩
                  rw [← inV_set]
                  exact (HOW.out.stored t _).1
                case measure => simp [intOf]; omega
          · have H1 := Lib.hid hnan
            have HS := Lib.hid (binsL_nan (es := es) hx hnan)
            clear hx hnan
            go_wp2_with fail
            ((with_reducible refine (isnan_is _ hw H1.out).mono ?_); skip)
            rintro e w1 ⟨rfl, rfl⟩
            go_wp2_with fail
            go_roundw
            case rel => exact ⟨k + 1, L, by go_num, by omega, Lib.hid (by rw [HS.out]; exact HLL.out), HOW, HBL⟩
            case measure => simp [intOf]; omega
        · obtain rfl : n = k := by omega
          go_wp2_with fail
          go_ret
          refine ⟨by rw [HG.out]; exact HBL.out, .inr ⟨HR.out, _, rfl, ?_⟩⟩
          have hl2 : L = binsL l es := by rw [HLL.out, ← HN.out, List.take_length]
          rw [← hl2, HM.out, HMM.out, HG.out]
          exact HOW.out
end Go.Proofs.Ytjoeeaagjcpdpaa
