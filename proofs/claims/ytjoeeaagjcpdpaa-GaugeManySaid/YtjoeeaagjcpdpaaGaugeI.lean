/- The contracts of fingerpostref04.Fine and Order, and of gauge.Sorted. -/
import Derived.Test.YtjoeeaagjcpdpaaSortE
namespace Go.Proofs.Ytjoeeaagjcpdpaa
open Go.RowKit

theorem reffine_any (b : Nat) (w : World) (hb : b < 18446744073709551616) :
    Calls Try.prog 33 #[.float .f64 b] w fun e w' => e = .returned (.bool (GaugeF.fineB b)) ∧ w = w' := by
  cases h : GaugeF.fineB b
  · rcases GaugeF.not_fine hb h with h1 | ⟨h1, h2⟩ | ⟨h1, h2, h3⟩
    · clear h
      go_enter Try.func33, Try.ntmps33
      go_wp2
      go_ret
      exact ⟨rfl, rfl⟩
    · clear h
      go_enter Try.func33, Try.ntmps33
      go_wp2
      go_ret
      exact ⟨rfl, rfl⟩
    · have H3 := Lib.hid h3
      clear h h3
      go_enter Try.func33, Try.ntmps33
      go_wp2_with fail
      refine (signbit_is _ hb H3.out).mono ?_
      rintro e w1 ⟨rfl, rfl⟩
      go_wp2_with fail
      go_ret
      exact ⟨rfl, rfl⟩
  · have h1 := GaugeF.fine_ge h
    have h2 := GaugeF.fine_le h
    have H3 := Lib.hid (GaugeF.fine_neg h)
    clear h
    go_enter Try.func33, Try.ntmps33
    go_wp2_with fail
    refine (signbit_is _ hb H3.out).mono ?_
    rintro e w1 ⟨rfl, rfl⟩
    go_wp2_with fail
    go_ret
    exact ⟨rfl, rfl⟩
theorem reffine_is {b : Nat} {v : Bool} (w : World) (hb : b < 18446744073709551616) (h : GaugeF.fineB b = v) :
    Calls Try.prog 33 #[.float .f64 b] w fun e w' => e = .returned (.bool v) ∧ w = w' := by rw [← h]; exact reffine_any b w hb

theorem ordV_ahead (a b : Nat) : GaugeF.ordV a b = if GaugeF.aheadB a b = true then -1 else if GaugeF.aheadB b a = true then 1 else 0 := by
  unfold GaugeF.ordV GaugeF.aheadB; simp only [decide_eq_true_eq]

set_option maxHeartbeats 1000000 in
theorem reforder_any (a b : Nat) (w : World) (ha : a < 18446744073709551616) (hb : b < 18446744073709551616) :
    Calls Try.prog 31 #[.float .f64 a, .float .f64 b] w fun e w' => e = .returned (.int .i64 (GaugeF.ordV a b)) ∧ w = w' := by
  obtain ⟨v, hv⟩ : ∃ v, GaugeF.ordV a b = v := ⟨_, rfl⟩
  rw [hv]
  cases h1 : GaugeF.nanB a
  · have H1 := Lib.hid h1
    cases h2 : GaugeF.nanB b
    · have H2 := Lib.hid h2
      have q1 := GaugeF.lt_test ha hb
      have q2 := GaugeF.eq_test ha hb
      have q3 := GaugeF.gt_test ha hb
      rw [h1, h2] at q1 q2 q3
      have A1 := GaugeF.ahead_eq a b
      have A2 := GaugeF.ahead_eq b a
      rw [h1, h2, if_neg (by decide), if_neg (by decide)] at A1 A2
      replace q1 : (FloatKind.f64.format.order a b == some .lt) = decide (GaugeF.val a < GaugeF.val b) := q1
      replace q2 : (FloatKind.f64.format.order a b == some .eq) = decide (GaugeF.val a = GaugeF.val b) := q2
      replace q3 : (FloatKind.f64.format.order a b == some .gt) = decide (GaugeF.val b < GaugeF.val a) := q3
      rcases Int.lt_trichotomy (GaugeF.val a) (GaugeF.val b) with c | c | c
      · rw [decide_eq_true c] at q1
        obtain rfl : -1 = v := by rw [← hv, ordV_ahead, A1, if_neg (show ¬ GaugeF.val a = GaugeF.val b by omega), decide_eq_true c, if_pos rfl]
        clear A1 A2 hv h1 h2 q2 q3 c
        go_enter Try.func31, Try.ntmps31
        go_wp2_with fail
        refine (isnan_is _ ha H1.out).mono ?_
        rintro e w1 ⟨rfl, rfl⟩
        go_wp2_with fail
        refine (isnan_is _ ha H1.out).mono ?_
        rintro e w1 ⟨rfl, rfl⟩
        go_wp2_with fail
        refine (isnan_is _ hb H2.out).mono ?_
        rintro e w1 ⟨rfl, rfl⟩
        go_wp2_with fail
        go_ret
        exact ⟨rfl, rfl⟩
      · rw [decide_eq_false (by omega)] at q1
        rw [decide_eq_true c] at q2
        rw [decide_eq_false (by omega)] at q3
        rw [if_pos c] at A1
        rw [if_pos c.symm] at A2
        have E := ordV_ahead a b
        rw [hv, A1, A2] at E
        clear A1 A2
        cases h3 : GaugeF.negB a <;> cases h4 : GaugeF.negB b <;> rw [h3, h4] at E <;> have H3 := Lib.hid h3 <;> have H4 := Lib.hid h4 <;> clear hv h1 h2 c h3 h4
        · obtain rfl : v = 0 := E
          go_enter Try.func31, Try.ntmps31
          go_wp2_with fail
          refine (isnan_is _ ha H1.out).mono ?_
          rintro e w1 ⟨rfl, rfl⟩
          go_wp2_with fail
          refine (isnan_is _ ha H1.out).mono ?_
          rintro e w1 ⟨rfl, rfl⟩
          go_wp2_with fail
          refine (isnan_is _ hb H2.out).mono ?_
          rintro e w1 ⟨rfl, rfl⟩
          go_wp2_with fail
          refine (signbit_is _ ha H3.out).mono ?_
          rintro e w1 ⟨rfl, rfl⟩
          go_wp2_with fail
          refine (signbit_is _ ha H3.out).mono ?_
          rintro e w1 ⟨rfl, rfl⟩
          go_wp2_with fail
          refine (signbit_is _ hb H4.out).mono ?_
          rintro e w1 ⟨rfl, rfl⟩
          go_wp2_with fail
          go_ret
          exact ⟨rfl, rfl⟩
        · obtain rfl : v = 1 := E
          go_enter Try.func31, Try.ntmps31
          go_wp2_with fail
          refine (isnan_is _ ha H1.out).mono ?_
          rintro e w1 ⟨rfl, rfl⟩
          go_wp2_with fail
          refine (isnan_is _ ha H1.out).mono ?_
          rintro e w1 ⟨rfl, rfl⟩
          go_wp2_with fail
          refine (isnan_is _ hb H2.out).mono ?_
          rintro e w1 ⟨rfl, rfl⟩
          go_wp2_with fail
          refine (signbit_is _ ha H3.out).mono ?_
          rintro e w1 ⟨rfl, rfl⟩
          go_wp2_with fail
          refine (signbit_is _ ha H3.out).mono ?_
          rintro e w1 ⟨rfl, rfl⟩
          go_wp2_with fail
          refine (signbit_is _ hb H4.out).mono ?_
          rintro e w1 ⟨rfl, rfl⟩
          go_wp2_with fail
          go_ret
          exact ⟨rfl, rfl⟩
        · obtain rfl : v = -1 := E
          go_enter Try.func31, Try.ntmps31
          go_wp2_with fail
          refine (isnan_is _ ha H1.out).mono ?_
          rintro e w1 ⟨rfl, rfl⟩
          go_wp2_with fail
          refine (isnan_is _ ha H1.out).mono ?_
          rintro e w1 ⟨rfl, rfl⟩
          go_wp2_with fail
          refine (isnan_is _ hb H2.out).mono ?_
          rintro e w1 ⟨rfl, rfl⟩
          go_wp2_with fail
          refine (signbit_is _ ha H3.out).mono ?_
          rintro e w1 ⟨rfl, rfl⟩
          go_wp2_with fail
          refine (signbit_is _ hb H4.out).mono ?_
          rintro e w1 ⟨rfl, rfl⟩
          go_wp2_with fail
          go_ret
          exact ⟨rfl, rfl⟩
        · obtain rfl : v = 0 := E
          go_enter Try.func31, Try.ntmps31
          go_wp2_with fail
          refine (isnan_is _ ha H1.out).mono ?_
          rintro e w1 ⟨rfl, rfl⟩
          go_wp2_with fail
          refine (isnan_is _ ha H1.out).mono ?_
          rintro e w1 ⟨rfl, rfl⟩
          go_wp2_with fail
          refine (isnan_is _ hb H2.out).mono ?_
          rintro e w1 ⟨rfl, rfl⟩
          go_wp2_with fail
          refine (signbit_is _ ha H3.out).mono ?_
          rintro e w1 ⟨rfl, rfl⟩
          go_wp2_with fail
          refine (signbit_is _ hb H4.out).mono ?_
          rintro e w1 ⟨rfl, rfl⟩
          go_wp2_with fail
          refine (signbit_is _ ha H3.out).mono ?_
          rintro e w1 ⟨rfl, rfl⟩
          go_wp2_with fail
          go_ret
          exact ⟨rfl, rfl⟩
      · rw [decide_eq_false (by omega)] at q1
        rw [decide_eq_false (by omega)] at q2
        rw [decide_eq_true c] at q3
        obtain rfl : 1 = v := by rw [← hv, ordV_ahead, A1, A2, if_neg (show ¬ GaugeF.val a = GaugeF.val b by omega), decide_eq_false (by omega), if_neg (show ¬ GaugeF.val b = GaugeF.val a by omega), decide_eq_true c, if_neg (by decide), if_pos rfl]
        clear A1 A2 hv h1 h2 c
        go_enter Try.func31, Try.ntmps31
        go_wp2_with fail
        refine (isnan_is _ ha H1.out).mono ?_
        rintro e w1 ⟨rfl, rfl⟩
        go_wp2_with fail
        refine (isnan_is _ ha H1.out).mono ?_
        rintro e w1 ⟨rfl, rfl⟩
        go_wp2_with fail
        refine (isnan_is _ hb H2.out).mono ?_
        rintro e w1 ⟨rfl, rfl⟩
        go_wp2_with fail
        go_ret
        exact ⟨rfl, rfl⟩
    · have H2 := Lib.hid h2
      obtain rfl : -1 = v := by rw [← hv, ordV_ahead, GaugeF.ahead_eq, GaugeF.ahead_eq, h1, h2]; rfl
      clear hv h1 h2
      go_enter Try.func31, Try.ntmps31
      go_wp2_with fail
      refine (isnan_is _ ha H1.out).mono ?_
      rintro e w1 ⟨rfl, rfl⟩
      go_wp2_with fail
      refine (isnan_is _ ha H1.out).mono ?_
      rintro e w1 ⟨rfl, rfl⟩
      go_wp2_with fail
      refine (isnan_is _ hb H2.out).mono ?_
      rintro e w1 ⟨rfl, rfl⟩
      go_wp2_with fail
      go_ret
      exact ⟨rfl, rfl⟩
  · have H1 := Lib.hid h1
    cases h2 : GaugeF.nanB b
    · have H2 := Lib.hid h2
      obtain rfl : 1 = v := by rw [← hv, ordV_ahead, GaugeF.ahead_eq, GaugeF.ahead_eq, h1, h2]; rfl
      clear hv h1 h2
      go_enter Try.func31, Try.ntmps31
      go_wp2_with fail
      refine (isnan_is _ ha H1.out).mono ?_
      rintro e w1 ⟨rfl, rfl⟩
      go_wp2_with fail
      refine (isnan_is _ hb H2.out).mono ?_
      rintro e w1 ⟨rfl, rfl⟩
      go_wp2_with fail
      refine (isnan_is _ ha H1.out).mono ?_
      rintro e w1 ⟨rfl, rfl⟩
      go_wp2_with fail
      go_ret
      exact ⟨rfl, rfl⟩
    · have H2 := Lib.hid h2
      obtain rfl : 0 = v := by rw [← hv, ordV_ahead, GaugeF.ahead_eq, GaugeF.ahead_eq, h1, h2]; rfl
      clear hv h1 h2
      go_enter Try.func31, Try.ntmps31
      go_wp2_with fail
      refine (isnan_is _ ha H1.out).mono ?_
      rintro e w1 ⟨rfl, rfl⟩
      go_wp2_with fail
      refine (isnan_is _ hb H2.out).mono ?_
      rintro e w1 ⟨rfl, rfl⟩
      go_wp2_with fail
      go_ret
      exact ⟨rfl, rfl⟩
theorem reforder_is {a b : Nat} {v : Int} (w : World) (ha : a < 18446744073709551616) (hb : b < 18446744073709551616) (h : GaugeF.ordV a b = v) :
    Calls Try.prog 31 #[.float .f64 a, .float .f64 b] w fun e w' => e = .returned (.int .i64 v) ∧ w = w' := by rw [← h]; exact reforder_any a b w ha hb
end Go.Proofs.Ytjoeeaagjcpdpaa
