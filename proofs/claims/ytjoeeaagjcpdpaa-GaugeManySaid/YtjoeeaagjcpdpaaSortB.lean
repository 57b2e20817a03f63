/- Sorting in place, part B: slices.rotateCmpFunc. -/
import Derived.Test.YtjoeeaagjcpdpaaSortA
namespace Go.Proofs.Ytjoeeaagjcpdpaa
open Go.RowKit

/-- [a, m) and [m, b) exchanged. -/
def roF (f : Nat → Nat) (a m b k : Nat) : Nat := if a ≤ k ∧ k < a + (b - m) then f (m + (k - a)) else if a + (b - m) ≤ k ∧ k < b then f (a + (k - a - (b - m))) else f k

theorem ro_more (f : Nat → Nat) (m i j : Nat) (h : j < i) (hm : i ≤ m) (k : Nat) : roF (swF f (m - i) m j) (m - (i - j)) m (m + j) k = roF f (m - i) m (m + j) k := by
  unfold roF swF
  (repeat' split) <;> first | (exfalso; omega) | exact congrArg f (by omega)
theorem ro_less (f : Nat → Nat) (m i j : Nat) (h : i < j) (hm : i ≤ m) (k : Nat) : roF (swF f (m - i) (m + j - i) i) (m - i) m (m + (j - i)) k = roF f (m - i) m (m + j) k := by
  unfold roF swF
  (repeat' split) <;> first | (exfalso; omega) | exact congrArg f (by omega)
theorem ro_same (f : Nat → Nat) (m i : Nat) (hm : i ≤ m) (k : Nat) : swF f (m - i) m i k = roF f (m - i) m (m + i) k := by
  unfold roF swF
  (repeat' split) <;> first | (exfalso; omega) | exact congrArg f (by omega)
theorem ro_congr {f f' : Nat → Nat} (h : ∀ k, f k = f' k) (a m b k : Nat) : roF f a m b k = roF f' a m b k := by
  unfold roF; simp only [h]

theorem swaprange_at {m : Nat} (B g c x y n : Nat) (dk : Array Nat) (fv : Value) (w : World) (h : OwnA w B g c dk) (h1 : dk.size = m) (h2 : x + n ≤ y) (h3 : y + n ≤ m) (h4 : m ≤ 1000) :
    Calls Try.prog 44 #[.slice (some ⟨g, 0, none⟩) m c, .int .i64 (x : Int), .int .i64 (y : Int), .int .i64 (n : Int), fv] w
      (Turns B g c (fun d' => d'.size = m ∧ (∀ x' y', x' ≤ x → y + n ≤ y' → y' ≤ m → Sort.PermIn x' y' dk d') ∧ ∀ k, fn d' k = swF (fn dk) x y n k) w) := by
  subst h1; exact swaprange_any B g c x y n dk fv w h h2 h3 h4

set_option maxRecDepth 100000 in
set_option maxHeartbeats 400000 in
theorem rotate_any (B g c a s b : Nat) (d : Array Nat) (fv : Value) (w : World) (h : OwnA w B g c d) (has : a < s) (hsb : s < b) (hb : b ≤ d.size) (hsz : d.size ≤ 1000) :
    Calls Try.prog 43 #[.slice (some ⟨g, 0, none⟩) d.size c, .int .i64 (a : Int), .int .i64 (s : Int), .int .i64 (b : Int), fv] w
      (Turns B g c (fun d' => Sort.PermIn a b d d' ∧ ∀ k, fn d' k = roF (fn d) a s b k) w) := by
  have H := Lib.hid h
  clear h
  obtain ⟨m, hm⟩ : ∃ m, d.size = m := ⟨_, rfl⟩
  rw [hm] at hb hsz ⊢
  have HM := Lib.hid hm
  clear hm
  go_enter Try.func43, Try.ntmps43
  go_wp2
  go_loopw [10, 11] (fun u v wr => ∃ (i j : Nat) (dk : Array Nat), u = .int .i64 (i : Int) ∧ v = .int .i64 (j : Int) ∧ 0 < i ∧ 0 < j ∧ i ≤ s - a ∧ j ≤ b - s ∧ Hid (dk.size = m) ∧ Hid (Sort.PermIn a b d dk) ∧ Hid (∀ k, roF (fn dk) (s - i) s (s + j) k = roF (fn d) a s b k) ∧ Hid (OwnA wr B g c dk) ∧ Hid (Below B w wr))
    (fun u v _ => (intOf u + intOf v).toNat)
  case atStart =>
    refine ⟨s - a, b - s, d, by rw [Int.ofNat_sub (by omega)], by rw [Int.ofNat_sub (by omega)], by omega, by omega, by omega, by omega, HM, Lib.hid (Sort.permIn_refl _ _ _), Lib.hid fun k => ?_, H, Lib.hid (Below.refl _ _)⟩
    rw [show s - (s - a) = a by omega, show s + (b - s) = b by omega]
  case round =>
    obtain ⟨i, j, dk, rfl, rfl, hi0, hj0, hi, hj, hs, hp, hf, hO, hbl⟩ := hrel
    have e1 : IntKind.i64.wrap ((s : Int) - (i : Int)) = ((s - i : Nat) : Int) := by rw [IntWalk.i64_in _ (by omega)]; omega
    rcases Nat.lt_trichotomy i j with h | h | h
    · have hne : ((i : Int) != (j : Int)) = true := by simp; omega
      have e2 : (s : Int) + (j : Int) - (i : Int) = ((s + j - i : Nat) : Int) := by omega
      have e3 : IntKind.i64.wrap ((j : Int) - (i : Int)) = ((j - i : Nat) : Int) := by rw [IntWalk.i64_in _ (by omega)]; omega
      have hgt : decide ((j : Int) < (i : Int)) = false := decide_eq_false (by omega)
      go_wp2_with fail
      refine (swaprange_at B g c (s - i) (s + j - i) i dk fv _ hO.out hs.out (by omega) (by omega) hsz).mono ?_
      rintro e w1 ⟨d1, rfl, ⟨hs1, hp1, hf1⟩, hO1, hb1⟩
      have HS1 := Lib.hid hs1
      have HP1 := Lib.hid hp1
      have HF1 := Lib.hid hf1
      have HO1 := Lib.hid hO1
      have HB1 := Lib.hid (hbl.out.trans hb1)
      clear hs1 hp1 hf1 hO1 hb1
      go_wp2_with fail
      go_roundw
      case rel =>
        refine ⟨i, j - i, d1, rfl, by first | rfl | omega, hi0, by omega, hi, by omega, HS1, Lib.hid (Sort.permIn_trans _ _ _ _ _ hp.out (HP1.out a b (by omega) (by omega) hb)), Lib.hid fun k => ?_, HO1, HB1⟩
        rw [ro_congr HF1.out, ro_less (fn dk) s i j h (by omega), hf.out]
      case measure => simp [intOf]; omega
    · subst h
      have hne : ((i : Int) != (i : Int)) = false := by simp
      go_wp2_with fail
      refine (swaprange_at B g c (s - i) s i dk fv _ hO.out hs.out (by omega) (by omega) hsz).mono ?_
      rintro e w1 ⟨d1, rfl, ⟨hs1, hp1, hf1⟩, hO1, hb1⟩
      go_wp2_with fail
      go_end0
      refine ⟨d1, rfl, ⟨Sort.permIn_trans _ _ _ _ _ hp.out (hp1 a b (by omega) (by omega) hb), fun k => ?_⟩, hO1, hbl.out.trans hb1⟩
      rw [hf1, ro_same (fn dk) s i (by omega), hf.out]
    · have hne : ((i : Int) != (j : Int)) = true := by simp; omega
      have e3 : IntKind.i64.wrap ((i : Int) - (j : Int)) = ((i - j : Nat) : Int) := by rw [IntWalk.i64_in _ (by omega)]; omega
      have hgt : decide ((j : Int) < (i : Int)) = true := decide_eq_true (by omega)
      go_wp2_with fail
      refine (swaprange_at B g c (s - i) s j dk fv _ hO.out hs.out (by omega) (by omega) hsz).mono ?_
      rintro e w1 ⟨d1, rfl, ⟨hs1, hp1, hf1⟩, hO1, hb1⟩
      have HS1 := Lib.hid hs1
      have HP1 := Lib.hid hp1
      have HF1 := Lib.hid hf1
      have HO1 := Lib.hid hO1
      have HB1 := Lib.hid (hbl.out.trans hb1)
      clear hs1 hp1 hf1 hO1 hb1
      go_wp2_with fail
      go_roundw
      case rel =>
        refine ⟨i - j, j, d1, by first | rfl | omega, rfl, by omega, hj0, by omega, hj, HS1, Lib.hid (Sort.permIn_trans _ _ _ _ _ hp.out (HP1.out a b (by omega) (by omega) hb)), Lib.hid fun k => ?_, HO1, HB1⟩
        rw [ro_congr HF1.out, ro_more (fn dk) s i j h (by omega), hf.out]
      case measure => simp [intOf]; omega
end Go.Proofs.Ytjoeeaagjcpdpaa
