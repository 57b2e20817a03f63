/- Sorting in place, part E: slices.stableCmpFunc and slices.SortStableFunc at floats by gauge.Order. -/
import Derived.Test.YtjoeeaagjcpdpaaSortD
namespace Go.Proofs.Ytjoeeaagjcpdpaa
open Go.RowKit

theorem sym_all (B g c m : Nat) (hsz : m ≤ 1000) : ∀ N, SymOK B g c m N
  | 0 => fun a s b d w _ _ has hsb _ hN _ _ => by exfalso; omega
  | N + 1 => fun a s b d w h hm has hsb hb hN s1 s2 => by
    by_cases e1 : s = a + 1
    · subst e1 hm
      exact sym_one B g c a b d w h (by omega) hb hsz s2
    · by_cases e2 : b = s + 1
      · subst e2 hm
        exact sym_last B g c a s d w h (by omega) hb hsz s1
      · exact sym_mid B g c m N a s b hsz (sym_all B g c m hsz N) d w h hm (by omega) (by omega) hb hN s1 s2

def Blk (f : Nat → Nat) (n z : Nat) : Prop := ∀ t, Srt f (t * z) (min (t * z + z) n)
def Half (f : Nat → Nat) (n z k : Nat) : Prop := (∀ t, t < k → Srt f (t * (2 * z)) (t * (2 * z) + 2 * z)) ∧ ∀ t, 2 * k ≤ t → Srt f (t * z) (min (t * z + z) n)
theorem srt_same {f f' : Nat → Nat} {x y a b : Nat} (h : Srt f x y) (e : ∀ k, k < a ∨ b ≤ k → f' k = f k) (hd : y ≤ a ∨ b ≤ x) : Srt f' x y := fun i j h1 h2 h3 => by
  rw [e i (by omega), e j (by omega)]; exact h i j h1 h2 h3
theorem half_start {f : Nat → Nat} {n z : Nat} (h : Blk f n z) : Half f n z 0 := ⟨fun t ht => by omega, fun t _ => h t⟩
theorem two_mul' (k z : Nat) : (2 * k) * z = k * (2 * z) := by rw [Nat.mul_comm 2 k, Nat.mul_assoc]
theorem half_parts {f : Nat → Nat} {n z k a : Nat} (h : Half f n z k) (ha : a = k * (2 * z)) : Srt f a (min (a + z) n) ∧ Srt f (a + z) (min (a + 2 * z) n) := by
  have h1 := h.2 (2 * k) (by omega)
  have h2 := h.2 (2 * k + 1) (by omega)
  rw [Nat.succ_mul] at h2
  rw [two_mul', ← ha] at h1 h2
  rw [show a + 2 * z = a + z + z by omega]
  exact ⟨h1, h2⟩
theorem half_step {f f' : Nat → Nat} {n z k a : Nat} (h : Half f n z k) (ha : a = k * (2 * z)) (e : ∀ x, x < a ∨ a + 2 * z ≤ x → f' x = f x) (hs : Srt f' a (a + 2 * z)) : Half f' n z (k + 1) := by
  refine ⟨fun t ht => ?_, fun t ht => ?_⟩
  · by_cases c : t = k
    · subst c; rw [← ha]; exact hs
    · have h1 := h.1 t (by omega)
      have h2 : (t + 1) * (2 * z) ≤ k * (2 * z) := Nat.mul_le_mul_right _ (by omega)
      rw [Nat.succ_mul] at h2
      exact srt_same h1 e (.inl (by omega))
  · have h1 := h.2 t (by omega)
    have h2 : (2 * k + 2) * z ≤ t * z := Nat.mul_le_mul_right _ (by omega)
    rw [Nat.succ_mul, Nat.succ_mul, two_mul', ← ha] at h2
    exact srt_same h1 e (.inr (by omega))
theorem half_end {f f' : Nat → Nat} {n z k a : Nat} (h : Half f n z k) (ha : a = k * (2 * z)) (han : a ≤ n) (hn : n < a + 2 * z) (e : ∀ x, x < a ∨ n ≤ x → f' x = f x) (hs : Srt f' a n) : Blk f' n (2 * z) := by
  intro t
  rcases Nat.lt_trichotomy t k with c | c | c
  · have h1 := h.1 t c
    have h2 : (t + 1) * (2 * z) ≤ k * (2 * z) := Nat.mul_le_mul_right _ (by omega)
    rw [Nat.succ_mul] at h2
    have := srt_same (x := t * (2 * z)) (y := t * (2 * z) + 2 * z) h1 e (.inl (by omega))
    exact fun i j g1 g2 g3 => this i j g1 g2 (by omega)
  · subst c
    rw [← ha]
    exact fun i j g1 g2 g3 => hs i j g1 g2 (by omega)
  · have h2 : (k + 1) * (2 * z) ≤ t * (2 * z) := Nat.mul_le_mul_right _ (by omega)
    rw [Nat.succ_mul, ← ha] at h2
    exact fun i j g1 g2 g3 => by exfalso; omega
theorem blk_end {f f' : Nat → Nat} {n k a : Nat} (h : ∀ t, t < k → Srt f (t * 20) (t * 20 + 20)) (ha : a = k * 20) (han : a ≤ n) (hn : n < a + 20) (e : ∀ x, x < a ∨ n ≤ x → f' x = f x) (hs : Srt f' a n) : Blk f' n 20 := by
  intro t
  rcases Nat.lt_trichotomy t k with c | c | c
  · have := srt_same (h t c) e (.inl (by omega))
    exact fun i j g1 g2 g3 => this i j g1 g2 (by omega)
  · subst c
    rw [← ha]
    exact fun i j g1 g2 g3 => hs i j g1 g2 (by omega)
  · exact fun i j g1 g2 g3 => by exfalso; omega

theorem insertion_at {m : Nat} (B g c a b : Nat) (d : Array Nat) (w : World) (h : OwnA w B g c d) (hm : d.size = m) (hab : a ≤ b) (hb : b ≤ m) (hsz : m ≤ 1000) :
    Calls Try.prog 41 #[.slice (some ⟨g, 0, none⟩) m c, .int .i64 (a : Int), .int .i64 (b : Int), .func (.func 7) #[] #[]] w
      (Turns B g c (fun d' => Sort.PermIn a b d d' ∧ Srt (fn d') a b) w) := by
  subst hm
  exact (insertion_any B g c a b d w h hab hb hsz).mono fun e w' ⟨d', h1, ⟨h2, h3⟩, h4⟩ => ⟨d', h1, ⟨h2, srt_of h3⟩, h4⟩
theorem sym_at {m : Nat} (B g c a s b : Nat) (d : Array Nat) (w : World) (h : OwnA w B g c d) (hm : d.size = m) (has : a < s) (hsb : s < b) (hb : b ≤ m) (hsz : m ≤ 1000) (s1 : Srt (fn d) a s) (s2 : Srt (fn d) s b) :
    Calls Try.prog 42 #[.slice (some ⟨g, 0, none⟩) m c, .int .i64 (a : Int), .int .i64 (s : Int), .int .i64 (b : Int), .func (.func 7) #[] #[]] w
      (Turns B g c (fun d' => Sort.PermIn a b d d' ∧ Srt (fn d') a b) w) :=
  sym_all B g c m hsz (b - a) a s b d w h hm has hsb hb (Nat.le_refl _) s1 s2
theorem perm_out {d d' : Array Nat} {a b : Nat} (h : Sort.PermIn a b d d') (k : Nat) (hk : k < a ∨ b ≤ k) : fn d' k = fn d k := h.2.1 k hk

set_option maxRecDepth 100000 in
set_option maxHeartbeats 1000000 in
theorem stable_any (B g c : Nat) (d : Array Nat) (w : World) (h : OwnA w B g c d) (hsz : d.size ≤ 1000) :
    Calls Try.prog 38 #[.slice (some ⟨g, 0, none⟩) d.size c, .int .i64 (d.size : Int), .func (.func 7) #[] #[]] w
      (Turns B g c (fun d' => Sort.PermIn 0 d.size d d' ∧ Srt (fn d') 0 d.size) w) := by
  have H := Lib.hid h
  clear h
  obtain ⟨m, hm⟩ : ∃ m, d.size = m := ⟨_, rfl⟩
  rw [hm] at hsz ⊢
  have HM := Lib.hid hm
  clear hm
  go_enter Try.func38, Try.ntmps38
  go_wp2_with fail
  go_loopw [7, 8] (fun u v wr => ∃ (k : Nat) (dk : Array Nat) (a b : Nat), u = .int .i64 (a : Int) ∧ v = .int .i64 (b : Int) ∧ Hid (a = k * 20) ∧ a + 20 ≤ b ∧ b ≤ a + 20 ∧ a ≤ m ∧ Hid (dk.size = m) ∧ Hid (Sort.PermIn 0 m d dk) ∧ Hid (∀ t, t < k → Srt (fn dk) (t * 20) (t * 20 + 20)) ∧ Hid (OwnA wr B g c dk) ∧ Hid (Below B w wr))
    (fun u _ _ => (m - intOf u).toNat)
  case atStart => exact ⟨0, d, 0, 20, rfl, rfl, Lib.hid rfl, by omega, by omega, by omega, HM, Lib.hid (Sort.permIn_refl _ _ _), Lib.hid fun t ht => by omega, H, Lib.hid (Below.refl _ _)⟩
  case round =>
    obtain ⟨k, dk, a, b, rfl, rfl, ha, hb1, hb2, ham, hs, hp, hf, hO, hbl⟩ := hrel
    by_cases hlt : b ≤ m
    · go_wp2_with fail
      ((with_reducible refine (insertion_at B g c a b dk _ hO.out hs.out (by omega) hlt hsz).mono ?_); skip)
      rintro e w1 ⟨d1, rfl, ⟨p1, f1⟩, o1, b1⟩
      have HS1 := Lib.hid (p1.1.trans hs.out)
      have HP1 := Lib.hid (Sort.permIn_trans _ _ _ _ _ hp.out (Sort.permIn_mono _ _ _ _ _ _ (by omega) hlt (by rw [hs.out]; exact Nat.le_refl _) p1))
      have HF1 : Hid (∀ t, t < k + 1 → Srt (fn d1) (t * 20) (t * 20 + 20)) := Lib.hid fun t ht => by
        have ha := ha.out
        by_cases cc : t = k
        · subst cc
          rw [← ha, show a + 20 = b by omega]; exact f1
        · exact srt_same (hf.out t (by omega)) (perm_out p1) (.inl (by omega))
      have HO1 := Lib.hid o1
      have HB1 := Lib.hid (hbl.out.trans b1)
      clear p1 f1 o1 b1
      go_wp2_with fail
      go_roundw
      case rel => exact ⟨k + 1, d1, b, b + 20, rfl, by first | rfl | go_num, Lib.hid (by have := ha.out; omega), by omega, by omega, hlt, HS1, HP1, HF1, HO1, HB1⟩
      case measure => simp [intOf]; omega
    · go_wp2_with fail
      ((with_reducible refine (insertion_at B g c a m dk _ hO.out hs.out (by omega) (Nat.le_refl _) hsz).mono ?_); skip)
      rintro e w1 ⟨d1, rfl, ⟨p1, f1⟩, o1, b1⟩
      have HS1 := Lib.hid (p1.1.trans hs.out)
      have HP1 := Lib.hid (Sort.permIn_trans _ _ _ _ _ hp.out (Sort.permIn_mono _ _ _ _ _ _ (by omega) (Nat.le_refl _) (by rw [hs.out]; exact Nat.le_refl _) p1))
      have HF1 : Hid (Blk (fn d1) m 20) := Lib.hid (blk_end hf.out ha.out ham (by omega) (perm_out p1) f1)
      have HO1 := Lib.hid o1
      have HB1 := Lib.hid (hbl.out.trans b1)
      clear p1 f1 o1 b1
      go_wp2_with fail
      go_loopw [6] (fun u wr => ∃ (z : Nat) (dk : Array Nat), u = .int .i64 (z : Int) ∧ 20 ≤ z ∧ z ≤ 2000 ∧ Hid (dk.size = m) ∧ Hid (Sort.PermIn 0 m d dk) ∧ Hid (Blk (fn dk) m z) ∧ Hid (OwnA wr B g c dk) ∧ Hid (Below B w wr))
        (fun u _ => (m - intOf u).toNat)
      case atStart => exact ⟨20, d1, rfl, by omega, by omega, HS1, HP1, HF1, HO1, HB1⟩
      case round =>
        clear HS1 HP1 HF1 HO1 HB1 ha hb1 hb2 ham hs hp hf hO hbl hlt
        obtain ⟨z, dk, rfl, hz1, hz2, hs, hp, hf, hO, hbl⟩ := hrel
        by_cases hlt : z < m
        · obtain ⟨zz, hzz⟩ : ∃ zz, 2 * z = zz := ⟨_, rfl⟩
          have ez : 2 * (z : Int) = (zz : Int) := by omega
          have z1 : 2 * z ≤ zz := by omega
          have z2 : zz ≤ 2 * z := by omega
          have HZ := Lib.hid hzz
          clear hzz
          have ez2 : (z : Int) * 2 = (zz : Int) := by omega
          go_wp2_with fail
          go_loopw [7, 8] (fun u v wq => ∃ (k : Nat) (de : Array Nat) (a b : Nat), u = .int .i64 (a : Int) ∧ v = .int .i64 (b : Int) ∧ Hid (a = k * (2 * z)) ∧ a + zz ≤ b ∧ b ≤ a + zz ∧ a ≤ m ∧ Hid (de.size = m) ∧ Hid (Sort.PermIn 0 m d de) ∧ Hid (Half (fn de) m z k) ∧ Hid (OwnA wq B g c de) ∧ Hid (Below B w wq))
            (fun u _ _ => (m - intOf u).toNat)
          case atStart => exact ⟨0, dk, 0, zz, rfl, rfl, Lib.hid (by simp), by omega, by omega, by omega, hs, hp, Lib.hid (half_start hf.out), hO, hbl⟩
          case round =>
            clear hs hp hf hO hbl dk
            obtain ⟨k, de, a, b, rfl, rfl, ha, hb1, hb2, ham, hs, hp, hf, hO, hbl⟩ := hrel
            obtain ⟨s, hs2⟩ : ∃ s, a + z = s := ⟨_, rfl⟩
            have es : (a : Int) + (z : Int) = (s : Int) := by omega
            have HP2 := half_parts hf.out ha.out
            rw [hs2] at HP2
            have s1 : a + z ≤ s := by omega
            have s2 : s ≤ a + z := by omega
            have HS2 := Lib.hid hs2
            have HPP := Lib.hid HP2
            clear hs2 HP2
            by_cases hb : b ≤ m
            · go_wp2_with fail
              ((with_reducible refine (sym_at B g c a s b de _ hO.out hs.out (by omega) (by omega) hb hsz (by have := HPP.out.1; rw [Nat.min_eq_left (by omega)] at this; exact this) (by have := HPP.out.2; rw [Nat.min_eq_left (by omega)] at this; rw [show b = a + 2 * z by omega]; exact this)).mono ?_); skip)
              rintro e w1 ⟨d1, rfl, ⟨p1, f1⟩, o1, b1⟩
              have HS1 := Lib.hid (p1.1.trans hs.out)
              have HP1 := Lib.hid (Sort.permIn_trans _ _ _ _ _ hp.out (Sort.permIn_mono _ _ _ _ _ _ (by omega) hb (by rw [hs.out]; exact Nat.le_refl _) p1))
              have HF1 : Hid (Half (fn d1) m z (k + 1)) := Lib.hid (half_step hf.out ha.out (by rw [show a + 2 * z = b by omega]; exact perm_out p1) (by rw [show a + 2 * z = b by omega]; exact f1))
              have HO1 := Lib.hid o1
              have HB1 := Lib.hid (hbl.out.trans b1)
              clear p1 f1 o1 b1
              go_wp2_with fail
              go_roundw
              case rel => exact ⟨k + 1, d1, b, b + zz, rfl, by first | rfl | go_num, Lib.hid (by have := ha.out; rw [Nat.succ_mul]; omega), by omega, by omega, hb, HS1, HP1, HF1, HO1, HB1⟩
              case measure => simp [intOf]; omega
            · by_cases hsm : s < m
              · go_wp2_with fail
                ((with_reducible refine (sym_at B g c a s m de _ hO.out hs.out (by omega) hsm (Nat.le_refl _) hsz (by have := HPP.out.1; rw [Nat.min_eq_left (by omega)] at this; exact this) (by have := HPP.out.2; rw [Nat.min_eq_right (by omega)] at this; exact this)).mono ?_); skip)
                rintro e w1 ⟨d1, rfl, ⟨p1, f1⟩, o1, b1⟩
                have HS1 := Lib.hid (p1.1.trans hs.out)
                have HP1 := Lib.hid (Sort.permIn_trans _ _ _ _ _ hp.out (Sort.permIn_mono _ _ _ _ _ _ (by omega) (Nat.le_refl _) (by rw [hs.out]; exact Nat.le_refl _) p1))
                have HF1 : Hid (Blk (fn d1) m zz) := Lib.hid (by rw [← HZ.out]; exact half_end hf.out ha.out ham (by omega) (perm_out p1) f1)
                have HO1 := Lib.hid o1
                have HB1 := Lib.hid (hbl.out.trans b1)
                clear p1 f1 o1 b1
                go_wp2_with fail
                go_roundw
                case rel => exact ⟨zz, d1, rfl, by omega, by omega, HS1, HP1, HF1, HO1, HB1⟩
                case measure => simp [intOf]; omega
              · have HF1 : Hid (Blk (fn de) m zz) := Lib.hid (by rw [← HZ.out]; exact half_end hf.out ha.out ham (by omega) (fun _ _ => rfl) (by have := HPP.out.1; rw [Nat.min_eq_right (by omega)] at this; exact this))
                go_wp2_with fail
                go_roundw
                case rel => exact ⟨zz, de, rfl, by omega, by omega, hs, hp, HF1, hO, hbl⟩
                case measure => simp [intOf]; omega
        · go_wp2_with fail
          go_end0
          have hF := hf.out 0
          rw [Nat.zero_mul, Nat.zero_add, Nat.min_eq_right (by omega)] at hF
          exact ⟨dk, rfl, ⟨hp.out, hF⟩, hO.out, hbl.out⟩

theorem stable_at {m : Nat} (B g c : Nat) (d : Array Nat) (w : World) (h : OwnA w B g c d) (hm : d.size = m) (hsz : m ≤ 1000) :
    Calls Try.prog 30 #[.slice (some ⟨g, 0, none⟩) m c, .func (.func 7) #[] #[]] w
      (Turns B g c (fun d' => Sort.PermIn 0 m d d' ∧ Srt (fn d') 0 m) w) := by
  have H := Lib.hid (stable_any B g c d w h (by omega))
  rw [hm] at H
  clear h hm
  go_enter Try.func30, Try.ntmps30
  go_wp2_with fail
  ((with_reducible refine H.out.mono ?_); skip)
  rintro e w1 ⟨d1, rfl, h1⟩
  go_wp2_with fail
  go_end0
  exact ⟨d1, rfl, h1⟩
theorem insertion_none (a : Option Addr) (c : Nat) (fv : Value) (w : World) :
    Calls Try.prog 41 #[.slice a 0 c, .int .i64 0, .int .i64 0, fv] w fun e w' => e = .returned (.tuple #[]) ∧ w = w' := by
  go_enter Try.func41, Try.ntmps41
  go_wp2_with fail
  go_loop [8] (fun u => u = .int .i64 1) (fun _ => 0)
  case atStart => rfl
  case round =>
    obtain rfl := hrel
    go_wp2_with fail
    go_end0
    exact ⟨rfl, rfl⟩
theorem stableCmp_none (a : Option Addr) (c : Nat) (fv : Value) (w : World) :
    Calls Try.prog 38 #[.slice a 0 c, .int .i64 0, fv] w fun e w' => e = .returned (.tuple #[]) ∧ w = w' := by
  go_enter Try.func38, Try.ntmps38
  go_wp2_with fail
  go_loop [7, 8] (fun u v => u = .int .i64 0 ∧ v = .int .i64 20) (fun _ _ => 0)
  case atStart => exact ⟨rfl, rfl⟩
  case round =>
    obtain ⟨rfl, rfl⟩ := hrel
    go_wp2_with fail
    ((with_reducible refine (insertion_none a c fv _).mono ?_); skip)
    rintro e w1 ⟨rfl, rfl⟩
    go_wp2_with fail
    go_loop [6] (fun u => u = .int .i64 20) (fun _ => 0)
    case atStart => rfl
    case round =>
      obtain rfl := hrel
      go_wp2_with fail
      go_end0
      exact ⟨rfl, rfl⟩
/-- Of an empty slice nothing is sorted. -/
theorem stable_none (a : Option Addr) (c : Nat) (fv : Value) (w : World) :
    Calls Try.prog 30 #[.slice a 0 c, fv] w fun e w' => e = .returned (.tuple #[]) ∧ w = w' := by
  go_enter Try.func30, Try.ntmps30
  go_wp2_with fail
  ((with_reducible refine (stableCmp_none a c fv _).mono ?_); skip)
  rintro e w1 ⟨rfl, rfl⟩
  go_wp2_with fail
  go_end0
  exact ⟨rfl, rfl⟩
end Go.Proofs.Ytjoeeaagjcpdpaa
