/- Sorting in place, part D: slices.symMergeCmpFunc. -/
import Derived.Test.YtjoeeaagjcpdpaaSortC
namespace Go.Proofs.Ytjoeeaagjcpdpaa
open Go.RowKit

def SymOK (B g c m N : Nat) : Prop := ∀ (a s b : Nat) (d : Array Nat) (w : World), OwnA w B g c d → d.size = m → a < s → s < b → b ≤ m → b - a ≤ N → Srt (fn d) a s → Srt (fn d) s b →
  Calls Try.prog 42 #[.slice (some ⟨g, 0, none⟩) m c, .int .i64 (a : Int), .int .i64 (s : Int), .int .i64 (b : Int), cmpV] w (SymTo B g c a b d w)
theorem rotate_at {m : Nat} (B g c a s b : Nat) (d : Array Nat) (fv : Value) (w : World) (h : OwnA w B g c d) (hm : d.size = m) (has : a < s) (hsb : s < b) (hb : b ≤ m) (hsz : m ≤ 1000) :
    Calls Try.prog 43 #[.slice (some ⟨g, 0, none⟩) m c, .int .i64 (a : Int), .int .i64 (s : Int), .int .i64 (b : Int), fv] w
      (Turns B g c (fun d' => Sort.PermIn a b d d' ∧ ∀ k, fn d' k = roF (fn d) a s b k) w) := by
  subst hm; exact rotate_any B g c a s b d fv w h has hsb hb hsz

theorem srt_out {d d' : Array Nat} {a b x y : Nat} (h : Sort.PermIn a b d d') (hs : Srt (fn d) x y) (hx : b ≤ x) : Srt (fn d') x y := fun i j h1 h2 h3 => by
  have e1 : fn d' i = fn d i := h.2.1 i (.inr (by omega))
  have e2 : fn d' j = fn d j := h.2.1 j (.inr (by omega))
  rw [e1, e2]; exact hs i j h1 h2 h3
theorem ro_id (f : Nat → Nat) {a s b : Nat} (h1 : a ≤ s) (h2 : s ≤ b) (h : ¬ (a < s ∧ s < b)) (k : Nat) : roF f a s b k = f k := by
  unfold roF
  (repeat' split) <;> first | (exfalso; omega) | exact congrArg f (by omega) | rfl

set_option maxRecDepth 100000 in
set_option maxHeartbeats 2000000 in
theorem sym_mid (B g c m N a s b : Nat) (hsz : m ≤ 1000) (ih : SymOK B g c m N) (d : Array Nat) (w : World) (h : OwnA w B g c d) (hm : d.size = m) (has : a + 1 < s) (hsb : s + 1 < b) (hb : b ≤ m) (hN : b - a ≤ N + 1) (s1 : Srt (fn d) a s) (s2 : Srt (fn d) s b) :
    Calls Try.prog 42 #[.slice (some ⟨g, 0, none⟩) m c, .int .i64 (a : Int), .int .i64 (s : Int), .int .i64 (b : Int), cmpV] w (SymTo B g c a b d w) := by
  have hB := h.base
  have H := Lib.hid h
  have S1 := Lib.hid s1
  have S2 := Lib.hid s2
  have HM := Lib.hid hm
  have IH := Lib.hid ih
  clear h s1 s2 hm ih
  unfold cmpV
  have h1 : ((s : Int) - (a : Int) == 1) = false := beq_eq_false_iff_ne.2 (by omega)
  have h1' : (IntKind.i64.wrap ((s : Int) - (a : Int)) == 1) = false := beq_eq_false_iff_ne.2 (by rw [IntWalk.i64_in _ (by omega)]; omega)
  have h2 : ((b : Int) - (s : Int) == 1) = false := beq_eq_false_iff_ne.2 (by omega)
  have h2' : (IntKind.i64.wrap ((b : Int) - (s : Int)) == 1) = false := beq_eq_false_iff_ne.2 (by rw [IntWalk.i64_in _ (by omega)]; omega)
  obtain ⟨mid, hmid⟩ : ∃ mid, (a + b) / 2 = mid := ⟨_, rfl⟩
  have e1 : ((a : Int) + (b : Int)) / 2 = (mid : Int) := by omega
  obtain ⟨n, hn⟩ : ∃ n, mid + s = n := ⟨_, rfl⟩
  have e2 : (mid : Int) + (s : Int) = (n : Int) := by omega
  have m1 : a < mid := by omega
  have m2 : mid < b := by omega
  have HMID := Lib.hid hmid
  have HN := Lib.hid hn
  clear hmid hn
  go_enter Try.func42, Try.ntmps42
  go_upto_if 140 with fail
  go_cut [20, 21] (fun u v wx => ∃ (s0 r0 : Nat), u = .int .i64 (s0 : Int) ∧ v = .int .i64 (r0 : Int) ∧ a ≤ s0 ∧ s0 ≤ r0 ∧ r0 ≤ s ∧ r0 ≤ mid ∧ n ≤ b + s0 ∧ Hid (a < s0 → s0 + b = n) ∧ Hid (r0 = mid ∨ r0 = s) ∧ w = wx)
  case first =>
    have hn := HN.out
    have hmid := HMID.out
    by_cases hc : mid < s
    · obtain ⟨s0, hs0⟩ : ∃ s0, n - b = s0 := ⟨_, rfl⟩
      have e3 : (n : Int) - (b : Int) = (s0 : Int) := by omega
      have HS0 := Lib.hid hs0
      have HN' := Lib.hid hn
      have HMID' := Lib.hid hmid
      clear hs0 hn hmid
      go_wp2_with fail
      go_meet
      have hs0 := HS0.out
      have hn := HN.out
      have hmid := HMID.out
      exact ⟨s0, mid, rfl, rfl, by omega, by omega, by omega, by omega, by omega, Lib.hid fun _ => by omega, Lib.hid (.inl rfl), rfl⟩
    · clear hn hmid
      go_wp2_with fail
      go_meet
      have hn := HN.out
      have hmid := HMID.out
      exact ⟨a, s, rfl, rfl, by omega, by omega, by omega, by omega, by omega, Lib.hid fun _ => by omega, Lib.hid (.inr rfl), rfl⟩
  case rest =>
    obtain ⟨s0, r0, rfl, rfl, r1, r2, r3, r4, r5, R6, R7, rfl⟩ := hcut
    obtain ⟨p, hp⟩ : ∃ p, n - 1 = p := ⟨_, rfl⟩
    have hnn := HN.out
    have e3 : (n : Int) - 1 = (p : Int) := by omega
    have p1 : p < b + s0 := by omega
    have p2 : r0 ≤ p := by omega
    have HP := Lib.hid hp
    clear hp hnn
    go_wp2_with fail
    go_loopw [20, 21] (fun u v wr => ∃ (i j : Nat), u = .int .i64 (i : Int) ∧ v = .int .i64 (j : Int) ∧ s0 ≤ i ∧ i ≤ j ∧ j ≤ r0 ∧ Hid (s0 < i → GaugeF.key (fn d (i - 1)) ≤ GaugeF.key (fn d (p - (i - 1)))) ∧ Hid (j < r0 → GaugeF.key (fn d (p - j)) < GaugeF.key (fn d j)) ∧ Hid (OwnA wr B g c d) ∧ Hid (Below B w wr))
      (fun u v _ => (intOf v - intOf u).toNat)
    case atStart => exact ⟨s0, r0, rfl, rfl, by omega, by omega, by omega, Lib.hid fun _ => by omega, Lib.hid fun _ => by omega, H, Lib.hid (Below.refl _ _)⟩
    case round =>
      obtain ⟨i, j, rfl, rfl, hi, hij, hj, k1, k2, hO, hbl⟩ := hrel
      by_cases hlt : i < j
      · obtain ⟨q, hq⟩ : ∃ q, (i + j) / 2 = q := ⟨_, rfl⟩
        have eq : ((i : Int) + (j : Int)) / 2 = (q : Int) := by omega
        have q1 : i ≤ q := by omega
        have q2 : q < j := by omega
        obtain ⟨t, ht⟩ : ∃ t, p - q = t := ⟨_, rfl⟩
        have et : IntKind.i64.wrap ((p : Int) - (q : Int)) = (t : Int) := by rw [IntWalk.i64_in _ (by omega)]; omega
        have c1 := hO.out.cell (i := t) (by rw [HM.out]; omega)
        have c2 := hO.out.cell (i := q) (by rw [HM.out]; omega)
        have l1 := hO.out.2 t
        have l2 := hO.out.2 q
        obtain ⟨x, hx⟩ : ∃ x, d[t]! = x := ⟨_, rfl⟩
        obtain ⟨y, hy⟩ : ∃ y, d[q]! = y := ⟨_, rfl⟩
        rw [hx] at c1 l1
        rw [hy] at c2 l2
        have q3 : (0 : Int) ≤ (q : Int) := by omega
        have q4 : (q : Int) < (m : Int) := by omega
        have q5 : (0 : Int) ≤ (t : Int) := by omega
        have q6 : (t : Int) < (m : Int) := by omega
        have HX := Lib.hid hx
        have HY := Lib.hid hy
        have HT := Lib.hid ht
        clear hx hy hq ht
        cases hl : ltK x y
        · have HL := Lib.hid hl
          obtain ⟨v, hv, hv0⟩ := ordV_ge hl
          have HV := Lib.hid hv
          clear hl hv
          have hv1 : decide (v < 0) = false := decide_eq_false (by omega)
          go_wp2_with fail
          go_quiet ((go_at_call 7; exact Calls.quiet_of_same ((order_is _ l1 l2 HV.out).mono fun _ _ ⟨a, b⟩ => ⟨a, b.symm⟩)))
          go_wp2_with fail
          go_roundw
          case rel => exact ⟨q + 1, j, by go_num, rfl, by omega, by omega, hj, Lib.hid fun _ => by rw [Nat.add_sub_cancel, HT.out]; unfold fn; rw [HX.out, HY.out]; exact Int.not_lt.1 (of_decide_eq_false HL.out), k2, Lib.hid (hO.out.drewN _), Lib.hid (below_drewN hbl.out _)⟩
          case measure => simp [intOf]; omega
        · have HL := Lib.hid hl
          have HV := Lib.hid (ordV_lt hl)
          clear hl
          go_wp2_with fail
          go_quiet ((go_at_call 7; exact Calls.quiet_of_same ((order_is _ l1 l2 HV.out).mono fun _ _ ⟨a, b⟩ => ⟨a, b.symm⟩)))
          go_wp2_with fail
          go_roundw
          case rel => exact ⟨i, q, rfl, rfl, hi, q1, by omega, k1, Lib.hid fun _ => by rw [HT.out]; unfold fn; rw [HX.out, HY.out]; exact of_decide_eq_true HL.out, Lib.hid (hO.out.drewN _), Lib.hid (below_drewN hbl.out _)⟩
          case measure => simp [intOf]; omega
      · obtain rfl : i = j := by omega
        obtain ⟨e, he⟩ : ∃ e, mid + s - i = e := ⟨_, rfl⟩
        have hnn := HN.out
        have hpp := HP.out
        have e4 : (n : Int) - (i : Int) = (e : Int) := by omega
        have e4' : IntKind.i64.wrap ((n : Int) - (i : Int)) = (e : Int) := by rw [IntWalk.i64_in _ (by omega)]; omega
        have i1 : s ≤ e := by omega
        have i2 : mid ≤ e := by omega
        have i3 : e ≤ b := by omega
        have B1 : Hid (a < i → mid + s - i < b → GaugeF.key (fn d (i - 1)) ≤ GaugeF.key (fn d (mid + s - i))) := Lib.hid fun x1 x2 => by
          have := k1.out (by have := R6.out; omega)
          rw [show p - (i - 1) = mid + s - i by omega] at this
          exact this
        have B2 : Hid (i < s → s < mid + s - i → GaugeF.key (fn d (mid + s - i - 1)) < GaugeF.key (fn d i)) := Lib.hid fun x1 x2 => by
          have := k2.out (by have := R7.out; omega)
          rw [show p - i = mid + s - i - 1 by omega] at this
          exact this
        have lt := sym_left (b := b) (by omega : a ≤ i) (by omega : i ≤ s) (by omega : i ≤ mid) (by omega) S1.out S2.out
        have fin := fun d1 d2 d3 p1 f1 p2 q2 p3 q3 => sym_ends (d1 := d1) (d2 := d2) (d3 := d3) (start := i) (mid := mid) (by rw [HM.out]; exact hb) (by omega) (by omega) (by omega) (by omega) (by omega) (by omega) (by omega) m2 S1.out S2.out B1.out B2.out p1 f1 p2 q2 p3 q3
        rw [he] at lt
        simp only [he] at fin
        have LT := Lib.hid lt
        have FIN := Lib.hid fin
        have HE := Lib.hid he
        clear he hnn hpp k1 k2 lt fin
        have hr : (i < s ∧ s < e) ∨ s ≤ i ∨ (i < s ∧ e ≤ s) := by omega
        rcases hr with ⟨hr1, hr2⟩ | hr1 | ⟨hr1, hr2⟩
        · -- R1
          go_wp2_with fail
          refine (rotate_at B g c i s e d _ _ hO.out HM.out hr1 hr2 (by omega) hsz).mono ?_
          rintro ev w1 ⟨d1, rfl, ⟨p1, f1⟩, o1, b1⟩
          have Z1 : Hid (d1.size = m) := Lib.hid (p1.1.trans HM.out)
          have P1 : Hid (Sort.PermIn a b d d1) := Lib.hid (Sort.permIn_mono _ _ _ _ _ _ (by omega) (by omega) (by rw [HM.out]; omega) p1)
          have F1 : Hid (∀ k, fn d1 k = roF (fn d) i s e k) := Lib.hid f1
          have O1 := Lib.hid o1
          have BL1 := Lib.hid (hbl.out.trans b1)
          clear p1 f1 o1 b1
          have hl : (a < i ∧ i < mid) ∨ i ≤ a ∨ (a < i ∧ mid ≤ i) := by omega
          have hm : (mid < e ∧ e < b) ∨ e ≤ mid ∨ (mid < e ∧ b ≤ e) := by omega
          rcases hl with ⟨hl1, hl2⟩ | hl1 | ⟨hl1, hl2⟩ <;> rcases hm with ⟨hm1, hm2⟩ | hm1 | ⟨hm1, hm2⟩
          · -- R1 L1 M1
            go_wp2_with fail
            refine (IH.out a i mid d1 _ O1.out Z1.out hl1 hl2 (by omega) (by omega) (srt_congr LT.out.1 F1.out) (srt_congr LT.out.2.1 F1.out)).mono ?_
            rintro ev w2 ⟨d2, rfl, ⟨p2, q2⟩, o2, b2⟩
            have P2 := Lib.hid p2
            have Q2 := Lib.hid q2
            have O2 := Lib.hid o2
            have BL2 := Lib.hid (BL1.out.trans b2)
            clear p2 q2 o2 b2
            go_wp2_with fail
            refine (IH.out mid e b d2 _ O2.out (P2.out.1.trans Z1.out) hm1 hm2 hb (by omega) (srt_out P2.out (srt_congr LT.out.2.2.1 F1.out) (by omega)) (srt_out P2.out (srt_congr LT.out.2.2.2 F1.out) (by omega))).mono ?_
            rintro ev w3 ⟨d3, rfl, ⟨p3, q3⟩, o3, b3⟩
            have P3 := Lib.hid p3
            have Q3 := Lib.hid q3
            have O3 := Lib.hid o3
            have BL3 := Lib.hid (BL2.out.trans b3)
            clear p3 q3 o3 b3
            go_wp2_with fail
            go_end0
            exact ⟨d3, rfl, FIN.out d1 d2 d3 P1.out F1.out P2.out Q2.out P3.out Q3.out, O3.out, BL3.out⟩
          · -- R1 L1 M2
            have := HE.out; exfalso; omega
          · -- R1 L1 M3
            go_wp2_with fail
            refine (IH.out a i mid d1 _ O1.out Z1.out hl1 hl2 (by omega) (by omega) (srt_congr LT.out.1 F1.out) (srt_congr LT.out.2.1 F1.out)).mono ?_
            rintro ev w2 ⟨d2, rfl, ⟨p2, q2⟩, o2, b2⟩
            have P2 := Lib.hid p2
            have Q2 := Lib.hid q2
            have O2 := Lib.hid o2
            have BL2 := Lib.hid (BL1.out.trans b2)
            clear p2 q2 o2 b2
            go_wp2_with fail
            go_end0
            exact ⟨d2, rfl, FIN.out d1 d2 d2 P1.out F1.out P2.out Q2.out (Sort.permIn_refl _ _ _) (fun x y h1 h2 h3 => (srt_out P2.out (srt_congr LT.out.2.2.1 F1.out) (by omega)) x y h1 h2 (by omega)), O2.out, BL2.out⟩
          · -- R1 L2 M1
            go_wp2_with fail
            refine (IH.out mid e b d1 _ O1.out Z1.out hm1 hm2 hb (by omega) (srt_out (Sort.permIn_refl d1 a mid) (srt_congr LT.out.2.2.1 F1.out) (by omega)) (srt_out (Sort.permIn_refl d1 a mid) (srt_congr LT.out.2.2.2 F1.out) (by omega))).mono ?_
            rintro ev w3 ⟨d3, rfl, ⟨p3, q3⟩, o3, b3⟩
            have P3 := Lib.hid p3
            have Q3 := Lib.hid q3
            have O3 := Lib.hid o3
            have BL3 := Lib.hid (BL1.out.trans b3)
            clear p3 q3 o3 b3
            go_wp2_with fail
            go_end0
            exact ⟨d3, rfl, FIN.out d1 d1 d3 P1.out F1.out (Sort.permIn_refl d1 a mid) (fun x y h1 h2 h3 => srt_congr LT.out.2.1 F1.out x y (by omega) h2 h3) P3.out Q3.out, O3.out, BL3.out⟩
          · -- R1 L2 M2
            have := HE.out; exfalso; omega
          · -- R1 L2 M3
            go_wp2_with fail
            go_end0
            exact ⟨d1, rfl, FIN.out d1 d1 d1 P1.out F1.out (Sort.permIn_refl d1 a mid) (fun x y h1 h2 h3 => srt_congr LT.out.2.1 F1.out x y (by omega) h2 h3) (Sort.permIn_refl _ _ _) (fun x y h1 h2 h3 => (srt_out (Sort.permIn_refl d1 a mid) (srt_congr LT.out.2.2.1 F1.out) (by omega)) x y h1 h2 (by omega)), O1.out, BL1.out⟩
          · -- R1 L3 M1
            have := HE.out; exfalso; omega
          · -- R1 L3 M2
            have := HE.out; exfalso; omega
          · -- R1 L3 M3
            have := HE.out; exfalso; omega
        · -- R2
          obtain ⟨d1, hd1⟩ : ∃ x, x = d := ⟨_, rfl⟩
          have Z1 : Hid (d1.size = m) := Lib.hid (by rw [hd1]; exact HM.out)
          have P1 : Hid (Sort.PermIn a b d d1) := Lib.hid (by rw [hd1]; exact Sort.permIn_refl _ _ _)
          have F1 : Hid (∀ k, fn d1 k = roF (fn d) i s e k) := Lib.hid fun k => by rw [hd1]; exact (ro_id _ (by omega) (by omega) (by omega) k).symm
          have O1 : Hid (OwnA wr B g c d1) := Lib.hid (by rw [hd1]; exact hO.out)
          have BL1 := hbl
          clear hd1
          have hl : (a < i ∧ i < mid) ∨ i ≤ a ∨ (a < i ∧ mid ≤ i) := by omega
          have hm : (mid < e ∧ e < b) ∨ e ≤ mid ∨ (mid < e ∧ b ≤ e) := by omega
          rcases hl with ⟨hl1, hl2⟩ | hl1 | ⟨hl1, hl2⟩ <;> rcases hm with ⟨hm1, hm2⟩ | hm1 | ⟨hm1, hm2⟩
          · -- R2 L1 M1
            have := HE.out; exfalso; omega
          · -- R2 L1 M2
            go_wp2_with fail
            refine (IH.out a i mid d1 _ O1.out Z1.out hl1 hl2 (by omega) (by omega) (srt_congr LT.out.1 F1.out) (srt_congr LT.out.2.1 F1.out)).mono ?_
            rintro ev w2 ⟨d2, rfl, ⟨p2, q2⟩, o2, b2⟩
            have P2 := Lib.hid p2
            have Q2 := Lib.hid q2
            have O2 := Lib.hid o2
            have BL2 := Lib.hid (BL1.out.trans b2)
            clear p2 q2 o2 b2
            go_wp2_with fail
            go_end0
            exact ⟨d2, rfl, FIN.out d1 d2 d2 P1.out F1.out P2.out Q2.out (Sort.permIn_refl _ _ _) (fun x y h1 h2 h3 => (srt_out P2.out (srt_congr LT.out.2.2.2 F1.out) (by omega)) x y (by omega) h2 h3), O2.out, BL2.out⟩
          · -- R2 L1 M3
            have := HE.out; exfalso; omega
          · -- R2 L2 M1
            have := HE.out; exfalso; omega
          · -- R2 L2 M2
            have := HE.out; exfalso; omega
          · -- R2 L2 M3
            have := HE.out; exfalso; omega
          · -- R2 L3 M1
            have := HE.out; exfalso; omega
          · -- R2 L3 M2
            go_wp2_with fail
            go_end0
            exact ⟨d1, rfl, FIN.out d1 d1 d1 P1.out F1.out (Sort.permIn_refl d1 a mid) (fun x y h1 h2 h3 => srt_congr LT.out.1 F1.out x y h1 h2 (by omega)) (Sort.permIn_refl _ _ _) (fun x y h1 h2 h3 => (srt_out (Sort.permIn_refl d1 a mid) (srt_congr LT.out.2.2.2 F1.out) (by omega)) x y (by omega) h2 h3), O1.out, BL1.out⟩
          · -- R2 L3 M3
            have := HE.out; exfalso; omega
        · -- R3
          obtain ⟨d1, hd1⟩ : ∃ x, x = d := ⟨_, rfl⟩
          have Z1 : Hid (d1.size = m) := Lib.hid (by rw [hd1]; exact HM.out)
          have P1 : Hid (Sort.PermIn a b d d1) := Lib.hid (by rw [hd1]; exact Sort.permIn_refl _ _ _)
          have F1 : Hid (∀ k, fn d1 k = roF (fn d) i s e k) := Lib.hid fun k => by rw [hd1]; exact (ro_id _ (by omega) (by omega) (by omega) k).symm
          have O1 : Hid (OwnA wr B g c d1) := Lib.hid (by rw [hd1]; exact hO.out)
          have BL1 := hbl
          clear hd1
          have hl : (a < i ∧ i < mid) ∨ i ≤ a ∨ (a < i ∧ mid ≤ i) := by omega
          have hm : (mid < e ∧ e < b) ∨ e ≤ mid ∨ (mid < e ∧ b ≤ e) := by omega
          rcases hl with ⟨hl1, hl2⟩ | hl1 | ⟨hl1, hl2⟩ <;> rcases hm with ⟨hm1, hm2⟩ | hm1 | ⟨hm1, hm2⟩
          · -- R3 L1 M1
            have := HE.out; exfalso; omega
          · -- R3 L1 M2
            have := HE.out; exfalso; omega
          · -- R3 L1 M3
            have := HE.out; exfalso; omega
          · -- R3 L2 M1
            have := HE.out; exfalso; omega
          · -- R3 L2 M2
            have := HE.out; exfalso; omega
          · -- R3 L2 M3
            have := HE.out; exfalso; omega
          · -- R3 L3 M1
            go_wp2_with fail
            refine (IH.out mid e b d1 _ O1.out Z1.out hm1 hm2 hb (by omega) (srt_out (Sort.permIn_refl d1 a mid) (srt_congr LT.out.2.2.1 F1.out) (by omega)) (srt_out (Sort.permIn_refl d1 a mid) (srt_congr LT.out.2.2.2 F1.out) (by omega))).mono ?_
            rintro ev w3 ⟨d3, rfl, ⟨p3, q3⟩, o3, b3⟩
            have P3 := Lib.hid p3
            have Q3 := Lib.hid q3
            have O3 := Lib.hid o3
            have BL3 := Lib.hid (BL1.out.trans b3)
            clear p3 q3 o3 b3
            go_wp2_with fail
            go_end0
            exact ⟨d3, rfl, FIN.out d1 d1 d3 P1.out F1.out (Sort.permIn_refl d1 a mid) (fun x y h1 h2 h3 => srt_congr LT.out.1 F1.out x y h1 h2 (by omega)) P3.out Q3.out, O3.out, BL3.out⟩
          · -- R3 L3 M2
            have := HE.out; exfalso; omega
          · -- R3 L3 M3
            have := HE.out; exfalso; omega
end Go.Proofs.Ytjoeeaagjcpdpaa
