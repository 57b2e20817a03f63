/- Sorting in place, part C: slices.symMergeCmpFunc where one of the parts is a single one. -/
import Derived.Test.YtjoeeaagjcpdpaaSortF
namespace Go.Proofs.Ytjoeeaagjcpdpaa
open Go.RowKit

/-- What the merge promises. -/
def SymTo (B g c a b : Nat) (d : Array Nat) (w : World) : Ending → World → Prop := Turns B g c (fun d' => Sort.PermIn a b d d' ∧ Srt (fn d') a b) w

set_option maxRecDepth 100000 in
set_option maxHeartbeats 1000000 in
theorem sym_one (B g c a b : Nat) (d : Array Nat) (w : World) (h : OwnA w B g c d) (hb1 : a + 1 < b) (hb : b ≤ d.size) (hsz : d.size ≤ 1000) (s2 : Srt (fn d) (a + 1) b) :
    Calls Try.prog 42 #[.slice (some ⟨g, 0, none⟩) d.size c, .int .i64 (a : Int), .int .i64 ((a + 1 : Nat) : Int), .int .i64 (b : Int), cmpV] w (SymTo B g c a b d w) := by
  have hB := h.base
  have H := Lib.hid h
  have S2 := Lib.hid s2
  clear h s2
  have hst := store_fl
  obtain ⟨m, hm⟩ : ∃ m, d.size = m := ⟨_, rfl⟩
  rw [hm] at hb hsz ⊢
  have HM := Lib.hid hm
  clear hm
  unfold cmpV
  go_enter Try.func42, Try.ntmps42
  go_wp2_with fail
  go_loopw [10, 11] (fun u v wr => ∃ (i j : Nat), u = .int .i64 (i : Int) ∧ v = .int .i64 (j : Int) ∧ a + 1 ≤ i ∧ i ≤ j ∧ j ≤ b ∧ Hid (a + 1 < i → GaugeF.key (fn d (i - 1)) < GaugeF.key (fn d a)) ∧ Hid (j < b → GaugeF.key (fn d a) ≤ GaugeF.key (fn d j)) ∧ Hid (OwnA wr B g c d) ∧ Hid (Below B w wr))
    (fun u v _ => (intOf v - intOf u).toNat)
  case atStart => exact ⟨a + 1, b, rfl, rfl, by omega, by omega, by omega, Lib.hid fun _ => by omega, Lib.hid fun _ => by omega, H, Lib.hid (Below.refl _ _)⟩
  case round =>
    obtain ⟨i, j, rfl, rfl, hi, hij, hj, k1, k2, hO, hbl⟩ := hrel
    by_cases hlt : i < j
    · obtain ⟨q, hq⟩ : ∃ q, (i + j) / 2 = q := ⟨_, rfl⟩
      have eq : ((i : Int) + (j : Int)) / 2 = (q : Int) := by omega
      have q1 : i ≤ q := by omega
      have q2 : q < j := by omega
      clear hq
      have c1 := hO.out.cell (i := q) (by rw [HM.out]; omega)
      have c2 := hO.out.cell (i := a) (by rw [HM.out]; omega)
      have l1 := hO.out.2 q
      have l2 := hO.out.2 a
      obtain ⟨x, hx⟩ : ∃ x, d[q]! = x := ⟨_, rfl⟩
      obtain ⟨y, hy⟩ : ∃ y, d[a]! = y := ⟨_, rfl⟩
      rw [hx] at c1 l1
      rw [hy] at c2 l2
      have q3 : (0 : Int) ≤ (q : Int) := by omega
      have q4 : (q : Int) < (m : Int) := by omega
      have q5 : (0 : Int) ≤ (a : Int) := by omega
      have q6 : (a : Int) < (m : Int) := by omega
      have HX := Lib.hid hx
      have HY := Lib.hid hy
      clear hx hy
      cases hl : ltK x y
      · have HL := Lib.hid hl
        obtain ⟨v, hv, hv0⟩ := ordV_ge hl
        have HV := Lib.hid hv
        clear hl hv
        have hv1 : decide (v < 0) = false := decide_eq_false (by omega)
        go_wp2_with fail
        go_quiet ((go_at_call 7; exact Calls.quiet_of_same ((order_is _ l1 l2 HV.out).mono fun _ _ ⟨a, b⟩ => ⟨a, b.symm⟩)))
        go_wp2_with fail
        go_roundw
        case rel => exact ⟨i, q, rfl, rfl, hi, q1, by omega, k1, Lib.hid fun _ => by unfold fn; rw [HX.out, HY.out]; exact Int.not_lt.1 (of_decide_eq_false HL.out), Lib.hid (hO.out.drewN _), Lib.hid (below_drewN hbl.out _)⟩
        case measure => simp [intOf]; omega
      · have HL := Lib.hid hl
        have HV := Lib.hid (ordV_lt hl)
        clear hl
        go_wp2_with fail
        go_quiet ((go_at_call 7; exact Calls.quiet_of_same ((order_is _ l1 l2 HV.out).mono fun _ _ ⟨a, b⟩ => ⟨a, b.symm⟩)))
        go_wp2_with fail
        go_roundw
        case rel => exact ⟨q + 1, j, by go_num, rfl, by omega, by omega, hj, Lib.hid fun _ => by rw [Nat.add_sub_cancel]; unfold fn; rw [HX.out, HY.out]; exact of_decide_eq_true HL.out, k2, Lib.hid (hO.out.drewN _), Lib.hid (below_drewN hbl.out _)⟩
        case measure => simp [intOf]; omega
    · obtain rfl : i = j := by omega
      obtain ⟨i', rfl⟩ : ∃ i', i = i' + 1 := ⟨i - 1, by omega⟩
      have HU := Lib.hid (up_srt S2.out hi hj k1.out k2.out)
      clear k1 k2
      go_wp2_with fail
      go_loopw [13] (fun v wq => ∃ (k : Nat) (dk : Array Nat), v = .int .i64 (k : Int) ∧ a ≤ k ∧ k ≤ i' ∧ Hid (dk.size = m) ∧ Hid (Sort.PermIn a b d dk) ∧ Hid (∀ x, fn dk x = upF (fn d) a k x) ∧ Hid (OwnA wq B g c dk) ∧ Hid (Below B w wq))
        (fun v _ => (i' - intOf v).toNat)
      case atStart => exact ⟨a, d, rfl, by omega, by omega, HM, Lib.hid (Sort.permIn_refl _ _ _), Lib.hid fun x => by
        unfold upF
        rw [if_neg (by omega)]
        split
        · rename_i e; rw [e]
        · rfl, hO, hbl⟩
      case round =>
        obtain ⟨k, dk, rfl, hk1, hk2, hs, hp, hf, hOk, hbk⟩ := hrel
        by_cases hlk : k < i'
        · have c1 := hOk.out.cell (i := k) (by rw [hs.out]; omega)
          have c2 := hOk.out.cell (i := k + 1) (by rw [hs.out]; omega)
          have f1 := hOk.out.frozen k
          have f2 := hOk.out.frozen (k + 1)
          obtain ⟨q, hq⟩ : ∃ q, k + 1 = q := ⟨_, rfl⟩
          have w2 : (k : Int) + 1 = (q : Int) := by omega
          have w3 : IntKind.i64.wrap (q : Int) = (q : Int) := by rw [IntWalk.i64_in _ (by omega)]
          rw [hq] at c2 f2
          have p0 : (0 : Int) ≤ (k : Int) := by omega
          have p1 : (k : Int) < (m : Int) := by omega
          have q0 : (0 : Int) ≤ (q : Int) := by omega
          have q1 : (q : Int) < (m : Int) := by omega
          have hne : ¬ k = q := by omega
          have hne' : ¬ q = k := by omega
          have HQ := Lib.hid hq
          clear hq
          go_wp2_with fail
          go_region
          go_wp2
          go_roundw
          case rel =>
            obtain rfl := HQ.out
            have hs' := hs.out
            refine ⟨k + 1, Sort.swp dk k (k + 1), by first | rfl | go_num, by omega, by omega, Lib.hid (by rw [Sort.size_swp]; exact hs'), Lib.hid (Sort.permIn_trans _ _ _ _ _ hp.out (Sort.swp_permIn _ _ _ _ _ (by omega) (by omega) (by omega) (by omega) (by omega))), Lib.hid (up_step (by omega) hk1 hf.out), Lib.hid ((hOk.out.swp _ _).drewN 1), Lib.hid ?_⟩
            exact ((hbk.out.setCell hB _).setCell hB _).drew
          case measure => simp [intOf]; omega
        · obtain rfl : k = i' := by omega
          go_wp2_with fail
          go_end0
          exact ⟨dk, rfl, ⟨hp.out, srt_congr HU.out hf.out⟩, hOk.out, hbk.out⟩

set_option maxRecDepth 100000 in
set_option maxHeartbeats 1000000 in
theorem sym_last (B g c a s : Nat) (d : Array Nat) (w : World) (h : OwnA w B g c d) (has : a + 1 < s) (hb : s + 1 ≤ d.size) (hsz : d.size ≤ 1000) (s1 : Srt (fn d) a s) :
    Calls Try.prog 42 #[.slice (some ⟨g, 0, none⟩) d.size c, .int .i64 (a : Int), .int .i64 (s : Int), .int .i64 ((s + 1 : Nat) : Int), cmpV] w (SymTo B g c a (s + 1) d w) := by
  have hB := h.base
  have H := Lib.hid h
  have S1 := Lib.hid s1
  clear h s1
  have hst := store_fl
  obtain ⟨m, hm⟩ : ∃ m, d.size = m := ⟨_, rfl⟩
  rw [hm] at hb hsz ⊢
  have HM := Lib.hid hm
  clear hm
  unfold cmpV
  have h1 : ((s : Int) - (a : Int) == 1) = false := beq_eq_false_iff_ne.2 (by omega)
  have h1' : (IntKind.i64.wrap ((s : Int) - (a : Int)) == 1) = false := beq_eq_false_iff_ne.2 (by rw [IntWalk.i64_in _ (by omega)]; omega)
  go_enter Try.func42, Try.ntmps42
  go_wp2_with fail
  go_loopw [14, 15] (fun u v wr => ∃ (i j : Nat), u = .int .i64 (i : Int) ∧ v = .int .i64 (j : Int) ∧ a ≤ i ∧ i ≤ j ∧ j ≤ s ∧ Hid (a < i → GaugeF.key (fn d (i - 1)) ≤ GaugeF.key (fn d s)) ∧ Hid (j < s → GaugeF.key (fn d s) < GaugeF.key (fn d j)) ∧ Hid (OwnA wr B g c d) ∧ Hid (Below B w wr))
    (fun u v _ => (intOf v - intOf u).toNat)
  case atStart => exact ⟨a, s, rfl, rfl, by omega, by omega, by omega, Lib.hid fun _ => by omega, Lib.hid fun _ => by omega, H, Lib.hid (Below.refl _ _)⟩
  case round =>
    obtain ⟨i, j, rfl, rfl, hi, hij, hj, k1, k2, hO, hbl⟩ := hrel
    by_cases hlt : i < j
    · obtain ⟨q, hq⟩ : ∃ q, (i + j) / 2 = q := ⟨_, rfl⟩
      have eq : ((i : Int) + (j : Int)) / 2 = (q : Int) := by omega
      have q1 : i ≤ q := by omega
      have q2 : q < j := by omega
      clear hq
      have c1 := hO.out.cell (i := s) (by rw [HM.out]; omega)
      have c2 := hO.out.cell (i := q) (by rw [HM.out]; omega)
      have l1 := hO.out.2 s
      have l2 := hO.out.2 q
      obtain ⟨x, hx⟩ : ∃ x, d[s]! = x := ⟨_, rfl⟩
      obtain ⟨y, hy⟩ : ∃ y, d[q]! = y := ⟨_, rfl⟩
      rw [hx] at c1 l1
      rw [hy] at c2 l2
      have q3 : (0 : Int) ≤ (q : Int) := by omega
      have q4 : (q : Int) < (m : Int) := by omega
      have q5 : (0 : Int) ≤ (s : Int) := by omega
      have q6 : (s : Int) < (m : Int) := by omega
      have HX := Lib.hid hx
      have HY := Lib.hid hy
      clear hx hy
      cases hl : ltK x y
      · have HL := Lib.hid hl
        obtain ⟨v, hv, hv0⟩ := ordV_ge hl
        have HV := Lib.hid hv
        clear hl hv
        have hv1 : decide (v < 0) = false := decide_eq_false (by omega)
        go_wp2_with fail
        go_quiet ((go_at_call 7; exact Calls.quiet_of_same ((order_is _ l1 l2 HV.out).mono fun _ _ ⟨a, b⟩ => ⟨a, b.symm⟩)))
        go_wp2_with fail
        go_roundw
        case rel => exact ⟨q + 1, j, by go_num, rfl, by omega, by omega, hj, Lib.hid fun _ => by rw [Nat.add_sub_cancel]; unfold fn; rw [HX.out, HY.out]; exact Int.not_lt.1 (of_decide_eq_false HL.out), k2, Lib.hid (hO.out.drewN _), Lib.hid (below_drewN hbl.out _)⟩
        case measure => simp [intOf]; omega
      · have HL := Lib.hid hl
        have HV := Lib.hid (ordV_lt hl)
        clear hl
        go_wp2_with fail
        go_quiet ((go_at_call 7; exact Calls.quiet_of_same ((order_is _ l1 l2 HV.out).mono fun _ _ ⟨a, b⟩ => ⟨a, b.symm⟩)))
        go_wp2_with fail
        go_roundw
        case rel => exact ⟨i, q, rfl, rfl, hi, q1, by omega, k1, Lib.hid fun _ => by unfold fn; rw [HX.out, HY.out]; exact of_decide_eq_true HL.out, Lib.hid (hO.out.drewN _), Lib.hid (below_drewN hbl.out _)⟩
        case measure => simp [intOf]; omega
    · obtain rfl : i = j := by omega
      have HU := Lib.hid (down_srt S1.out hi hj k1.out k2.out)
      clear k1 k2
      go_wp2_with fail
      go_loopw [17] (fun v wq => ∃ (k : Nat) (dk : Array Nat), v = .int .i64 (k : Int) ∧ i ≤ k ∧ k ≤ s ∧ Hid (dk.size = m) ∧ Hid (Sort.PermIn a (s + 1) d dk) ∧ Hid (∀ x, fn dk x = downF (fn d) s k x) ∧ Hid (OwnA wq B g c dk) ∧ Hid (Below B w wq))
        (fun v _ => (intOf v).toNat)
      case atStart => exact ⟨s, d, rfl, by omega, by omega, HM, Lib.hid (Sort.permIn_refl _ _ _), Lib.hid fun x => by
        unfold downF
        split
        · rename_i e; rw [e]
        · rw [if_neg (by omega)], hO, hbl⟩
      case round =>
        obtain ⟨k', dk, rfl, hk1, hk2, hs, hp, hf, hOk, hbk⟩ := hrel
        by_cases hlk : i < k'
        · obtain ⟨k, rfl⟩ : ∃ k, k' = k + 1 := ⟨k' - 1, by omega⟩
          have c1 := hOk.out.cell (i := k) (by rw [hs.out]; omega)
          have c2 := hOk.out.cell (i := k + 1) (by rw [hs.out]; omega)
          have f1 := hOk.out.frozen k
          have f2 := hOk.out.frozen (k + 1)
          obtain ⟨q, hq⟩ : ∃ q, k + 1 = q := ⟨_, rfl⟩
          have e0 : ((k : Int) + 1).toNat = q := by omega
          have w3 : IntKind.i64.wrap (k : Int) = (k : Int) := by rw [IntWalk.i64_in _ (by omega)]
          rw [hq] at c2 f2
          have p0 : (0 : Int) ≤ (k : Int) := by omega
          have p1 : (k : Int) < (m : Int) := by omega
          have q0 : (0 : Int) ≤ (k : Int) + 1 := by omega
          have q1 : (k : Int) + 1 < (m : Int) := by omega
          have hne : ¬ k = q := by omega
          have hne' : ¬ q = k := by omega
          have HQ := Lib.hid hq
          clear hq
          go_wp2_with fail
          go_region
          go_wp2
          go_roundw
          case rel =>
            obtain rfl := HQ.out
            have hs' := hs.out
            refine ⟨k, Sort.swp dk (k + 1) k, by first | rfl | go_num | (congr 1; omega), by omega, by omega, Lib.hid (by rw [Sort.size_swp]; exact hs'), Lib.hid (Sort.permIn_trans _ _ _ _ _ hp.out (Sort.swp_permIn _ _ _ _ _ (by omega) (by omega) (by omega) (by omega) (by omega))), Lib.hid (down_step (by omega) (by omega) hf.out), Lib.hid ((hOk.out.swp _ _).drewN 1), Lib.hid ?_⟩
            exact ((hbk.out.setCell hB _).setCell hB _).drew
          case measure => simp [intOf]
        · obtain rfl : k' = i := by omega
          go_wp2_with fail
          go_end0
          exact ⟨dk, rfl, ⟨hp.out, srt_congr HU.out hf.out⟩, hOk.out, hbk.out⟩
end Go.Proofs.Ytjoeeaagjcpdpaa
