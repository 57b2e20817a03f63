/- Contracts of package timer, part D: slices.Grow of nothing, slices.Clone, slices.Concat, of timers. -/
import Derived.Test.YtpfgbdcnfmlkcaaTimC
import Derived.Lib.AppendZeros
namespace Go.Proofs.Ytpfgbdcnfmlkcaa
open Go.RowKit Go.Sort

theorem tneg_dec (n : Nat) : decide ((n : Int) < 0) = false := decide_eq_false (by omega)

set_option maxHeartbeats 1000000 in
theorem tgrow_any (n : Nat) (w : World) (hn : n ≤ 10000000) :
    Calls Try.prog 28 #[.slice none 0 0, .int .i64 (n : Int)] w (alS.Got [] w) := by
  obtain ⟨i0, hi, hz0, hz1, hz2⟩ := info_parts alarm_info
  have d0 := tneg_dec n
  have e1 : wrap64 (n : Int) = (n : Int) := IntWalk.wrap64_in _ (by omega)
  by_cases h : n = 0
  · subst h
    go_enter Try.func28, Try.ntmps28
    go_wp2
    go_ret
    exact ⟨_, rfl, Shp.Own.none_ _ _, Below.refl _ _⟩
  · have d1 : decide ((0 : Int) < (n : Int)) = true := decide_eq_true (by omega)
    have d2 : decide (0 < n) = true := decide_eq_true (by omega)
    have hrz := fun (w : World) => Lib.run_append_nil_zeros (P := Try.prog) w 25 3 25 23 i0 (.agg #[.int .i64 0, .int .i64 0, .int .i64 0] : Value) .i64 .i64 Try.underlying25 Try.underlying3 hi hz0 n (by omega) (by rw [hz1]; decide) (by omega) (by rw [hz2]; omega)
    have HR := Lib.hid hrz
    obtain ⟨k, hk⟩ : ∃ k, grownCap w n 0 23 = k := ⟨_, rfl⟩
    have hk1 := grownCap_ge w n 0 23
    have hk2 := grownCap_le_maxLen w n 0 23 (by unfold maxLen; omega)
    have HRW := hrz w
    rw [hk] at HRW hk1 hk2
    have HW := Lib.hid HRW
    have hown : (w.drew.alloc (.cells (Builtin.zeroCells (Value.cells (.agg #[.int .i64 0, .int .i64 0, .int .i64 0] : Value)) n ++ Builtin.zeroCells (Value.cells (.agg #[.int .i64 0, .int .i64 0, .int .i64 0] : Value)) (k - n)) 23)).ownsRow w.heap.size 23 3 (.slice (some ⟨w.heap.size, 0, none⟩) 0 k) 0 [] :=
      World.ownsRow_made w.drew _ k (Nat.le_refl _) hk2 (by simp only [Array.size_append, size_zeroCells]; show n * 3 + (k - n) * 3 = k * 3; omega)
    have HO := Lib.hid hown
    have HB : Hid (Below w.heap.size w (w.drew.alloc (.cells (Builtin.zeroCells (Value.cells (.agg #[.int .i64 0, .int .i64 0, .int .i64 0] : Value)) n ++ Builtin.zeroCells (Value.cells (.agg #[.int .i64 0, .int .i64 0, .int .i64 0] : Value)) (k - n)) 23))) := Lib.hid ((Below.refl _ _).drew.alloc (Nat.le_refl _) _)
    clear hrz HRW hown hk h HR hk1
    go_enter Try.func28, Try.ntmps28
    go_wp2_with (at_builtin; refine Lib.wpList_append_run _ rfl _ _ _ _ rfl _ _ rfl rfl _ _ HW.out ?_)
    go_ret
    exact ⟨_, rfl, HO.out, HB.out⟩

theorem tnil_eql (w : World) (a : Option Addr) (n c n' c' : Nat) : (binOp .eql 25 (.slice a n c) (.slice none n' c')).run Try.prog w = .ok (.bool a.isNone) w := Lib.run_eql_slice_nil w _ _ a n c n' c' Try.underlying25

set_option maxHeartbeats 400000 in
theorem tclone_any (a : Option Addr) (n c : Nat) (L : List Alm) (w : World) (h : alS.At w a n c L) (hn : n ≤ 1000000) :
    Calls Try.prog 17 #[.slice a n c] w (alS.Got L w) := by
  have q := tnil_eql
  have H := Lib.hid h
  cases a with
  | none =>
    have h0 := h.2.2.2.1 rfl
    have h1 := h.2.1
    obtain rfl : n = 0 := by omega
    subst h0
    obtain rfl := List.eq_nil_of_length_eq_zero h.1
    clear h h1 hn
    go_enter Try.func17, Try.ntmps17
    go_wp2
    go_ret
    exact ⟨_, rfl, Shp.Own.none_ _ _, Below.refl _ _⟩
  | some b =>
    have HO : Hid (alS.Own (w.alloc (.cells #[] 23)) w.heap.size (.slice (some ⟨w.heap.size, 0, none⟩) 0 0) []) := Lib.hid (World.ownsRow_made w #[] 0 (Nat.le_refl _) (Nat.zero_le _) rfl)
    clear h
    go_enter Try.func17, Try.ntmps17
    go_wp2_with (at_builtin; go_must (refine rec_app (S := alS) rfl _ _ 25 rfl rfl w.heap.size _ [] L (some b) n c rfl rfl HO.out (H.out.next _) (by simp; omega) (by simp only [World.size_alloc]; omega) ?_); intro v' w1 hown hgrow _)
    go_wp2
    go_ret
    exact ⟨_, rfl, hown, ((Below.refl _ w).alloc (Nat.le_refl _) _).grown hgrow (by simp) (fun k hk => by have e : some w.heap.size = some k := hk; cases e; exact Nat.le_refl _)⟩

/-- A slice of timers among others. -/
structure Sl where
  a : Option Addr
  n : Nat
  c : Nat
  L : List Alm
def Sl.val (s : Sl) : Value := .slice s.a s.n s.c
def Sl.all (R : List Sl) : List Alm := (R.map Sl.L).flatten
theorem all_snoc {R : List Sl} {i : Nat} {s : Sl} (h : R[i]? = some s) : Sl.all (R.take (i + 1)) = Sl.all (R.take i) ++ s.L := by
  unfold Sl.all
  rw [take_snoc h]; simp
theorem all_le (R : List Sl) (i : Nat) : (Sl.all (R.take i)).length ≤ (Sl.all R).length := by
  have e : Sl.all R = Sl.all (R.take i) ++ Sl.all (R.drop i) := by
    unfold Sl.all
    rw [← List.flatten_append, ← List.map_append, List.take_append_drop]
  rw [e, List.length_append]; omega

set_option maxHeartbeats 2000000 in
theorem tconcat_any (g m : Nat) (R : List Sl) (w : World) (hk : Blk w g (R.map Sl.val)) (hm : R.length = m) (hR : ∀ s ∈ R, alS.At w s.a s.n s.c s.L) (hz : (Sl.all R).length ≤ 1000000) (hm2 : m ≤ 1000) :
    Calls Try.prog 19 #[.slice (some ⟨g, 0, none⟩) m m] w (alS.Got (Sl.all R) w) := by
  have HK := Lib.hid hk
  have HM := Lib.hid hm
  have HR := Lib.hid hR
  have HZ := Lib.hid hz
  clear hk hm hR hz
  go_enter Try.func19, Try.ntmps19
  go_upto_region 3 with fail
  go_loopw [3, 11] (fun s v wr => ∃ i T : Nat, i ≤ m ∧ v = .int .i64 (i : Int) ∧ s = .int .i64 (T : Int) ∧ Hid ((Sl.all (R.take i)).length = T) ∧ w = wr) (fun _ v _ => (m - intOf v).toNat)
  case atStart => exact ⟨0, 0, Nat.zero_le _, rfl, rfl, Lib.hid rfl, rfl⟩
  case round =>
    obtain ⟨i, T, hi, rfl, rfl, HT, rfl⟩ := hrel
    by_cases him : i < m
    · obtain ⟨s, hs⟩ : ∃ s, R[i]? = some s := ⟨_, List.getElem?_eq_getElem (by have := HM.out; omega)⟩
      have HA := HR.out s (List.mem_of_getElem? hs)
      have hl := all_le R (i + 1)
      have e := all_snoc hs
      obtain ⟨a, n, c, L⟩ := s
      have c0 : w.cell? ⟨g, i, none⟩ = some (.slice a n c) := HK.out.cell i (by rw [List.getElem?_map, hs]; rfl)
      obtain ⟨T2, hT2⟩ : ∃ T2, T + n = T2 := ⟨_, rfl⟩
      have e2 := congrArg List.length e
      rw [List.length_append, HT.out] at e2
      have e3 : L.length = n := HA.1
      have HT2 : Hid ((Sl.all (R.take (i + 1))).length = T2) := Lib.hid (by rw [e2]; show T + L.length = T2; omega)
      have hb : T2 ≤ 1000000 := by have := HT2.out; have := HZ.out; omega
      have es : (T : Int) + (n : Int) = (T2 : Int) := by omega
      have ew : wrap64 (T2 : Int) = (T2 : Int) := IntWalk.wrap64_in _ (by omega)
      have dn := tneg_dec T2
      have him' : (i : Int) < (m : Int) := by omega
      have hi0 : (0 : Int) ≤ (i : Int) := by omega
      have HI : Hid (i < m) := Lib.hid him
      have e1 : wrap64 ((i : Int) + 1) = (i : Int) + 1 := IntWalk.wrap64_in _ (by omega)
      clear hs HA hl e hT2 e2 e3 him hi hb
      go_wp2_with fail
      go_roundw
      case rel => exact ⟨i + 1, T2, HI.out, by go_num, by rw [ew], HT2, trivial⟩
      case measure => exact tim_meas m i HI.out _ rfl
    · obtain rfl : i = m := by omega
      have hT : T ≤ 1000000 := by
        have := HT.out
        have := all_le R i
        have := HZ.out
        omega
      have GR := Lib.hid (tgrow_any T w (by omega))
      clear hT
      go_wp2_with fail
      refine (GR.out).mono ?_
      rintro e w1 ⟨z0, rfl, hown, hb⟩
      have HO := Lib.hid hown
      have HB := Lib.hid hb
      clear hown hb
      go_upto_region 11 with fail
      go_loopw [6, 27] (fun u v wr => ∃ (j : Nat) (z : Value), z = u ∧ j ≤ i ∧ v = .int .i64 (j : Int) ∧ alS.Own wr w.heap.size z (Sl.all (R.take j)) ∧ Below w.heap.size w wr) (fun _ v _ => (i - intOf v).toNat)
      case atStart => exact ⟨0, _, rfl, Nat.zero_le _, rfl, HO.out, HB.out⟩
      case round =>
        obtain ⟨j, z, rfl, hj, rfl, ho, hbr⟩ := hrel
        have HO2 := Lib.hid ho
        have HH := Lib.hid hbr
        clear ho hbr HO HB
        by_cases hji : j < i
        · obtain ⟨s, hs⟩ : ∃ s, R[j]? = some s := ⟨_, List.getElem?_eq_getElem (by have := HM.out; omega)⟩
          have HA := Lib.hid ((HR.out s (List.mem_of_getElem? hs)).on HH.out)
          have HE := Lib.hid (all_snoc hs)
          have HL := Lib.hid (all_le R (j + 1))
          obtain ⟨a, n, c, L⟩ := s
          have c0 : wr.cell? ⟨g, j, none⟩ = some (.slice a n c) := (HK.out.on HH.out).cell j (by rw [List.getElem?_map, hs]; rfl)
          have hji' : (j : Int) < (i : Int) := by omega
          have hj0 : (0 : Int) ≤ (j : Int) := by omega
          have HI : Hid (j < i) := Lib.hid hji
          have e1 : wrap64 ((j : Int) + 1) = (j : Int) + 1 := IntWalk.wrap64_in _ (by omega)
          clear hs hji hj
          go_wp2_with (at_builtin; go_must (refine rec_app (S := alS) rfl (.tmp 31) (.tmp 32) 25 rfl rfl w.heap.size z (Sl.all (R.take j)) L a n c rfl rfl HO2.out HA.out (by have h1 := HL.out; rw [HE.out, List.length_append] at h1; have h2 := HA.out.1; have h3 := HZ.out; dsimp only at h1 h2; omega) HH.out.size ?_); intro v2 w2 hown2 hg _)
          have HO3 := Lib.hid hown2
          have HH3 := Lib.hid (HH.out.grown hg HH.out.size (fun k hk => (HO2.out.lt k hk).1))
          clear hown2 hg c0
          go_roundw
          case rel => exact ⟨j + 1, _, rfl, HI.out, by go_num, by rw [HE.out]; exact HO3.out, HH3.out⟩
          case measure => exact tim_meas i j HI.out _ rfl
        · obtain rfl : j = i := by omega
          go_wp2_with fail
          go_ret
          refine ⟨_, rfl, ?_, HH.out⟩
          have := HO2.out
          rw [← HM.out, List.take_length] at this
          exact this
end Go.Proofs.Ytpfgbdcnfmlkcaa
