/- Contracts of package tree, part S: Better, and the document's own. -/
import Derived.Test.YtelfbkfmngjheaaDoorTreB
import Derived.Test.YtelfbkfmngjheaaDoorTreA
import Derived.Test.YtelfbkfmngjheaaDoorMeas
namespace Go.Proofs.YtelfbkfmngjheaaDoor
open Go.RowKit Go.Sort TreF
attribute [local go_sem ↓] loadAt_tre storeAt_tre loadAt_ent storeAt_ent

namespace TreF
def pickE (a b : Ent) : Ent := if b.1 < a.1 then b else a
def betterT (a b : Tr) : Tr := List.zipWith pickE a b
/-- The first k picked. -/
def mixT (a b : Tr) (k : Nat) : Tr := (betterT a b).take k ++ a.drop k
theorem better_length {a b : Tr} (ha : a.length = 16) (hb : b.length = 16) : (betterT a b).length = 16 := by simp [betterT, ha, hb]
theorem better_at {a b : Tr} {k : Nat} {x y : Ent} (hx : a[k]? = some x) (hy : b[k]? = some y) : (betterT a b)[k]? = some (pickE x y) := by simp [betterT, List.getElem?_zipWith, hx, hy]
theorem Tre.better {a b : Tr} (ha : Tre a) (hb : Tre b) : Tre (betterT a b) := by
  refine ⟨better_length ha.1 hb.1, fun e he => ?_⟩
  obtain ⟨k, hk⟩ := List.getElem?_of_mem he
  have hlt : k < 16 := by
    have := (List.getElem?_eq_some_iff.1 hk).1
    rw [better_length ha.1 hb.1] at this
    exact this
  obtain ⟨x, hx, ox⟩ := ha.at hlt
  obtain ⟨y, hy, oy⟩ := hb.at hlt
  rw [better_at hx hy] at hk
  cases hk
  unfold pickE
  split
  · exact oy
  · exact ox
theorem mix_zero (a b : Tr) : mixT a b 0 = a := by simp [mixT]
theorem mix_all {a b : Tr} (ha : a.length = 16) (hb : b.length = 16) : mixT a b 16 = betterT a b := by
  unfold mixT
  rw [List.take_of_length_le (by rw [better_length ha hb]; exact Nat.le_refl _), List.drop_eq_nil_of_le (by omega), List.append_nil]
theorem mix_length {a b : Tr} (ha : a.length = 16) (hb : b.length = 16) {k : Nat} (hk : k ≤ 16) : (mixT a b k).length = 16 := by
  simp [mixT, better_length ha hb, ha]; omega
theorem mix_at {a b : Tr} (ha : a.length = 16) (hb : b.length = 16) {k : Nat} (hk : k < 16) : (mixT a b k)[k]? = a[k]? := by
  have hl : ((betterT a b).take k).length = k := by simp [better_length ha hb]; omega
  unfold mixT
  rw [List.getElem?_append_right (by omega), hl, Nat.sub_self, List.getElem?_drop, Nat.add_zero]
theorem mix_set {a b : Tr} (ha : a.length = 16) (hb : b.length = 16) {k : Nat} (hk : k < 16) {x y : Ent} (hx : a[k]? = some x) (hy : b[k]? = some y) : (mixT a b k).set k (pickE x y) = mixT a b (k + 1) := by
  have hl : ((betterT a b).take k).length = k := by simp [better_length ha hb]; omega
  have hdrop : a.drop k = x :: a.drop (k + 1) := by
    have hlt := (List.getElem?_eq_some_iff.1 hx).1
    rw [List.drop_eq_getElem_cons hlt, (List.getElem?_eq_some_iff.1 hx).2]
  unfold mixT
  rw [hdrop, List.set_append, if_neg (by omega), hl, Nat.sub_self, List.set_cons_zero, List.take_add_one, better_at hx hy]
  simp
theorem mix_no {a b : Tr} (ha : a.length = 16) (hb : b.length = 16) {k : Nat} (hk : k < 16) {x y : Ent} (hx : a[k]? = some x) (hy : b[k]? = some y) (h : ¬ y.1 < x.1) : mixT a b (k + 1) = mixT a b k := by
  rw [← mix_set ha hb hk hx hy, show pickE x y = x from if_neg h]
  apply List.ext_getElem?
  intro i
  rw [List.getElem?_set]
  by_cases hi : k = i
  · subst hi
    rw [if_pos rfl, if_pos (by rw [mix_length ha hb (by omega)]; omega), mix_at ha hb hk, hx]
  · rw [if_neg hi]
theorem Tre.mix {a b : Tr} (ha : Tre a) (hb : Tre b) : ∀ k, k ≤ 16 → Tre (mixT a b k)
  | 0, _ => by rw [mix_zero]; exact ha
  | k + 1, hk => by
    obtain ⟨x, hx, ox⟩ := ha.at (show k < 16 by omega)
    obtain ⟨y, hy, oy⟩ := hb.at (show k < 16 by omega)
    rw [← mix_set ha.1 hb.1 (by omega) hx hy]
    refine (Tre.mix ha hb k (by omega)).set k ?_
    unfold pickE
    split
    · exact oy
    · exact ox
end TreF

theorem three_new (w : World) (a b : Tr) :
    Blk (((w.alloc (.cells (treC a).toArray 26)).alloc (.cells (treC b).toArray 26)).alloc (.cells #[.int .u32 0, .int .i64 0, .int .u32 0, .int .i64 0, .int .u32 0, .int .i64 0, .int .u32 0, .int .i64 0, .int .u32 0, .int .i64 0, .int .u32 0, .int .i64 0, .int .u32 0, .int .i64 0, .int .u32 0, .int .i64 0, .int .u32 0, .int .i64 0, .int .u32 0, .int .i64 0, .int .u32 0, .int .i64 0, .int .u32 0, .int .i64 0, .int .u32 0, .int .i64 0, .int .u32 0, .int .i64 0, .int .u32 0, .int .i64 0, .int .u32 0, .int .i64 0] 26)) w.heap.size (treC (mixT a b 0)) ∧
    Blk (((w.alloc (.cells (treC a).toArray 26)).alloc (.cells (treC b).toArray 26)).alloc (.cells #[.int .u32 0, .int .i64 0, .int .u32 0, .int .i64 0, .int .u32 0, .int .i64 0, .int .u32 0, .int .i64 0, .int .u32 0, .int .i64 0, .int .u32 0, .int .i64 0, .int .u32 0, .int .i64 0, .int .u32 0, .int .i64 0, .int .u32 0, .int .i64 0, .int .u32 0, .int .i64 0, .int .u32 0, .int .i64 0, .int .u32 0, .int .i64 0, .int .u32 0, .int .i64 0, .int .u32 0, .int .i64 0, .int .u32 0, .int .i64 0, .int .u32 0, .int .i64 0] 26)) (w.heap.size + 1) (treC b) ∧
    Blk (((w.alloc (.cells (treC a).toArray 26)).alloc (.cells (treC b).toArray 26)).alloc (.cells #[.int .u32 0, .int .i64 0, .int .u32 0, .int .i64 0, .int .u32 0, .int .i64 0, .int .u32 0, .int .i64 0, .int .u32 0, .int .i64 0, .int .u32 0, .int .i64 0, .int .u32 0, .int .i64 0, .int .u32 0, .int .i64 0, .int .u32 0, .int .i64 0, .int .u32 0, .int .i64 0, .int .u32 0, .int .i64 0, .int .u32 0, .int .i64 0, .int .u32 0, .int .i64 0, .int .u32 0, .int .i64 0, .int .u32 0, .int .i64 0, .int .u32 0, .int .i64 0] 26)) (w.heap.size + 1 + 1) (treC zero16) ∧
    Below w.heap.size w (((w.alloc (.cells (treC a).toArray 26)).alloc (.cells (treC b).toArray 26)).alloc (.cells #[.int .u32 0, .int .i64 0, .int .u32 0, .int .i64 0, .int .u32 0, .int .i64 0, .int .u32 0, .int .i64 0, .int .u32 0, .int .i64 0, .int .u32 0, .int .i64 0, .int .u32 0, .int .i64 0, .int .u32 0, .int .i64 0, .int .u32 0, .int .i64 0, .int .u32 0, .int .i64 0, .int .u32 0, .int .i64 0, .int .u32 0, .int .i64 0, .int .u32 0, .int .i64 0, .int .u32 0, .int .i64 0, .int .u32 0, .int .i64 0, .int .u32 0, .int .i64 0] 26)) :=
  ⟨by rw [mix_zero]; exact ((Blk.new w (treC a) _).next _).next _, (Blk.newAt (by simp only [World.size_alloc]) (treC b) _).next _, tzero_newAt (by simp only [World.size_alloc]),
    (((Below.refl _ w).alloc (Nat.le_refl _) _).alloc (by simp only [World.size_alloc]; omega) _).alloc (by simp only [World.size_alloc]; omega) _⟩

set_option maxRecDepth 100000 in
theorem better_any (a b : Tr) (ha : Tre a) (hb : Tre b) : Gives Tryd.prog 22 #[.agg (treC a).toArray, .agg (treC b).toArray] (.agg (treC (betterT a b)).toArray) := fun w => by
  have HA := Lib.hid ha
  have HB2 := Lib.hid hb
  have HM := Lib.hid (Tre.mix ha hb)
  clear ha hb
  go_enter Tryd.func22, Tryd.ntmps22
  go_upto_region 1 with fail
  obtain ⟨B0, B1, B2, BB⟩ := three_new w a b
  obtain ⟨w1, hw1⟩ : ∃ v, (((w.alloc (.cells (treC a).toArray 26)).alloc (.cells (treC b).toArray 26)).alloc (.cells #[.int .u32 0, .int .i64 0, .int .u32 0, .int .i64 0, .int .u32 0, .int .i64 0, .int .u32 0, .int .i64 0, .int .u32 0, .int .i64 0, .int .u32 0, .int .i64 0, .int .u32 0, .int .i64 0, .int .u32 0, .int .i64 0, .int .u32 0, .int .i64 0, .int .u32 0, .int .i64 0, .int .u32 0, .int .i64 0, .int .u32 0, .int .i64 0, .int .u32 0, .int .i64 0, .int .u32 0, .int .i64 0, .int .u32 0, .int .i64 0, .int .u32 0, .int .i64 0] 26)) = v := ⟨_, rfl⟩
  rw [hw1] at B0 B1 B2 BB ⊢
  clear hw1
  have K0 := Lib.hid B0
  have K1 := Lib.hid B1
  have K2 := Lib.hid B2
  have KB := Lib.hid BB
  clear B0 B1 B2 BB
  have l1 := tre_load K1.out HB2.out
  go_wp2_with fail
  clear l1
  go_loopw [8] (fun v wr => ∃ k : Nat, v = .int .i64 (k : Int) ∧ k ≤ 16 ∧ Blk wr w.heap.size (treC (mixT a b k)) ∧ Blk wr (w.heap.size + 1) (treC b) ∧ Blk wr (w.heap.size + 1 + 1) (treC zero16) ∧ Below w.heap.size w wr) (fun v _ => (16 - intOf v).toNat)
  case atStart => exact ⟨0, rfl, Nat.zero_le _, K0.out, K1.out, K2.out, KB.out⟩
  case round =>
    obtain ⟨k, rfl, hk, k0, k1, k2, kb⟩ := hrel
    have K0 := Lib.hid k0
    have K1 := Lib.hid k1
    have K2 := Lib.hid k2
    have KB := Lib.hid kb
    clear k0 k1 k2 kb
    by_cases hkn : k < 16
    · obtain ⟨⟨c, p⟩, hx, _⟩ := HA.out.at hkn
      obtain ⟨⟨d, q⟩, hy, _⟩ := HB2.out.at hkn
      have hmx : (mixT a b k)[k]? = some (c, p) := by rw [mix_at HA.out.1 HB2.out.1 hkn, hx]
      have n0 : (0 : Int) ≤ (k : Int) := by omega
      have n1 : (k : Int) < 16 := by omega
      have HK := Lib.hid hkn
      have HX := Lib.hid hx
      have HY := Lib.hid hy
      have HMX := Lib.hid hmx
      obtain ⟨t, ht⟩ : ∃ t, decide ((d : Int) < (c : Int)) = t := ⟨_, rfl⟩
      have hlt : Hid (decide (d < c) = t) := Lib.hid (by rw [← ht]; exact decide_eq_decide.2 (by omega))
      have ht2 := hlt.out
      clear hk hx hy hmx hkn
      have hix := ent_index (w := wr) HY.out HK.out
      have hst := new_ent (w := wr) (d := (d : Int)) (p := q) rfl
      go_upto_region 4 with fail
      clear hst hix
      have E1 := Lib.hid (Blk.new wr [.int .u32 (d : Int), .int .i64 q] 24)
      have K0' := Lib.hid (K0.out.next (.cells #[.int .u32 (d : Int), .int .i64 q] 24))
      have K1' := Lib.hid (K1.out.next (.cells #[.int .u32 (d : Int), .int .i64 q] 24))
      have K2' := Lib.hid (K2.out.next (.cells #[.int .u32 (d : Int), .int .i64 q] 24))
      have KB' := Lib.hid (KB.out.alloc KB.out.size (.cells #[.int .u32 (d : Int), .int .i64 q] 24))
      obtain ⟨w2, hw2⟩ : ∃ v, wr.alloc (.cells #[.int .u32 (d : Int), .int .i64 q] 24) = v := ⟨_, rfl⟩
      rw [hw2] at E1 K0' K1' K2' KB' ⊢
      obtain ⟨g, hg⟩ : ∃ g, wr.heap.size = g := ⟨_, rfl⟩
      rw [hg] at E1 ⊢
      clear hw2 hg K0 K1 K2 KB
      have c0 := cell_regrown (E1.out.cell 0 rfl)
      have c1 := cell_regrown (K0'.out.cell (k * 2) (treC_dist HMX.out))
      refine wp_region_quiet_below (by kernel_rfl) (by kernel_rfl) ?_
      repeat (first | go_big_quiet_step (fail) | quiet_step (fail))
      refine wpQuiet_nil ?_
      intro _ hw'
      obtain ⟨⟨dq, osq⟩, hw''⟩ := hw'
      subst hw''
      clear c0 c1
      have hbb := below_regrown w2 dq osq
      have E1' := Lib.hid (E1.out.on hbb)
      have K0 := Lib.hid (K0'.out.on hbb)
      have K1 := Lib.hid (K1'.out.on hbb)
      have K2 := Lib.hid (K2'.out.on hbb)
      have KB := Lib.hid (bel_on KB'.out hbb)
      clear hbb E1 K0' K1' K2' KB'
      obtain ⟨wn, hwn⟩ : ∃ v, grow (redrawn w2 dq) osq = v := ⟨_, rfl⟩
      rw [hwn] at E1' K0 K1 K2 KB ⊢
      clear hwn
      cases t with
      | true =>
        have HS : Hid ((mixT a b k).set k (d, q) = mixT a b (k + 1)) := Lib.hid (by
          have h := mix_set HA.out.1 HB2.out.1 HK.out HX.out HY.out
          rw [show pickE (c, p) (d, q) = (d, q) from if_pos (of_decide_eq_true hlt.out)] at h
          exact h)
        have l6 := one_load E1'.out
        have s0 := ent_store (t := mixT a b k) (j := k) (d := d) (p := q) K0.out (by have := (HM.out k (by have := HK.out; omega)).1; have := HK.out; omega)
        rw [HS.out] at s0
        have C0 := Lib.hid (ent_put K0.out k d q)
        rw [HS.out] at C0
        have C1 := Lib.hid (K1.out.beside w.heap.size (by omega) (treC (mixT a b (k + 1))).toArray)
        have C2 := Lib.hid (K2.out.beside w.heap.size (by omega) (treC (mixT a b (k + 1))).toArray)
        have CB := Lib.hid (below_setRow KB.out (Nat.le_refl _) (treC (mixT a b (k + 1))).toArray)
        clear ht ht2
        go_upto_region 6 with fail
        clear s0 K0 K1 K2 KB
        obtain ⟨w3, hw3⟩ : ∃ v, (wn).setRow w.heap.size (treC (mixT a b (k + 1))).toArray = v := ⟨_, rfl⟩
        rw [hw3] at C0 C1 C2 CB ⊢
        clear hw3
        go_wp2_with fail
        go_roundw
        case rel => exact ⟨k + 1, by go_num, HK.out, C0.out, C1.out, C2.out, CB.out⟩
        case measure => exact meas_up 16 k _ rfl HK.out
      | false =>
        have HS := Lib.hid (mix_no HA.out.1 HB2.out.1 HK.out HX.out HY.out (of_decide_eq_false hlt.out))
        clear ht ht2
        go_wp2_with fail
        go_roundw
        case rel => exact ⟨k + 1, by go_num, HK.out, by rw [HS.out]; exact K0.out, K1.out, K2.out, KB.out⟩
        case measure => exact meas_up 16 k _ rfl HK.out
    · obtain rfl : k = 16 := by omega
      rw [mix_all HA.out.1 HB2.out.1] at K0
      have HD := Lib.hid (Tre.better HA.out HB2.out)
      clear hk hkn
      have l0 := tre_load K0.out HD.out
      have s0 := tre_store K2.out Tre.zero HD.out
      have hv := tre_var (K2.out.put (treC (betterT a b))) HD.out
      have HB := below_setRow KB.out (show w.heap.size ≤ w.heap.size + 1 + 1 by omega) (treC (betterT a b)).toArray
      go_wp2_with fail
      exact bodyPost_ret (v := .agg (treC (betterT a b)).toArray) (by simp [results, Tryd.results22, asAddr, hv]) rfl ⟨rfl, HB⟩

set_option maxRecDepth 100000 in
theorem rbetter_any (a b : Tr) (ha : Tre a) (hb : Tre b) : Gives Tryd.prog 23 #[.agg (treC a).toArray, .agg (treC b).toArray] (.agg (treC (betterT a b)).toArray) := fun w => by
  have HA := Lib.hid ha
  have HB2 := Lib.hid hb
  have HM := Lib.hid (Tre.mix ha hb)
  clear ha hb
  go_enter Tryd.func23, Tryd.ntmps23
  go_upto_region 1 with fail
  obtain ⟨B0, B1, B2, BB⟩ := three_new w a b
  obtain ⟨w1, hw1⟩ : ∃ v, (((w.alloc (.cells (treC a).toArray 26)).alloc (.cells (treC b).toArray 26)).alloc (.cells #[.int .u32 0, .int .i64 0, .int .u32 0, .int .i64 0, .int .u32 0, .int .i64 0, .int .u32 0, .int .i64 0, .int .u32 0, .int .i64 0, .int .u32 0, .int .i64 0, .int .u32 0, .int .i64 0, .int .u32 0, .int .i64 0, .int .u32 0, .int .i64 0, .int .u32 0, .int .i64 0, .int .u32 0, .int .i64 0, .int .u32 0, .int .i64 0, .int .u32 0, .int .i64 0, .int .u32 0, .int .i64 0, .int .u32 0, .int .i64 0, .int .u32 0, .int .i64 0] 26)) = v := ⟨_, rfl⟩
  rw [hw1] at B0 B1 B2 BB ⊢
  clear hw1
  have K0 := Lib.hid B0
  have K1 := Lib.hid B1
  have K2 := Lib.hid B2
  have KB := Lib.hid BB
  clear B0 B1 B2 BB
  go_wp2_with fail
  go_loopw [6] (fun v wr => ∃ k : Nat, v = .int .i64 (k : Int) ∧ k ≤ 16 ∧ Blk wr w.heap.size (treC (mixT a b k)) ∧ Blk wr (w.heap.size + 1) (treC b) ∧ Blk wr (w.heap.size + 1 + 1) (treC zero16) ∧ Below w.heap.size w wr) (fun v _ => (16 - intOf v).toNat)
  case atStart => exact ⟨0, rfl, Nat.zero_le _, K0.out, K1.out, K2.out, KB.out⟩
  case round =>
    obtain ⟨k, rfl, hk, k0, k1, k2, kb⟩ := hrel
    have K0 := Lib.hid k0
    have K1 := Lib.hid k1
    have K2 := Lib.hid k2
    have KB := Lib.hid kb
    clear k0 k1 k2 kb
    by_cases hkn : k < 16
    · obtain ⟨⟨c, p⟩, hx, _⟩ := HA.out.at hkn
      obtain ⟨⟨d, q⟩, hy, _⟩ := HB2.out.at hkn
      have hmx : (mixT a b k)[k]? = some (c, p) := by rw [mix_at HA.out.1 HB2.out.1 hkn, hx]
      have n0 : (0 : Int) ≤ (k : Int) := by omega
      have n1 : (k : Int) < 16 := by omega
      have HK := Lib.hid hkn
      have HX := Lib.hid hx
      have HY := Lib.hid hy
      have HMX := Lib.hid hmx
      obtain ⟨t, ht⟩ : ∃ t, decide ((d : Int) < (c : Int)) = t := ⟨_, rfl⟩
      have hlt : Hid (decide (d < c) = t) := Lib.hid (by rw [← ht]; exact decide_eq_decide.2 (by omega))
      have ht2 := hlt.out
      clear hk hx hy hmx hkn
      go_upto_region 4 with fail
      have c0 := cell_regrown (K1.out.cell (k * 2) (treC_dist HY.out))
      have c1 := cell_regrown (K0.out.cell (k * 2) (treC_dist HMX.out))
      refine wp_region_quiet_below (by kernel_rfl) (by kernel_rfl) ?_
      repeat (first | go_big_quiet_step (fail) | quiet_step (fail))
      refine wpQuiet_nil ?_
      intro _ hw'
      obtain ⟨⟨dq, osq⟩, hw''⟩ := hw'
      subst hw''
      clear c0 c1
      have hbb := below_regrown wr dq osq
      have K0' := Lib.hid (K0.out.on hbb)
      have K1' := Lib.hid (K1.out.on hbb)
      have K2' := Lib.hid (K2.out.on hbb)
      have KB' := Lib.hid (bel_on KB.out hbb)
      clear hbb K0 K1 K2 KB
      obtain ⟨wn, hwn⟩ : ∃ v, grow (redrawn wr dq) osq = v := ⟨_, rfl⟩
      rw [hwn] at K0' K1' K2' KB' ⊢
      clear hwn
      have K0 := K0'
      have K1 := K1'
      have K2 := K2'
      have KB := KB'
      clear K0' K1' K2' KB'
      cases t with
      | true =>
        have HS : Hid ((mixT a b k).set k (d, q) = mixT a b (k + 1)) := Lib.hid (by
          have h := mix_set HA.out.1 HB2.out.1 HK.out HX.out HY.out
          rw [show pickE (c, p) (d, q) = (d, q) from if_pos (of_decide_eq_true hlt.out)] at h
          exact h)
        have l6 := ent_load K1.out HY.out
        have s0 := ent_store (t := mixT a b k) (j := k) (d := d) (p := q) K0.out (by have := (HM.out k (by have := HK.out; omega)).1; have := HK.out; omega)
        rw [HS.out] at s0
        have C0 := Lib.hid (ent_put K0.out k d q)
        rw [HS.out] at C0
        have C1 := Lib.hid (K1.out.beside w.heap.size (by omega) (treC (mixT a b (k + 1))).toArray)
        have C2 := Lib.hid (K2.out.beside w.heap.size (by omega) (treC (mixT a b (k + 1))).toArray)
        have CB := Lib.hid (below_setRow KB.out (Nat.le_refl _) (treC (mixT a b (k + 1))).toArray)
        clear ht ht2
        go_upto_region 6 with fail
        clear s0 K0 K1 K2 KB
        obtain ⟨w3, hw3⟩ : ∃ v, (wn).setRow w.heap.size (treC (mixT a b (k + 1))).toArray = v := ⟨_, rfl⟩
        rw [hw3] at C0 C1 C2 CB ⊢
        clear hw3
        go_wp2_with fail
        go_roundw
        case rel => exact ⟨k + 1, by go_num, HK.out, C0.out, C1.out, C2.out, CB.out⟩
        case measure => exact meas_up 16 k _ rfl HK.out
      | false =>
        have HS := Lib.hid (mix_no HA.out.1 HB2.out.1 HK.out HX.out HY.out (of_decide_eq_false hlt.out))
        clear ht ht2
        go_wp2_with fail
        go_roundw
        case rel => exact ⟨k + 1, by go_num, HK.out, by rw [HS.out]; exact K0.out, K1.out, K2.out, KB.out⟩
        case measure => exact meas_up 16 k _ rfl HK.out
    · obtain rfl : k = 16 := by omega
      rw [mix_all HA.out.1 HB2.out.1] at K0
      have HD := Lib.hid (Tre.better HA.out HB2.out)
      clear hk hkn
      have l0 := tre_load K0.out HD.out
      have s0 := tre_store K2.out Tre.zero HD.out
      have hv := tre_var (K2.out.put (treC (betterT a b))) HD.out
      have HB := below_setRow KB.out (show w.heap.size ≤ w.heap.size + 1 + 1 by omega) (treC (betterT a b)).toArray
      go_wp2_with fail
      exact bodyPost_ret (v := .agg (treC (betterT a b)).toArray) (by simp [results, Tryd.results23, asAddr, hv]) rfl ⟨rfl, HB⟩
end Go.Proofs.YtelfbkfmngjheaaDoor
