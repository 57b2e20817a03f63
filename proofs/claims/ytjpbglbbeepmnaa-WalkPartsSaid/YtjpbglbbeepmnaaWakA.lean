/- Contracts of package walk, part A: reached, and of slices: Index, Contains, Reverse of numbers. -/
import Derived.Test.YtjpbglbbeepmnaaWakG
import Derived.Test.YtjpbglbbeepmnaaTreB
import Derived.Test.YtjpbglbbeepmnaaNatAt
namespace Go.Proofs.Ytjpbglbbeepmnaa
open Go.RowKit Go.Sort TreF WakF
attribute [local go_sem ↓] loadAt_tre storeAt_tre loadAt_ent storeAt_ent

theorem field_dist (d p : Int) (w : World) : (Instr.field 24 (.agg #[.int .u32 d, .int .i64 p]) 0).run Try.prog w = .ok (.int .u32 d) w := by kernel_rfl
theorem field_pred (d p : Int) (w : World) : (Instr.field 24 (.agg #[.int .u32 d, .int .i64 p]) 1).run Try.prog w = .ok (.int .i64 p) w := by kernel_rfl
theorem ok_neq {t : Tr} {n : Int} {b : Bool} (h : okT t n = b) : ((((getT t n).1 : Nat) : Int) != 4294967295) = b := by
  subst h
  unfold okT
  cases hd : decide ((getT t n).1 ≠ farN) with
  | true =>
    have := of_decide_eq_true hd
    simp only [bne_iff_ne]
    intro e
    exact this (by simp only [farN]; omega)
  | false =>
    have := of_decide_eq_false hd
    have e : (getT t n).1 = farN := Classical.byContradiction this
    rw [e]; decide
theorem ok_eqq {t : Tr} {n : Int} {b : Bool} (h : okT t n = b) : ((((getT t n).1 : Nat) : Int) == 4294967295) = !b := by
  have := ok_neq h
  rw [bne, Bool.not_eq_eq_eq_not] at this
  exact this

theorem reached_any (t : Tr) (n : Int) (ht : Tre t) : Gives Try.prog 30 #[.agg (treC t).toArray, .int .i64 n] (.bool (okT t n)) := fun w => by
  have GE := Lib.hid (tget_any t n ht)
  obtain ⟨b, hb⟩ : ∃ b, okT t n = b := ⟨_, rfl⟩
  have hq := ok_neq hb
  rw [hb]
  clear hb
  generalize getT t n = e at GE hq
  obtain ⟨d, p⟩ := e
  have hf := field_dist (d : Int) p
  have HT := Lib.hid ht
  clear ht
  go_enter Try.func30, Try.ntmps30
  go_upto_region 1 with fail
  obtain ⟨B0, BB⟩ := tbox_new w t
  obtain ⟨w1, hw1⟩ : ∃ v, w.alloc (.cells (treC t).toArray 26) = v := ⟨_, rfl⟩
  rw [hw1] at B0 BB ⊢
  clear hw1
  have l0 := tre_load B0 HT.out
  go_wp2_with fail
  refine (GE.out _).mono ?_
  rintro e w2 ⟨rfl, hb⟩
  have HB := Lib.hid (bel_on BB hb)
  clear l0 B0 BB hb
  go_wp2_with fail
  go_ret
  exact ⟨rfl, HB.out⟩

/-- A slice of numbers, read wherever it lies. -/
theorem NatAt.low {w : World} {a : Option Addr} {B B' : Nat} {l : List Nat} (h : NatAt w a B l) (hb : B' ≤ B) : NatAt w a B' l := fun i x hi => by
  obtain ⟨g, cur, h1, h2, h3⟩ := h i x hi
  exact ⟨g, cur, h1, Nat.le_trans hb h2, h3⟩
theorem NatAt.own {w : World} {B c : Nat} {a : Option Addr} {l : List Nat} (h : w.ownsRow B 3 1 (.slice a l.length c) l.length (natV l)) : NatAt w a B l := fun i x hi => by
  have hlt := (List.getElem?_eq_some_iff.1 hi).1
  rcases h.2 with ⟨_, h0⟩ | ⟨g, cap, cur, hg, hB, hc, h1, h2, h3, h4⟩
  · omega
  · simp only [Value.slice.injEq, true_and] at hg
    obtain ⟨rfl, rfl⟩ := hg
    refine ⟨g, cur, rfl, hB, hc, ?_⟩
    have e : (natV l)[i]? = some (.int .i64 (x : Int)) := by simp [natV, hi]
    rw [← h4, List.getElem?_take_of_lt (by omega)] at e
    simpa using e
theorem NatAt.lit {w : World} {g : Nat} {l : List Nat} (h : w.heap[g]? = some (.cells (natV l).toArray 3 (0, 0))) (B : Nat) (hB : B ≤ g) : NatAt w (some ⟨g, 0, none⟩) B l := fun i x hi => by
  refine ⟨g, _, rfl, hB, h, ?_⟩
  simp [natV, hi]
theorem inL_nat (l : List Nat) (n : Nat) : inL l (n : Int) = l.contains n := by
  unfold inL
  rw [Bool.eq_iff_iff]
  simp only [List.any_eq_true, decide_eq_true_eq, List.contains_iff_mem]
  constructor
  · rintro ⟨x, hx, h⟩
    obtain rfl : x = n := by omega
    exact hx
  · intro h; exact ⟨n, h, rfl⟩
theorem inL_true {l : List Nat} {n : Int} (h : inL l n = true) : ∃ k : Nat, n = (k : Int) ∧ k ∈ l := by
  simp only [inL, List.any_eq_true, decide_eq_true_eq] at h
  obtain ⟨x, hx, rfl⟩ := h
  exact ⟨x, rfl, hx⟩
theorem inL_false {l : List Nat} {n : Int} (h : inL l n = false) {k : Nat} (hk : n = (k : Int)) : k ∉ l := fun hm => by
  subst hk
  rw [inL_nat] at h
  simp [hm] at h
theorem inL_take {l : List Nat} {n : Int} {i x : Nat} (h : inL (l.take i) n = false) (hx : l[i]? = some x) (hn : ((x : Int) == n) = false) : inL (l.take (i + 1)) n = false := by
  rw [List.take_add_one, hx]
  unfold inL at *
  rw [List.any_append, h]
  simpa using hn
theorem inL_here {l : List Nat} {n : Int} {i x : Nat} (hx : l[i]? = some x) (hn : ((x : Int) == n) = true) : inL l n = true := by
  simp only [inL, List.any_eq_true, decide_eq_true_eq]
  exact ⟨x, List.mem_of_getElem? hx, by simpa using hn⟩

theorem nindex_any (a : Option Addr) (c : Nat) (l : List Nat) (n : Int) (w : World) (h : NatAt w a 0 l) (hl : l.length ≤ 16) :
    Calls Try.prog 43 #[.slice a l.length c, .int .i64 n] w fun e w' => (∃ i : Int, e = .returned (.int .i64 i) ∧ decide (0 ≤ i) = inL l n) ∧ w = w' := by
  have H := Lib.hid h
  obtain ⟨m, hm⟩ : ∃ m, l.length = m := ⟨_, rfl⟩
  rw [hm] at hl ⊢
  have HM := Lib.hid hm
  clear h hm
  go_enter Try.func43, Try.ntmps43
  go_upto_region 2 with fail
  go_loopw [8] (fun v wr => ∃ k : Nat, k ≤ m ∧ v = .int .i64 (k : Int) ∧ inL (l.take k) n = false ∧ w = wr) (fun v _ => (m - intOf v).toNat)
  case atStart => exact ⟨0, Nat.zero_le _, rfl, rfl, rfl⟩
  case round =>
    obtain ⟨k, hk, rfl, hall, rfl⟩ := hrel
    have HA := Lib.hid hall
    clear hall
    by_cases hkn : k < m
    · obtain ⟨x, hx⟩ : ∃ x, l[k]? = some x := ⟨_, List.getElem?_eq_getElem (by have := HM.out; omega)⟩
      obtain ⟨g, rfl, _, c1⟩ := H.out.read hx
      have HX := Lib.hid hx
      have HK := Lib.hid hkn
      clear hx
      obtain ⟨b, hb⟩ : ∃ b, (n == (x : Int)) = b := ⟨_, rfl⟩
      cases b with
      | true =>
        have HE : Hid (inL l n = true) := Lib.hid (inL_here HX.out (by simp only [beq_iff_eq] at hb ⊢; exact hb.symm))
        go_wp2_with fail
        go_ret
        exact ⟨⟨_, rfl, by rw [HE.out]; exact decide_eq_true (Int.natCast_nonneg k)⟩, rfl⟩
      | false =>
        have HE := Lib.hid (inL_take HA.out HX.out (by simp only [beq_eq_false_iff_ne] at hb ⊢; exact fun e => hb e.symm))
        go_wp2_with fail
        go_roundw
        case rel => exact ⟨k + 1, HK.out, by go_num, HE.out, trivial⟩
        case measure => exact meas_up m k _ rfl HK.out
    · have HE : Hid (inL l n = false) := Lib.hid (by have h1 := HA.out; rwa [List.take_of_length_le (by have := HM.out; omega)] at h1)
      go_wp2_with fail
      go_ret
      exact ⟨⟨-1, rfl, by rw [HE.out]; rfl⟩, rfl⟩
theorem ncontains_any (a : Option Addr) (c : Nat) (l : List Nat) (n : Int) (w : World) (h : NatAt w a 0 l) (hl : l.length ≤ 16) :
    Calls Try.prog 40 #[.slice a l.length c, .int .i64 n] w fun e w' => e = .returned (.bool (inL l n)) ∧ w = w' := by
  have IX := Lib.hid (nindex_any a c l n w h hl)
  clear h
  go_enter Try.func40, Try.ntmps40
  go_wp2_with fail
  refine IX.out.mono ?_
  rintro e w1 ⟨⟨i, rfl, hi⟩, rfl⟩
  go_wp2_with fail
  go_ret
  first | exact ⟨rfl, rfl⟩ | exact ⟨by rw [hi], rfl⟩

/-! Reverse. -/
theorem rev_store {w : World} {B g c n : Nat} {l : List Nat} (h : w.ownsRow B 3 1 (.slice (some ⟨g, 0, none⟩) n c) n (natV l)) (i x : Nat) :
    (w.setCell ⟨g, i, none⟩ (.int .i64 (x : Int))).ownsRow B 3 1 (.slice (some ⟨g, 0, none⟩) n c) n (natV (l.set i x)) := by
  have := (h.stored i (.int .i64 (x : Int))).1
  rw [show natV (l.set i x) = (natV l).set i (.int .i64 (x : Int)) by simp [natV, List.map_set]]
  exact this
/-- Behind i exchanges. -/
def RevK (l m : List Nat) (i : Nat) : Prop := m.length = l.length ∧ ∀ k, k < l.length → m[k]? = if k < i ∨ l.length ≤ k + i then l[l.length - 1 - k]? else l[k]?
theorem RevK.zero (l : List Nat) : RevK l l 0 := ⟨rfl, fun k hk => by rw [if_neg (by omega)]⟩
theorem RevK.step {l m : List Nat} {i q x y : Nat} (h : RevK l m i) (hq : q + i + 1 = l.length) (hi : i < q) (hx : m[i]? = some x) (hy : m[q]? = some y) : RevK l ((m.set i y).set q x) (i + 1) := by
  refine ⟨by simp [h.1], fun k hk => ?_⟩
  have ex := h.2 i (by omega)
  have ey := h.2 q (by omega)
  rw [if_neg (by omega)] at ex ey
  rw [List.getElem?_set, List.getElem?_set]
  by_cases h1 : q = k
  · subst h1
    rw [if_pos rfl, if_pos (by simp [h.1]; omega), if_pos (by omega), show l.length - 1 - q = i by omega, ← ex, hx]
  · rw [if_neg h1]
    by_cases h2 : i = k
    · subst h2
      rw [if_pos rfl, if_pos (by rw [h.1]; omega), if_pos (by omega), show l.length - 1 - i = q by omega, ← ey, hy]
    · rw [if_neg h2, h.2 k hk]
      by_cases h3 : k < i ∨ l.length ≤ k + i
      · rw [if_pos h3, if_pos (by omega)]
      · rw [if_neg h3, if_neg (by omega)]
theorem RevK.end_ {l m : List Nat} {i : Nat} {q : Int} (h : RevK l m i) (hq : q + i + 1 = l.length) (hi : ¬ (i : Int) < q) : m = l.reverse := by
  apply List.ext_getElem?
  intro k
  by_cases hk : k < l.length
  · rw [h.2 k hk, List.getElem?_reverse hk]
    split
    · rfl
    · rw [show l.length - 1 - k = k by omega]
  · rw [List.getElem?_eq_none (by rw [h.1]; omega), List.getElem?_eq_none (by simp; omega)]

set_option maxRecDepth 100000 in
set_option maxHeartbeats 400000 in
theorem nreverse_any (B : Nat) (v : Value) (l : List Nat) (w : World) (h : w.ownsRow B 3 1 v l.length (natV l)) (hl : l.length ≤ 16) :
    Calls Try.prog 35 #[v] w fun e w' => e = .returned (.tuple #[]) ∧ w'.ownsRow B 3 1 v l.length (natV l.reverse) ∧ Below B w w' := by
  obtain ⟨a, c, rfl⟩ := own_slice h
  have H := Lib.hid h
  obtain ⟨n, hn⟩ : ∃ n, l.length = n := ⟨_, rfl⟩
  rw [hn] at hl H ⊢
  have HN := Lib.hid hn
  clear hn h
  go_enter Try.func35, Try.ntmps35
  go_wp2_with fail
  go_loopw [2, 3] (fun v u wr => ∃ (i : Nat) (q : Int) (m : List Nat), v = .int .i64 (i : Int) ∧ u = .int .i64 q ∧ q + i + 1 = n ∧ (i : Int) ≤ q + 2 ∧ Hid (RevK l m i) ∧ Hid (wr.ownsRow B 3 1 (.slice a n c) n (natV m)) ∧ Below B w wr) (fun v _ _ => (n - intOf v).toNat)
  case atStart => exact ⟨0, (n : Int) - 1, l, rfl, by go_num, by omega, by omega, Lib.hid (RevK.zero l), H, Below.refl _ _⟩
  case round =>
    obtain ⟨i, q, m, rfl, rfl, hq, hiq, HR, HO, hbl⟩ := hrel
    have HB := Lib.hid hbl
    clear hbl
    by_cases hlt : (i : Int) < q
    · obtain ⟨p, rfl⟩ : ∃ p : Nat, q = (p : Int) := ⟨q.toNat, by omega⟩
      have hn := HN.out
      have hml : m.length = n := HR.out.1.trans hn
      obtain ⟨x, hx⟩ : ∃ x, m[i]? = some x := ⟨_, List.getElem?_eq_getElem (by omega)⟩
      obtain ⟨y, hy⟩ : ∃ y, m[p]? = some y := ⟨_, List.getElem?_eq_getElem (by omega)⟩
      obtain ⟨g, c', hg⟩ := own_some HO.out (by omega)
      simp only [Value.slice.injEq, true_and] at hg
      obtain ⟨rfl, rfl⟩ := hg
      have hB := (HO.out.lt g rfl).1
      have c1 : wr.cell? ⟨g, i, none⟩ = some (.int .i64 (x : Int)) := by rw [HO.out.cellAt i (by omega)]; simp [natV, hx]
      have c2 : wr.cell? ⟨g, p, none⟩ = some (.int .i64 (y : Int)) := by rw [HO.out.cellAt p (by omega)]; simp [natV, hy]
      have f1 := HO.out.frozenAt i
      have f2 := HO.out.frozenAt p
      have w2 : IntKind.i64.wrap ((p : Int) - 1) = (p : Int) - 1 := by rw [IntKind.wrap_i64]; omega
      have p0 : (0 : Int) ≤ (p : Int) := by omega
      have p1 : (p : Int) < (n : Int) := by omega
      have q0 : (0 : Int) ≤ (i : Int) := by omega
      have q1 : (i : Int) < (n : Int) := by omega
      have hne : ¬ i = p := by omega
      have hne' : ¬ p = i := by omega
      have HS := Lib.hid (HR.out.step (by omega) (by omega) hx hy)
      have HQ := Lib.hid hq
      have HI : Hid (i < n) := Lib.hid (by omega)
      have HLT := Lib.hid hlt
      clear hx hy hml hq hiq hn
      go_wp2
      go_region
      go_wp2
      go_roundw
      case rel =>
        have h1 := HQ.out
        have h2 := HLT.out
        exact ⟨i + 1, (p : Int) - 1, _, by go_num, by go_num, by omega, by omega, HS, Lib.hid (rev_store (rev_store HO.out i y) p x), ((HB.out.setCell hB _).setCell hB _).drew⟩
      case measure => exact meas_up n i _ rfl HI.out
    · have HE : Hid (m = l.reverse) := Lib.hid (HR.out.end_ (by have := HN.out; omega) hlt)
      go_wp2_with fail
      go_end0
      exact ⟨rfl, HE.out ▸ HO.out, HB.out⟩
end Go.Proofs.Ytjpbglbbeepmnaa
