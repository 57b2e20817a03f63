/- Plain functions of package walk: children, what is below, where two meet, the order and the leaves. No program is named here. -/
import Derived.Test.YtjpbglbbeepmnaaWakF
namespace Go.Proofs.Ytjpbglbbeepmnaa
namespace WakF
open TreF NodesF

def kidP (t : Tr) (n : Int) (j : Nat) : Bool := nodeB n && (decide ((j : Int) ≠ n) && (decide (upT t (j : Int) = n) && okT t (j : Int)))
def chilT (t : Tr) (n : Int) : Int := setF (kidP t n) 16
/-- The number is among them. -/
def inL (l : List Nat) (n : Int) : Bool := l.any fun x => decide ((x : Int) = n)
def belP (t : Tr) (r n : Int) (j : Nat) : Bool := inL (backT t r (j : Int)) n
def belT (t : Tr) (r n : Int) : Int := setF (belP t r n) 16
def fstIn (l m : List Nat) : Int := match l.find? (fun x => m.contains x) with
  | some x => (x : Int)
  | none => -1
def meetT (t : Tr) (r a b : Int) : Int := fstIn (backT t r a) (backT t r b)
def hopB (t : Tr) (r : Int) (j : Nat) : Bool := decide (0 < hopsT t r (j : Int))
/-- A node's children, rising. -/
def chiL (t : Tr) (n : Int) : List Nat := (List.range 16).filter (kidP t n)
def kidsL (t : Tr) (r : Int) (y : Nat) : List Nat := (chiL t (y : Int)).filter (hopB t r)
def bfsT (t : Tr) (r : Int) : Nat → List Nat → Nat → List Nat
  | 0, l, _ => l
  | f + 1, l, i => match l[i]? with
    | none => l
    | some y => bfsT t r f (l ++ kidsL t r y) (i + 1)
def orderT (t : Tr) (r : Int) : List Nat := if hopsT t r r = 0 then bfsT t r 16 [r.toNat] 0 else []
def leafB (t : Tr) (r : Int) (n : Nat) : Bool := decide (belT t r (n : Int) = setL [n])
def leavT (t : Tr) (r : Int) : Int := setL ((orderT t r).filter (leafB t r))

theorem chi_nodes (t : Tr) (n : Int) : nodesN (lowN (chilT t n)) 16 = chiL t n := nodes_set _
theorem chi_none {t : Tr} {n : Int} (h : nodeB n = false) : chilT t n = 0 := by
  have e : ∀ k, setF (kidP t n) k = 0 := by
    intro k
    induction k with
    | zero => rfl
    | succ k ih => rw [set_step, show kidP t n k = false by simp [kidP, h], if_neg (by decide), ih]
  exact e 16
theorem fst_none {l m : List Nat} (h : l = [] ∨ m = []) : fstIn l m = -1 := by
  have e : l.find? (fun x => m.contains x) = none := by
    rw [List.find?_eq_none]
    rcases h with rfl | rfl
    · simp
    · simp
  unfold fstIn; rw [e]
theorem fst_at {l m : List Nat} {i x : Nat} (ha : ∀ k y : Nat, k < i → l[k]? = some y → m.contains y = false) (hx : l[i]? = some x) (hm : m.contains x = true) : fstIn l m = (x : Int) := by
  have e : l.find? (fun x => m.contains x) = some x := by
    rw [List.find?_eq_some_iff_getElem]
    obtain ⟨hi, he⟩ := List.getElem?_eq_some_iff.1 hx
    refine ⟨hm, i, hi, he, fun j hj => ?_⟩
    have hjl : j < l.length := by omega
    have := ha j l[j] hj (by simp [hjl])
    simpa using this
  unfold fstIn; rw [e]
theorem fst_end {l m : List Nat} (ha : ∀ k y : Nat, k < l.length → l[k]? = some y → m.contains y = false) : fstIn l m = -1 := by
  have e : l.find? (fun x => m.contains x) = none := by
    rw [List.find?_eq_none]
    intro x hx
    obtain ⟨k, hk⟩ := List.mem_iff_getElem?.1 hx
    have := ha k x (List.getElem?_eq_some_iff.1 hk).1 hk
    simpa using this
  unfold fstIn; rw [e]

/-! Who is on a way. -/
theorem hops_none {t : Tr} {r j : Int} (h : backT t r j = []) : hopsT t r j = -1 := by unfold hopsT; rw [h]; rfl
theorem hops_some {t : Tr} {r j : Int} (h : backT t r j ≠ []) : 0 ≤ hopsT t r j := by
  unfold hopsT
  have := List.length_pos_iff.2 h
  omega
theorem hops_iff (t : Tr) (r j : Int) : decide (0 ≤ hopsT t r j) = !(backT t r j).isEmpty := by
  cases h : backT t r j with
  | nil => rw [hops_none h]; rfl
  | cons a l =>
    have := hops_some (t := t) (r := r) (j := j) (by rw [h]; simp)
    simpa using this
theorem hops_root {t : Tr} {r : Int} (h : okT t r = true) : hopsT t r r = 0 := by unfold hopsT; rw [back_root h]; rfl
theorem hops_zero {t : Tr} {r : Int} (h : hopsT t r r = 0) : ∃ k : Nat, r = (k : Int) ∧ k < 16 ∧ okT t r = true := by
  have hne : backT t r r ≠ [] := fun e => by rw [hops_none e] at h; cases h
  obtain ⟨k, hk, hlt⟩ := ok_nat (back_ok hne)
  exact ⟨k, hk, hlt, back_ok hne⟩
theorem up_cons {t : Tr} {r j : Int} (h : backT t r j ≠ []) (hr : j ≠ r) : ∃ y k : Nat, j = (k : Int) ∧ upT t j = (y : Int) ∧ backT t r (y : Int) ≠ [] ∧ backT t r j = k :: backT t r (y : Int) := by
  have ho := back_ok h
  obtain ⟨k, rfl, _⟩ := ok_nat ho
  have e := back_on ho hr
  rw [e] at h
  have hu := cons_of h
  obtain ⟨y, hy, _⟩ := ok_nat (back_ok hu)
  rw [hy] at hu e
  exact ⟨y, k, rfl, hy, hu, by rw [e, cons_some _ hu, Int.toNat_natCast]⟩
/-- A child's way. -/
theorem kid_iff {t : Tr} {r : Int} {y j : Nat} (hy : backT t r (y : Int) ≠ []) : j ∈ kidsL t r y ↔ (j < 16 ∧ (j : Int) ≠ r ∧ upT t (j : Int) = (y : Int) ∧ backT t r (j : Int) ≠ []) := by
  obtain ⟨y', hy', hy16⟩ := ok_nat (back_ok hy)
  have hyn : nodeB (y : Int) = true := ok_node (back_ok hy)
  constructor
  · intro h
    unfold kidsL chiL at h
    obtain ⟨h1, h2⟩ := List.mem_filter.1 h
    obtain ⟨h3, h4⟩ := List.mem_filter.1 h1
    have hj : j < 16 := by simpa using h3
    have hh : 0 < hopsT t r (j : Int) := of_decide_eq_true h2
    simp only [kidP, Bool.and_eq_true, decide_eq_true_eq] at h4
    have hb : backT t r (j : Int) ≠ [] := fun e => by rw [hops_none e] at hh; omega
    refine ⟨hj, ?_, h4.2.2.1, hb⟩
    intro e
    rw [e, hops_root (by rw [← e]; exact h4.2.2.2)] at hh
    omega
  · rintro ⟨hj, hr, hu, hb⟩
    obtain ⟨z, k, hk, hz, hzb, e⟩ := up_cons hb hr
    obtain rfl : k = j := by omega
    obtain rfl : z = y := by omega
    unfold kidsL chiL
    refine List.mem_filter.2 ⟨List.mem_filter.2 ⟨by simpa using hj, ?_⟩, ?_⟩
    · simp only [kidP, Bool.and_eq_true, decide_eq_true_eq]
      refine ⟨hyn, ?_, hu, back_ok hb⟩
      intro e2
      rw [e2] at e
      have := congrArg List.length e
      rw [List.length_cons] at this
      omega
    · unfold hopB hopsT
      rw [e]
      have := List.length_pos_iff.2 hzb
      simp only [List.length_cons]
      exact decide_eq_true (by omega)

/-! The order. -/
/-- What holds of the order while it grows: i of its nodes are gone through. -/
structure Ord (t : Tr) (r : Int) (l : List Nat) (i : Nat) : Prop where
  nd : l.Nodup
  mem : ∀ x ∈ l, backT t r (x : Int) ≠ []
  hd : ∃ k : Nat, l[0]? = some k ∧ r = (k : Int)
  par : ∀ k x : Nat, 0 < k → l[k]? = some x → ∃ p y : Nat, p < i ∧ p < k ∧ l[p]? = some y ∧ upT t (x : Int) = (y : Int)
  kid : ∀ p y : Nat, p < i → l[p]? = some y → ∀ j ∈ kidsL t r y, j ∈ l
  le : i ≤ l.length
theorem Ord.small {t : Tr} {r : Int} {l : List Nat} {i : Nat} (h : Ord t r l i) : ∀ x ∈ l, x < 16 := fun x hx => by
  obtain ⟨k, hk, hlt⟩ := ok_nat (back_ok (h.mem x hx))
  omega
theorem Ord.short {t : Tr} {r : Int} {l : List Nat} {i : Nat} (h : Ord t r l i) : l.length ≤ 16 := small_length h.nd h.small
theorem nodup_at {l : List Nat} (h : l.Nodup) {i k x : Nat} (hi : l[i]? = some x) (hk : l[k]? = some x) : i = k := by
  rw [List.nodup_iff_pairwise_ne, List.pairwise_iff_getElem] at h
  obtain ⟨h1, e1⟩ := List.getElem?_eq_some_iff.1 hi
  obtain ⟨h2, e2⟩ := List.getElem?_eq_some_iff.1 hk
  rcases Nat.lt_trichotomy i k with hlt | rfl | hlt
  · exact absurd (e1.trans e2.symm) (h i k h1 h2 hlt)
  · rfl
  · exact absurd (e2.trans e1.symm) (h k i h2 h1 hlt)
theorem filter_nodup {l : List Nat} (p : Nat → Bool) (h : l.Nodup) : (l.filter p).Nodup := List.Nodup.sublist List.filter_sublist h
theorem kids_nodup (t : Tr) (r : Int) (y : Nat) : (kidsL t r y).Nodup := filter_nodup _ (filter_nodup _ List.nodup_range)
theorem Ord.start {t : Tr} {k : Nat} (h : okT t (k : Int) = true) : Ord t (k : Int) [k] 0 where
  nd := by simp
  mem := by
    intro x hx
    obtain rfl : x = k := by simpa using hx
    rw [back_root h]; simp
  hd := ⟨k, rfl, rfl⟩
  par := by
    intro i x hi hx
    have := (List.getElem?_eq_some_iff.1 hx).1
    simp at this; omega
  kid := by intro p y hp; omega
  le := Nat.zero_le _
theorem Ord.step {t : Tr} {r : Int} {l : List Nat} {i y : Nat} (h : Ord t r l i) (hy : l[i]? = some y) : Ord t r (l ++ kidsL t r y) (i + 1) := by
  have hil := (List.getElem?_eq_some_iff.1 hy).1
  have hyb := h.mem y (List.mem_of_getElem? hy)
  obtain ⟨rk, h0, hrk⟩ := h.hd
  refine ⟨?_, ?_, ?_, ?_, ?_, ?_⟩
  · rw [List.nodup_append]
    refine ⟨h.nd, kids_nodup t r y, ?_⟩
    intro a ha b hb e
    subst e
    obtain ⟨_, hr, hu, _⟩ := (kid_iff hyb).1 hb
    obtain ⟨k, hk⟩ := List.mem_iff_getElem?.1 ha
    have hk0 : 0 < k := by
      rcases Nat.eq_zero_or_pos k with rfl | hp
      · rw [h0] at hk
        obtain rfl := Option.some.inj hk
        exact absurd hrk.symm hr
      · exact hp
    obtain ⟨p, z, hp, _, hz, hu2⟩ := h.par k a hk0 hk
    obtain rfl : z = y := by omega
    have := nodup_at h.nd hz hy
    omega
  · intro x hx
    rcases List.mem_append.1 hx with hx | hx
    · exact h.mem x hx
    · exact ((kid_iff hyb).1 hx).2.2.2
  · exact ⟨rk, by rw [List.getElem?_append_left (by omega)]; exact h0, hrk⟩
  · intro k x hk hx
    by_cases hkl : k < l.length
    · rw [List.getElem?_append_left hkl] at hx
      obtain ⟨p, z, hp, hpk, hz, hu⟩ := h.par k x hk hx
      exact ⟨p, z, by omega, hpk, by rw [List.getElem?_append_left (by omega)]; exact hz, hu⟩
    · rw [List.getElem?_append_right (by omega)] at hx
      have hm := List.mem_of_getElem? hx
      exact ⟨i, y, by omega, by omega, by rw [List.getElem?_append_left hil]; exact hy, ((kid_iff hyb).1 hm).2.2.1⟩
  · intro p z hp hz j hj
    rw [List.getElem?_append_left (by omega)] at hz
    by_cases hpi : p < i
    · exact List.mem_append_left _ (h.kid p z hpi hz j hj)
    · obtain rfl : p = i := by omega
      rw [hy] at hz
      obtain rfl := Option.some.inj hz
      exact List.mem_append_right _ hj
  · rw [List.length_append]; omega
theorem Ord.all {t : Tr} {r : Int} {l : List Nat} (h : Ord t r l l.length) : ∀ (m : Nat) (j : Nat), (backT t r (j : Int)).length ≤ m → backT t r (j : Int) ≠ [] → j ∈ l
  | 0, j, hm, hne => absurd (List.length_eq_zero_iff.1 (Nat.le_zero.1 hm)) hne
  | m + 1, j, hm, hne => by
    obtain ⟨rk, h0, hrk⟩ := h.hd
    by_cases hr : (j : Int) = r
    · obtain rfl : j = rk := by omega
      exact List.mem_of_getElem? h0
    · obtain ⟨y, k, hk, hu, hyb, e⟩ := up_cons hne hr
      obtain rfl : k = j := by omega
      rw [e, List.length_cons] at hm
      have hyl := Ord.all h m y (by omega) hyb
      obtain ⟨p, hp⟩ := List.mem_iff_getElem?.1 hyl
      have hj16 : k < 16 := by
        obtain ⟨q, hq, hlt⟩ := ok_nat (back_ok hne)
        omega
      exact h.kid p y (List.getElem?_eq_some_iff.1 hp).1 hp k ((kid_iff hyb).2 ⟨hj16, hr, hu, hne⟩)
theorem bfs_step {t : Tr} {r : Int} {f : Nat} {l : List Nat} {i y : Nat} (hy : l[i]? = some y) : bfsT t r (f + 1) l i = bfsT t r f (l ++ kidsL t r y) (i + 1) := by
  rw [bfsT, hy]
theorem bfs_end (t : Tr) (r : Int) (f : Nat) {l : List Nat} {i : Nat} (h : l.length ≤ i) : bfsT t r f l i = l := by
  cases f with
  | zero => rfl
  | succ f => rw [bfsT, List.getElem?_eq_none h]
theorem bfs_ord {t : Tr} {r : Int} : ∀ (f : Nat) {l : List Nat} {i : Nat}, Ord t r l i → 16 ≤ f + i → Ord t r (bfsT t r f l i) (bfsT t r f l i).length
  | 0, l, i, h, hf => by
    have h1 := h.short
    have h2 := h.le
    obtain rfl : i = l.length := by omega
    exact h
  | f + 1, l, i, h, hf => by
    by_cases hi : i < l.length
    · obtain ⟨y, hy⟩ : ∃ y, l[i]? = some y := ⟨_, List.getElem?_eq_getElem hi⟩
      rw [bfs_step hy]
      exact bfs_ord f (h.step hy) (by omega)
    · have h2 := h.le
      obtain rfl : i = l.length := by omega
      rw [bfs_end t r _ (Nat.le_refl _)]
      exact h
theorem order_no {t : Tr} {r : Int} (h : hopsT t r r ≠ 0) : orderT t r = [] := if_neg h
theorem order_yes {t : Tr} {r : Int} (h : hopsT t r r = 0) : orderT t r = bfsT t r 16 [r.toNat] 0 := if_pos h
theorem order_ord {t : Tr} {r : Int} (h : hopsT t r r = 0) : Ord t r (orderT t r) (orderT t r).length := by
  obtain ⟨k, rfl, _, ho⟩ := hops_zero h
  rw [order_yes h]
  exact bfs_ord 16 (Ord.start ho) (by omega)
theorem order_small (t : Tr) (r : Int) : ∀ x ∈ orderT t r, x < 16 := by
  by_cases h : hopsT t r r = 0
  · exact (order_ord h).small
  · rw [order_no h]; simp
theorem order_short (t : Tr) (r : Int) : (orderT t r).length ≤ 16 := by
  by_cases h : hopsT t r r = 0
  · exact (order_ord h).short
  · rw [order_no h]; simp
theorem order_mem {t : Tr} {r : Int} (h : hopsT t r r = 0) (j : Nat) : j ∈ orderT t r ↔ backT t r (j : Int) ≠ [] :=
  ⟨fun hm => (order_ord h).mem j hm, fun hne => (order_ord h).all _ j (Nat.le_refl _) hne⟩
/-- Each node's node ahead comes ahead of it. -/
theorem order_up {t : Tr} {r : Int} (h : hopsT t r r = 0) {k x : Nat} (hk : 0 < k) (hx : (orderT t r)[k]? = some x) : ∃ y : Nat, upT t (x : Int) = (y : Int) ∧ y ∈ (orderT t r).take k := by
  obtain ⟨p, y, _, hpk, hy, hu⟩ := (order_ord h).par k x hk hx
  refine ⟨y, hu, List.mem_of_getElem? (i := p) ?_⟩
  rw [List.getElem?_take_of_lt hpk]; exact hy
theorem order_has {t : Tr} {r : Int} (h : hopsT t r r = 0) {j : Nat} (_hj : j < 16) : (orderT t r).contains j = decide (0 ≤ hopsT t r (j : Int)) := by
  rw [hops_iff, Bool.eq_iff_iff, List.contains_iff_mem, order_mem h j]
  simp
theorem order_below {t : Tr} {r : Int} (h : hopsT t r r = 0) : belT t r r = setL (orderT t r) := by
  refine set_ext (set_lim _ 16 (Nat.le_refl _)) (setL_lim _) fun j hj => ?_
  rw [setL_has _ hj]
  unfold belT
  rw [set_has _ j hj 16 (Nat.le_refl _), decide_eq_true hj, Bool.true_and, Bool.eq_iff_iff, List.contains_iff_mem, order_mem h j]
  unfold belP inL
  simp only [List.any_eq_true, decide_eq_true_eq]
  constructor
  · rintro ⟨x, hx, _⟩ e
    rw [e] at hx; simp at hx
  · intro hne
    cases hl : (backT t r (j : Int)).length with
    | zero => exact absurd (List.length_eq_zero_iff.1 hl) hne
    | succ m =>
      obtain ⟨k, hk, hr, _⟩ := back_last m hl
      exact ⟨k, List.mem_of_getElem? hk, hr.symm⟩
end WakF
end Go.Proofs.Ytjpbglbbeepmnaa
