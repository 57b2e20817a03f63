/- Sorting in place, pure: what the merge of two sorted parts leaves. -/
import Derived.Test.YtjoeeaagjcpdpaaSortB
namespace Go.Proofs.Ytjoeeaagjcpdpaa
open Go.RowKit

def Srt (f : Nat → Nat) (a b : Nat) : Prop := ∀ i j, a ≤ i → i < j → j < b → GaugeF.key (f i) ≤ GaugeF.key (f j)
theorem srt_of {d : Array Nat} {a b : Nat} (h : Sort.SortedIn ltK a b d) : Srt (fn d) a b := fun i j h1 h2 h3 => by
  have := of_decide_eq_false (h i j h1 h2 h3)
  unfold fn; omega
theorem of_srt {d : Array Nat} {a b : Nat} (h : Srt (fn d) a b) : Sort.SortedIn ltK a b d := fun i j h1 h2 h3 => by
  have := h i j h1 h2 h3
  unfold fn at this
  exact decide_eq_false (by omega)
theorem srt_congr {f f' : Nat → Nat} {a b : Nat} (h : Srt f a b) (e : ∀ k, f' k = f k) : Srt f' a b := fun i j h1 h2 h3 => by
  rw [e, e]; exact h i j h1 h2 h3

/-- What stood at a stands at k. -/
def upF (f : Nat → Nat) (a k x : Nat) : Nat := if a ≤ x ∧ x < k then f (x + 1) else if x = k then f a else f x
/-- What stood at s stands at k. -/
def downF (f : Nat → Nat) (s k x : Nat) : Nat := if x = k then f s else if k < x ∧ x ≤ s then f (x - 1) else f x

theorem up_srt {f : Nat → Nat} {a b i : Nat} (hs : Srt f (a + 1) b) (hi : a + 1 ≤ i) (hib : i ≤ b) (h1 : a + 1 < i → GaugeF.key (f (i - 1)) < GaugeF.key (f a)) (h2 : i < b → GaugeF.key (f a) ≤ GaugeF.key (f i)) : Srt (upF f a (i - 1)) a b := by
  have g1 : ∀ t, a + 1 ≤ t → t < i → GaugeF.key (f t) ≤ GaugeF.key (f a) := fun t ht hti => by
    have := h1 (by omega)
    by_cases e : t = i - 1
    · subst e; omega
    · have := hs t (i - 1) ht (by omega) (by omega); omega
  have g2 : ∀ t, i ≤ t → t < b → GaugeF.key (f a) ≤ GaugeF.key (f t) := fun t ht htb => by
    have := h2 (by omega)
    by_cases e : t = i
    · subst e; omega
    · have := hs i t (by omega) (by omega) htb; omega
  intro x y hx hxy hy
  unfold upF
  by_cases c1 : x < i - 1
  · rw [if_pos (by omega)]
    by_cases c2 : y < i - 1
    · rw [if_pos (by omega)]; exact hs (x + 1) (y + 1) (by omega) (by omega) (by omega)
    · rw [if_neg (by omega)]
      by_cases c3 : y = i - 1
      · rw [if_pos c3]; exact g1 (x + 1) (by omega) (by omega)
      · rw [if_neg c3]; exact hs (x + 1) y (by omega) (by omega) hy
  · rw [if_neg (by omega), if_neg (c := a ≤ y ∧ y < i - 1) (by omega), if_neg (c := y = i - 1) (by omega)]
    by_cases c3 : x = i - 1
    · rw [if_pos c3]; exact g2 y (by omega) hy
    · rw [if_neg c3]; exact hs x y (by omega) hxy hy

theorem down_srt {f : Nat → Nat} {a s i : Nat} (hs : Srt f a s) (hi : a ≤ i) (his : i ≤ s) (h1 : a < i → GaugeF.key (f (i - 1)) ≤ GaugeF.key (f s)) (h2 : i < s → GaugeF.key (f s) < GaugeF.key (f i)) : Srt (downF f s i) a (s + 1) := by
  have g1 : ∀ t, a ≤ t → t < i → GaugeF.key (f t) ≤ GaugeF.key (f s) := fun t ht hti => by
    have := h1 (by omega)
    by_cases e : t = i - 1
    · subst e; omega
    · have := hs t (i - 1) ht (by omega) (by omega); omega
  have g2 : ∀ t, i ≤ t → t < s → GaugeF.key (f s) ≤ GaugeF.key (f t) := fun t ht hts => by
    have := h2 (by omega)
    by_cases e : t = i
    · subst e; omega
    · have := hs i t (by omega) (by omega) hts; omega
  intro x y hx hxy hy
  unfold downF
  by_cases c1 : y = i
  · rw [if_pos c1, if_neg (c := x = i) (by omega), if_neg (by omega)]; exact g1 x hx (by omega)
  · rw [if_neg c1]
    by_cases c2 : x = i
    · rw [if_pos c2, if_pos (by omega)]; exact g2 (y - 1) (by omega) (by omega)
    · rw [if_neg c2]
      by_cases c3 : i < x
      · rw [if_pos (by omega), if_pos (by omega)]; exact hs (x - 1) (y - 1) (by omega) (by omega) (by omega)
      · rw [if_neg (by omega)]
        by_cases c4 : i < y
        · rw [if_pos (by omega)]
          by_cases c5 : x = y - 1
          · exfalso; omega
          · exact hs x (y - 1) hx (by omega) (by omega)
        · rw [if_neg (by omega)]; exact hs x y hx hxy (by omega)

/-- One more step of each of the two chains. -/
theorem up_step {f : Nat → Nat} {e : Array Nat} {a k : Nat} (hk : k + 1 < e.size) (hak : a ≤ k) (h : ∀ x, fn e x = upF f a k x) (x : Nat) : fn (Sort.swp e k (k + 1)) x = upF f a (k + 1) x := by
  rw [swp_fn (by omega) hk (by omega)]
  simp only [h]
  unfold upF
  by_cases c1 : x = k
  · subst c1; rw [if_pos rfl, if_neg (by omega), if_neg (by omega), if_pos (by omega)]
  · rw [if_neg c1]
    by_cases c2 : x = k + 1
    · subst c2; rw [if_pos rfl, if_neg (by omega), if_pos rfl, if_neg (by omega), if_pos rfl]
    · rw [if_neg c2]
      by_cases c3 : a ≤ x ∧ x < k
      · rw [if_pos c3, if_pos (by omega)]
      · rw [if_neg c3, if_neg c1, if_neg (by omega), if_neg c2]
theorem down_step {f : Nat → Nat} {e : Array Nat} {s k : Nat} (hk : k + 1 < e.size) (hks : k + 1 ≤ s) (h : ∀ x, fn e x = downF f s (k + 1) x) (x : Nat) : fn (Sort.swp e (k + 1) k) x = downF f s k x := by
  rw [swp_fn hk (by omega) (by omega)]
  simp only [h]
  unfold downF
  by_cases c1 : x = k + 1
  · subst c1; rw [if_pos rfl, if_neg (by omega), if_neg (by omega), if_neg (by omega), if_pos (by omega)]; rfl
  · rw [if_neg c1]
    by_cases c2 : x = k
    · subst c2; rw [if_pos rfl, if_pos rfl, if_pos rfl]
    · rw [if_neg c2, if_neg c1, if_neg c2]
      by_cases c3 : k + 1 < x ∧ x ≤ s
      · rw [if_pos c3, if_pos (by omega)]
      · rw [if_neg c3, if_neg (by omega)]

/-- A permutation of a part: each that stands there stood there. -/
theorem perm_all {d d' : Array Nat} {a b : Nat} (hb : b ≤ d.size) (h : Sort.PermIn a b d d') (p : Nat → Prop) (hp : ∀ i, a ≤ i → i < b → p (fn d i)) (i : Nat) (h1 : a ≤ i) (h2 : i < b) : p (fn d' i) :=
  Sort.permIn_all d d' a b p hb h hp i h1 h2

/-- The merge's ends, put together. -/
theorem sym_ends {d d1 d2 d3 : Array Nat} {a s b mid start : Nat} (hb : b ≤ d.size) (h1 : a ≤ start) (h2 : start ≤ s) (h3 : start ≤ mid) (h4 : a ≤ mid) (h5 : mid + s - start ≤ b) (h6 : a < s) (h7 : s < b) (h8 : mid < b)
    (s1 : Srt (fn d) a s) (s2 : Srt (fn d) s b)
    (b1 : a < start → mid + s - start < b → GaugeF.key (fn d (start - 1)) ≤ GaugeF.key (fn d (mid + s - start)))
    (b2 : start < s → s < mid + s - start → GaugeF.key (fn d (mid + s - start - 1)) < GaugeF.key (fn d start))
    (p1 : Sort.PermIn a b d d1) (f1 : ∀ k, fn d1 k = roF (fn d) start s (mid + s - start) k)
    (p2 : Sort.PermIn a mid d1 d2) (q2 : Srt (fn d2) a mid) (p3 : Sort.PermIn mid b d2 d3) (q3 : Srt (fn d3) mid b) :
    Sort.PermIn a b d d3 ∧ Srt (fn d3) a b := by
  have z1 : d1.size = d.size := p1.1
  have z2 : d2.size = d1.size := p2.1
  refine ⟨Sort.permIn_trans _ _ _ _ _ p1 (Sort.permIn_trans _ _ _ _ _ (Sort.permIn_mono _ _ _ _ _ _ (Nat.le_refl _) (by omega) (by omega) p2) (Sort.permIn_mono _ _ _ _ _ _ h4 (Nat.le_refl _) (by omega) p3)), ?_⟩
  -- all on the left are not behind all on the right
  have cross : ∀ x, a ≤ x → x < mid → ∀ y, mid ≤ y → y < b → GaugeF.key (fn d1 x) ≤ GaugeF.key (fn d1 y) := by
    intro x hx hxm y hy hyb
    rw [f1, f1]
    unfold roF
    have L1R1 : ∀ u v, a ≤ u → u < start → start ≤ v → v < s → GaugeF.key (fn d u) ≤ GaugeF.key (fn d v) := fun u v _ _ _ _ => s1 u v (by omega) (by omega) (by omega)
    have L2R2 : ∀ u v, s ≤ u → u < mid + s - start → mid + s - start ≤ v → v < b → GaugeF.key (fn d u) ≤ GaugeF.key (fn d v) := fun u v _ _ _ _ => s2 u v (by omega) (by omega) (by omega)
    have L1R2 : ∀ u v, a ≤ u → u < start → mid + s - start ≤ v → v < b → GaugeF.key (fn d u) ≤ GaugeF.key (fn d v) := fun u v hu1 hu2 hv1 hv2 => by
      have k1 := b1 (by omega) (by omega)
      have k2 : GaugeF.key (fn d u) ≤ GaugeF.key (fn d (start - 1)) := by
        by_cases e : u = start - 1
        · rw [e]; omega
        · exact s1 u (start - 1) hu1 (by omega) (by omega)
      have k3 : GaugeF.key (fn d (mid + s - start)) ≤ GaugeF.key (fn d v) := by
        by_cases e : v = mid + s - start
        · rw [e]; omega
        · exact s2 (mid + s - start) v (by omega) (by omega) hv2
      omega
    have L2R1 : ∀ u v, s ≤ u → u < mid + s - start → start ≤ v → v < s → GaugeF.key (fn d u) ≤ GaugeF.key (fn d v) := fun u v hu1 hu2 hv1 hv2 => by
      have k1 := b2 (by omega) (by omega)
      have k2 : GaugeF.key (fn d u) ≤ GaugeF.key (fn d (mid + s - start - 1)) := by
        by_cases e : u = mid + s - start - 1
        · rw [e]; omega
        · exact s2 u (mid + s - start - 1) hu1 (by omega) (by omega)
      have k3 : GaugeF.key (fn d start) ≤ GaugeF.key (fn d v) := by
        by_cases e : v = start
        · rw [e]; omega
        · exact s1 start v (by omega) (by omega) hv2
      omega
    by_cases c1 : start ≤ x
    · rw [if_pos (show start ≤ x ∧ x < start + (mid + s - start - s) by omega)]
      rw [if_neg (show ¬ (start ≤ y ∧ y < start + (mid + s - start - s)) by omega)]
      by_cases c2 : y < mid + s - start
      · rw [if_pos (by omega)]; exact L2R1 _ _ (by omega) (by omega) (by omega) (by omega)
      · rw [if_neg (by omega)]; exact L2R2 _ _ (by omega) (by omega) (by omega) (by omega)
    · rw [if_neg (show ¬ (start ≤ x ∧ x < start + (mid + s - start - s)) by omega), if_neg (show ¬ (start + (mid + s - start - s) ≤ x ∧ x < mid + s - start) by omega)]
      rw [if_neg (show ¬ (start ≤ y ∧ y < start + (mid + s - start - s)) by omega)]
      by_cases c2 : y < mid + s - start
      · rw [if_pos (by omega)]; exact L1R1 _ _ (by omega) (by omega) (by omega) (by omega)
      · rw [if_neg (by omega)]; exact L1R2 _ _ (by omega) (by omega) (by omega) (by omega)
  have out2 : ∀ k, mid ≤ k → fn d2 k = fn d1 k := fun k hk => p2.2.1 k (.inr hk)
  have out3 : ∀ k, k < mid → fn d3 k = fn d2 k := fun k hk => p3.2.1 k (.inl hk)
  intro x y hx hxy hy
  by_cases c1 : y < mid
  · rw [out3 x (by omega), out3 y c1]; exact q2 x y hx hxy c1
  · by_cases c2 : x < mid
    · rw [out3 x c2]
      refine perm_all (by omega) p3 (fun v => GaugeF.key (fn d2 x) ≤ GaugeF.key v) (fun j hj hjb => ?_) y (by omega) hy
      rw [out2 j hj]
      exact perm_all (by omega) p2 (fun v => GaugeF.key v ≤ GaugeF.key (fn d1 j)) (fun i hi him => cross i hi him j hj hjb) x hx c2
    · exact q3 x y (by omega) hxy hy

/-- The four parts behind the rotation are sorted. -/
theorem sym_left {f : Nat → Nat} {a s b mid start : Nat} (h1 : a ≤ start) (h2 : start ≤ s) (h3 : start ≤ mid) (h5 : mid + s - start ≤ b) (s1 : Srt f a s) (s2 : Srt f s b) :
    Srt (roF f start s (mid + s - start)) a start ∧ Srt (roF f start s (mid + s - start)) start mid ∧ Srt (roF f start s (mid + s - start)) mid (mid + s - start) ∧ Srt (roF f start s (mid + s - start)) (mid + s - start) b := by
  refine ⟨fun x y hx hxy hy => ?_, fun x y hx hxy hy => ?_, fun x y hx hxy hy => ?_, fun x y hx hxy hy => ?_⟩ <;> unfold roF
  · rw [if_neg (by omega), if_neg (by omega), if_neg (by omega), if_neg (by omega)]; exact s1 x y hx hxy (by omega)
  · rw [if_pos (by omega), if_pos (by omega)]; exact s2 _ _ (by omega) (by omega) (by omega)
  · rw [if_neg (by omega), if_pos (by omega), if_neg (by omega), if_pos (by omega)]; exact s1 _ _ (by omega) (by omega) (by omega)
  · rw [if_neg (by omega), if_neg (by omega), if_neg (by omega), if_neg (by omega)]; exact s2 x y (by omega) hxy hy
end Go.Proofs.Ytjoeeaagjcpdpaa
