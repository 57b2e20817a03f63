/- Pure: texts without their doubles, the first place of a text. No program is named here. -/
import Derived.Test.YtogmneidfoedbaaBase
import Derived.Maps.OwnSet
namespace Go.Proofs.Ytogmneidfoedbaa
open Go.Maps

/-- The first place of a text, or -1. -/
def idxN : List ByteArray → ByteArray → Nat → Int
  | [], _, _ => -1
  | x :: l, s, b => if x = s then (b : Int) else idxN l s (b + 1)
def idxI (L : List ByteArray) (s : ByteArray) : Int := idxN L s 0
theorem idxN_at (L : List ByteArray) (s : ByteArray) (b k : Nat) (h : ∀ j, j < k → L[j]? ≠ some s) (hk : L[k]? = some s) : idxN L s b = ((b + k : Nat) : Int) := by
  induction L generalizing b k with
  | nil => simp at hk
  | cons x l ih =>
    unfold idxN
    cases k with
    | zero =>
      have e : x = s := by simpa using hk
      rw [if_pos e]; simp
    | succ k =>
      have e : x ≠ s := fun e => h 0 (by omega) (by rw [e]; rfl)
      rw [if_neg e, ih (b + 1) k (fun j hj => by simpa using h (j + 1) (by omega)) (by simpa using hk), show b + 1 + k = b + (k + 1) by omega]
theorem idx_at {L : List ByteArray} {s : ByteArray} {k : Nat} (h : ∀ j, j < k → L[j]? ≠ some s) (hk : L[k]? = some s) : idxI L s = (k : Int) := by
  have := idxN_at L s 0 k h hk
  rwa [Nat.zero_add] at this
theorem idxN_none (L : List ByteArray) (s : ByteArray) (b : Nat) (h : ∀ j : Nat, L[j]? ≠ some s) : idxN L s b = -1 := by
  induction L generalizing b with
  | nil => rfl
  | cons x l ih =>
    unfold idxN
    rw [if_neg (fun e => h 0 (by rw [e]; rfl))]
    exact ih (b + 1) (fun j => by simpa using h (j + 1))
theorem idx_none {L : List ByteArray} {s : ByteArray} {n : Nat} (hn : L.length = n) (h : ∀ j, j < n → L[j]? ≠ some s) : idxI L s = -1 := idxN_none L s 0 fun j => by
  by_cases hj : j < n
  · exact h j hj
  · rw [List.getElem?_eq_none (by omega)]; simp
theorem none_up {L : List ByteArray} {s x : ByteArray} {k : Nat} (h : ∀ j, j < k → L[j]? ≠ some s) (hx : L[k]? = some x) (e : x ≠ s) : ∀ j, j < k + 1 → L[j]? ≠ some s := fun j hj => by
  by_cases hjk : j = k
  · subst hjk; rw [hx]; exact fun h => e (Option.some.inj h)
  · exact h j (by omega)
theorem idx_mem {L : List ByteArray} {s : ByteArray} (h : s ∈ L) : ∃ k, idxI L s = ((k : Nat) : Int) := by
  suffices hh : ∀ (L : List ByteArray) (b : Nat), s ∈ L → ∃ k : Nat, idxN L s b = (k : Int) from hh L 0 h
  intro L
  induction L with
  | nil => intro b h; cases h
  | cons x l ih =>
    intro b h
    unfold idxN
    by_cases e : x = s
    · exact ⟨b, by rw [if_pos e]⟩
    · rw [if_neg e]
      exact ih (b + 1) ((List.mem_cons.1 h).resolve_left fun h => e h.symm)

/-- Is it there? -/
def inL (l : List ByteArray) (x : ByteArray) : Bool := l.any fun y => decide (y = x)
theorem inL_iff {l : List ByteArray} {x : ByteArray} : inL l x = true ↔ x ∈ l := by
  unfold inL
  rw [List.any_eq_true]
  exact ⟨fun ⟨y, hy, e⟩ => by rw [← of_decide_eq_true e]; exact hy, fun h => ⟨x, h, decide_eq_true rfl⟩⟩
theorem inL_not {l : List ByteArray} {x : ByteArray} (h : inL l x = false) : x ∉ l := fun e => by rw [inL_iff.2 e] at h; cases h
/-- One text more, if it is not there. -/
def step (acc : List ByteArray) (x : ByteArray) : List ByteArray := if inL acc x = true then acc else acc ++ [x]
def ones (L : List ByteArray) (k : Nat) : List ByteArray := (L.take k).foldl step []
theorem ones_zero (L : List ByteArray) : ones L 0 = [] := by simp [ones]
theorem ones_succ {L : List ByteArray} {k : Nat} {x : ByteArray} (hx : L[k]? = some x) : ones L (k + 1) = step (ones L k) x := by
  unfold ones
  rw [List.take_add_one, hx, List.foldl_append]; rfl
theorem ones_old {L : List ByteArray} {k : Nat} {x : ByteArray} (hx : L[k]? = some x) (h : inL (ones L k) x = true) : ones L (k + 1) = ones L k := by
  rw [ones_succ hx, step, if_pos h]
theorem ones_new {L : List ByteArray} {k : Nat} {x : ByteArray} (hx : L[k]? = some x) (h : inL (ones L k) x = false) : ones L (k + 1) = ones L k ++ [x] := by
  rw [ones_succ hx, step, if_neg (by rw [h]; simp)]
theorem ones_all (L : List ByteArray) (k : Nat) : (ones L k).length ≤ k ∧ (∀ y, y ∈ ones L k → y ∈ L) ∧ (ones L k).Nodup := by
  induction k with
  | zero => rw [ones_zero]; simp
  | succ k ih =>
    rcases Nat.lt_or_ge k L.length with hk | hk
    · have hx := List.getElem?_eq_getElem hk
      cases h : inL (ones L k) L[k]
      case true => rw [ones_old hx h]; exact ⟨by omega, ih.2⟩
      case false =>
        rw [ones_new hx h]
        refine ⟨by simp; omega, fun y hy => ?_, ?_⟩
        · rcases List.mem_append.1 hy with hy | hy
          · exact ih.2.1 y hy
          · rw [List.mem_singleton.1 hy]; exact List.getElem_mem hk
        · rw [List.nodup_append]
          refine ⟨ih.2.2, by simp, fun a ha b hb e => inL_not h ?_⟩
          rw [List.mem_singleton.1 hb] at e
          rw [← e]; exact ha
    · have e : ones L (k + 1) = ones L k := by unfold ones; rw [List.take_of_length_le (by omega), List.take_of_length_le (by omega)]
      rw [e]; exact ⟨by omega, ih.2⟩
theorem nodup_idx {L : List ByteArray} (h : L.Nodup) {k : Nat} {s : ByteArray} (hk : L[k]? = some s) : idxI L s = (k : Int) := idx_at (fun j hj e => by
  have hl := (List.getElem?_eq_some_iff.1 hk).1
  have e2 := (List.getElem?_inj (i := j) (j := k) (by omega) h).1 (by rw [e, hk])
  omega) hk

/-- The set of them, as a map reads. -/
def setL {H : Type} (l : List ByteArray) : DataW H := setOf (.agg []) (l.map fun s => Lit.string s.data.toList)
theorem any_text (x : ByteArray) : ∀ l : List ByteArray, l.any ((fun y : Lit => y.sameKey (.string x.data.toList)) ∘ fun s => Lit.string s.data.toList) = inL l x
  | [] => rfl
  | a :: r => by
    have e : ((fun y : Lit => y.sameKey (.string x.data.toList)) ∘ fun s : ByteArray => Lit.string s.data.toList) a = decide (a = x) := by
      show Lit.sameKey (.string a.data.toList) (.string x.data.toList) = decide (a = x)
      simp only [Lit.sameKey]
      by_cases h : a = x
      · subst h; simp
      · have h' : ¬ a.data = x.data := fun e => h (ByteArray.ext e)
        simp [h, h']
    rw [List.any_cons, any_text x r, e]; rfl
theorem has_setL {H : Type} (l : List ByteArray) (x : ByteArray) : Maps.has (setL (H := H) l) (.string x.data.toList) = inL l x := by
  unfold setL
  rw [has_setOf _ _ _ (fun y hy => by obtain ⟨_, _, rfl⟩ := List.mem_map.1 hy; trivial), List.any_map]
  exact any_text x _
theorem setL_nil {H : Type} : setL (H := H) [] = .map [] := by simp [setL, setOf]
theorem setL_snoc {H : Type} (l : List ByteArray) (x : ByteArray) : setL (H := H) (l ++ [x]) = (setL l).put (.string x.data.toList) (.agg []) := by
  unfold setL
  rw [List.map_append, List.map_singleton, setOf_snoc]
end Go.Proofs.Ytogmneidfoedbaa
