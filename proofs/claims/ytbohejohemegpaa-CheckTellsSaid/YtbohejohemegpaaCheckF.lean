/- Plain functions of package check, over lists of bytes, and their laws. No program is named here. -/
import Derived.Test.YtbohejohemegpaaPackF
namespace Go.Proofs.Ytbohejohemegpaa
namespace CheckF

/-- One byte: (a, b). -/
def stepF (p : Nat × Nat) (c : UInt8) : Nat × Nat := ((p.1 + (p.2 + c.toNat) % 65521) % 65521, (p.2 + c.toNat) % 65521)
def foldF (p : Nat × Nat) (l : List UInt8) : Nat × Nat := l.foldl stepF p
def pairN (p : Nat × Nat) : Nat := p.1 * 65536 + p.2
def halves (n : Nat) : Nat × Nat := (n / 65536 % 65521, n % 65536 % 65521)
def moreN (n : Nat) (l : List UInt8) : Nat := pairN (foldF (halves n) l)
def sumN (l : List UInt8) : Nat := moreN 1 l
def sealB (l : List UInt8) : List UInt8 := PackF.numL (sumN l) 4
def sealL (l : List UInt8) : List UInt8 := l ++ sealB l

def Small (p : Nat × Nat) : Prop := p.1 < 65521 ∧ p.2 < 65521
theorem small_step (p : Nat × Nat) (c : UInt8) : Small (stepF p c) := ⟨Nat.mod_lt _ (by omega), Nat.mod_lt _ (by omega)⟩
theorem small_fold (l : List UInt8) (p : Nat × Nat) (h : Small p) : Small (foldF p l) := by
  induction l generalizing p with
  | nil => exact h
  | cons c l ih => exact ih _ (small_step p c)
theorem small_halves (n : Nat) : Small (halves n) := ⟨Nat.mod_lt _ (by omega), Nat.mod_lt _ (by omega)⟩
theorem halves_pair (p : Nat × Nat) (h : Small p) : halves (pairN p) = p := by
  obtain ⟨a, b⟩ := p
  obtain ⟨h1, h2⟩ := h
  simp only [halves, pairN] at *
  congr 1 <;> omega
theorem pair_lt (p : Nat × Nat) (h : Small p) : pairN p < 4294967296 := by
  obtain ⟨h1, h2⟩ := h
  simp only [pairN]; omega
theorem pair_inj (p q : Nat × Nat) (h : Small p) (g : Small q) (e : pairN p = pairN q) : p = q := by
  rw [← halves_pair p h, ← halves_pair q g, e]
theorem moreN_lt (n : Nat) (l : List UInt8) : moreN n l < 4294967296 := pair_lt _ (small_fold _ _ (small_halves _))
theorem sumN_lt (l : List UInt8) : sumN l < 4294967296 := moreN_lt 1 l
theorem more_sum (a b : List UInt8) : moreN (sumN a) b = sumN (a ++ b) := by
  unfold sumN moreN
  rw [halves_pair _ (small_fold _ _ (small_halves _))]
  simp only [foldF, List.foldl_append]
theorem sealB_length (l : List UInt8) : (sealB l).length = 4 := PackF.numL_length _ _

theorem step_inj (p q : Nat × Nat) (c : UInt8) (h : Small p) (g : Small q) (e : stepF p c = stepF q c) : p = q := by
  obtain ⟨a, b⟩ := p
  obtain ⟨a', b'⟩ := q
  obtain ⟨h1, h2⟩ := h
  obtain ⟨g1, g2⟩ := g
  simp only [stepF, Prod.mk.injEq] at *
  omega
theorem fold_inj (l : List UInt8) (p q : Nat × Nat) (h : Small p) (g : Small q) (e : foldF p l = foldF q l) : p = q := by
  induction l generalizing p q with
  | nil => exact e
  | cons c l ih => exact step_inj p q c h g (ih _ _ (small_step _ _) (small_step _ _) e)
theorem fold_append (p : Nat × Nat) (a b : List UInt8) : foldF p (a ++ b) = foldF (foldF p a) b := List.foldl_append

/-- Another byte: another sum. -/
theorem sum_byte (a b : List UInt8) (c d : UInt8) (e : sumN (a ++ c :: b) = sumN (a ++ d :: b)) : c = d := by
  have h1 := pair_inj _ _ (small_fold _ _ (small_halves _)) (small_fold _ _ (small_halves _)) e
  rw [fold_append, fold_append] at h1
  have hs := small_fold a _ (small_halves 1)
  generalize foldF (halves 1) a = p at *
  have h2 := fold_inj b (stepF p c) (stepF p d) (small_step _ _) (small_step _ _) h1
  obtain ⟨x, y⟩ := p
  obtain ⟨h3, h4⟩ := hs
  simp only [stepF, Prod.mk.injEq] at *
  have hc := c.toNat_lt
  have hd := d.toNat_lt
  apply UInt8.toNat_inj.1
  omega
/-- Two exchanged: another sum, if they are unlike. -/
theorem sum_two (a b : List UInt8) (c d : UInt8) (e : sumN (a ++ c :: d :: b) = sumN (a ++ d :: c :: b)) : c = d := by
  have h1 := pair_inj _ _ (small_fold _ _ (small_halves _)) (small_fold _ _ (small_halves _)) e
  rw [fold_append, fold_append] at h1
  have hs := small_fold a _ (small_halves 1)
  generalize foldF (halves 1) a = p at *
  have h2 := fold_inj b (stepF (stepF p c) d) (stepF (stepF p d) c) (small_step _ _) (small_step _ _) h1
  obtain ⟨x, y⟩ := p
  obtain ⟨h3, h4⟩ := hs
  simp only [stepF, Prod.mk.injEq] at *
  have hc := c.toNat_lt
  have hd := d.toNat_lt
  apply UInt8.toNat_inj.1
  omega

theorem sealB_inj (a b : List UInt8) (e : sealB a = sealB b) : sumN a = sumN b := by
  have h := congrArg PackF.valL e
  unfold sealB at h
  rw [PackF.valL_numL, PackF.valL_numL] at h
  have e1 : (256 : Nat) ^ 4 = 4294967296 := by decide
  rw [e1, Nat.mod_eq_of_lt (sumN_lt _), Nat.mod_eq_of_lt (sumN_lt _)] at h
  exact h

/-- Open. -/
def openF (l : List UInt8) : List UInt8 × Int :=
  if l.length < 4 then ([], 2) else if sealB (l.take (l.length - 4)) = l.drop (l.length - 4) then (l.take (l.length - 4), 0) else ([], 5)

theorem open_of (a b : List UInt8) (hb : b.length = 4) : openF (a ++ b) = if sealB a = b then (a, 0) else ([], 5) := by
  unfold openF
  have e : (a ++ b).length - 4 = a.length := by simp; omega
  rw [if_neg (by simp; omega), e]
  have e1 : (a ++ b).take a.length = a := by simp
  have e2 : (a ++ b).drop a.length = b := by simp
  rw [e1, e2]
theorem open_seal (l : List UInt8) : openF (sealL l) = (l, 0) := by
  unfold sealL; rw [open_of _ _ (sealB_length l), if_pos rfl]

theorem set_split (l : List UInt8) (i : Nat) (h : i < l.length) (c : UInt8) : l.set i c = l.take i ++ c :: l.drop (i + 1) := by
  rw [List.set_eq_take_append_cons_drop, if_pos h]
theorem self_split (l : List UInt8) (i : Nat) (h : i < l.length) : l = l.take i ++ l[i] :: l.drop (i + 1) := by
  rw [List.getElem_cons_drop, List.take_append_drop]

/-- One byte is told. -/
theorem open_byte (l : List UInt8) (i : Nat) (h : i < l.length) (c : UInt8) : (openF ((sealL l).set i c)).2 = if c = l[i] then 0 else 5 := by
  unfold sealL
  rw [List.set_append_left _ _ h, open_of _ _ (sealB_length l)]
  by_cases e : c = l[i]
  · subst e
    rw [List.set_getElem_self, if_pos rfl, if_pos rfl]
  · rw [if_neg e, if_neg]
    intro e2
    have e3 := sealB_inj _ _ e2
    have e5 : sumN (l.take i ++ c :: l.drop (i + 1)) = sumN (l.take i ++ l[i] :: l.drop (i + 1)) := by
      rw [← set_split l i h c, ← self_split l i h]; exact e3
    exact e (sum_byte _ _ _ _ e5)

/-- Two exchanged are told. -/
theorem open_two (l : List UInt8) (i : Nat) (h : i + 1 < l.length) : (openF (((sealL l).set i l[i + 1]).set (i + 1) l[i])).2 = if l[i] = l[i + 1] then 0 else 5 := by
  have h0 : i < l.length := by omega
  unfold sealL
  rw [List.set_append_left _ _ h0, List.set_append_left _ _ (by simpa using h), open_of _ _ (sealB_length l)]
  have hl : l = l.take i ++ l[i] :: l[i + 1] :: l.drop (i + 2) := by
    rw [List.getElem_cons_drop (h := h), List.getElem_cons_drop (h := h0), List.take_append_drop]
  have hs : (l.set i l[i + 1]).set (i + 1) l[i] = l.take i ++ l[i + 1] :: l[i] :: l.drop (i + 2) := by
    apply List.ext_getElem
    · simp; omega
    · intro k h1 h2
      simp only [List.getElem_set, List.getElem_append, List.getElem_cons, List.length_take, List.getElem_take, List.getElem_drop]
      by_cases a : k < i
      · rw [if_neg (by omega), if_neg (by omega), dif_pos (by omega)]
      · by_cases b : k = i
        · subst b
          rw [if_neg (by omega), if_pos rfl, dif_neg (by omega), dif_pos (by omega)]
        · by_cases c : k = i + 1
          · subst c
            rw [if_pos rfl, dif_neg (by omega), dif_neg (by omega), dif_pos (by omega)]
          · rw [if_neg (by omega), if_neg (by omega), dif_neg (by omega), dif_neg (by omega), dif_neg (by omega)]
            congr 1; omega
  by_cases e : l[i] = l[i + 1]
  · have hsl : (l.set i l[i + 1]).set (i + 1) l[i] = l := by
      rw [hs]; conv => rhs; rw [hl]
      rw [e]
    rw [hsl, if_pos rfl, if_pos e]
  · rw [if_neg e, if_neg]
    intro e2
    have e3 := sealB_inj _ _ e2
    rw [hs] at e3
    have e5 : sumN (l.take i ++ l[i + 1] :: l[i] :: l.drop (i + 2)) = sumN (l.take i ++ l[i] :: l[i + 1] :: l.drop (i + 2)) := by
      rw [e3]; congr 1
    exact e (sum_two _ _ _ _ e5).symm
end CheckF
end Go.Proofs.Ytbohejohemegpaa
