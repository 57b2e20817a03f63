/- Plain functions of package costs, set anew and sound. No program is named here. -/
import Derived.Test.YtnbbepelagdenaaDoorCosF
namespace Go.Proofs.YtnbbepelagdenaaDoor
namespace CosF
open NodesF

/-- The links of these nodes, set one by one; none at the first that can't be. -/
def againF (c : Pt) : List Nat → Pt → Option Pt
  | [], s => some s
  | n :: r, s => if okB (n : Int) (ofC c (n : Int)) then againF c r (setC s (n : Int) (ofC c (n : Int))) else none
def costN (c : Pt) (i : Nat) : Nat := c.2.getD i 0
def rightN (k : Nat) : Bool := decide (1 ≤ k) && decide (k ≤ 65536)
/-- The i-th link is sound. -/
def goodN (c : Pt) (i : Nat) : Bool := (hasN c.1 i == rightN (costN c i)) && (hasN c.1 i || (costN c i == 0))
/-- The links from number i on are sound (fuel: how many). -/
def goodsN (c : Pt) : Nat → Nat → Bool
  | 0, _ => true
  | f + 1, i => goodN c i && goodsN c f (i + 1)
def soundF (c : Pt) : Bool := goodsN c 16 0 && (decide (0 ≤ c.1) && decide (c.1 ≤ 65535))
def soundP (c : Pt) : Bool := match againF c (upC c) none16 with
  | some s => decide (s.1 = c.1) && decide (s.2 = c.2)
  | none => false
/-- The links ahead of number i that are up. -/
def maskL (c : Pt) (i : Nat) : List Nat := (List.range 16).map fun j => if decide (j < i) && hasN c.1 j then costN c j else 0
def maskP (c : Pt) (i : Nat) : Pt := (((lowN c.1 % 2 ^ i : Nat) : Int), maskL c i)

theorem goods_all (c : Pt) : ∀ f i, goodsN c f i = true ↔ ∀ j, i ≤ j → j < i + f → goodN c j = true
  | 0, i => by simp [goodsN]; omega
  | f + 1, i => by
    rw [goodsN, Bool.and_eq_true, goods_all c f (i + 1)]
    constructor
    · rintro ⟨h0, h1⟩ j hj1 hj2
      by_cases e : j = i
      · subst e; exact h0
      · exact h1 j (by omega) (by omega)
    · intro h
      exact ⟨h i (by omega) (by omega), fun j h1 h2 => h j (by omega) (by omega)⟩

theorem mask_zero (c : Pt) : maskP c 0 = none16 := by
  simp [maskP, none16, maskL, Nat.mod_one]
  decide
theorem mask_same (c : Pt) (i : Nat) (hi : i < 16) (h : hasN c.1 i = false) : maskP c (i + 1) = maskP c i := by
  have hb := has_low c.1 i hi
  rw [h] at hb
  have hb' : lowN c.1 / 2 ^ i % 2 = 0 := by have := of_decide_eq_false hb.symm; omega
  have e1 : lowN c.1 % 2 ^ (i + 1) = lowN c.1 % 2 ^ i := by rw [bit_split, hb']; omega
  have e2 : maskL c (i + 1) = maskL c i := by
    apply List.map_congr_left
    intro j _
    by_cases hj : j = i
    · subst hj; rw [h]; simp
    · have : decide (j < i + 1) = decide (j < i) := by
        by_cases h1 : j < i
        · rw [decide_eq_true h1, decide_eq_true (by omega)]
        · rw [decide_eq_false h1, decide_eq_false (by omega)]
      rw [this]
  simp only [maskP, e1, e2]
theorem mask_next (c : Pt) (i : Nat) (hi : i < 16) (h : hasN c.1 i = true) (k : Nat) (hk : k = costN c i) (ho : okB (i : Int) k = true) : setC (maskP c i) (i : Int) k = maskP c (i + 1) := by
  have hb := has_low c.1 i hi
  rw [h] at hb
  have hb' : lowN c.1 / 2 ^ i % 2 = 1 := of_decide_eq_true hb.symm
  rw [set_ok _ _ _ ho]
  have e1 : withN ((lowN c.1 % 2 ^ i : Nat) : Int) i = ((lowN c.1 % 2 ^ (i + 1) : Nat) : Int) := by
    have h0 : ((lowN c.1 % 2 ^ i : Nat) : Int) / 2 ^ i % 2 = 0 := by
      have : lowN c.1 % 2 ^ i / 2 ^ i = 0 := Nat.div_eq_of_lt (Nat.mod_lt _ (Nat.two_pow_pos i))
      have e : ((lowN c.1 % 2 ^ i : Nat) : Int) / 2 ^ i = ((lowN c.1 % 2 ^ i / 2 ^ i : Nat) : Int) := by
        rw [Int.natCast_ediv]; simp
      rw [e, this]; rfl
    unfold withN
    rw [if_neg (by rw [h0]; decide), bit_split, hb']
    simp
  have e2 : (maskL c i).set i k = maskL c (i + 1) := by
    apply List.ext_getElem?
    intro j
    rw [List.getElem?_set]
    by_cases hj : i = j
    · subst hj
      simp [maskL, hi, h, hk]
    · rw [if_neg hj]
      simp only [maskL, List.getElem?_map]
      by_cases hj16 : j < 16
      · rw [List.getElem?_range hj16]
        have : decide (j < i + 1) = decide (j < i) := by
          by_cases h1 : j < i
          · rw [decide_eq_true h1, decide_eq_true (by omega)]
          · rw [decide_eq_false h1, decide_eq_false (by omega)]
        simp only [Option.map_some, this]
      · rw [List.getElem?_eq_none (by simp; omega)]
        rfl
  simp only [maskP, e1, e2]

def AllN (c : Pt) (i : Nat) : Prop := ∀ j, i ≤ j → j < 16 → hasN c.1 j = true → rightN (costN c j) = true
theorem again_from (c : Pt) : ∀ f i, f + i = 16 → (AllN c i → againF c (nodesN (lowN c.1) f) (maskP c i) = some (maskP c 16)) ∧ (¬ AllN c i → againF c (nodesN (lowN c.1) f) (maskP c i) = none)
  | 0, i, h => by
    obtain rfl : i = 16 := by omega
    exact ⟨fun _ => rfl, fun hn => absurd (fun j h1 h2 => by omega) hn⟩
  | f + 1, i, h => by
    have hi : i < 16 := by omega
    have hs := nodes_step (lowN c.1) i hi
    rw [show 16 - i = f + 1 by omega, show 16 - (i + 1) = f by omega] at hs
    have ih := again_from c f (i + 1) (by omega)
    have hl := has_low c.1 i hi
    cases hb : hasN c.1 i with
    | true =>
      rw [hb] at hl
      rw [hs, if_pos (of_decide_eq_true hl.symm), againF, of_ok c i hi hb]
      cases hr : rightN (costN c i) with
      | true =>
        have ho : okB (i : Int) (c.2.getD i 0) = true := by
          have hr' : rightN (c.2.getD i 0) = true := hr
          simp only [okB, node_nat hi, Bool.true_and]; exact hr'
        rw [if_pos ho, mask_next c i hi hb (c.2.getD i 0) rfl ho]
        refine ⟨fun hall => ih.1 fun j h1 => hall j (by omega), fun hn => ih.2 fun hall => hn fun j h1 h2 h3 => ?_⟩
        by_cases e : j = i
        · subst e; exact hr
        · exact hall j (by omega) h2 h3
      | false =>
        have ho : okB (i : Int) (c.2.getD i 0) = false := by
          have hr' : rightN (c.2.getD i 0) = false := hr
          simp only [okB, node_nat hi, Bool.true_and]; exact hr'
        rw [if_neg (by rw [ho]; decide)]
        refine ⟨fun hall => ?_, fun _ => rfl⟩
        have := hall i (Nat.le_refl _) hi hb
        rw [hr] at this
        cases this
    | false =>
      rw [hb] at hl
      rw [hs, if_neg (of_decide_eq_false hl.symm), ← mask_same c i hi hb]
      refine ⟨fun hall => ih.1 fun j h1 => hall j (by omega), fun hn => ih.2 fun hall => hn fun j h1 h2 h3 => ?_⟩
      by_cases e : j = i
      · subst e; rw [hb] at h3; cases h3
      · exact hall j (by omega) h2 h3
theorem again_all (c : Pt) : (AllN c 0 → againF c (upC c) none16 = some (maskP c 16)) ∧ (¬ AllN c 0 → againF c (upC c) none16 = none) := by
  rw [← mask_zero c, upC]
  exact again_from c 16 0 rfl
theorem mask_list (c : Pt) (hc : c.2.length = 16) : maskL c 16 = c.2 ↔ ∀ j, j < 16 → hasN c.1 j = false → costN c j = 0 := by
  constructor
  · intro h j hj hh
    have e : (maskL c 16)[j]? = c.2[j]? := by rw [h]
    simp only [maskL, List.getElem?_map, List.getElem?_range hj, Option.map_some, hh, Bool.and_false, Bool.false_eq_true, if_false] at e
    simp [costN, List.getD_eq_getElem?_getD, ← e]
  · intro h
    apply List.ext_getElem?
    intro j
    by_cases hj : j < 16
    · simp only [maskL, List.getElem?_map, List.getElem?_range hj, Option.map_some, decide_eq_true hj, Bool.true_and]
      have e : c.2[j]? = some (costN c j) := by
        simp [costN, List.getD_eq_getElem?_getD, List.getElem?_eq_getElem (show j < c.2.length by omega)]
      rw [e]
      cases hh : hasN c.1 j with
      | true => simp
      | false => simp [h j hj hh]
    · rw [List.getElem?_eq_none (by simp [maskL]; omega), List.getElem?_eq_none (by omega)]

/-- Set anew it is as it was, just if each link is sound. -/
theorem sound_same (c : Pt) (hc : c.2.length = 16) : soundP c = soundF c := by
  have hiff : soundP c = true ↔ soundF c = true := by
    unfold soundP soundF
    rw [Bool.and_eq_true, goods_all, Bool.and_eq_true, decide_eq_true_eq, decide_eq_true_eq]
    have hlow : ((maskP c 16).1 = c.1) ↔ (0 ≤ c.1 ∧ c.1 ≤ 65535) := by
      have hlt := lowN_lt c.1
      have hli := lowN_int c.1
      have e : lowN c.1 % 2 ^ 16 = lowN c.1 := Nat.mod_eq_of_lt (by omega)
      show (((lowN c.1 % 2 ^ 16 : Nat) : Int) = c.1) ↔ _
      rw [e]
      omega
    have hml := mask_list c hc
    constructor
    · intro h
      by_cases hall : AllN c 0
      · rw [(again_all c).1 hall] at h
        simp only [Bool.and_eq_true, decide_eq_true_eq] at h
        have h2 := hml.1 h.2
        refine ⟨fun j _ hj => ?_, hlow.1 h.1⟩
        simp only [goodN]
        cases hb : hasN c.1 j with
        | true => rw [hall j (Nat.zero_le _) (by omega) hb]; rfl
        | false => rw [h2 j (by omega) hb]; rfl
      · rw [(again_all c).2 hall] at h
        cases h
    · rintro ⟨hg, hr⟩
      have hall : AllN c 0 := fun j _ hj hb => by
        have := hg j (Nat.zero_le _) (by omega)
        simp only [goodN, hb, Bool.and_eq_true, beq_iff_eq] at this
        exact this.1.symm
      rw [(again_all c).1 hall]
      have h2 : maskL c 16 = c.2 := hml.2 fun j hj hb => by
        have := hg j (Nat.zero_le _) (by omega)
        simp only [goodN, hb, Bool.and_eq_true, Bool.false_or, beq_iff_eq] at this
        exact this.2
      simp only [Bool.and_eq_true, decide_eq_true_eq]
      exact ⟨hlow.2 hr, h2⟩
  cases h1 : soundP c <;> cases h2 : soundF c <;> simp_all
end CosF
end Go.Proofs.YtnbbepelagdenaaDoor
