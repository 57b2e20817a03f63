/- Plain functions of package costs: the least, all together, what is unlike; bounds of sound links. No program is named here. -/
import Derived.Test.YtnbbepelagdenaaDoorCosK
import Derived.Test.YtnbbepelagdenaaDoorCosL
import Derived.Test.YtnbbepelagdenaaDoorNodesG
namespace Go.Proofs.YtnbbepelagdenaaDoor
namespace CosF
open NodesF

/-- The first of those that cost least, 'a' being the first so far (-1: none). -/
def leastF (c : Pt) : List Nat → Int → Int
  | [], a => a
  | n :: l, a => if decide (a < 0) || decide (ofC c (n : Int) < ofC c a) then leastF c l (n : Int) else leastF c l a
def leastC (c : Pt) : Int := leastF c (upC c) (-1)
def sumF (c : Pt) : List Nat → Nat
  | [] => 0
  | n :: l => ofC c (n : Int) + sumF c l
def totalC (c : Pt) : Nat := sumF c (upC c)
/-- The nodes from number i on whose costs are unlike, put into s (fuel: how many). -/
def diffF (a b : Pt) : Nat → Nat → Int → Int
  | 0, _, s => s
  | f + 1, i, s => diffF a b f (i + 1) (if ofC a (i : Int) = ofC b (i : Int) then s else withN s i)
def diffC (a b : Pt) : Int := diffF a b 16 0 0

theorem sum_bound {c : Pt} (hc : Cos c) : ∀ l : List Nat, sumF c l ≤ l.length * 4294967296
  | [] => by simp [sumF]
  | n :: l => by
    have h1 := hc.of (n : Int)
    have h2 := sum_bound hc l
    simp only [sumF, List.length_cons]
    omega
theorem diff_same (c : Pt) : ∀ f i s, diffF c c f i s = s
  | 0, _, _ => rfl
  | f + 1, i, s => by rw [diffF, if_pos rfl]; exact diff_same c f (i + 1) s
theorem diff_none (c : Pt) : diffC c c = 0 := diff_same c 16 0 0
theorem up_has (c : Pt) (x : Nat) (h : x ∈ upC c) : x < 16 ∧ hasN c.1 x = true := by
  obtain ⟨_, h1, h2⟩ := nodes_mem _ 16 (Nat.le_refl _) x h
  exact ⟨h1, by rw [has_low c.1 x h1]; exact decide_eq_true h2⟩
theorem of_up (c : Pt) (x : Nat) (h : x ∈ upC c) : ofC c (x : Int) = c.2.getD x 0 := of_ok c x (up_has c x h).1 (up_has c x h).2
theorem sound_of (c : Pt) (h : soundF c = true) (x : Nat) (hx : x ∈ upC c) : 1 ≤ ofC c (x : Int) ∧ ofC c (x : Int) ≤ 65536 := by
  obtain ⟨h16, hh⟩ := up_has c x hx
  have hg := ((sound_iff c).1 h).1 x h16
  rw [of_up c x hx]
  simp only [goodN, hh, Bool.and_eq_true, beq_iff_eq, costN, rightN] at hg
  have := hg.1.symm
  simpa using this
theorem sum_least (c : Pt) (h : soundF c = true) : ∀ l : List Nat, (∀ x ∈ l, x ∈ upC c) → l.length ≤ sumF c l
  | [], _ => by simp [sumF]
  | n :: l, hl => by
    have h1 := sound_of c h n (hl n (by simp))
    have h2 := sum_least c h l (fun x hx => hl x (by simp [hx]))
    simp only [sumF, List.length_cons]
    omega
theorem count_total (c : Pt) (h : soundF c = true) : countN c.1 ≤ totalC c := by
  have h1 := sum_least c h (upC c) (fun x hx => hx)
  have h2 : (upC c).length = countN c.1 := nodes_pop _
  show countN c.1 ≤ sumF c (upC c)
  omega
theorem digits_five (v : Nat) (h : v ≤ 65536) : Lib.nDigits v ≤ 5 := by
  rw [Lib.nDigits]
  split
  · omega
  · rw [Lib.nDigits]
    split
    · omega
    · rw [Lib.nDigits]
      split
      · omega
      · rw [Lib.nDigits]
        split
        · omega
        · rw [Lib.nDigits, dif_pos (by omega)]
          omega
theorem sound_text (c : Pt) (h : soundF c = true) : ∀ l : List Nat, (∀ x ∈ l, x ∈ upC c) → (textF c l).length ≤ 7 * l.length
  | [], _ => by simp [textF]
  | n :: l, hl => by
    have h1 := digits_five _ (sound_of c h n (hl n (by simp))).2
    have h2 := sound_text c h l (fun x hx => hl x (by simp [hx]))
    simp only [textF, pieceF, List.length_append, List.length_cons, Lib.decDigits_length, List.length_nil]
    omega
theorem sound_short (c : Pt) (h : soundF c = true) : (textC c).length ≤ 300 := by
  have h1 := sound_text c h (upC c) (fun x hx => hx)
  have h2 : (upC c).length ≤ 16 := nodes_len _ _
  show (textF c (upC c)).length ≤ 300
  omega
end CosF
end Go.Proofs.YtnbbepelagdenaaDoor
