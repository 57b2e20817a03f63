/- Plain functions of package tree: a tree as a text. No program is named here. -/
import Derived.Test.YtelfbkfmngjheaaDoorTreF
import Derived.Test.YtelfbkfmngjheaaDoorStr
import Derived.Lib.ItoaLen
namespace Go.Proofs.YtelfbkfmngjheaaDoor
namespace TreF
open NodesF

/-- A node's letter, or a full stop. -/
def letP (p : Int) : UInt8 := if nodeB p then letF p.toNat else 46
/-- An entry's text. -/
def pieceE (e : Ent) (j : Nat) : List UInt8 := letF j :: (Lib.decDigits e.1 ++ [letP e.2, 32])
def textF (t : Tr) : List Nat → List UInt8
  | [] => []
  | j :: l => pieceE (t.getD j farE) j ++ textF t l
def textT (t : Tr) : List UInt8 := textF t (lisR t)
theorem textF_append (t : Tr) : ∀ l m, textF t (l ++ m) = textF t l ++ textF t m
  | [], _ => rfl
  | n :: l, m => by rw [List.cons_append, textF, textF, textF_append t l m, List.append_assoc]
theorem textF_take (t : Tr) {l : List Nat} {k x : Nat} (h : l[k]? = some x) : textF t (l.take (k + 1)) = textF t (l.take k) ++ pieceE (t.getD x farE) x := by
  rw [List.take_add_one, h, textF_append]
  simp [textF]
theorem digits10 (n : Nat) (h : n < 4294967296) : (Lib.decDigits n).length ≤ 10 := by
  rw [Lib.decDigits_length]
  have h1 : ∀ k m : Nat, m < 10 ^ (k + 1) → Lib.nDigits m ≤ k + 1 := by
    intro k
    induction k with
    | zero => intro m hm; rw [Lib.nDigits_small (by simpa using hm)]; exact Nat.le_refl _
    | succ k ih =>
      intro m hm
      by_cases hs : m < 10
      · rw [Lib.nDigits_small hs]; omega
      · rw [Lib.nDigits_big hs]
        have := ih (m / 10) (by rw [Nat.pow_succ] at hm; omega)
        omega
  exact h1 9 n (by omega)
theorem piece_length {t : Tr} (ht : Tre t) (j : Nat) (hj : j < 16) : (pieceE (t.getD j farE) j).length ≤ 13 := by
  obtain ⟨e, he, ho⟩ := ht.at hj
  rw [getD_at he]
  have h1 := digits10 e.1 ho.1
  simp only [pieceE, List.length_cons, List.length_append, List.length_nil]
  omega
theorem textF_length {t : Tr} (ht : Tre t) : ∀ l : List Nat, (∀ x ∈ l, x < 16) → (textF t l).length ≤ 13 * l.length
  | [], _ => by simp [textF]
  | n :: l, h => by
    have h1 := piece_length ht n (h n (by simp))
    have h2 := textF_length ht l (fun x hx => h x (by simp [hx]))
    simp only [textF, List.length_append, List.length_cons]
    omega
theorem text_length {t : Tr} (ht : Tre t) : (textT t).length ≤ 208 := by
  have h1 := textF_length ht (lisR t) (lis_small t)
  have h2 := lis_length t
  unfold textT
  omega
/-- The text of the set of one node. -/
theorem one_text (n : Nat) (h : n < 16) : textL (lowN (withN 0 n)) = [letF n] := by
  rcases n16 n h with h | h | h | h | h | h | h | h | h | h | h | h | h | h | h | h <;> subst h <;> decide +kernel
theorem no_text : textL (lowN 0) = [46] := by decide +kernel
end TreF
end Go.Proofs.YtelfbkfmngjheaaDoor
