/- Plain functions of package costs: links as a text. No program is named here. -/
import Derived.Test.YtnbbepelagdenaaDoorCosG
import Derived.Test.YtnbbepelagdenaaDoorStr
import Derived.Lib.ItoaLen
namespace Go.Proofs.YtnbbepelagdenaaDoor
namespace CosF
open NodesF

/-- A link's text. -/
def pieceF (c : Pt) (n : Nat) : List UInt8 := letF n :: (Lib.decDigits (ofC c (n : Int)) ++ [32])
def textF (c : Pt) : List Nat → List UInt8
  | [] => []
  | n :: l => pieceF c n ++ textF c l
def textC (c : Pt) : List UInt8 := textF c (upC c)
theorem textF_append (c : Pt) : ∀ l m, textF c (l ++ m) = textF c l ++ textF c m
  | [], _ => rfl
  | n :: l, m => by rw [List.cons_append, textF, textF, textF_append c l m, List.append_assoc]
theorem textF_take (c : Pt) {l : List Nat} {k x : Nat} (h : l[k]? = some x) : textF c (l.take (k + 1)) = textF c (l.take k) ++ pieceF c x := by
  have hlt := (List.getElem?_eq_some_iff.1 h).1
  rw [List.take_add_one, h, textF_append]
  simp [textF]
theorem piece_length {c : Pt} (hc : Cos c) (n : Nat) : (pieceF c n).length ≤ 22 := by
  have h1 := Lib.nDigits_le20 (ofC c (n : Int)) (by have := hc.of n; omega)
  simp only [pieceF, List.length_cons, List.length_append, Lib.decDigits_length, List.length_nil]
  omega
theorem textF_length {c : Pt} (hc : Cos c) : ∀ l, (textF c l).length ≤ 22 * l.length
  | [] => by simp [textF]
  | n :: l => by
    have h1 := piece_length hc n
    have h2 := textF_length hc l
    simp only [textF, List.length_append, List.length_cons]
    omega
/-- The text of the set of one node. -/
theorem one_text (n : Nat) (h : n < 16) : textL (lowN (withN 0 n)) = [letF n] := by
  rcases n16 n h with h | h | h | h | h | h | h | h | h | h | h | h | h | h | h | h <;> subst h <;> decide +kernel
end CosF
end Go.Proofs.YtnbbepelagdenaaDoor
