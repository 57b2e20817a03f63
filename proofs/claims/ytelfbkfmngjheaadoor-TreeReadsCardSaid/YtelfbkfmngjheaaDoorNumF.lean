/- Plain functions: the number of 32 bits that a text of digits spells. No program is named here. -/
import Derived.Test.YtelfbkfmngjheaaDoorStr
import Derived.Lib.ItoaLen
import Derived.Lib.ParseIntB
import Derived.Lib.ParseIntBCases
namespace Go.Proofs.YtelfbkfmngjheaaDoor
namespace NumF

/-- The number that a text of digits spells, if 32 bits hold it. -/
def numO (l : List UInt8) : Option Nat := match Lib.parseUintB 32 l with
  | .ok u => some u
  | _ => none
theorem digit_byte (d : Nat) (h : d < 10) : (UInt8.ofNat (48 + d)).toNat = 48 + d := by simp; omega
theorem num_digits : ∀ (v : Nat) (a : Nat) (r : List UInt8), a = 0 → v < 4294967296 → Lib.parseUintM 4294967295 a (Lib.decDigits v ++ r) = Lib.parseUintM 4294967295 v r := by
  intro v
  induction v using Nat.strongRecOn with
  | _ v ih =>
    intro a r ha hv
    subst ha
    by_cases h : v < 10
    · rw [Lib.decDigits, dif_pos h]
      have hd := digit_byte v h
      simp only [List.cons_append, List.nil_append, Lib.parseUintM]
      rw [if_pos (by rw [hd]; omega), if_neg (by omega), if_neg (by rw [hd]; omega), hd]
      congr 1
      omega
    · rw [Lib.decDigits, dif_neg h, List.append_assoc, ih (v / 10) (by omega) 0 _ rfl (by omega)]
      have hd := digit_byte (v % 10) (by omega)
      simp only [List.cons_append, List.nil_append, Lib.parseUintM]
      rw [if_pos (by rw [hd]; omega), if_neg (by omega), if_neg (by rw [hd]; omega), hd]
      congr 1
      omega
theorem digits_ne (v : Nat) : Lib.decDigits v ≠ [] := by
  intro h
  have := Lib.decDigits_length v
  rw [h] at this
  have := Lib.nDigits_pos v
  simp at *
  omega
theorem num_of (v : Nat) (hv : v < 4294967296) : numO (Lib.decDigits v) = some v := by
  unfold numO Lib.parseUintB
  have h := num_digits v 0 [] rfl hv
  rw [List.append_nil] at h
  rw [if_neg (digits_ne v), show (2 : Nat) ^ 32 - 1 = 4294967295 from rfl, h]
  rfl
theorem digit_plain (v : Nat) : ∀ b ∈ Lib.decDigits v, 48 ≤ b.toNat ∧ b.toNat ≤ 57 := by
  induction v using Nat.strongRecOn with
  | _ v ih =>
    intro b hb
    rw [Lib.decDigits] at hb
    split at hb
    · rename_i h
      obtain rfl : b = UInt8.ofNat (48 + v) := by simpa using hb
      rw [digit_byte v h]; omega
    · rcases List.mem_append.1 hb with hb | hb
      · exact ih (v / 10) (by omega) b hb
      · obtain rfl : b = UInt8.ofNat (48 + v % 10) := by simpa using hb
        rw [digit_byte _ (by omega)]; omega
theorem num_lt {l : List UInt8} {u : Nat} (h : numO l = some u) : u < 4294967296 := by
  unfold numO at h
  cases hx : Lib.parseUintB 32 l with
  | ok v =>
    rw [hx] at h
    cases h
    have := Lib.parseUintB_le hx
    simp at this
    omega
  | _ => rw [hx] at h; cases h
end NumF
end Go.Proofs.YtelfbkfmngjheaaDoor
