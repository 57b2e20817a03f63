/- Bytes of numbers, epochs and pairs: what is read is written so. No function is named here. -/
import Derived.Test.YtdpcpjloacifpaaEpochB
namespace Go.Proofs.Ytdpcpjloacifpaa
open Go.RowKit

theorem numL_of (l : List UInt8) : PackF.numL (PackF.valL l) l.length = l := by
  induction l with
  | nil => rfl
  | cons c l ih =>
    rw [PackF.valL_cons, List.length_cons, PackF.numL]
    have hv := PackF.valL_lt l
    have hp : 0 < 256 ^ l.length := Nat.pow_pos (by omega)
    have e1 : (c.toNat * 256 ^ l.length + PackF.valL l) / 256 ^ l.length = c.toNat := by
      rw [Nat.mul_comm, Nat.mul_add_div hp, Nat.div_eq_of_lt hv, Nat.add_zero]
    rw [e1]
    have e2 : ∀ (k m n : Nat), m % 256 ^ k = n % 256 ^ k → PackF.numL m k = PackF.numL n k := by
      intro k
      induction k with
      | zero => intro _ _ _; rfl
      | succ k ih2 =>
        intro m n h
        rw [PackF.numL, PackF.numL]
        have hk : 0 < 256 ^ k := Nat.pow_pos (by omega)
        have a1 : m / 256 ^ k % 256 = n / 256 ^ k % 256 := by
          have := congrArg (· / 256 ^ k) h
          simp only [Nat.pow_succ] at this
          rwa [← Nat.mod_mul_right_div_self, ← Nat.mod_mul_right_div_self]
        have a2 : m % 256 ^ k = n % 256 ^ k := by
          have := congrArg (· % 256 ^ k) h
          simp only [Nat.pow_succ] at this
          rwa [Nat.mod_mul_right_mod, Nat.mod_mul_right_mod] at this
        rw [ih2 _ _ a2]
        congr 1
        apply UInt8.toNat_inj.1
        simpa using a1
    rw [e2 l.length _ (PackF.valL l) (by rw [Nat.mul_comm, Nat.mul_add_mod])]
    rw [ih]
    congr 1
    exact UInt8.ofNat_toNat

theorem putL_of (l : List UInt8) (h : l.length = 8) : putL (boot l) (local' l) = l := by
  unfold putL boot local'
  have e1 := numL_of (l.take 4)
  have e2 := numL_of ((l.drop 4).take 4)
  rw [show (l.take 4).length = 4 by rw [List.length_take]; omega] at e1
  rw [show ((l.drop 4).take 4).length = 4 by rw [List.length_take, List.length_drop]; omega] at e2
  rw [e1, e2, List.take_of_length_le (l := l.drop 4) (by rw [List.length_drop]; omega), List.take_append_drop]
theorem boot_take (l : List UInt8) (h : 8 ≤ l.length) : boot (l.take 8) = boot l ∧ local' (l.take 8) = local' l := by
  have e : l = l.take 8 ++ l.drop 8 := (List.take_append_drop 8 l).symm
  have hl : (l.take 8).length = 8 := by rw [List.length_take]; omega
  have hp := putL_of (l.take 8) hl
  constructor
  · have := boot_put (boot (l.take 8)) (local' (l.take 8)) (l.drop 8) (boot_lt _)
    rw [hp, ← e] at this; exact this.symm
  · have := local_put (boot (l.take 8)) (local' (l.take 8)) (l.drop 8) (local_lt _)
    rw [hp, ← e] at this; exact this.symm
theorem pairL_of (l : List UInt8) (h : l.length = 16) : pairL (boot l) (local' l) (boot (l.drop 8)) (local' (l.drop 8)) = l := by
  unfold pairL
  obtain ⟨e1, e2⟩ := boot_take l (by omega)
  rw [← e1, ← e2, putL_of _ (by rw [List.length_take]; omega), putL_of _ (by rw [List.length_drop]; omega), List.take_append_drop]
theorem putL_take (l : List UInt8) (h : 8 ≤ l.length) : putL (boot l) (local' l) = l.take 8 := by
  obtain ⟨e1, e2⟩ := boot_take l h
  rw [← e1, ← e2, putL_of _ (by rw [List.length_take]; omega)]
theorem pairL_take (l : List UInt8) (h : 16 ≤ l.length) : pairL (boot l) (local' l) (boot (l.drop 8)) (local' (l.drop 8)) = l.take 16 := by
  unfold pairL
  rw [putL_take l (by omega), putL_take _ (by rw [List.length_drop]; omega)]
  exact (List.take_add (l := l) (i := 8) (j := 8)).symm
end Go.Proofs.Ytdpcpjloacifpaa
