/- Contracts of package nodes, part B: bits.OnesCount16, Count. -/
import Derived.Test.YtelfbkfmngjheaaDoorNodesA
import Derived.Lib.BitFns
namespace Go.Proofs.YtelfbkfmngjheaaDoor
open Go.RowKit

theorem pop8_nat : ∀ n : Fin 256, Lib.pop8 (n.val : Int) = (NodesF.popN 8 n.val : Int) := by decide +kernel
theorem ones_sum (x : Nat) (h : x < 65536) : (Lib.pop8 ((x : Int) / 256) + Lib.pop8 ((x : Int) % 256)) % 256 = ((NodesF.popN 8 (x % 256) + NodesF.popN 8 (x / 256) : Nat) : Int) := by
  have e1 := pop8_nat ⟨x / 256, by omega⟩
  have e2 := pop8_nat ⟨x % 256, by omega⟩
  have l1 := NodesF.popN_le 8 (x / 256)
  have l2 := NodesF.popN_le 8 (x % 256)
  simp only [Int.natCast_ediv, Int.natCast_emod] at e1 e2
  have c : ((256 : Nat) : Int) = 256 := rfl
  rw [c] at e1 e2
  rw [e1, e2]
  omega

set_option maxRecDepth 100000 in
theorem ones_any (x : Nat) (w : World) (h : x < 65536) : Calls Tryd.prog 44 #[.int .u16 (x : Int)] w fun e w' => e = .returned (.int .i64 (NodesF.popN 16 x : Nat)) ∧ ∃ n, w' = w.drewN n := by
  have hp := NodesF.pop_split x
  have h8 : (0 : Int) ≤ (x : Int) / 256 := by omega
  have h9 : (x : Int) / 256 ≤ 255 := by omega
  have e255 : (255 : Int) = ((255 : Nat) : Int) := rfl
  have ha : bits BinOp.and IntKind.u16 (x : Int) 255 = (x : Int) % 256 := by
    have e := u16_and_nat x 255 h (by omega)
    have e2 : (255 : Nat) = 2 ^ 8 - 1 := by decide
    rw [e2, Nat.and_two_pow_sub_one_eq_mod] at e
    exact e
  have HP := Lib.hid hp
  clear hp e255
  go_enter Tryd.func44, Tryd.ntmps44
  go_wp2
  go_quiet (fail)
  go_wp2
  go_ret
  refine ⟨congrArg Ending.returned (congrArg (Value.int IntKind.i64) ?_), nq, rfl⟩
  rw [HP.out]
  exact ones_sum x h

theorem count_any (s : Int) (w : World) : Calls Tryd.prog 30 #[.int .i64 s] w fun e w' => e = .returned (.int .i64 (NodesF.countN s : Nat)) ∧ ∃ n, w' = w.drewN n := by
  have hl : IntKind.u16.wrap s = (NodesF.lowN s : Int) := by rw [NodesF.lowN_int]; simp [IntKind.wrap, IntKind.bits, IntKind.signed]
  have hlt := NodesF.lowN_lt s
  go_enter Tryd.func30, Tryd.ntmps30
  go_wp2_with fail
  ((with_reducible refine (ones_any _ _ hlt).mono ?_); skip)
  rintro e w1 ⟨rfl, n, rfl⟩
  go_wp2
  go_ret
  exact ⟨rfl, n, rfl⟩
end Go.Proofs.YtelfbkfmngjheaaDoor
