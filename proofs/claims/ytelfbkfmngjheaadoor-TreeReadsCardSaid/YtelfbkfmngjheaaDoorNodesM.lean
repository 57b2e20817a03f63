/- Contracts of package nodes: Highest alone. (NodesH has it with Next, Lowest and the document's own.) For any seat that has it. -/
import Derived.Test.YtelfbkfmngjheaaDoorNodesB
import Derived.Test.YtelfbkfmngjheaaDoorNodesG
namespace Go.Proofs.YtelfbkfmngjheaaDoor
open Go.RowKit
/-- What Highest answers. -/
def highV (s : Int) : Int := NodesF.highG (NodesF.lowN s) 16
theorem len8_nat : ∀ q : Fin 256, Lib.len8 (q.val : Int) = NodesF.highG q.val 8 + 1 := by decide +kernel
theorem high8_le : ∀ q : Fin 256, -1 ≤ NodesF.highG q.val 8 ∧ NodesF.highG q.val 8 < 8 := by decide +kernel

set_option maxRecDepth 100000 in
theorem len16_any (x : Nat) (w : World) (h : x < 65536) : Calls Tryd.prog 64 #[.int .u16 (x : Int)] w fun e w' => e = .returned (.int .i64 (NodesF.highG x 16 + 1)) ∧ w = w' := by
  by_cases h2 : 256 ≤ x
  · obtain ⟨y, hy⟩ : ∃ y, x / 256 = y := ⟨_, rfl⟩
    have hy2 : y < 256 := by omega
    have e0 : (x : Int) / 256 = (y : Int) := by omega
    have e1 : (y : Int) % 256 = (y : Int) := by omega
    have hq : (256 : Int) ≤ (x : Int) := by omega
    have hy3 : (y : Int) ≤ 255 := by omega
    have hy0 : (0 : Int) ≤ (y : Int) := by omega
    have l := len8_nat ⟨y, hy2⟩
    have l2 := high8_le ⟨y, hy2⟩
    simp only at l l2
    have HW := Lib.hid (NodesF.high_wide x h h2)
    rw [hy] at HW
    have HL2 := Lib.hid l2
    have HL := Lib.hid l
    clear l2 hy l
    go_enter Tryd.func64, Tryd.ntmps64
    go_wp2
    go_ret
    refine ⟨congrArg Ending.returned (congrArg (Value.int IntKind.i64) ?_), rfl⟩
    rw [HW.out, HL.out]
    have := HL2.out
    unfold wrap64
    omega
  · have hq : ¬ (256 : Int) ≤ (x : Int) := by omega
    have hy2 : x < 256 := by omega
    have e1 : (x : Int) % 256 = (x : Int) := by omega
    have hy3 : (x : Int) ≤ 255 := by omega
    have hy0 : (0 : Int) ≤ (x : Int) := by omega
    have l := len8_nat ⟨x, hy2⟩
    have l2 := high8_le ⟨x, hy2⟩
    simp only at l l2
    have HW := Lib.hid (NodesF.high_small x hy2)
    have HL2 := Lib.hid l2
    have HL := Lib.hid l
    clear l2 l
    go_enter Tryd.func64, Tryd.ntmps64
    go_wp2
    go_ret
    refine ⟨congrArg Ending.returned (congrArg (Value.int IntKind.i64) ?_), rfl⟩
    rw [HW.out, HL.out]
    have := HL2.out
    unfold wrap64
    omega
theorem high_any (s : Int) (w : World) : Calls Tryd.prog 54 #[.int .i64 s] w fun e w' => e = .returned (.int .i64 (highV s)) ∧ w = w' := by
  have hl : IntKind.u16.wrap s = (NodesF.lowN s : Int) := by rw [NodesF.lowN_int]; simp [IntKind.wrap, IntKind.bits, IntKind.signed]
  have hlt := NodesF.lowN_lt s
  have HV : Hid (highV s = NodesF.highG (NodesF.lowN s) 16) := Lib.hid rfl
  have hr : -1 ≤ NodesF.highG (NodesF.lowN s) 16 ∧ NodesF.highG (NodesF.lowN s) 16 < 16 := by
    rcases NodesF.high_pre (NodesF.lowN s) 16 with ⟨_, e⟩ | ⟨a, l, hp, e⟩
    · rw [e]; omega
    · have := NodesF.nodes_mem (NodesF.lowN s) 16 (by omega) a (by rw [← NodesF.pre_all, hp]; simp)
      rw [e]; omega
  obtain ⟨hr1, hr2⟩ := hr
  generalize hg : NodesF.highG (NodesF.lowN s) 16 = g at *
  have HG := Lib.hid hg
  have hc := len16_any (NodesF.lowN s)
  rw [hg] at hc
  have HC := Lib.hid hc
  clear hc hg
  go_enter Tryd.func54, Tryd.ntmps54
  go_wp2_with fail
  ((with_reducible refine (HC.out _ hlt).mono ?_); skip)
  rintro e w1 ⟨rfl, rfl⟩
  have q : g + 1 - 1 = g := by omega
  go_wp2
  go_ret
  exact ⟨by rw [HV.out]; first | rfl | (rw [← q]; rfl), rfl⟩
end Go.Proofs.YtelfbkfmngjheaaDoor
