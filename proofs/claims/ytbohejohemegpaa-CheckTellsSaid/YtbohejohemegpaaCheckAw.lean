/- The example that the statements of package check ask (awake). -/
import Derived.Test.YtbohejohemegpaaCheckOpen
namespace Go.Proofs.Ytbohejohemegpaa
open Go.RowKit

theorem csum_is {s : ByteArray} {n : Int} (w : World) (hs : s.size ≤ maxLen) (h : (CheckF.sumN s.data.toList : Int) = n) :
    Calls Try.prog 9 #[.string s] w fun e w' => e = .returned (.int .u32 n) ∧ Below w.heap.size w w' := by
  rw [← h]; exact sum_any s w hs
theorem cmore_is {s : ByteArray} {m : Nat} {n : Int} (w : World) (hm : m < 4294967296) (hs : s.size ≤ maxLen) (h : (CheckF.moreN m s.data.toList : Int) = n) :
    Calls Try.prog 8 #[.int .u32 (m : Int), .string s] w fun e w' => e = .returned (.int .u32 n) ∧ Below w.heap.size w w' := by
  rw [← h]; exact more_any m s w hm hs
theorem cseal_is {s r : ByteArray} (w : World) (hs : s.size + 4 ≤ maxLen) (h : str (CheckF.sealL s.data.toList) = r) :
    Calls Try.prog 7 #[.string s] w fun e w' => e = .returned (.string r) ∧ Below w.heap.size w w' := by
  rw [← h]; exact seal_any s w hs
theorem copen_is {s r : ByteArray} {c : Int} (w : World) (hs : s.size ≤ maxLen) (h : openV s.data.toList = .tuple #[.string r, .int .i64 c]) :
    Calls Try.prog 6 #[.string s] w fun e w' => e = .returned (.tuple #[.string r, .int .i64 c]) ∧ Below w.heap.size w w' := by
  rw [← h]; exact open_any s w hs

theorem ca1 : str (CheckF.sealL [97, 98, 99]) = ⟨#[97, 98, 99, 2, 77, 1, 39]⟩ := by decide +kernel
theorem ca2 : openV [97, 98, 99, 2, 77, 1, 39] = .tuple #[.string ⟨#[97, 98, 99]⟩, .int .i64 0] := by kernel_rfl
theorem ca3 : openV [97, 98, 99] = .tuple #[.string ⟨#[]⟩, .int .i64 2] := by kernel_rfl
theorem ca4 : openV [97, 98, 99, 100] = .tuple #[.string ⟨#[]⟩, .int .i64 5] := by kernel_rfl
theorem ca5 : (CheckF.sumN [87, 105, 107, 105, 112, 101, 100, 105, 97] : Int) = 300286872 := by decide +kernel
theorem ca6 : (CheckF.sumN [] : Int) = 1 := by decide +kernel
theorem ca7 : (CheckF.sumN [87, 105, 107, 105] : Int) = 64618901 := by decide +kernel
theorem ca8 : (CheckF.moreN 64618901 [112, 101, 100, 105, 97] : Int) = 300286872 := by decide +kernel
theorem ca9 : str (CheckF.sealL []) = ⟨#[0, 0, 0, 1]⟩ := by decide +kernel

set_option maxHeartbeats 1000000 in
theorem cawake_any (w : World) : Calls Try.prog 5 #[] w fun e w' => e = .returned (.bool true) ∧ Below w.heap.size w w' := by
  go_enter Try.func5, Try.ntmps5
  go_wp2_with fail
  refine (cseal_is _ (by decide) ca1).mono ?_
  rintro e w1 ⟨rfl, h1⟩
  go_wp2_with fail
  refine (copen_is _ (by decide) ca2).mono ?_
  rintro e w2 ⟨rfl, h2⟩
  replace h2 := bel_on h1 h2
  clear h1
  go_wp2_with fail
  refine (copen_is _ (by decide) ca3).mono ?_
  rintro e w3 ⟨rfl, h3⟩
  replace h3 := bel_on h2 h3
  clear h2
  go_wp2_with fail
  refine (copen_is _ (by decide) ca4).mono ?_
  rintro e w4 ⟨rfl, h4⟩
  replace h4 := bel_on h3 h4
  clear h3
  go_wp2_with fail
  refine (csum_is (s := ⟨#[87, 105, 107, 105, 112, 101, 100, 105, 97]⟩) (n := 300286872) _ (by decide) ca5).mono ?_
  rintro e w5 ⟨rfl, h5⟩
  replace h5 := bel_on h4 h5
  clear h4
  go_wp2_with fail
  refine (csum_is (s := ⟨#[]⟩) (n := 1) _ (by decide) ca6).mono ?_
  rintro e w6 ⟨rfl, h6⟩
  replace h6 := bel_on h5 h6
  clear h5
  go_wp2_with fail
  refine (csum_is (s := ⟨#[87, 105, 107, 105]⟩) (n := 64618901) _ (by decide) ca7).mono ?_
  rintro e w7 ⟨rfl, h7⟩
  replace h7 := bel_on h6 h7
  clear h6
  go_wp2_with fail
  refine (cmore_is (s := ⟨#[112, 101, 100, 105, 97]⟩) (m := 64618901) (n := 300286872) _ (by decide) (by decide) ca8).mono ?_
  rintro e w8 ⟨rfl, h8⟩
  replace h8 := bel_on h7 h8
  clear h7
  go_wp2_with fail
  refine (cseal_is _ (by decide) ca9).mono ?_
  rintro e w9 ⟨rfl, h9⟩
  replace h9 := bel_on h8 h9
  clear h8
  go_wp2_with fail
  go_ret
  exact ⟨rfl, h9⟩
end Go.Proofs.Ytbohejohemegpaa
