/- CheckParts: for every pair of texts CheckParts answers true and leaves its arguments as they were. No condition. -/
import Derived.Test.YtbohejohemegpaaRows
import Derived.Test.YtbohejohemegpaaCheckAw
import Derived.ProofKit
import Derived.OpenShut
import Derived.ShutString
import Derived.ChangeOld
import Derived.Carry
namespace Go.Proofs.Ytbohejohemegpaa.checkParts
open Go.ChangeShapes Go.WideShapes Go.ChangeAt Go.RowKit
open Go.ChangeMaps (open_string shut_string)

theorem own : ownKnob Try.prog.godebug = none := by kernel_rfl
theorem laidOut : laidOutB Try.prog = true := by kernel_rfl

set_option maxHeartbeats 1000000 in
theorem walk (a b : ByteArray) (ha : a.size ≤ maxLen) (hb : b.size ≤ maxLen) (w : World) :
    Calls Try.prog 3 #[.string a, .string b] w fun e w' => e = .returned (.bool true) ∧ Below w.heap.size w w' := by
  unfold maxLen at ha hb
  by_cases hbig : 600 < a.size
  · have ha6 : decide (600 < (a.size : Int)) = true := decide_eq_true (by omega)
    clear hbig
    go_enter Try.func3, Try.ntmps3
    go_wp2_with fail
    refine (cawake_any _).mono ?_
    rintro e w1 ⟨rfl, h1⟩
    go_wp2_with fail
    go_ret
    exact ⟨rfl, h1⟩
  by_cases hbig2 : 600 < b.size
  · have ha6 : decide (600 < (a.size : Int)) = false := decide_eq_false (by omega)
    have hb6 : decide (600 < (b.size : Int)) = true := decide_eq_true (by omega)
    clear hbig hbig2
    go_enter Try.func3, Try.ntmps3
    go_wp2_with fail
    refine (cawake_any _).mono ?_
    rintro e w1 ⟨rfl, h1⟩
    go_wp2_with fail
    go_ret
    exact ⟨rfl, h1⟩
  have ha6 : decide (600 < (a.size : Int)) = false := decide_eq_false (by omega)
  have hb6 : decide (600 < (b.size : Int)) = false := decide_eq_false (by omega)
  have ham : a.size ≤ maxLen := by unfold maxLen; omega
  have hbm : b.size ≤ maxLen := by unfold maxLen; omega
  have hab : (a ++ b).size ≤ 1200 := by rw [ByteArray.size_append]; omega
  have habm : (a ++ b).size ≤ maxLen := by unfold maxLen; omega
  have habm4 : (a ++ b).size + 4 ≤ maxLen := by unfold maxLen; omega
  obtain ⟨y, hy⟩ : ∃ y, str (CheckF.sealL (a ++ b).data.toList) = y := ⟨_, rfl⟩
  have hym : y.size ≤ maxLen := by
    rw [← hy, str_size]; unfold CheckF.sealL maxLen
    rw [List.length_append, CheckF.sealB_length, size_list]; omega
  have ho : openV y.data.toList = .tuple #[.string (a ++ b), .int .i64 0] := by
    rw [← hy, str_list]; unfold openV; rw [CheckF.open_seal, str_of]
  have hd : (a ++ b).data.toList = a.data.toList ++ b.data.toList := by rw [ByteArray.data_append, Array.toList_append]
  have hm : (CheckF.moreN (CheckF.sumN a.data.toList) b.data.toList : Int) = (CheckF.sumN (a ++ b).data.toList : Int) := by rw [hd, CheckF.more_sum]
  have hov : ¬ 9223372036854775807 < a.size + b.size := by omega
  have hlt := CheckF.sumN_lt a.data.toList
  have HY := Lib.hid hy
  have HO := Lib.hid ho
  have HM := Lib.hid hm
  clear hbig hbig2 hy ho hd hm
  go_enter Try.func3, Try.ntmps3
  go_wp2_with fail
  refine (cseal_is _ habm4 HY.out).mono ?_
  rintro e w1 ⟨rfl, h1⟩
  go_wp2_with fail
  refine (copen_is _ hym HO.out).mono ?_
  rintro e w2 ⟨rfl, h2⟩
  replace h2 := bel_on h1 h2
  clear h1
  go_wp2_with fail
  refine (sum_any a _ ham).mono ?_
  rintro e w3 ⟨rfl, h3⟩
  replace h3 := bel_on h2 h3
  clear h2
  go_wp2_with fail
  refine (cmore_is _ hlt hbm HM.out).mono ?_
  rintro e w4 ⟨rfl, h4⟩
  replace h4 := bel_on h3 h4
  clear h3
  go_wp2_with fail
  refine (sum_any (a ++ b) _ habm).mono ?_
  rintro e w5 ⟨rfl, h5⟩
  replace h5 := bel_on h4 h5
  clear h4
  go_wp2_with fail
  refine (cawake_any _).mono ?_
  rintro e w6 ⟨rfl, h6⟩
  replace h6 := bel_on h5 h6
  clear h5
  go_wp2_with fail
  go_ret
  exact ⟨rfl, h6⟩


set_option maxRecDepth 100000 in
theorem lifted (os : Os) (started : os.Started) (H : Type) (enc : TypeId × Value → H) :
    ReturnsInHanded {} Try.checked os 3 .any (Rows.checkPartsSpec.pre6 enc Try.prog Try.f3 Rows.checkPartsRow.domain false) (Rows.checkPartsSpec.post enc Try.prog Try.f3 false true false false) := by
  refine returnsInHanded_of_change (C := Try.checked) own started (by kernel_rfl) Try.func3
    (ChangeSpec.witness6 (enc := enc) (C := Try.checked) false ⟨#[], #[.string ByteArray.empty, .string ByteArray.empty], []⟩ 8 (by kernel_rfl) (by kernel_rfl) (by kernel_rfl) (by kernel_rfl)) ?_
  intro W base args ds gs before hval0 hW hcnd _
  have hval : ∀ (j : Nat) t v, Try.f3.params[j]? = some t → args[j]? = some v → Value.okWide Try.prog W .any base t v := hval0
  have hW' := hW
  obtain ⟨p, q, hA0, hV, rfl, hfz, hnd⟩ := hW
  have hA : DataW.TrodAll enc Try.prog W 0 (fun _ => true) true Try.f3.params.toList args.toList ds p := hA0
  rw [Try.params3] at hA hval
  obtain ⟨v0, vs0, d0, ds0, p0, q0, hargs, rfl, rfl, h0, r0⟩ := trodAll_cons hA
  obtain ⟨v1, vs1, d1, ds1, p1, q1, rfl, rfl, rfl, h1, r1⟩ := trodAll_cons r0
  obtain ⟨rfl, rfl, rfl⟩ := trodAll_nil r1
  obtain rfl : args = #[v0, v1] := by cases args; simp_all
  obtain ⟨rfl, rfl⟩ := trodVars_none hV
  have k0 := h0
  have lt0 : ∀ x ∈ p0, x.block < W.heap.size := by obtain ⟨m, hm⟩ := k0; exact DataW.trod_lt m _ _ _ hm
  have k1 := h1
  have lt1 : ∀ x ∈ p1, x.block < W.heap.size := by obtain ⟨m, hm⟩ := k1; exact DataW.trod_lt m _ _ _ hm
  obtain ⟨a, rfl, _, _, ha⟩ := open_string Try.underlying9 (hval 0 9 v0 rfl rfl) h0
  obtain ⟨b, rfl, _, _, hb⟩ := open_string Try.underlying9 (hval 1 9 v1 rfl rfl) h1
  clear hA0 hval0
  refine (walk a b ha hb W).mono fun e W' ⟨he, bel⟩ => ?_
  subst he
  exact ⟨_, rfl, _, _, _, [], _, [], hW', trodAll_mk1 (shut_bool Try.underlying4 _),
    (trodAll_cons_mk (Below.trod laidOut (by kernel_rfl) (of_decide_eq_true (by kernel_rfl)) k0 bel lt0)
    (trodAll_cons_mk (Below.trod laidOut (by kernel_rfl) (of_decide_eq_true (by kernel_rfl)) k1 bel lt1)
    trodAll_mk0)), rfl, bel.frame _, fun h => by cases h⟩

theorem proved : Rows.CheckPartsSaid :=
  OpenClaim.holds_of_wide 3 Try.f3 rfl rfl rfl rfl rfl rfl rfl ⟨rfl, rfl, rfl, rfl, rfl⟩ rfl rfl rfl rfl rfl (by kernel_rfl) Try.func3 (by kernel_rfl)
    (of_decide_eq_true (by kernel_rfl)) (by unfold Func.isWrapper; first | (rw [if_pos (by decide +kernel)]; kernel_rfl) | (rw [if_neg (by decide +kernel)]; exact ⟨rfl, rfl⟩))
    (fun os started H enc _ => lifted os started H enc)
end Go.Proofs.Ytbohejohemegpaa.checkParts
