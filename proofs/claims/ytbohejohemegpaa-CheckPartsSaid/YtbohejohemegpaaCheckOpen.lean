/- The contracts of check.seal, check.Seal, check.Open. -/
import Derived.Test.YtbohejohemegpaaCheckMore
import Derived.Test.YtbohejohemegpaaPNum
namespace Go.Proofs.Ytbohejohemegpaa
open Go.RowKit

set_option maxHeartbeats 400000 in
theorem sealb_any (s : ByteArray) (w : World) (hs : s.size ≤ maxLen) :
    Calls Try.prog 10 #[.string s] w fun e w' => e = .returned (.string (str (CheckF.sealB s.data.toList))) ∧ Below w.heap.size w w' := by
  have hlt := CheckF.sumN_lt s.data.toList
  go_enter Try.func10, Try.ntmps10
  go_wp2_with fail
  refine (sum_any s _ hs).mono ?_
  rintro e w1 ⟨rfl, hb⟩
  have HB := Lib.hid hb
  clear hb
  go_wp2_with fail
  refine (num_any (CheckF.sumN s.data.toList) 4 _ (by omega)).mono ?_
  rintro e w2 ⟨rfl, hb2⟩
  have HB2 := Lib.hid hb2
  clear hb2
  go_wp2
  go_ret
  exact ⟨rfl, HB.out.trans (HB2.out.mono HB.out.size)⟩

theorem seal_str (s : ByteArray) : s ++ str (CheckF.sealB s.data.toList) = str (CheckF.sealL s.data.toList) := by
  unfold CheckF.sealL; rw [← str_append, str_of]
theorem sealB_size (l : List UInt8) : (str (CheckF.sealB l)).size = 4 := by rw [str_size, CheckF.sealB_length]

set_option maxHeartbeats 400000 in
theorem seal_any (s : ByteArray) (w : World) (hs : s.size + 4 ≤ maxLen) :
    Calls Try.prog 7 #[.string s] w fun e w' => e = .returned (.string (str (CheckF.sealL s.data.toList))) ∧ Below w.heap.size w w' := by
  have hz : (str (CheckF.sealB s.data.toList)).size ≤ 4 := Nat.le_of_eq (sealB_size _)
  have HS := Lib.hid (seal_str s)
  have hs' : s.size ≤ maxLen := by omega
  unfold maxLen at hs
  go_enter Try.func7, Try.ntmps7
  go_wp2_with fail
  refine (sealb_any s _ hs').mono ?_
  rintro e w1 ⟨rfl, hb⟩
  have HB := Lib.hid hb
  clear hb
  go_wp2
  go_ret
  exact ⟨by rw [← HS.out]; rfl, HB.out⟩

def openV (l : List UInt8) : Value := .tuple #[.string (str (CheckF.openF l).1), .int .i64 (CheckF.openF l).2]
theorem openV_short (l : List UInt8) (h : l.length < 4) : openV l = .tuple #[.string ⟨#[]⟩, .int .i64 2] := by
  unfold openV CheckF.openF; rw [if_pos h]; rfl
theorem openV_bad (l : List UInt8) (h : ¬ l.length < 4) (h2 : ¬ CheckF.sealB (l.take (l.length - 4)) = l.drop (l.length - 4)) : openV l = .tuple #[.string ⟨#[]⟩, .int .i64 5] := by
  unfold openV CheckF.openF; rw [if_neg h, if_neg h2]; rfl
theorem openV_ok (l : List UInt8) (h : ¬ l.length < 4) (h2 : CheckF.sealB (l.take (l.length - 4)) = l.drop (l.length - 4)) : openV l = .tuple #[.string (str (l.take (l.length - 4))), .int .i64 0] := by
  unfold openV CheckF.openF; rw [if_neg h, if_pos h2]

set_option maxHeartbeats 1000000 in
theorem open_any (s : ByteArray) (w : World) (hs : s.size ≤ maxLen) :
    Calls Try.prog 6 #[.string s] w fun e w' => e = .returned (openV s.data.toList) ∧ Below w.heap.size w w' := by
  unfold maxLen at hs
  have hl := size_list s
  by_cases h : s.size < 4
  · have HV := Lib.hid (openV_short s.data.toList (by omega))
    clear hl
    go_enter Try.func6, Try.ntmps6
    go_wp2
    go_ret2
    exact ⟨congrArg _ HV.out.symm, Below.refl _ _⟩
  · obtain ⟨k, hk⟩ : ∃ k, s.size = k + 4 := ⟨s.size - 4, by omega⟩
    have h4 : s.data.toList.length - 4 = k := by omega
    have hsz : (s.extract 0 k).size ≤ maxLen := by rw [ByteArray.size_extract]; unfold maxLen; omega
    have hcall := fun (w : World) => sealb_any (s.extract 0 k) w hsz
    have e1 : (s.extract 0 k).data.toList = s.data.toList.take k := by rw [str_take, str_list]
    have e2 : s.extract k s.size = str (s.data.toList.drop k) := str_drop s k
    rw [e1] at hcall
    have HC := Lib.hid hcall
    have hk1 : (0 : Int) ≤ (s.size : Int) - 4 := by omega
    have hk2 : (s.size : Int) - 4 = (k : Int) := by omega
    have hb1 : (0 : Int) ≤ (k : Int) := by omega
    have hb2 : (k : Int) ≤ (s.size : Int) := by omega
    by_cases he : CheckF.sealB (s.data.toList.take k) = s.data.toList.drop k
    · have HV := Lib.hid (openV_ok s.data.toList (by omega) (by rw [h4]; exact he))
      have hne : (!((str (CheckF.sealB (s.data.toList.take k))).toList == (s.extract k s.size).toList)) = false := by
        rw [Lib.toList_data, Lib.toList_data, str_list, e2, str_list]
        simpa using he
      have HX : Hid (s.extract 0 k = str (s.data.toList.take (s.data.toList.length - 4))) := by rw [h4]; exact str_take s k
      clear hcall e1 e2 h4 hl he hsz hk
      go_enter Try.func6, Try.ntmps6
      go_wp2
      go_region_held3 (fun _ => True) (trivial) ((refine (HC.out _).mono ?_; rintro e w1 ⟨rfl, hb⟩))
      have HB := Lib.hid hb
      clear hb
      go_wp2
      go_ret2
      exact ⟨by rw [HV.out, ← HX.out]; rfl, ((Below.refl _ _).drew).trans HB.out⟩
    · have HV := Lib.hid (openV_bad s.data.toList (by omega) (by rw [h4]; exact he))
      have hne : (!((str (CheckF.sealB (s.data.toList.take k))).toList == (s.extract k s.size).toList)) = true := by
        rw [Lib.toList_data, Lib.toList_data, str_list, e2, str_list]
        simpa using he
      clear hcall e1 e2 h4 hl he hsz hk
      go_enter Try.func6, Try.ntmps6
      go_wp2
      go_region_held3 (fun _ => True) (trivial) ((refine (HC.out _).mono ?_; rintro e w1 ⟨rfl, hb⟩))
      have HB := Lib.hid hb
      clear hb
      go_wp2
      go_ret2
      exact ⟨congrArg _ HV.out.symm, ((Below.refl _ _).drew).trans HB.out⟩
end Go.Proofs.Ytbohejohemegpaa
