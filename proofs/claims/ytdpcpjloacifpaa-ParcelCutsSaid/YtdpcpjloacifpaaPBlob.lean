/- The contract of pack.Blob. -/
import Derived.Test.YtdpcpjloacifpaaPNum
namespace Go.Proofs.Ytdpcpjloacifpaa
open Go.RowKit

/-- What Blob answers. -/
def blobV (l : List UInt8) : Value :=
  if 255 < l.length then .tuple #[.string ⟨#[]⟩, .int .i64 4] else .tuple #[.string (str (UInt8.ofNat l.length :: l)), .int .i64 0]
theorem blobV_no (l : List UInt8) (h : 255 < l.length) : blobV l = .tuple #[.string ⟨#[]⟩, .int .i64 4] := by unfold blobV; rw [if_pos h]
theorem blobV_yes (s : ByteArray) (h : ¬ 255 < s.size) : blobV s.data.toList = .tuple #[.string (str (PackF.numL s.size 1) ++ s), .int .i64 0] := by
  unfold blobV
  rw [size_list, if_neg h]
  have e : str (PackF.numL s.size 1) ++ s = str (PackF.numL s.size 1) ++ str s.data.toList := by rw [str_of]
  rw [e, str_append]
  simp [PackF.numL]

theorem num_one (n : Nat) (w : World) (hn : n < 18446744073709551616) :
    Calls Try.prog 16 #[.int .u64 (n : Int), .int .i64 1] w fun e w' => e = .returned (.string (str (PackF.numL n 1))) ∧ Below w.heap.size w w' := num_any n 1 w hn

set_option maxHeartbeats 400000 in
theorem blob_any (s : ByteArray) (w : World) (hs : s.size ≤ maxLen) :
    Calls Try.prog 15 #[.string s] w fun e w' => e = .returned (blobV s.data.toList) ∧ Below w.heap.size w w' := by
  unfold maxLen at hs
  by_cases h : 255 < s.size
  · have HV := Lib.hid (blobV_no s.data.toList (by rw [size_list]; exact h))
    go_enter Try.func15, Try.ntmps15
    go_wp2
    go_ret2
    exact ⟨congrArg _ HV.out.symm, Below.refl _ _⟩
  · have HV := Lib.hid (blobV_yes s h)
    have hz := str_size (PackF.numL s.size 1)
    rw [PackF.numL_length] at hz
    have hz' : (str (PackF.numL s.size 1)).size ≤ 1 := by omega
    clear hz
    go_enter Try.func15, Try.ntmps15
    go_wp2_with (go_at_call 16; refine (num_one s.size _ (by omega)).mono ?_; rintro e w' ⟨rfl, hb⟩)
    go_ret2
    exact ⟨congrArg _ HV.out.symm, hb⟩

end Go.Proofs.Ytdpcpjloacifpaa
