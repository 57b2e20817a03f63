/- The contract of pack.Unblob. -/
import Derived.Test.YtdpcpjloacifpaaPTake
namespace Go.Proofs.Ytdpcpjloacifpaa
open Go.RowKit

/-- What Unblob answers. -/
def unblobV (l : List UInt8) : Value := .tuple #[.string (str (PackF.unblobF l).1), .string (str (PackF.unblobF l).2.1), .int .i64 (PackF.unblobF l).2.2]
theorem unblobV_nil : unblobV [] = .tuple #[.string ⟨#[]⟩, .string ⟨#[]⟩, .int .i64 2] := rfl
theorem unblobV_short (c : UInt8) (r : List UInt8) (h : r.length < c.toNat) : unblobV (c :: r) = .tuple #[.string ⟨#[]⟩, .string ⟨#[]⟩, .int .i64 2] := by
  simp only [unblobV, PackF.unblobF]; rw [if_pos h]; rfl
theorem unblobV_ok (c : UInt8) (r : List UInt8) (h : ¬ r.length < c.toNat) : unblobV (c :: r) = .tuple #[.string ((str r).extract 0 c.toNat), .string ((str r).extract c.toNat (str r).size), .int .i64 0] := by
  simp only [unblobV, PackF.unblobF]; rw [if_neg h, str_drop, str_take, str_list]

theorem take_nil : takeV [] 1 = .tuple #[.int .u64 0, .string ⟨#[]⟩, .int .i64 2] := rfl
theorem take_one (c : UInt8) (r : List UInt8) : takeV (c :: r) 1 = .tuple #[.int .u64 (c.toNat : Int), .string (str r), .int .i64 0] := by
  unfold takeV PackF.takeF
  rw [if_neg (by omega), if_neg (by simp only [List.length_cons]; omega)]
  simp [PackF.valL]

set_option maxHeartbeats 400000 in
theorem unblob_any (s : ByteArray) (w : World) (hs : s.size ≤ maxLen) :
    Calls Try.prog 18 #[.string s] w fun e w' => e = .returned (unblobV s.data.toList) ∧ ∃ n, w' = w.drewN n := by
  have ht := fun w => take_any s 1 w hs
  unfold maxLen at hs
  rcases hl : s.data.toList with _ | ⟨c, r⟩
  · rw [hl] at ht
    rw [take_nil] at ht
    have HT := Lib.hid ht
    have HV := Lib.hid unblobV_nil
    clear ht hl
    go_enter Try.func18, Try.ntmps18
    go_wp2_with (go_at_call 24; refine (HT.out _).mono ?_; rintro e w' ⟨rfl, n, rfl⟩)
    go_ret3
    exact ⟨congrArg _ HV.out.symm, n, rfl⟩
  · rw [hl] at ht
    rw [take_one] at ht
    have HT := Lib.hid ht
    have hz := str_size r
    have hsz := size_list s
    rw [hl, List.length_cons] at hsz
    have hz' : (str r).size ≤ r.length ∧ r.length ≤ (str r).size := by omega
    have hc := c.toNat_lt
    clear ht hl hz
    by_cases h : r.length < c.toNat
    · have HV := Lib.hid (unblobV_short c r h)
      go_enter Try.func18, Try.ntmps18
      go_wp2_with (go_at_call 24; refine (HT.out _).mono ?_; rintro e w' ⟨rfl, n, rfl⟩)
      go_ret3
      exact ⟨congrArg _ HV.out.symm, n, rfl⟩
    · have HV := Lib.hid (unblobV_ok c r h)
      go_enter Try.func18, Try.ntmps18
      go_wp2_with (go_at_call 24; refine (HT.out _).mono ?_; rintro e w' ⟨rfl, n, rfl⟩)
      go_quiet (fail)
      go_wp2
      go_ret3
      exact ⟨congrArg _ HV.out.symm, n + nq, by simp⟩
end Go.Proofs.Ytdpcpjloacifpaa
