/- The example that the statements of package pack ask (awake). -/
import Derived.Test.YtigedkbocooinaaPackJ
namespace Go.Proofs.Ytigedkbocooinaa
open Go.RowKit

theorem take_is {s r : ByteArray} {k n c : Int} (w : World) (hs : s.size ≤ maxLen) (h : takeV s.data.toList k = .tuple #[.int .u64 n, .string r, .int .i64 c]) :
    Calls Try.prog 7 #[.string s, .int .i64 k] w fun e w' => e = .returned (.tuple #[.int .u64 n, .string r, .int .i64 c]) ∧ ∃ n, w' = w.drewN n := by
  rw [← h]; exact take_any s k w hs
theorem unblob_is {s a r : ByteArray} {c : Int} (w : World) (hs : s.size ≤ maxLen) (h : unblobV s.data.toList = .tuple #[.string a, .string r, .int .i64 c]) :
    Calls Try.prog 10 #[.string s] w fun e w' => e = .returned (.tuple #[.string a, .string r, .int .i64 c]) ∧ ∃ n, w' = w.drewN n := by
  rw [← h]; exact unblob_any s w hs
theorem blob_is {s r : ByteArray} {c : Int} (w : World) (hs : s.size ≤ maxLen) (h : blobV s.data.toList = .tuple #[.string r, .int .i64 c]) :
    Calls Try.prog 9 #[.string s] w fun e w' => e = .returned (.tuple #[.string r, .int .i64 c]) ∧ Below w.heap.size w w' := by
  rw [← h]; exact blob_any s w hs
theorem num_is {r : ByteArray} {n : Nat} {k : Int} (w : World) (hn : n < 18446744073709551616) (h : str (PackF.numL n (PackF.numK k)) = r) :
    Calls Try.prog 8 #[.int .u64 (n : Int), .int .i64 k] w fun e w' => e = .returned (.string r) ∧ Below w.heap.size w w' := by
  rw [← h]; exact num_any n k w hn
theorem flip_is {s r : ByteArray} {k : Int} (w : World) (hs : s.size ≤ maxLen) (hk : k ≤ 9223372036854775807) (h : str (PackF.flipF s.data.toList k) = r) :
    Calls Try.prog 11 #[.string s, .int .i64 k] w fun e w' => e = .returned (.string r) ∧ Below w.heap.size w w' := by
  rw [← h]; exact flip_any s k w hs hk

theorem aw1 : takeV [2, 1, 120] 2 = .tuple #[.int .u64 513, .string ⟨#[120]⟩, .int .i64 0] := rfl
theorem aw2 : blobV [97, 98] = .tuple #[.string ⟨#[2, 97, 98]⟩, .int .i64 0] := rfl
theorem aw3 : unblobV [2, 97, 98, 99] = .tuple #[.string ⟨#[97, 98]⟩, .string ⟨#[99]⟩, .int .i64 0] := rfl
theorem aw4 : unblobV [3, 97, 98] = .tuple #[.string ⟨#[]⟩, .string ⟨#[]⟩, .int .i64 2] := rfl
theorem aw5 : str (PackF.numL 513 (PackF.numK 2)) = ⟨#[2, 1]⟩ := rfl
theorem aw6 : str (PackF.flipF [0] 0) = ⟨#[128]⟩ := rfl

theorem rest_nil (w : World) : Calls Try.prog 20 #[.string ⟨#[]⟩] w fun e w' => e = .returned (.int .i64 0) ∧ w = w' := rest_any ⟨#[]⟩ w
theorem rest_x (w : World) : Calls Try.prog 20 #[.string ⟨#[120]⟩] w fun e w' => e = .returned (.int .i64 3) ∧ w = w' := rest_any ⟨#[120]⟩ w

set_option maxHeartbeats 400000 in
theorem awake_any (w : World) : Calls Try.prog 6 #[] w fun e w' => e = .returned (.bool true) ∧ Below w.heap.size w w' := by
  go_enter Try.func6, Try.ntmps6
  go_wp2_with fail
  refine (take_is _ (by decide) aw1).mono ?_
  rintro e w1 ⟨rfl, n1, rfl⟩
  go_wp2_with fail
  refine (blob_is _ (by decide) aw2).mono ?_
  rintro e w2 ⟨rfl, hb2⟩
  go_wp2_with fail
  refine (unblob_is _ (by decide) aw3).mono ?_
  rintro e w3 ⟨rfl, n3, rfl⟩
  go_wp2_with fail
  refine (unblob_is _ (by decide) aw4).mono ?_
  rintro e w4 ⟨rfl, n4, rfl⟩
  go_wp2_with fail
  refine (num_is (n := 513) _ (by decide) aw5).mono ?_
  rintro e w5 ⟨rfl, hb5⟩
  go_wp2_with fail
  refine (rest_nil _).mono ?_
  rintro e w6 ⟨rfl, rfl⟩
  go_wp2_with fail
  refine (rest_x _).mono ?_
  rintro e w7 ⟨rfl, rfl⟩
  go_wp2_with fail
  refine (flip_is _ (by decide) (by decide) aw6).mono ?_
  rintro e w8 ⟨rfl, hb8⟩
  go_wp2_with fail
  go_ret
  have hb2' : Below w.heap.size w w2 := (below_drewN (Below.refl _ _) n1).trans hb2
  have hb5' : Below w.heap.size w w5 := (below_drewN hb2' (n3 + n4)).trans (hb5.mono (by simpa using hb2'.size))
  refine ⟨rfl, hb5'.trans (hb8.mono hb5'.size)⟩
end Go.Proofs.Ytigedkbocooinaa
