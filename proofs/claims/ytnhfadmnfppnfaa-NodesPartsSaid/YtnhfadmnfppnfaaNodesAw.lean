/- The example that the statements of package nodes ask (awake). -/
import Derived.Test.YtnhfadmnfppnfaaNodesE
namespace Go.Proofs.Ytnhfadmnfppnfaa
open Go.RowKit

theorem parse_is {s : ByteArray} {a b : Int} (w : World) (h : parseV s.data.toList = .tuple #[.int .i64 a, .int .i64 b]) :
    Calls Try.prog 6 #[.string s] w fun e w' => e = .returned (.tuple #[.int .i64 a, .int .i64 b]) ∧ Below w.heap.size w w' := by
  rw [← h]; exact parse_any s w
theorem text_is {s : Int} {t : ByteArray} (w : World) (h : str (NodesF.textL (NodesF.lowN s)) = t) :
    Calls Try.prog 7 #[.int .i64 s] w fun e w' => e = .returned (.string t) ∧ Below w.heap.size w w' := by
  rw [← h]; exact text_any s w
theorem has_is {s n : Int} {k : Nat} {b : Bool} (w : World) (hn : n = (k : Int)) (hk : k < 16) (h : NodesF.hasN s k = b) :
    Calls Try.prog 10 #[.int .i64 s, .int .i64 n] w fun e w' => e = .returned (.bool b) ∧ w = w' := by
  rw [← h, hn]; exact has_in s k w hk
theorem with_is {s n r : Int} {k : Nat} (w : World) (hn : n = (k : Int)) (hk : k < 16) (h1 : -9223372036854775808 ≤ s) (h2 : s < 9223372036854775808) (h : NodesF.withN s k = r) :
    Calls Try.prog 8 #[.int .i64 s, .int .i64 n] w fun e w' => e = .returned (.int .i64 r) ∧ w = w' := by
  rw [← h, hn]; exact with_in s k w hk h1 h2
theorem without_is {s n r : Int} {k : Nat} (w : World) (hn : n = (k : Int)) (hk : k < 16) (h1 : -9223372036854775808 ≤ s) (h2 : s < 9223372036854775808) (h : NodesF.withoutN s k = r) :
    Calls Try.prog 9 #[.int .i64 s, .int .i64 n] w fun e w' => e = .returned (.int .i64 r) ∧ w = w' := by
  rw [← h, hn]; exact without_in s k w hk h1 h2
theorem count_is {s r : Int} (w : World) (h : (NodesF.countN s : Int) = r) :
    Calls Try.prog 11 #[.int .i64 s] w fun e w' => e = .returned (.int .i64 r) ∧ ∃ n, w' = w.drewN n := by
  rw [← h]; exact count_any s w
theorem right_is {n : Int} {k : Nat} (w : World) (hn : n = (k : Int)) (hk : k < 16) : Calls Try.prog 21 #[.int .i64 n] w fun e w' => e = .returned (.bool true) ∧ w = w' := by
  rw [hn]; exact right_in k w hk
/-- A new slice of so many. -/
def OwnLen (n : Nat) (w : World) (e : Ending) (w' : World) : Prop := ∃ a c, e = .returned (.slice a n c) ∧ Below w.heap.size w w'
theorem list_len {s : Int} {n : Nat} (w : World) (h : (NodesF.nodesN (NodesF.lowN s) 16).length = n) : Calls Try.prog 20 #[.int .i64 s] w (OwnLen n w) :=
  (list_any s w).mono fun e w' ⟨v, he, hown, hb⟩ => by
    obtain ⟨a, c, hv⟩ := own_slice hown
    subst hv
    rw [h] at he
    exact ⟨a, c, he, hb⟩

theorem na1 : parseV [97, 99] = .tuple #[.int .i64 5, .int .i64 0] := by kernel_rfl
theorem na2 : parseV [99, 97] = .tuple #[.int .i64 0, .int .i64 3] := by kernel_rfl
theorem na3 : parseV [113] = .tuple #[.int .i64 0, .int .i64 3] := by kernel_rfl
theorem na4 : str (NodesF.textL (NodesF.lowN 5)) = ⟨#[97, 99]⟩ := by decide +kernel
theorem na5 : str (NodesF.textL (NodesF.lowN 65536)) = ⟨#[46]⟩ := by decide +kernel
theorem na6 : (NodesF.nodesN (NodesF.lowN 5) 16).length = 2 := by decide +kernel
theorem na7 : (NodesF.countN 65535 : Int) = 16 := by decide +kernel

set_option maxRecDepth 100000 in
set_option maxHeartbeats 1000000 in
theorem nawake_any (w : World) : Calls Try.prog 5 #[] w fun e w' => e = .returned (.bool true) ∧ Below w.heap.size w w' := by
  go_enter Try.func5, Try.ntmps5
  go_wp2_with fail
  refine (parse_is _ na1).mono ?_
  rintro e w1 ⟨rfl, h1⟩
  go_wp2_with fail
  refine (parse_is _ na2).mono ?_
  rintro e w2 ⟨rfl, h2⟩
  replace h2 := bel_on h1 h2
  clear h1
  go_wp2_with fail
  refine (parse_is _ na3).mono ?_
  rintro e w3 ⟨rfl, h3⟩
  replace h3 := bel_on h2 h3
  clear h2
  go_wp2_with fail
  refine (text_is (s := 5) _ na4).mono ?_
  rintro e w4 ⟨rfl, h4⟩
  replace h4 := bel_on h3 h4
  clear h3
  go_wp2_with fail
  refine (text_is (s := 65536) _ na5).mono ?_
  rintro e w5 ⟨rfl, h5⟩
  replace h5 := bel_on h4 h5
  clear h4
  go_wp2_with fail
  refine (has_is (s := 5) (n := 2) (k := 2) (b := true) _ rfl (by decide) (by decide)).mono ?_
  rintro e w6 ⟨rfl, rfl⟩
  go_wp2_with fail
  refine (has_is (s := 5) (n := 1) (k := 1) (b := false) _ rfl (by decide) (by decide)).mono ?_
  rintro e w6 ⟨rfl, rfl⟩
  go_wp2_with fail
  refine (with_is (s := 0) (n := 15) (k := 15) (r := 32768) _ rfl (by decide) (by decide) (by decide) (by decide)).mono ?_
  rintro e w6 ⟨rfl, rfl⟩
  go_wp2_with fail
  refine (without_is (s := 7) (n := 1) (k := 1) (r := 5) _ rfl (by decide) (by decide) (by decide) (by decide)).mono ?_
  rintro e w6 ⟨rfl, rfl⟩
  go_wp2_with fail
  refine (count_is (s := 65535) (r := 16) _ na7).mono ?_
  rintro e w6 ⟨rfl, q, rfl⟩
  go_wp2_with fail
  refine (list_len (s := 5) (n := 2) _ na6).mono ?_
  rintro e w7 ⟨a, c, rfl, h7⟩
  replace h7 := bel_on (below_drewN h5 q) h7
  clear h5
  go_wp2_with fail
  refine (right_is (n := 15) (k := 15) _ rfl (by decide)).mono ?_
  rintro e w8 ⟨rfl, rfl⟩
  go_wp2_with fail
  refine (right_out 16 _ (by decide)).mono ?_
  rintro e w8 ⟨rfl, rfl⟩
  go_wp2_with fail
  go_ret
  exact ⟨rfl, h7⟩
end Go.Proofs.Ytnhfadmnfppnfaa
