/- Contracts of package epoch, part N: None, Newer, and == of epochs and pairs. -/
import Derived.Test.YtgmpfnhdcgcldaaBase
import Derived.Laws.StructEq
namespace Go.Proofs.Ytgmpfnhdcgcldaa
open Go.RowKit

/-- Whether one epoch is newer than another one. -/
def newerF (a b c d : Int) : Bool := if a = c then decide (d < b) else decide (c < a)
theorem newer_same {a b c d : Int} (h : a = c) : newerF a b c d = decide (d < b) := by unfold newerF; rw [if_pos h]
theorem newer_other {a b c d : Int} (h : a ≠ c) : newerF a b c d = decide (c < a) := by unfold newerF; rw [if_neg h]

theorem run_epoch_eq (a b c d : Int) (w : World) : (binOp .eql 24 (.agg #[.int .u32 a, .int .u32 b] : Value) (.agg #[.int .u32 c, .int .u32 d] : Value)).run Try.prog w = .ok (.bool (a == c && b == d)) w := by
  rw [run_eql_struct, run_equalIn_agg _ _ _ _ _ (by kernel_rfl) (by kernel_rfl)]
  simp [go_sem, Try.underlying24]
  by_cases h1 : a = c <;> by_cases h2 : b = d <;> simp [h1, h2]
theorem run_pair_eq (a b c d a' b' c' d' : Int) (w : World) : (binOp .eql 26 (.agg #[.int .u32 a, .int .u32 b, .int .u32 c, .int .u32 d] : Value) (.agg #[.int .u32 a', .int .u32 b', .int .u32 c', .int .u32 d'] : Value)).run Try.prog w = .ok (.bool ((a == a' && b == b') && (c == c' && d == d'))) w := by
  rw [run_eql_struct, run_equalIn_agg _ _ _ _ _ (by kernel_rfl) (by kernel_rfl)]
  simp [go_sem, Try.underlying26, Try.underlying24]
  by_cases h1 : a = a' <;> by_cases h2 : b = b' <;> by_cases h3 : c = c' <;> by_cases h4 : d = d' <;> simp [h1, h2, h3, h4]

theorem none_any (a b : Int) (w : World) :
    Calls Try.prog 17 #[(.agg #[.int .u32 a, .int .u32 b] : Value)] w fun e w' => e = .returned (.bool (a == 0 && b == 0)) ∧ Below w.heap.size w w' := by
  go_enter Try.func17, Try.ntmps17
  go_wp2
  all_goals (go_ret; exact ⟨by simp_all, (Below.refl _ _).alloc (Nat.le_refl _) _⟩)

theorem newer_any (a b c d : Int) (w : World) :
    Calls Try.prog 29 #[(.agg #[.int .u32 a, .int .u32 b] : Value), (.agg #[.int .u32 c, .int .u32 d] : Value)] w fun e w' => e = .returned (.bool (newerF a b c d)) ∧ Below w.heap.size w w' := by
  by_cases h : a = c
  · have hd : (a == c) = true := by simpa using h
    have HN := Lib.hid (newer_same (b := b) (d := d) h)
    clear h
    go_enter Try.func29, Try.ntmps29
    go_wp2
    go_ret
    exact ⟨by rw [HN.out]; rfl, ((Below.refl _ _).alloc (Nat.le_refl _) _).alloc (by simp) _⟩
  · have hd : (a == c) = false := by simpa using h
    have HN := Lib.hid (newer_other (b := b) (d := d) h)
    clear h
    go_enter Try.func29, Try.ntmps29
    go_wp2
    go_ret
    exact ⟨by rw [HN.out]; rfl, ((Below.refl _ _).alloc (Nat.le_refl _) _).alloc (by simp) _⟩
end Go.Proofs.Ytgmpfnhdcgcldaa
