/- Contracts of package epoch, part A: None, Newer, Swap. -/
import Derived.Test.YtkpobcffkjoilaaBase
import Derived.Laws.StructEq
namespace Go.Proofs.Ytkpobcffkjoilaa
open Go.RowKit

/-- Whether one epoch is newer than another one. -/
def newerF (a b c d : Int) : Bool := if a = c then decide (d < b) else decide (c < a)
theorem newer_same {a b c d : Int} (h : a = c) : newerF a b c d = decide (d < b) := by unfold newerF; rw [if_pos h]
theorem newer_other {a b c d : Int} (h : a ≠ c) : newerF a b c d = decide (c < a) := by unfold newerF; rw [if_neg h]

theorem run_epoch_eq (a b c d : Int) (w : World) : (binOp .eql 24 (.agg #[.int .u32 a, .int .u32 b] : Value) (.agg #[.int .u32 c, .int .u32 d] : Value)).run Try.prog w = .ok (.bool (a == c && b == d)) w := by
  rw [run_eql_struct, run_equalIn_agg _ _ _ _ _ (by kernel_rfl) (by kernel_rfl)]
  simp [go_sem, Try.underlying24]
  by_cases h1 : a = c <;> by_cases h2 : b = d <;> simp [h1, h2]
theorem run_pair_eq (a b c d a' b' c' d' : Int) (w : World) : (binOp .eql 32 (.agg #[.int .u32 a, .int .u32 b, .int .u32 c, .int .u32 d] : Value) (.agg #[.int .u32 a', .int .u32 b', .int .u32 c', .int .u32 d'] : Value)).run Try.prog w = .ok (.bool ((a == a' && b == b') && (c == c' && d == d'))) w := by
  rw [run_eql_struct, run_equalIn_agg _ _ _ _ _ (by kernel_rfl) (by kernel_rfl)]
  simp [go_sem, Try.underlying32, Try.underlying24]
  by_cases h1 : a = a' <;> by_cases h2 : b = b' <;> by_cases h3 : c = c' <;> by_cases h4 : d = d' <;> simp [h1, h2, h3, h4]

theorem none_any (a b : Int) (w : World) :
    Calls Try.prog 11 #[(.agg #[.int .u32 a, .int .u32 b] : Value)] w fun e w' => e = .returned (.bool (a == 0 && b == 0)) ∧ Below w.heap.size w w' := by
  go_enter Try.func11, Try.ntmps11
  go_wp2
  all_goals (go_ret; exact ⟨by simp_all, (Below.refl _ _).alloc (Nat.le_refl _) _⟩)

theorem newer_any (a b c d : Int) (w : World) :
    Calls Try.prog 5 #[(.agg #[.int .u32 a, .int .u32 b] : Value), (.agg #[.int .u32 c, .int .u32 d] : Value)] w fun e w' => e = .returned (.bool (newerF a b c d)) ∧ Below w.heap.size w w' := by
  by_cases h : a = c
  · have hd : (a == c) = true := by simpa using h
    have HN := Lib.hid (newer_same (b := b) (d := d) h)
    clear h
    go_enter Try.func5, Try.ntmps5
    go_wp2
    go_ret
    exact ⟨by rw [HN.out]; rfl, ((Below.refl _ _).alloc (Nat.le_refl _) _).alloc (by simp) _⟩
  · have hd : (a == c) = false := by simpa using h
    have HN := Lib.hid (newer_other (b := b) (d := d) h)
    clear h
    go_enter Try.func5, Try.ntmps5
    go_wp2
    go_ret
    exact ⟨by rw [HN.out]; rfl, ((Below.refl _ _).alloc (Nat.le_refl _) _).alloc (by simp) _⟩

theorem swap_any (a b c d : Int) (w : World) :
    Calls Try.prog 12 #[(.agg #[.int .u32 a, .int .u32 b, .int .u32 c, .int .u32 d] : Value)] w fun e w' => e = .returned (.agg #[.int .u32 c, .int .u32 d, .int .u32 a, .int .u32 b] : Value) ∧ Below w.heap.size w w' := by
  go_enter Try.func12, Try.ntmps12
  go_wp2
  refine bodyPost_ret (v := (.agg #[.int .u32 c, .int .u32 d, .int .u32 a, .int .u32 b] : Value)) (by simp [results, Try.results12, go_sem]) rfl ⟨rfl, ((Below.refl _ _).alloc (Nat.le_refl _) _).alloc (by simp) _⟩

theorem next_wrap (a b : Int) (h : b = 4294967295) (w : World) :
    Calls Try.prog 6 #[(.agg #[.int .u32 a, .int .u32 b] : Value)] w fun e w' => e = .returned (.tuple #[(.agg #[.int .u32 0, .int .u32 0] : Value), .int .i64 11]) ∧ Below w.heap.size w w' := by
  subst h
  go_enter Try.func6, Try.ntmps6
  go_wp2
  refine bodyPost_ret (v := .tuple #[(.agg #[.int .u32 0, .int .u32 0] : Value), .int .i64 11]) (by simp [results, Try.results6, go_sem]) rfl ⟨rfl, ((Below.refl _ _).alloc (Nat.le_refl _) _).alloc (by simp) _⟩
theorem next_ok (a b : Int) (h0 : 0 ≤ b) (h : b < 4294967295) (w : World) :
    Calls Try.prog 6 #[(.agg #[.int .u32 a, .int .u32 b] : Value)] w fun e w' => e = .returned (.tuple #[(.agg #[.int .u32 a, .int .u32 (b + 1)] : Value), .int .i64 0]) ∧ Below w.heap.size w w' := by
  have hb : (b == 4294967295) = false := by simp; omega
  have hw : IntKind.u32.wrap (b + 1) = b + 1 := by rw [IntKind.wrap_u32]; omega
  clear h h0
  go_enter Try.func6, Try.ntmps6
  go_wp2
  refine bodyPost_ret (v := .tuple #[(.agg #[.int .u32 a, .int .u32 (b + 1)] : Value), .int .i64 0]) (by simp [results, Try.results6, go_sem]) rfl ⟨rfl, ((Below.refl _ _).alloc (Nat.le_refl _) _).alloc (by simp) _⟩
theorem reboot_wrap (a b : Int) (h : a = 4294967295) (w : World) :
    Calls Try.prog 7 #[(.agg #[.int .u32 a, .int .u32 b] : Value)] w fun e w' => e = .returned (.tuple #[(.agg #[.int .u32 0, .int .u32 0] : Value), .int .i64 11]) ∧ Below w.heap.size w w' := by
  subst h
  go_enter Try.func7, Try.ntmps7
  go_wp2
  refine bodyPost_ret (v := .tuple #[(.agg #[.int .u32 0, .int .u32 0] : Value), .int .i64 11]) (by simp [results, Try.results7, go_sem]) rfl ⟨rfl, ((Below.refl _ _).alloc (Nat.le_refl _) _).alloc (by simp) _⟩
theorem reboot_ok (a b : Int) (h0 : 0 ≤ a) (h : a < 4294967295) (w : World) :
    Calls Try.prog 7 #[(.agg #[.int .u32 a, .int .u32 b] : Value)] w fun e w' => e = .returned (.tuple #[(.agg #[.int .u32 (a + 1), .int .u32 0] : Value), .int .i64 0]) ∧ Below w.heap.size w w' := by
  have hb : (a == 4294967295) = false := by simp; omega
  have hw : IntKind.u32.wrap (a + 1) = a + 1 := by rw [IntKind.wrap_u32]; omega
  clear h h0
  go_enter Try.func7, Try.ntmps7
  go_wp2
  refine bodyPost_ret (v := .tuple #[(.agg #[.int .u32 (a + 1), .int .u32 0] : Value), .int .i64 0]) (by simp [results, Try.results7, go_sem]) rfl ⟨rfl, ((Below.refl _ _).alloc (Nat.le_refl _) _).alloc (by simp) _⟩
end Go.Proofs.Ytkpobcffkjoilaa
