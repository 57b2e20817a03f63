/- Contracts of the document's own None and Newer of epochs. -/
import Derived.Test.YtgmpfnhdcgcldaaEpochN
namespace Go.Proofs.Ytgmpfnhdcgcldaa
open Go.RowKit

theorem rnone_any (a b : Int) (w : World) :
    Calls Try.prog 28 #[(.agg #[.int .u32 a, .int .u32 b] : Value)] w fun e w' => e = .returned (.bool (a == 0 && b == 0)) ∧ Below w.heap.size w w' := by
  go_enter Try.func28, Try.ntmps28
  go_wp2
  all_goals (go_ret; exact ⟨by simp_all, (Below.refl _ _).alloc (Nat.le_refl _) _⟩)

theorem rnewer_any (a b c d : Int) (w : World) :
    Calls Try.prog 30 #[(.agg #[.int .u32 a, .int .u32 b] : Value), (.agg #[.int .u32 c, .int .u32 d] : Value)] w fun e w' => e = .returned (.bool (newerF a b c d)) ∧ Below w.heap.size w w' := by
  by_cases h : a = c
  · have hd : (a == c) = true := by simpa using h
    have HN := Lib.hid (newer_same (b := b) (d := d) h)
    clear h
    go_enter Try.func30, Try.ntmps30
    go_wp2
    go_ret
    exact ⟨by rw [HN.out]; rfl, ((Below.refl _ _).alloc (Nat.le_refl _) _).alloc (by simp) _⟩
  · have hd : (a == c) = false := by simpa using h
    have HN := Lib.hid (newer_other (b := b) (d := d) h)
    clear h
    go_enter Try.func30, Try.ntmps30
    go_wp2
    go_ret
    exact ⟨by rw [HN.out]; rfl, ((Below.refl _ _).alloc (Nat.le_refl _) _).alloc (by simp) _⟩
end Go.Proofs.Ytgmpfnhdcgcldaa
