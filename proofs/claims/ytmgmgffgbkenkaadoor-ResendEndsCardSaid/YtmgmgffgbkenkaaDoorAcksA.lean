/- Contracts of package acks, part A: the table of bits, bit, isSeq. -/
import Derived.Test.YtmgmgffgbkenkaaDoorQuiet
import Derived.Test.YtmgmgffgbkenkaaDoorAcksF
namespace Go.Proofs.YtmgmgffgbkenkaaDoor
open Go.RowKit Go.Sort

/-- The table of bits lies where the program's variable lies. -/
def Tab (w : World) : Prop := ∀ i : Nat, i < 8 → w.cell? ⟨0, i, none⟩ = some (.int .i64 (2 ^ i))
theorem Tab.on {w w' : World} (h : Tab w) (hb : Below w.heap.size w w') : Tab w' := fun i hi => cell_later hb (h i hi)

theorem bit_in (next seq : Int) (k : Nat) (w : World) (ht : Tab w) (h0 : 0 ≤ next) (hk : k < 8) (hs : seq - next = k) :
    Calls Tryd.prog 17 #[.int .i64 next, .int .i64 seq] w fun e w' => e = .returned (.int .i64 (2 ^ k)) ∧ w = w' := by
  have hc := ht k hk
  have h1 : decide (next < 0) = false := decide_eq_false (by omega)
  have h2 : decide (seq < next) = false := decide_eq_false (by omega)
  have h3 : decide (8 ≤ seq - next) = false := decide_eq_false (by omega)
  have h4 : (0 : Int) ≤ (k : Int) := by omega
  have h5 : (k : Int) < 8 := by omega
  have h6 : wrap64 (seq - next) = (k : Int) := by rw [hs]; exact IntWalk.wrap64_in _ (by omega)
  have h7 : IntKind.i64.wrap (seq - next) = (k : Int) := by rw [hs]; exact IntWalk.i64_in _ (by omega)
  have h8 : decide (8 ≤ (k : Int)) = false := decide_eq_false (by omega)
  clear hs
  go_enter Tryd.func17, Tryd.ntmps17
  go_wp2
  go_ret
  exact ⟨rfl, rfl⟩
theorem bit_out (next seq : Int) (w : World) (h : next < 0 ∨ seq < next ∨ 8 ≤ seq - next) (hn : next < 9223372036854775808) (hs : -9223372036854775808 ≤ seq ∧ seq < 9223372036854775808) :
    Calls Tryd.prog 17 #[.int .i64 next, .int .i64 seq] w fun e w' => e = .returned (.int .i64 0) ∧ w = w' := by
  by_cases h0 : next < 0
  · clear h
    go_enter Tryd.func17, Tryd.ntmps17
    go_wp2
    go_ret
    exact ⟨rfl, rfl⟩
  · by_cases h1 : seq < next
    · have h2 : decide (next < 0) = false := decide_eq_false h0
      clear h
      go_enter Tryd.func17, Tryd.ntmps17
      go_wp2
      go_ret
      exact ⟨rfl, rfl⟩
    · have h2 : decide (next < 0) = false := decide_eq_false h0
      have h3 : decide (seq < next) = false := decide_eq_false h1
      have h5 : wrap64 (seq - next) = seq - next := IntWalk.wrap64_in _ (by omega)
      have h6 : IntKind.i64.wrap (seq - next) = seq - next := IntWalk.i64_in _ (by omega)
      have h4 : (8 : Int) ≤ seq - next := by omega
      clear h
      go_enter Tryd.func17, Tryd.ntmps17
      go_wp2
      go_ret
      exact ⟨rfl, rfl⟩
theorem bit_any (next seq : Int) (w : World) (ht : Tab w) (hn : next < 9223372036854775808) (hs : -9223372036854775808 ≤ seq ∧ seq < 9223372036854775808) :
    Calls Tryd.prog 17 #[.int .i64 next, .int .i64 seq] w fun e w' => e = .returned (.int .i64 (AcksF.bitN next seq : Int)) ∧ w = w' := by
  by_cases h : next < 0 ∨ seq < next ∨ 8 ≤ seq - next
  · rw [AcksF.bitN_out h]; exact bit_out next seq w h hn hs
  · obtain ⟨k, hk⟩ := Int.eq_ofNat_of_zero_le (show 0 ≤ seq - next by omega)
    rw [AcksF.bitN_in (by omega) (k := k) (by omega) hk]
    have e : ((2 ^ k : Nat) : Int) = 2 ^ k := by simp
    rw [e]
    exact bit_in next seq k w ht (by omega) (by omega) hk

end Go.Proofs.YtmgmgffgbkenkaaDoor
