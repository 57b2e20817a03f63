/- strconv.ParseUint of base 10 and 32 bits: a number, or an error. For any seat that has it (its two errors are listed). -/
import Derived.Test.YtelfbkfmngjheaaDoorBlk
import Derived.Test.YtelfbkfmngjheaaDoorNumF
import Derived.Test.YtelfbkfmngjheaaDoorLayPu
import Derived.Lib.ParseIntBCases
import Derived.Lib.SmallJoins
namespace Go.Proofs.YtelfbkfmngjheaaDoor
open Go.RowKit NumF Go.Joins

/-- strconv's two errors lie where the program's text lays them. -/
def Errs (w : World) : Prop := (∃ t p, w.cell? ⟨2, 0, none⟩ = some (.iface t p)) ∧ ∃ t p, w.cell? ⟨3, 0, none⟩ = some (.iface t p)
theorem Errs.on {w w' : World} (h : Errs w) (hb : Below w.heap.size w w') : Errs w' := by
  obtain ⟨⟨t, p, h1⟩, t', p', h2⟩ := h
  exact ⟨⟨t, p, cell_later hb h1⟩, t', p', cell_later hb h2⟩
theorem bytes_below (w : World) (t : TypeId) (s : ByteArray) : Below w.heap.size w (Lib.bytesWorld w t s) := below_bytesWorld _ w t s (Nat.le_refl _)
theorem num_some (s : ByteArray) (u : Nat) (w : World) (hs : s.size ≤ 1000) (h : numO s.data.toList = some u) :
    Calls Tryd.prog 52 #[.string s, .int .i64 10, .int .i64 32] w fun e w' => e = .returned (.tuple #[.int .u64 (u : Int), .nilIface]) ∧ Below w.heap.size w w' := by
  have hp : Lib.parseUintB 32 s.data.toList = .ok u := by
    unfold numO at h
    cases hx : Lib.parseUintB 32 s.data.toList with
    | ok v => rw [hx] at h; cases h; rfl
    | _ => rw [hx] at h; cases h
  refine (Any.strconv_ParseUint_10_at32_ok laysPu14 s (by omega) u hp w).mono ?_
  rintro e w' ⟨rfl, hw⟩
  refine ⟨rfl, ?_⟩
  rcases hw with rfl | rfl
  · exact Below.refl _ _
  · exact bytes_below _ _ _
theorem num_none (s : ByteArray) (w : World) (hs : s.size ≤ 1000) (hE : Errs w) (h : numO s.data.toList = none) :
    Calls Tryd.prog 52 #[.string s, .int .i64 10, .int .i64 32] w fun e w' => ∃ (v : Int) (t : TypeId) (p : Value), e = .returned (.tuple #[.int .u64 v, .iface t p]) ∧ Below w.heap.size w w' := by
  obtain ⟨⟨t, p, h1⟩, t', p', h2⟩ := hE
  cases hx : Lib.parseUintB 32 s.data.toList
  · unfold numO at h
    rw [hx] at h
    cases h
  · refine (Any.strconv_ParseUint_10_at32_syntax laysPu14 s (by omega) hx (.iface t p) w h1 (.inr ⟨_, _, rfl⟩)).mono ?_
    rintro e w' ⟨N, rfl, _, _, hb⟩
    exact ⟨_, _, _, rfl, hb⟩
  · refine (Any.strconv_ParseUint_10_at32_range laysPu14 s (by omega) hx (.iface t' p') w h2 (.inr ⟨_, _, rfl⟩)).mono ?_
    rintro e w' ⟨N, rfl, _, _, hb⟩
    exact ⟨_, _, _, rfl, hb⟩
end Go.Proofs.YtelfbkfmngjheaaDoor
