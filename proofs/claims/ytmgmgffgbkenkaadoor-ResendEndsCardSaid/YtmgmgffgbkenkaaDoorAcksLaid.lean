/- The table of bits as the program lays it: what the condition on the listed variable gives the walks; the door's own heap meets it. -/
import Derived.Test.YtmgmgffgbkenkaaDoorRows
import Derived.Test.YtmgmgffgbkenkaaDoorAcksA
import Derived.ProofKit
import Derived.LaidMore
import Derived.OpenShut
import Derived.Stop.Joined
namespace Go.Proofs.YtmgmgffgbkenkaaDoor
open Go.ChangeShapes Go.WideShapes Go.ChangeAt Go.RowKit

/-- What is listed. -/
def laidOne : List (String × DataW Unit) := [("fingerpost/acks.bits", Rows.laid_fingerpost_acks_bits)]
theorem gBits : Tryd.prog.globalNamed "fingerpost/acks.bits" = some 0 := by kernel_rfl
theorem tBits : (Tryd.prog.globals[0]?).map (·.type) = some 58 := by kernel_rfl
/-- The door's own heap meets the condition: closed facts. -/
theorem door_met (os : Os) (args : Array Value) : laidMetH Tryd.prog laidOne ((World.doorLaid Tryd.prog 14 os).forCall (fun _ _ => 0) ⟨#[], args, []⟩).memory :=
  laidMetH_of_parts3 (fuel := 8) (laidMet_of_run' 8 (by kernel_rfl) (by kernel_rfl)) (by kernel_rfl) (by kernel_rfl)

theorem of_laid {W : World} (h : laidMetH Tryd.prog laidOne W) : Tab W := by
  rw [MakeChecks.laidMetH_plain _ _ _ (by kernel_rfl)] at h
  obtain ⟨ps, ⟨g0, t0, cs0, f0, p0, q0, hg0, ht0, hv0, hd0, _, _⟩, _, _⟩ := h
  obtain rfl := Option.some.inj (gBits.symm.trans hg0)
  obtain rfl := Option.some.inj (tBits.symm.trans ht0)
  obtain ⟨xs, m1, rfl, hx1, hlen, hn, hel⟩ := DataW.trod_array Tryd.underlying58 hd0
  have c1 : Tryd.prog.cellsOf 3 = 1 := by kernel_rfl
  have hd : xs.map (·.1) = [.lit (.int .i64 1), .lit (.int .i64 2), .lit (.int .i64 4), .lit (.int .i64 8), .lit (.int .i64 16), .lit (.int .i64 32), .lit (.int .i64 64), .lit (.int .i64 128)] := by
    have := congrArg Prod.fst hx1
    simpa using (DataW.agg.inj this).symm
  intro i hi
  have hc := World.var?_cell hg0 hv0 i
  rw [hc]
  have hxi : ∃ p, xs[i]? = some (.lit (.int .i64 (2 ^ i)), p) := by
    have e : (xs.map (·.1))[i]? = some (.lit (.int .i64 (2 ^ i))) := by
      rw [hd]
      match i, hi with
      | 0, _ => rfl
      | 1, _ => rfl
      | 2, _ => rfl
      | 3, _ => rfl
      | 4, _ => rfl
      | 5, _ => rfl
      | 6, _ => rfl
      | 7, _ => rfl
    rw [List.getElem?_map] at e
    obtain ⟨y, hy, e⟩ := Option.map_eq_some_iff.1 e
    obtain ⟨y1, y2⟩ := y
    simp only at e
    subst e
    exact ⟨y2, hy⟩
  obtain ⟨p, hp⟩ := hxi
  have h1 := hel i hi
  rw [hp, c1] at h1
  obtain ⟨k, e1, e2, _⟩ := DataW.trod_int Tryd.underlying3 h1
  have hk : k = 2 ^ i := by
    have := congrArg Prod.fst e2
    simpa using this.symm
  subst hk
  have e3 := congrArg (fun l => l[0]?) e1
  simp at e3
  exact e3
end Go.Proofs.YtmgmgffgbkenkaaDoor
