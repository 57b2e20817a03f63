/- The tables and the two errors of Go's own packages as the program's text lays them: what the condition on the listed variables gives the walks that read numbers; the door's own heap meets it. -/
import Derived.Test.YtelfbkfmngjheaaDoorTreLaid
import Derived.Test.YtelfbkfmngjheaaDoorNumW
import Derived.Lib.LaidU8
namespace Go.Proofs.YtelfbkfmngjheaaDoor
open Go.ChangeShapes Go.WideShapes Go.ChangeAt Go.RowKit

/-- What is listed. -/
def laidFive : List (String × DataW Unit) := [("math/bits.deBruijn32tab", Rows.laid_math_bits_deBruijn32tab), ("math/bits.deBruijn64tab", Rows.laid_math_bits_deBruijn64tab), ("internal/strconv.uint64pow10", Rows.laid_internal_strconv_uint64pow10), ("strconv.ErrRange", Rows.laid_strconv_ErrRange), ("strconv.ErrSyntax", Rows.laid_strconv_ErrSyntax)]
/-- The door's own heap meets the condition: closed facts. -/
theorem door_met5 (os : Os) (args : Array Value) : laidMetH Tryd.prog laidFive ((World.doorLaid Tryd.prog 62 os).forCall (fun _ _ => 0) ⟨#[], args, []⟩).memory :=
  laidMetH_of_parts3 (fuel := 8) (laidMet_of_run' 8 (by kernel_rfl) (by kernel_rfl)) (by kernel_rfl) (by kernel_rfl)
theorem plain5 : (laidFive.all fun x => x.2.handleName?.isNone) = true := by kernel_rfl
theorem reads5 {W : World} (h : laidMetH Tryd.prog laidFive W) {n : String} {d : DataW Unit} (hm : (n, d) ∈ laidFive) : Lib.VarReads Tryd.prog W n d := by
  rw [MakeChecks.laidMetH_plain _ _ _ plain5] at h
  exact Lib.laidMet.reads h hm
theorem iface_cell {W : World} {n : String} {nm : String} {d : DataW Unit} {g : Nat} {t : TypeId} {ms : Array (String × TypeId)} (hg : Tryd.prog.globalNamed n = some g) (ht : (Tryd.prog.globals[g]?).map (·.type) = some t)
    (hu : Tryd.prog.underlying t = some (.interface ms)) (h : Lib.VarReads Tryd.prog W n (.iface nm d)) : ∃ t p, W.cell? ⟨g, 0, none⟩ = some (.iface t p) := by
  obtain ⟨g', t', cs, fuel, p, hg', ht', hvar, hd⟩ := h
  obtain rfl := Option.some.inj (hg.symm.trans hg')
  obtain rfl := Option.some.inj (ht.symm.trans ht')
  obtain ⟨_, u, v, hcs, _⟩ := iface_of_trod hu hd
  exact ⟨u, v, by rw [World.var?_cell hg hvar 0, ← Array.getElem?_toList, hcs]; rfl⟩
theorem mem_range : ("strconv.ErrRange", (Rows.laid_strconv_ErrRange : DataW Unit)) ∈ laidFive := .tail _ (.tail _ (.tail _ (.head _)))
theorem mem_syntax : ("strconv.ErrSyntax", (Rows.laid_strconv_ErrSyntax : DataW Unit)) ∈ laidFive := .tail _ (.tail _ (.tail _ (.tail _ (.head _))))
set_option maxRecDepth 100000 in
theorem of_laid5 {W : World} (h : laidMetH Tryd.prog laidFive W) : Tab10 W ∧ Errs W :=
  ⟨pow_listed plain5 rfl h, iface_cell (g := 2) (t := 53) (by kernel_rfl) (by kernel_rfl) Tryd.underlying53 (reads5 h mem_syntax), iface_cell (g := 3) (t := 53) (by kernel_rfl) (by kernel_rfl) Tryd.underlying53 (reads5 h mem_range)⟩
end Go.Proofs.YtelfbkfmngjheaaDoor
