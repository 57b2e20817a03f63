/- The tables, the errors and the white space of Go's own packages as the program's text lays them: what the condition on the listed variables gives the walks that read texts; the door's own heap meets it. -/
import Derived.Test.YtnbbepelagdenaaDoorCosLaid
import Derived.Test.YtnbbepelagdenaaDoorCosW
import Derived.Lib.LaidU8
namespace Go.Proofs.YtnbbepelagdenaaDoor
open Go.ChangeShapes Go.WideShapes Go.ChangeAt Go.RowKit

/-- What is listed. -/
def laidSeven : List (String × DataW Unit) := [("math/bits.deBruijn32tab", Rows.laid_math_bits_deBruijn32tab), ("math/bits.deBruijn64tab", Rows.laid_math_bits_deBruijn64tab), ("internal/strconv.uint64pow10", Rows.laid_internal_strconv_uint64pow10), ("strconv.ErrRange", Rows.laid_strconv_ErrRange), ("strconv.ErrSyntax", Rows.laid_strconv_ErrSyntax), ("unicode.White_Space", Rows.laid_unicode_White_Space), ("strings.asciiSpace", Rows.laid_strings_asciiSpace)]
/-- The door's own heap meets the condition: closed facts. -/
theorem door_met7 (os : Os) (args : Array Value) : laidMetH Tryd.prog laidSeven ((World.doorLaid Tryd.prog 257 os).forCall (fun _ _ => 0) ⟨#[], args, []⟩).memory :=
  laidMetH_of_parts3 (fuel := 8) (laidMet_of_run' 8 (by kernel_rfl) (by kernel_rfl)) (by kernel_rfl) (by kernel_rfl)
theorem plain7 : (laidSeven.all fun x => x.2.handleName?.isNone) = true := by kernel_rfl
theorem reads7 {W : World} (h : laidMetH Tryd.prog laidSeven W) {n : String} {d : DataW Unit} (hm : (n, d) ∈ laidSeven) : Lib.VarReads Tryd.prog W n d := by
  rw [MakeChecks.laidMetH_plain _ _ _ plain7] at h
  exact Lib.laidMet.reads h hm
theorem iface_cell {W : World} {n : String} {nm : String} {d : DataW Unit} {g : Nat} {t : TypeId} {ms : Array (String × TypeId)} (hg : Tryd.prog.globalNamed n = some g) (ht : (Tryd.prog.globals[g]?).map (·.type) = some t)
    (hu : Tryd.prog.underlying t = some (.interface ms)) (h : Lib.VarReads Tryd.prog W n (.iface nm d)) : ∃ t p, W.cell? ⟨g, 0, none⟩ = some (.iface t p) := by
  obtain ⟨g', t', cs, fuel, p, hg', ht', hvar, hd⟩ := h
  obtain rfl := Option.some.inj (hg.symm.trans hg')
  obtain rfl := Option.some.inj (ht.symm.trans ht')
  obtain ⟨_, u, v, hcs, _⟩ := iface_of_trod hu hd
  exact ⟨u, v, by rw [World.var?_cell hg hvar 0, ← Array.getElem?_toList, hcs]; rfl⟩
theorem mem_range : ("strconv.ErrRange", (Rows.laid_strconv_ErrRange : DataW Unit)) ∈ laidSeven := .tail _ (.tail _ (.tail _ (.head _)))
theorem mem_syntax : ("strconv.ErrSyntax", (Rows.laid_strconv_ErrSyntax : DataW Unit)) ∈ laidSeven := .tail _ (.tail _ (.tail _ (.tail _ (.head _))))
theorem mem_white : ("unicode.White_Space", Lib.whiteData) ∈ laidSeven := .tail _ (.tail _ (.tail _ (.tail _ (.tail _ (.head _)))))
set_option maxRecDepth 100000 in
theorem of_laid7 {W : World} (h : laidMetH Tryd.prog laidSeven W) : Tabs W := by
  refine ⟨pow_listed plain7 rfl h, ⟨iface_cell (g := 3) (t := 58) (by kernel_rfl) (by kernel_rfl) Tryd.underlying58 (reads7 h mem_syntax), iface_cell (g := 4) (t := 58) (by kernel_rfl) (by kernel_rfl) Tryd.underlying58 (reads7 h mem_range)⟩, ?_, ?_⟩
  · have h2 := h
    rw [MakeChecks.laidMetH_plain _ _ _ plain7] at h2
    have h3 := h2.filter (fun x => x.1 == "strings.asciiSpace")
    rw [show laidSeven.filter (fun x => x.1 == "strings.asciiSpace") = [("strings.asciiSpace", Lib.tabData .u8 Lib.asciiSpaceTab)] from by kernel_rfl] at h3
    exact Lib.tabIs_of_head (g := 0) (t := 73) (e := 5) (n := 256) (by kernel_rfl) (by kernel_rfl) Tryd.underlying73 Tryd.underlying5 (by kernel_rfl) (by kernel_rfl) h3
  · refine whiteTab_of_reads { lays157 with } ⟨by kernel_rfl, by kernel_rfl, by kernel_rfl, by kernel_rfl, by kernel_rfl, by kernel_rfl, by kernel_rfl, by kernel_rfl⟩ (reads7 h mem_white)
end Go.Proofs.YtnbbepelagdenaaDoor
