/-
  DERIVED. GIVEN WITH THE SEED: THE CARDS: each row of YtnbbepelagdenaaDoorRows.lean that lists a variable, with what it lists TIED to the program's text (the seventh form; the later family's looks); each row that meets fmt, with fmt's text TOLD by the authors' own Lean function (tested against real Go, not proved from fmt's source: count such statements apart). THE CARD IS WHAT COUNTS. Prove the row's statement (the work); the ties are given (YtnbbepelagdenaaDoorTie.lean); close each card by the builder's one call (the guide's Derived/Test/ToyasCard.lean, 'card_holds'). Laid BY PROGRAM, IN A SANDBOX (cutbox-door.mjs). By AI agents, Wed Nov 11 2026. No macro, syntax, notation, axiom, sorry.
-/
import Derived.Test.YtnbbepelagdenaaDoorRows
import GoSem.ClaimSeven
namespace Go.Proofs.YtnbbepelagdenaaDoor
namespace Rows

/-- THE TIED CARD OF 'fingerpostlaw14.CostsSays'. -/
def costsSaysCard : Claim7 := { stood := { row := costsSaysRow, standIns := [], harness := (true, "1cebdafdb14871ca6838cfc8fd4d42fa6dd76dbe2964375e8d8567f807df0bce"), looks := true }, kinds := [], alts := [], laidByText := true, laidKinds := [.data, .data, .data], laidTests := true, laidLooks := .later }
def CostsSaysCardSaid : Prop := Claim7.holds Tryd.pinned (.plain (OpenSpec.ofChange costsSaysSpec)) costsSaysCard

/-- THE TIED CARD OF 'fingerpostlaw14.CostsSound'. -/
def costsSoundCard : Claim7 := { stood := { row := costsSoundRow, standIns := [], harness := (true, "1cebdafdb14871ca6838cfc8fd4d42fa6dd76dbe2964375e8d8567f807df0bce"), looks := true }, kinds := [], alts := [], laidByText := true, laidKinds := [.data, .data, .data], laidTests := true, laidLooks := .later }
def CostsSoundCardSaid : Prop := Claim7.holds Tryd.pinned (.plain (OpenSpec.ofChange costsSoundSpec)) costsSoundCard

/-- THE TIED CARD OF 'fingerpostlaw14.CostsReads'. -/
def costsReadsCard : Claim7 := { stood := { row := costsReadsRow, standIns := [], harness := (true, "1cebdafdb14871ca6838cfc8fd4d42fa6dd76dbe2964375e8d8567f807df0bce"), looks := true }, kinds := [], alts := [], laidByText := true, laidKinds := [.data, .data, .data, .sentinel, .sentinel, .listed, .data], laidTests := true, laidLooks := .later }
def CostsReadsCardSaid : Prop := Claim7.holds Tryd.pinned (.plain (OpenSpec.ofChange costsReadsSpec)) costsReadsCard

/-- THE SECOND FORM's CARD OF 'fingerpostlaw14.CostsSays'. -/
def costsSaysUptoCard : Claim7 := { stood := { row := costsSaysUptoRow, standIns := [], harness := (true, "1cebdafdb14871ca6838cfc8fd4d42fa6dd76dbe2964375e8d8567f807df0bce"), looks := true }, kinds := [], alts := [], laidByText := true, laidKinds := [.data, .data, .data], laidTests := true, laidLooks := .later }
def CostsSaysUptoCardSaid : Prop := Claim7.holds Tryd.pinned (.plain (OpenSpec.upto costsSaysSpec)) costsSaysUptoCard

/-- THE SECOND FORM's CARD OF 'fingerpostlaw14.CostsSound'. -/
def costsSoundUptoCard : Claim7 := { stood := { row := costsSoundUptoRow, standIns := [], harness := (true, "1cebdafdb14871ca6838cfc8fd4d42fa6dd76dbe2964375e8d8567f807df0bce"), looks := true }, kinds := [], alts := [], laidByText := true, laidKinds := [.data, .data, .data], laidTests := true, laidLooks := .later }
def CostsSoundUptoCardSaid : Prop := Claim7.holds Tryd.pinned (.plain (OpenSpec.upto costsSoundSpec)) costsSoundUptoCard

/-- THE SECOND FORM's CARD OF 'fingerpostlaw14.CostsReads'. -/
def costsReadsUptoCard : Claim7 := { stood := { row := costsReadsUptoRow, standIns := [], harness := (true, "1cebdafdb14871ca6838cfc8fd4d42fa6dd76dbe2964375e8d8567f807df0bce"), looks := true }, kinds := [], alts := [], laidByText := true, laidKinds := [.data, .data, .data, .sentinel, .sentinel, .listed, .data], laidTests := true, laidLooks := .later }
def CostsReadsUptoCardSaid : Prop := Claim7.holds Tryd.pinned (.plain (OpenSpec.upto costsReadsSpec)) costsReadsUptoCard
end Rows
end Go.Proofs.YtnbbepelagdenaaDoor
