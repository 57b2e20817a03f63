/-
  DERIVED. GIVEN WITH THE SEED: THE CARDS: each row of YtaamlmahhkoleaaDoorRows.lean that lists a variable, with what it lists TIED to the program's text (the seventh form; the later family's looks); each row that meets fmt, with fmt's text TOLD by the authors' own Lean function (tested against real Go, not proved from fmt's source: count such statements apart). THE CARD IS WHAT COUNTS. Prove the row's statement (the work); the ties are given (YtaamlmahhkoleaaDoorTie.lean); close each card by the builder's one call (the guide's Derived/Test/ToyasCard.lean, 'card_holds'). Laid BY PROGRAM, IN A SANDBOX (cutbox-door.mjs). By AI agents, Wed Nov 11 2026. No macro, syntax, notation, axiom, sorry.
-/
import Derived.Test.YtaamlmahhkoleaaDoorRows
import GoSem.ClaimSeven
namespace Go.Proofs.YtaamlmahhkoleaaDoor
namespace Rows

/-- THE TIED CARD OF 'fingerpostlaw09.AcksBack'. -/
def acksBackCard : Claim7 := { stood := { row := acksBackRow, standIns := [], harness := (true, "654b9effced4ce6dd584c6fefc91f15e21e9d2563c13ef65ec96fffacc168668"), looks := false }, kinds := [], alts := [], laidByText := true, laidKinds := [.data], laidTests := true, laidLooks := .later }
def AcksBackCardSaid : Prop := Claim7.holds Tryd.pinned (.plain (OpenSpec.ofChange acksBackSpec)) acksBackCard

/-- THE TIED CARD OF 'fingerpostlaw09.AcksBoth'. -/
def acksBothCard : Claim7 := { stood := { row := acksBothRow, standIns := [], harness := (true, "654b9effced4ce6dd584c6fefc91f15e21e9d2563c13ef65ec96fffacc168668"), looks := false }, kinds := [], alts := [], laidByText := true, laidKinds := [.data], laidTests := true, laidLooks := .later }
def AcksBothCardSaid : Prop := Claim7.holds Tryd.pinned (.plain (OpenSpec.ofChange acksBothSpec)) acksBothCard

/-- THE SECOND FORM's CARD OF 'fingerpostlaw09.AcksBack'. -/
def acksBackUptoCard : Claim7 := { stood := { row := acksBackUptoRow, standIns := [], harness := (true, "654b9effced4ce6dd584c6fefc91f15e21e9d2563c13ef65ec96fffacc168668"), looks := false }, kinds := [], alts := [], laidByText := true, laidKinds := [.data], laidTests := true, laidLooks := .later }
def AcksBackUptoCardSaid : Prop := Claim7.holds Tryd.pinned (.plain (OpenSpec.upto acksBackSpec)) acksBackUptoCard

/-- THE SECOND FORM's CARD OF 'fingerpostlaw09.AcksBoth'. -/
def acksBothUptoCard : Claim7 := { stood := { row := acksBothUptoRow, standIns := [], harness := (true, "654b9effced4ce6dd584c6fefc91f15e21e9d2563c13ef65ec96fffacc168668"), looks := false }, kinds := [], alts := [], laidByText := true, laidKinds := [.data], laidTests := true, laidLooks := .later }
def AcksBothUptoCardSaid : Prop := Claim7.holds Tryd.pinned (.plain (OpenSpec.upto acksBothSpec)) acksBothUptoCard
end Rows
end Go.Proofs.YtaamlmahhkoleaaDoor
