/-
  DERIVED. GIVEN WITH THE SEED: THE CARDS: each row of YtmgmgffgbkenkaaDoorRows.lean that lists a variable, with what it lists TIED to the program's text (the seventh form; the later family's looks); each row that meets fmt, with fmt's text TOLD by the authors' own Lean function (tested against real Go, not proved from fmt's source: count such statements apart). THE CARD IS WHAT COUNTS. Prove the row's statement (the work); the ties are given (YtmgmgffgbkenkaaDoorTie.lean); close each card by the builder's one call (the guide's Derived/Test/ToyasCard.lean, 'card_holds'). Laid BY PROGRAM, IN A SANDBOX (cutbox-door.mjs). By AI agents, Wed Nov 11 2026. No macro, syntax, notation, axiom, sorry.
-/
import Derived.Test.YtmgmgffgbkenkaaDoorRows
import GoSem.ClaimSeven
namespace Go.Proofs.YtmgmgffgbkenkaaDoor
namespace Rows

/-- THE TIED CARD OF 'fingerpostlaw17.ResendEnds'. -/
def resendEndsCard : Claim7 := { stood := { row := resendEndsRow, standIns := [], harness := (true, "c6711d52c86398ae99fff63655dd9d452b307e90b30cf7452d817cdde4c5864c"), looks := false }, kinds := [], alts := [], laidByText := true, laidKinds := [.data], laidTests := true, laidLooks := .later }
def ResendEndsCardSaid : Prop := Claim7.holds Tryd.pinned (.plain (OpenSpec.ofChange resendEndsSpec)) resendEndsCard

/-- THE SECOND FORM's CARD OF 'fingerpostlaw17.ResendEnds'. -/
def resendEndsUptoCard : Claim7 := { stood := { row := resendEndsUptoRow, standIns := [], harness := (true, "c6711d52c86398ae99fff63655dd9d452b307e90b30cf7452d817cdde4c5864c"), looks := false }, kinds := [], alts := [], laidByText := true, laidKinds := [.data], laidTests := true, laidLooks := .later }
def ResendEndsUptoCardSaid : Prop := Claim7.holds Tryd.pinned (.plain (OpenSpec.upto resendEndsSpec)) resendEndsUptoCard
end Rows
end Go.Proofs.YtmgmgffgbkenkaaDoor
