/-
  NARROWER THAN 'FOR EVERY INPUT', by the rows' own cells (each row's printed sentence says how): AcksBack: laid · AcksBoth: laid.
  DERIVED. THE GIVEN ROWS OF THIS SEAT. 2 by the template 'for every input the law returns true; each argument reads behind the call as it read before'; 0 by the template 'total and deterministic' (their statements: YtaamlmahhkoleaaDoorTotals.lean).
  GIVEN WITH THE SEED: the statements are not yours to turn. If you find one false, say at which input.
  Laid BY PROGRAM, IN A SANDBOX (cutbox-rows.mjs): the forced cells as the released guide's own fill.sh prints them over the translation 9d7948c8a7beecc0… (all of the seat's roots in one cut). By AI agents, Wed Nov 11 2026. No macro, syntax, notation, axiom, sorry.
-/
import Derived.Test.YtaamlmahhkoleaaDoorChecked
import GoSem.Claim
import GoSem.ClaimJoined
import GoSem.ClaimMapViews
import Derived.JoinedTies
import Derived.KernelRfl
namespace Go.Proofs.YtaamlmahhkoleaaDoor
/- THE CELL 'sum', in the pinned program and in every row, IS THE sha256 OF THE DUMP (.gsa) THAT YtaamlmahhkoleaaDoorProg.lean LOADS. Nothing in Lean hashes anything: it is a label: what it is worth is what the hold of that sum in a sandbox is worth. -/
noncomputable def Tryd.pinned : Pinned := { name := "ytaamlmahhkoleaadoor", sum := "9d7948c8a7beecc004eecc0242d7a1edebb7ca26b2b3a96ead27bd32f7b494dc", checked := Tryd.checked }
namespace Rows
def none {H : Type} : Left H := { results := [], args := [] }

/- WHAT THE LISTED PACKAGE-LEVEL VARIABLES READ AS WHEN THE CALL BEGINS. Each datum BY PROGRAM (the guide's laid-datum.mjs) off the statement by which the dump's own 'gosem.cut.vars' lays the variable. In a bare row this is a premise. The card (YtaamlmahhkoleaaDoorCards.lean) ties it to the program's text. -/
def laid_fingerpost_acks_bits {H : Type} : DataW H := .agg [.lit (.int .i64 1), .lit (.int .i64 2), .lit (.int .i64 4), .lit (.int .i64 8), .lit (.int .i64 16), .lit (.int .i64 32), .lit (.int .i64 64), .lit (.int .i64 128)]

/-- 'fingerpostlaw09.AcksBack': WHATEVER THE INPUT: true; the input reads as it did. -/
def acksBackSpec : ChangeSpec := { name := "acksBack", fn := fun _ => fun
  | [d1, d2, d3] => { results := [.lit (.bool true)], args := [d1, d2, d3] }
  | _ => none }
def acksBackRow : OpenClaim := { program := "ytaamlmahhkoleaadoor", sum := "9d7948c8a7beecc004eecc0242d7a1edebb7ca26b2b3a96ead27bd32f7b494dc", func := "fingerpost/fingerpostlaw09.AcksBack", spec := "acksBack", named := ["fingerpost/acks.bits"], apart := false, laid := [("fingerpost/acks.bits", laid_fingerpost_acks_bits)] }
def AcksBackSaid : Prop := acksBackRow.holds Tryd.pinned (OpenSpec.ofChange acksBackSpec)

/-- ITS FALSE NEIGHBOUR: 'it returns false'. Refute it at one input. -/
def acksBackWrong : ChangeSpec := { name := "acksBack", fn := fun _ => fun
  | [d1, d2, d3] => { results := [.lit (.bool false)], args := [d1, d2, d3] }
  | _ => none }
def AcksBackWrongFalsely : Prop := acksBackRow.holds Tryd.pinned (OpenSpec.ofChange acksBackWrong)

/-- 'fingerpostlaw09.AcksBoth': WHATEVER THE INPUT: true; the input reads as it did. -/
def acksBothSpec : ChangeSpec := { name := "acksBoth", fn := fun _ => fun
  | [d1, d2] => { results := [.lit (.bool true)], args := [d1, d2] }
  | _ => none }
def acksBothRow : OpenClaim := { program := "ytaamlmahhkoleaadoor", sum := "9d7948c8a7beecc004eecc0242d7a1edebb7ca26b2b3a96ead27bd32f7b494dc", func := "fingerpost/fingerpostlaw09.AcksBoth", spec := "acksBoth", named := ["fingerpost/acks.bits"], apart := false, laid := [("fingerpost/acks.bits", laid_fingerpost_acks_bits)] }
def AcksBothSaid : Prop := acksBothRow.holds Tryd.pinned (OpenSpec.ofChange acksBothSpec)

/-- ITS FALSE NEIGHBOUR: 'it returns false'. Refute it at one input. -/
def acksBothWrong : ChangeSpec := { name := "acksBoth", fn := fun _ => fun
  | [d1, d2] => { results := [.lit (.bool false)], args := [d1, d2] }
  | _ => none }
def AcksBothWrongFalsely : Prop := acksBothRow.holds Tryd.pinned (OpenSpec.ofChange acksBothWrong)

/- THE SECOND FORM. 'bulk': how many values and letters a reading holds, each counted each time it is reached (what is shared counts as often as it is met; a slice's spare places count too). A statement '..UptoSaid' is the law's where the arguments, and the package variables that the reading takes, are together of bulk at most 1048576: NARROWER than '..Said'. Prove '..Said' where nothing that the law and all that it calls make is longer than what came in: it says more and counts as full. Else prove '..UptoSaid'. A law counts once. -/
mutual
def uptoBulk {H : Type} : DataW H → Nat
  | .lit (.string bytes) => bytes.length + 1
  | .lit _ => 1
  | .nil => 1
  | .ptr d => uptoBulk d + 1
  | .slice elems spare => uptoBulkAll elems + uptoBulkAll spare + 1
  | .agg parts => uptoBulkAll parts + 1
  | .iface _ d => uptoBulk d + 1
  | .map entries => uptoBulkEntries entries + 1
  | .held _ => 1
def uptoBulkAll {H : Type} : List (DataW H) → Nat
  | [] => 0
  | d :: r => uptoBulk d + uptoBulkAll r
def uptoBulkEntries {H : Type} : List (Lit × DataW H) → Nat
  | [] => 0
  | x :: r => uptoBulkEntry x + uptoBulkEntries r
def uptoBulkEntry {H : Type} : Lit × DataW H → Nat
  | (.string bytes, d) => bytes.length + uptoBulk d + 1
  | (_, d) => uptoBulk d + 1
 end
def uptoSmall : (H : Type) → List (DataW H) → Bool := fun _ ds => decide (uptoBulkAll ds ≤ 1048576)
def OpenSpec.upto (s : _root_.Go.ChangeSpec) : _root_.Go.OpenSpec := { _root_.Go.OpenSpec.ofChange s with cond := some uptoSmall }

/-- 'fingerpostlaw09.AcksBack', WHERE WHAT IT READS IS OF BULK AT MOST 1048576: true; the input reads as it did. -/
def acksBackUptoRow : OpenClaim := { program := "ytaamlmahhkoleaadoor", sum := "9d7948c8a7beecc004eecc0242d7a1edebb7ca26b2b3a96ead27bd32f7b494dc", func := "fingerpost/fingerpostlaw09.AcksBack", spec := "acksBack", named := ["fingerpost/acks.bits"], apart := false, laid := [("fingerpost/acks.bits", laid_fingerpost_acks_bits)], narrowed := true }
def AcksBackUptoSaid : Prop := acksBackUptoRow.holds Tryd.pinned (OpenSpec.upto acksBackSpec)

/-- 'fingerpostlaw09.AcksBoth', WHERE WHAT IT READS IS OF BULK AT MOST 1048576: true; the input reads as it did. -/
def acksBothUptoRow : OpenClaim := { program := "ytaamlmahhkoleaadoor", sum := "9d7948c8a7beecc004eecc0242d7a1edebb7ca26b2b3a96ead27bd32f7b494dc", func := "fingerpost/fingerpostlaw09.AcksBoth", spec := "acksBoth", named := ["fingerpost/acks.bits"], apart := false, laid := [("fingerpost/acks.bits", laid_fingerpost_acks_bits)], narrowed := true }
def AcksBothUptoSaid : Prop := acksBothUptoRow.holds Tryd.pinned (OpenSpec.upto acksBothSpec)

end Rows
end Go.Proofs.YtaamlmahhkoleaaDoor
