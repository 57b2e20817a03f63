/-
  No cell of these rows narrows 'for every input' (looked for: loops, veiled, ifaces, maps, wideKeys, modest, calm, conditions, laid).
  DERIVED. THE GIVEN ROWS OF THIS SEAT. 2 by the template 'for every input the law returns true; each argument reads behind the call as it read before'; 0 by the template 'total and deterministic' (their statements: YtepmlgpllnndlaaTotals.lean).
  GIVEN WITH THE SEED: the statements are not yours to turn. If you find one false, say at which input.
  Laid BY PROGRAM, IN A SANDBOX (cutbox-rows.mjs): the forced cells as the released guide's own fill.sh prints them over the translation 4bd969c64590cc4f… (all of the seat's roots in one cut). By AI agents, Wed Nov 11 2026. No macro, syntax, notation, axiom, sorry.
-/
import Derived.Test.YtepmlgpllnndlaaChecked
import GoSem.Claim
import GoSem.ClaimJoined
import GoSem.ClaimMapViews
import Derived.JoinedTies
import Derived.KernelRfl
namespace Go.Proofs.Ytepmlgpllnndlaa
/- THE CELL 'sum', in the pinned program and in every row, IS THE sha256 OF THE DUMP (.gsa) THAT YtepmlgpllnndlaaProg.lean LOADS. Nothing in Lean hashes anything: it is a label: what it is worth is what the hold of that sum in a sandbox is worth. -/
noncomputable def Try.pinned : Pinned := { name := "ytepmlgpllnndlaa", sum := "4bd969c64590cc4fd5b931022dedd60f463b869b30ed02108c80bc9962d6a47f", checked := Try.checked }
namespace Rows
def none {H : Type} : Left H := { results := [], args := [] }

/-- 'fingerpostlaw21.AliveSays': WHATEVER THE INPUT: true; the input reads as it did. -/
def aliveSaysSpec : ChangeSpec := { name := "aliveSays", fn := fun _ => fun
  | [d1, d2] => { results := [.lit (.bool true)], args := [d1, d2] }
  | _ => none }
def aliveSaysRow : OpenClaim := { program := "ytepmlgpllnndlaa", sum := "4bd969c64590cc4fd5b931022dedd60f463b869b30ed02108c80bc9962d6a47f", func := "fingerpost/fingerpostlaw21.AliveSays", spec := "aliveSays", apart := false }
def AliveSaysSaid : Prop := aliveSaysRow.holds Try.pinned (OpenSpec.ofChange aliveSaysSpec)

/-- ITS FALSE NEIGHBOUR: 'it returns false'. Refute it at one input. -/
def aliveSaysWrong : ChangeSpec := { name := "aliveSays", fn := fun _ => fun
  | [d1, d2] => { results := [.lit (.bool false)], args := [d1, d2] }
  | _ => none }
def AliveSaysWrongFalsely : Prop := aliveSaysRow.holds Try.pinned (OpenSpec.ofChange aliveSaysWrong)

/-- 'fingerpostlaw21.AliveDies': WHATEVER THE INPUT: true; the input reads as it did. -/
def aliveDiesSpec : ChangeSpec := { name := "aliveDies", fn := fun _ => fun
  | [d] => { results := [.lit (.bool true)], args := [d] }
  | _ => none }
def aliveDiesRow : OpenClaim := { program := "ytepmlgpllnndlaa", sum := "4bd969c64590cc4fd5b931022dedd60f463b869b30ed02108c80bc9962d6a47f", func := "fingerpost/fingerpostlaw21.AliveDies", spec := "aliveDies", apart := false }
def AliveDiesSaid : Prop := aliveDiesRow.holds Try.pinned (OpenSpec.ofChange aliveDiesSpec)

/-- ITS FALSE NEIGHBOUR: 'it returns false'. Refute it at one input. -/
def aliveDiesWrong : ChangeSpec := { name := "aliveDies", fn := fun _ => fun
  | [d] => { results := [.lit (.bool false)], args := [d] }
  | _ => none }
def AliveDiesWrongFalsely : Prop := aliveDiesRow.holds Try.pinned (OpenSpec.ofChange aliveDiesWrong)

/- THE SECOND FORM. 'bulk': how many values and letters a reading holds, each counted each time it is reached (what is shared counts as often as it is met; a slice's spare places count too). A statement '..UptoSaid' is the law's where the arguments, and the package variables that the reading takes, are together of bulk at most 1048576: NARROWER than '..Said'. Prove '..Said' where nothing that the law and all that it calls make is longer than what came in: it says more and counts as full. Else prove '..UptoSaid'. A law counts once. -/
mutual
def uptoBulk {H : Type} : DataW H → Nat
  | .lit (.string bytes) => bytes.length + 1
  | .lit _ => 1
  | .nil => 1
  | .ptr d => uptoBulk d + 1
  | .slice elems spare => uptoBulkAll elems + uptoBulkAll spare + 1
  | .agg parts => uptoBulkAll parts + 1
  | .iface _ d => uptoBulk d + 1
  | .map entries => uptoBulkEntries entries + 1
  | .held _ => 1
def uptoBulkAll {H : Type} : List (DataW H) → Nat
  | [] => 0
  | d :: r => uptoBulk d + uptoBulkAll r
def uptoBulkEntries {H : Type} : List (Lit × DataW H) → Nat
  | [] => 0
  | x :: r => uptoBulkEntry x + uptoBulkEntries r
def uptoBulkEntry {H : Type} : Lit × DataW H → Nat
  | (.string bytes, d) => bytes.length + uptoBulk d + 1
  | (_, d) => uptoBulk d + 1
 end
def uptoSmall : (H : Type) → List (DataW H) → Bool := fun _ ds => decide (uptoBulkAll ds ≤ 1048576)
def OpenSpec.upto (s : _root_.Go.ChangeSpec) : _root_.Go.OpenSpec := { _root_.Go.OpenSpec.ofChange s with cond := some uptoSmall }

/-- 'fingerpostlaw21.AliveSays', WHERE WHAT IT READS IS OF BULK AT MOST 1048576: true; the input reads as it did. -/
def aliveSaysUptoRow : OpenClaim := { program := "ytepmlgpllnndlaa", sum := "4bd969c64590cc4fd5b931022dedd60f463b869b30ed02108c80bc9962d6a47f", func := "fingerpost/fingerpostlaw21.AliveSays", spec := "aliveSays", apart := false, narrowed := true }
def AliveSaysUptoSaid : Prop := aliveSaysUptoRow.holds Try.pinned (OpenSpec.upto aliveSaysSpec)

/-- 'fingerpostlaw21.AliveDies', WHERE WHAT IT READS IS OF BULK AT MOST 1048576: true; the input reads as it did. -/
def aliveDiesUptoRow : OpenClaim := { program := "ytepmlgpllnndlaa", sum := "4bd969c64590cc4fd5b931022dedd60f463b869b30ed02108c80bc9962d6a47f", func := "fingerpost/fingerpostlaw21.AliveDies", spec := "aliveDies", apart := false, narrowed := true }
def AliveDiesUptoSaid : Prop := aliveDiesUptoRow.holds Try.pinned (OpenSpec.upto aliveDiesSpec)

end Rows
end Go.Proofs.Ytepmlgpllnndlaa
