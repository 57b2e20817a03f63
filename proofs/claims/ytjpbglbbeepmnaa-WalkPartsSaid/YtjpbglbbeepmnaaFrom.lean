/- Contracts whose answer is known behind a world w0. No program is named here. -/
import Derived.Test.YtjpbglbbeepmnaaQuiet
namespace Go.Proofs.Ytjpbglbbeepmnaa
open Go.RowKit Go.Sort
/-- A contract whose answer is known at every world behind w0. -/
def From (w0 : World) (P : Program) (f : FuncId) (args : Array Value) (v : Value) : Prop := ∀ w, Below w0.heap.size w0 w → Calls P f args w fun e w' => e = .returned v ∧ Below w.heap.size w w'
theorem From.at {w0 : World} {P : Program} {f : FuncId} {args : Array Value} {v : Value} (h : From w0 P f args v) (d : Nat) (os : Array Obj) :
    Calls P f args (grow (redrawn w0 d) os) fun e w'' => e = .returned v ∧ ∃ p : Regrown, w'' = grow (redrawn w0 p.d) p.os := Calls.regrown_of (h _ (below_regrown w0 d os))
end Go.Proofs.Ytjpbglbbeepmnaa
