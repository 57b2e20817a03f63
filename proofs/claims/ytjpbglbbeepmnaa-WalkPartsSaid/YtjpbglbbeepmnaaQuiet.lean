/- A region that draws its order and whose callees lay blocks: the walk's end, and calls by their contracts. No program is named here. -/
import Derived.Test.YtjpbglbbeepmnaaBlk
import Derived.Lib.QuietBelow
namespace Go.Proofs.Ytjpbglbbeepmnaa
open Go.RowKit Go.Sort
/-- A contract whose answer is known, at every world. -/
def Gives (P : Program) (f : FuncId) (args : Array Value) (v : Value) : Prop := ∀ w, Calls P f args w fun e w' => e = .returned v ∧ Below w.heap.size w w'
theorem Gives.at {P : Program} {f : FuncId} {args : Array Value} {v : Value} (h : Gives P f args v) (w : World) (d : Nat) (os : Array Obj) :
    Calls P f args (grow (redrawn w d) os) fun e w'' => e = .returned v ∧ ∃ p : Regrown, w'' = grow (redrawn w p.d) p.os := Calls.regrown_of (h _)
end Go.Proofs.Ytjpbglbbeepmnaa
