/- '==' on a struct of two fields, field by field. No program is named here. -/
import Derived.Test.YtjpbglbbeepmnaaBase
import Derived.Laws.StructEq
namespace Go.Proofs.Ytjpbglbbeepmnaa
open Go.RowKit
theorem two_fields {P : Program} {d : Nat} {xs ys : Array Value} {f g : Field} {w : World} {x0 y0 x1 y1 : Value} {r0 r1 r : Bool}
    (p0 : (part f.type xs f.offset).run P w = .ok x0 w) (p1 : (part f.type ys f.offset).run P w = .ok y0 w) (h0 : (Op.equalIn d f.type x0 y0).run P w = .ok r0 w)
    (p2 : (part g.type xs g.offset).run P w = .ok x1 w) (p3 : (part g.type ys g.offset).run P w = .ok y1 w) (h1 : (Op.equalIn d g.type x1 y1).run P w = .ok r1 w)
    (hr : r = (r0 && r1)) (hf : f.name ≠ "_") (hg : g.name ≠ "_") : (Op.eqFields d xs ys [f, g]).run P w = .ok r w := by
  subst hr
  simp only [Op.eqFields, if_pos hf, if_pos hg, Sem.run_bind, p0, p1, h0, Result.andThen_ok]
  cases r0
  · simp
  · simp only [Bool.not_true, Bool.false_eq_true, if_false, Sem.run_bind, p2, p3, h1, Result.andThen_ok]
    cases r1 <;> simp
end Go.Proofs.Ytjpbglbbeepmnaa
