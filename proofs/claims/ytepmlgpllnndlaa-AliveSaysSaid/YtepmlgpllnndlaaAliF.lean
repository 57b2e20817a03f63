/- An end of a session as cells, and what chapter 21 says of a tick, as Lean functions. No function of the program is named here. -/
import Derived.Test.YtepmlgpllnndlaaWhole
namespace Go.Proofs.Ytepmlgpllnndlaa
open Go.RowKit

/-- An end besides its state, its quiet ticks and its wait: both epochs, and its box. -/
structure Ends where
  m1 : Int
  m2 : Int
  t1 : Int
  t2 : Int
  nx : Int
  sa : Option Addr
  sn : Nat
  sc : Nat
  ix : Int
  aa : Option Addr
  an : Nat
  ac : Nat
  ga : Option Addr
  gn : Nat
  gc : Nat
/-- An end as cells. -/
def prt (st q t : Int) (x : Ends) : List Value :=
  [.int .i64 st, .int .u32 x.m1, .int .u32 x.m2, .int .u32 x.t1, .int .u32 x.t2, .int .i64 q, .int .i64 t, .int .i64 x.nx, .slice x.sa x.sn x.sc, .int .i64 x.ix, .slice x.aa x.an x.ac, .slice x.ga x.gn x.gc]
/-- Rules as cells. -/
def rul (h d r s : Int) : List Value := [.int .i64 h, .int .i64 d, .int .i64 r, .int .i64 s]
def ends0 : Ends := ⟨0, 0, 0, 0, 0, none, 0, 0, 0, none, 0, 0, none, 0, 0⟩
theorem prt_length (st q t : Int) (x : Ends) : (prt st q t x).length = 12 := rfl
theorem prt_one (st q t : Int) (x : Ends) : ∀ v ∈ prt st q t x, v.oneCell' = true := by
  intro v hv
  simp only [prt, List.mem_cons, List.not_mem_nil, or_false] at hv
  rcases hv with rfl | rfl | rfl | rfl | rfl | rfl | rfl | rfl | rfl | rfl | rfl | rfl <;> rfl
theorem rul_one (h d r s : Int) : ∀ v ∈ rul h d r s, v.oneCell' = true := by
  intro v hv
  simp only [rul, List.mem_cons, List.not_mem_nil, or_false] at hv
  rcases hv with rfl | rfl | rfl | rfl <;> rfl
theorem prt_quiet (st q t q' : Int) (x : Ends) : (prt st q t x).set 5 (.int .i64 q') = prt st q' t x := rfl
theorem prt_wait (st q t t' : Int) (x : Ends) : (prt st q t x).set 6 (.int .i64 t') = prt st q t' x := rfl

/-- Whether the next tick sends a hello. -/
def dueF (st t : Int) : Bool := (st != 0) && decide (t ≤ 1)
/-- In how many ticks a hello is sent, a tick later. -/
def waitF (t h : Int) : Int := if t ≤ 1 then max h 1 else t - 1
/-- How many ticks nothing was heard, a tick later. -/
def quietF (q d : Int) : Int := if d ≤ q then q else q + 1
/-- Quiet, wait, hello, dead: behind a tick. -/
def tickQ (st q d : Int) : Int := if st = 2 then quietF q d else q
def tickW (st t h : Int) : Int := if st = 0 then t else waitF t h
def tickS (st t : Int) : Bool := dueF st t
def tickD (st q d : Int) : Bool := decide (st = 2) && decide (d ≤ quietF q d)
end Go.Proofs.Ytepmlgpllnndlaa
