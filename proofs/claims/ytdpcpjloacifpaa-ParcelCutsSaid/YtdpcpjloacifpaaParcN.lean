/- What the statement ParcelCuts asks of Cut and Join. -/
import Derived.Test.YtdpcpjloacifpaaParcM
import Derived.Test.YtdpcpjloacifpaaParcAw
namespace Go.Proofs.Ytdpcpjloacifpaa
open Go.RowKit Go.Sort

/-- A contract whose answer is known at every world behind w0. -/
def From (w0 : World) (P : Program) (f : FuncId) (args : Array Value) (v : Value) : Prop := ∀ w, Below w0.heap.size w0 w → Calls P f args w fun e w' => e = .returned v ∧ Below w.heap.size w w'
theorem From.at {w0 : World} {P : Program} {f : FuncId} {args : Array Value} {v : Value} (h : From w0 P f args v) (d : Nat) (os : Array Obj) :
    Calls P f args (grow (redrawn w0 d) os) fun e w'' => e = .returned v ∧ ∃ p : Regrown, w'' = grow (redrawn w0 p.d) p.os := Calls.regrown_of (h _ (below_regrown w0 d os))
theorem row_caps {w : World} {B e size n c : Nat} {a : Option Addr} {xs : List Value} (h : w.ownsRow B e size (.slice a n c) n xs) : n ≤ c ∧ c ≤ maxLen ∧ (a = none → c = 0) := by
  rcases h.2 with ⟨hv, hn⟩ | ⟨g, cap, cur, hv, _, _, h1, h2, _⟩
  · simp only [Value.slice.injEq] at hv
    obtain ⟨rfl, rfl, rfl⟩ := hv
    exact ⟨Nat.le_refl _, by unfold maxLen; omega, fun _ => rfl⟩
  · simp only [Value.slice.injEq] at hv
    obtain ⟨rfl, _, rfl⟩ := hv
    exact ⟨h1, h2, fun h => by cases h⟩
theorem join_cut (p : Par) (l : List UInt8) (m : Nat) : joinL (cutP p l m) p.s = l.take (64 * m) := by
  induction m with
  | zero => rfl
  | succ m ih =>
    have e : ((p.bear (str (pieceL l m))).s == p.s) = true := by simp [Par.bear]
    rw [cutP_succ, joinL_snoc, ih, if_pos e]
    show l.take (64 * m) ++ (str (pieceL l m)).data.toList = _
    rw [str_list, Nat.mul_succ]
    exact (List.take_add (l := l) (i := 64 * m) (j := 64)).symm
theorem take_cut (l : List UInt8) : l.take (64 * cutN l.length) = l.take (min l.length 4096) := by
  unfold cutN
  by_cases h : l.length ≤ 4096
  · rw [List.take_of_length_le (by omega), List.take_of_length_le (by omega)]
  · rw [show 64 * min ((l.length + 63) / 64) 64 = min l.length 4096 by omega]
theorem cut_fits {p q : Par} {l : List UInt8} {m i : Nat} (h : (cutP p l m)[i]? = some q) (hm : m ≤ cutN l.length) : q.s = p.s ∧ q.e = p.e ∧ q.x.size ≤ 64 ∧ 0 < q.x.size := by
  have hi : i < m := by have := (List.getElem?_eq_some_iff.1 h).1; rwa [cutP_length] at this
  rw [cutP_at hi] at h
  obtain rfl := Option.some.inj h
  have hr := cut_round l i (by omega)
  have h64 : 64 * i < l.length := by
    rcases Nat.lt_or_ge (64 * i) l.length with h' | h'
    · exact h'
    · exact absurd (List.drop_of_length_le h') hr.1
  refine ⟨rfl, rfl, ?_, ?_⟩
  · show (str (pieceL l i)).size ≤ 64
    rw [str_size]; unfold pieceL; rw [List.length_take]; omega
  · show 0 < (str (pieceL l i)).size
    rw [str_size]; unfold pieceL; rw [List.length_take, List.length_drop]; omega
end Go.Proofs.Ytdpcpjloacifpaa
