/- What was sent, as plain data: what chapter 17 says of it, without any program. -/
import Derived.Test.YtmgmgffgbkenkaaDoorBase
namespace Go.Proofs.YtmgmgffgbkenkaaDoor
open Go.RowKit

/-- What was sent: its number, its bytes, how often, the ticks that are left. -/
structure Snt where
  s : Int
  y : ByteArray
  t : Int
  l : Int
def Snt.cells (x : Snt) : List Value := [.int .i64 x.s, .string x.y, .int .i64 x.t, .int .i64 x.l]
theorem take_snoc {α : Type} {L : List α} {i : Nat} {x : α} (h : L[i]? = some x) : L.take (i + 1) = L.take i ++ [x] := by
  rw [List.take_add_one, h]; rfl
theorem set_snoc {α : Type} {L M : List α} {i : Nat} {x y : α} (h : L[i]? = some x) (hM : M.length = i) : (M ++ L.drop i).set i y = M ++ [y] ++ L.drop (i + 1) := by
  have hi := (List.getElem?_eq_some_iff.1 h).1
  have e : L.drop i = x :: L.drop (i + 1) := by rw [List.drop_eq_getElem_cons hi, (List.getElem?_eq_some_iff.1 h).2]
  rw [e, List.set_append_right _ _ (by omega), hM, Nat.sub_self, List.set_cons_zero, List.append_assoc]; rfl
theorem at_snoc {α : Type} {L M : List α} {i : Nat} {x : α} (h : L[i]? = some x) (hM : M.length = i) : (M ++ L.drop i)[i]? = some x := by
  rw [List.getElem?_append_right (by omega), hM, Nat.sub_self, List.getElem?_drop, Nat.add_zero]; exact h
theorem meas_k (m i : Nat) (h : i < m) (v : Int) (hv : v = (i : Int) + 1) : (m - intOf (.int .i64 v)).toNat < (m - intOf (.int .i64 (i : Int))).toNat := by
  subst hv
  simp [intOf]; omega

/-- What a tick makes of one: by the rule's ticks and tries. -/
def tick1 (r t : Int) (x : Snt) : Snt := if 1 < x.l then ⟨x.s, x.y, x.t, wrap64 (x.l - 1)⟩ else if t ≤ x.t then x else ⟨x.s, x.y, wrap64 (x.t + 1), r⟩
def again1 (t : Int) (x : Snt) : List ByteArray := if 1 < x.l then [] else if t ≤ x.t then [] else [x.y]
def dead1 (t : Int) (x : Snt) : Bool := if 1 < x.l then false else decide (t ≤ x.t)
def tickL (r t : Int) (L : List Snt) : List Snt := L.map (tick1 r t)
def againL (t : Int) (L : List Snt) : List ByteArray := L.flatMap (again1 t)
def deadL (t : Int) (L : List Snt) : Bool := L.any (dead1 t)
theorem tickL_length (r t : Int) (L : List Snt) : (tickL r t L).length = L.length := by simp [tickL]
theorem tickL_snoc (r t : Int) (L : List Snt) (x : Snt) : tickL r t (L ++ [x]) = tickL r t L ++ [tick1 r t x] := by simp [tickL]
theorem againL_snoc (t : Int) (L : List Snt) (x : Snt) : againL t (L ++ [x]) = againL t L ++ again1 t x := by simp [againL]
theorem deadL_snoc (t : Int) (L : List Snt) (x : Snt) : deadL t (L ++ [x]) = (deadL t L || dead1 t x) := by simp [deadL]
theorem againL_length (t : Int) (L : List Snt) : (againL t L).length ≤ L.length := by
  induction L with
  | nil => simp [againL]
  | cons x L ih =>
    have e : againL t (x :: L) = again1 t x ++ againL t L := rfl
    rw [e, List.length_append, List.length_cons]
    have : (again1 t x).length ≤ 1 := by unfold again1; split; simp; split <;> simp
    omega
/-- Why that number can't be added, or 0. -/
def wrongE (L : List Snt) (s r : Int) : Int := if (s < 0 ∨ 65535 < s) ∨ r < 1 then 1 else if 8 ≤ L.length then 8 else if (L.any fun x => decide (s ≤ x.s)) = true then 10 else 0
/-- What Add gives. -/
def addL (L : List Snt) (s : Int) (y : ByteArray) (r : Int) : List Snt := if wrongE L s r = 0 then L ++ [⟨s, y, 1, r⟩] else L
theorem addL_ok {L : List Snt} {s : Int} (y : ByteArray) {r : Int} (h : wrongE L s r = 0) : addL L s y r = L ++ [⟨s, y, 1, r⟩] := if_pos h
theorem addL_no {L : List Snt} {s : Int} (y : ByteArray) {r : Int} (h : wrongE L s r ≠ 0) : addL L s y r = L := if_neg h
theorem any_none {L : List Snt} {s : Int} (h : ∀ (p : Nat) x, L[p]? = some x → decide (s ≤ x.s) = false) : (L.any fun x => decide (s ≤ x.s)) = false := by
  rw [List.any_eq_false]
  intro x hx
  obtain ⟨p, hp⟩ := List.getElem?_of_mem hx
  rw [h p x hp]; exact Bool.false_ne_true
theorem any_some {L : List Snt} {s : Int} {i : Nat} {x : Snt} (hx : L[i]? = some x) (h : decide (s ≤ x.s) = true) : (L.any fun x => decide (s ≤ x.s)) = true :=
  List.any_eq_true.2 ⟨x, List.mem_of_getElem? hx, h⟩
/-- What Acked leaves, by what an ack of this next number and these bits has. -/
def keepL (p : Int → Bool) (L : List Snt) : List Snt := L.filter fun x => !p x.s
theorem keep_snoc {L : List Snt} {i : Nat} {x : Snt} (p : Int → Bool) (h : L[i]? = some x) (M : List Snt) (hM : keepL p (L.take i) = M) : keepL p (L.take (i + 1)) = M ++ (if p x.s = true then [] else [x]) := by
  unfold keepL at hM ⊢
  rw [take_snoc h, List.filter_append, hM]
  cases hp : p x.s <;> simp [hp]
theorem keep_le (p : Int → Bool) (L : List Snt) (i m : Nat) (h : L.length ≤ m) : (keepL p (L.take i)).length ≤ m := Nat.le_trans (List.length_filter_le _ _) (by rw [List.length_take]; omega)
theorem keep_len (p : Int → Bool) (L : List Snt) : (keepL p L).length ≤ L.length := List.length_filter_le _ _
end Go.Proofs.YtmgmgffgbkenkaaDoor
