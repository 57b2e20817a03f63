/- Timers as plain data: what chapter 13 says of them, without any program. -/
import Derived.Test.YtpfgbdcnfmlkcaaNodesN
namespace Go.Proofs.Ytpfgbdcnfmlkcaa
open Go.RowKit

/-- A timer, of whatever numbers. -/
structure Alm where
  k : Int
  n : Int
  t : Int
def Alm.cells (a : Alm) : List Value := [.int .i64 a.k, .int .i64 a.n, .int .i64 a.t]
/-- Whether a timer is of that kind and node. -/
def Alm.is (a : Alm) (k n : Int) : Bool := (a.k == k) && (a.n == n)
/-- Whether a timer may be set. -/
def Alm.right (a : Alm) : Bool := decide (0 ≤ a.k) && decide (a.k ≤ 3) && nodeF a.n && decide (1 ≤ a.t) && decide (a.t ≤ 1073741824)
def cmpI (x y : Int) : Int := if x < y then -1 else if y < x then 1 else 0
theorem cmpI_lt {x y : Int} (h : x < y) : cmpI x y = -1 := by simp [cmpI, h]
theorem cmpI_gt {x y : Int} (h : y < x) : cmpI x y = 1 := by
  have : ¬ x < y := by omega
  simp [cmpI, this, h]
theorem cmpI_eq (x : Int) : cmpI x x = 0 := by simp [cmpI]
def orI (x y : Int) : Int := if x = 0 then y else x
def ordA (a b : Alm) : Int := orI (cmpI a.k b.k) (cmpI a.n b.n)
/-- How many at the head stand ahead of a. -/
def placeA (L : List Alm) (a : Alm) : Nat := (L.takeWhile fun b => ordA b a == -1).length
theorem placeA_le (L : List Alm) (a : Alm) : placeA L a ≤ L.length := by
  unfold placeA
  exact (List.takeWhile_sublist _).length_le
theorem take_len {α : Type} (p : α → Bool) (L : List α) (k : Nat) (h1 : ∀ i x, i < k → L[i]? = some x → p x = true) (h2 : k ≤ L.length) (h3 : ∀ x, L[k]? = some x → p x = false) : (L.takeWhile p).length = k := by
  induction L generalizing k with
  | nil =>
    have hk : k = 0 := by simpa using h2
    subst hk
    rfl
  | cons y L ih =>
    cases k with
    | zero =>
      have := h3 y rfl
      simp [this]
    | succ k =>
      have h0 := h1 0 y (by omega) rfl
      rw [List.takeWhile_cons, h0, if_pos rfl, List.length_cons, ih k (fun i x hi hx => h1 (i + 1) x (by omega) (by simpa using hx)) (by simpa using h2) (fun x hx => h3 x (by simpa using hx))]
def stopL (L : List Alm) (k n : Int) : List Alm := L.filter fun a => !a.is k n
def ofL (L : List Alm) (n : Int) : List Alm := L.filter fun a => a.n == n
def setL (L : List Alm) (a : Alm) : List Alm := L.take (placeA L a) ++ ([a] ++ stopL (L.drop (placeA L a)) a.k a.n)
def Alm.dec (a : Alm) : Alm := ⟨a.k, a.n, a.t - 1⟩
def Alm.off (a : Alm) : Alm := ⟨a.k, a.n, 0⟩
def tickOn (L : List Alm) : List Alm := L.flatMap fun a => if 1 < a.t then [a.dec] else []
def tickOff (L : List Alm) : List Alm := L.flatMap fun a => if 1 < a.t then [] else [a.off]
theorem tickOn_snoc (L : List Alm) (a : Alm) : tickOn (L ++ [a]) = tickOn L ++ (if 1 < a.t then [a.dec] else []) := by simp [tickOn]
theorem tickOff_snoc (L : List Alm) (a : Alm) : tickOff (L ++ [a]) = tickOff L ++ (if 1 < a.t then [] else [a.off]) := by simp [tickOff]
theorem tick_length (L : List Alm) : (tickOn L).length + (tickOff L).length = L.length := by
  induction L with
  | nil => rfl
  | cons a L ih =>
    have e1 : tickOn (a :: L) = (if 1 < a.t then [a.dec] else []) ++ tickOn L := rfl
    have e2 : tickOff (a :: L) = (if 1 < a.t then [] else [a.off]) ++ tickOff L := rfl
    rw [e1, e2, List.length_append, List.length_append, List.length_cons]
    split <;> simp <;> omega
theorem take_snoc {α : Type} {L : List α} {i : Nat} {x : α} (h : L[i]? = some x) : L.take (i + 1) = L.take i ++ [x] := by
  rw [List.take_add_one, h]; rfl
/-- Numbers that an int holds. -/
def Fits (L : List Alm) : Prop := ∀ a ∈ L, a.t < 9223372036854775808
theorem fits_on {L : List Alm} (h : Fits L) : Fits (tickOn L) := by
  intro a ha
  obtain ⟨b, hb, hx⟩ := List.mem_flatMap.1 ha
  split at hx
  · obtain rfl := List.mem_singleton.1 hx
    have := h b hb
    show b.t - 1 < _
    omega
  · cases hx
def leftL (L : List Alm) (k n : Int) : Int := match L.find? (fun a => a.is k n) with | some a => a.t | none => 0
def minL (x t : Int) : Int := if x = 0 ∨ max t 1 < x then max t 1 else x
def nextL (L : List Alm) : Int := L.foldl (fun x a => minL x a.t) 0
theorem nextL_snoc (L : List Alm) (a : Alm) : nextL (L ++ [a]) = minL (nextL L) a.t := by simp [nextL]
/-- The timers behind q ticks, and those that went off. -/
def runOn (L : List Alm) : Nat → List Alm
  | 0 => L
  | q + 1 => tickOn (runOn L q)
def runOff (L : List Alm) : Nat → List Alm
  | 0 => []
  | q + 1 => runOff L q ++ tickOff (runOn L q)
theorem run_length (L : List Alm) (q : Nat) : (runOn L q).length + (runOff L q).length = L.length := by
  induction q with
  | zero => simp [runOn, runOff]
  | succ q ih =>
    have := tick_length (runOn L q)
    simp only [runOn, runOff, List.length_append]
    omega
theorem run_fits {L : List Alm} (h : Fits L) (q : Nat) : Fits (runOn L q) := by
  induction q with
  | zero => exact h
  | succ q ih => exact fits_on ih

/-- Next is 0 of none; else it is at least 1, is what some timer waits, and none waits less. -/
theorem next_least (L : List Alm) : (L = [] ∧ nextL L = 0) ∨ (1 ≤ nextL L ∧ (∃ a ∈ L, max a.t 1 = nextL L) ∧ ∀ a ∈ L, nextL L ≤ max a.t 1) := by
  suffices H : ∀ (L M : List Alm) (x : Int), ((M = [] ∧ x = 0) ∨ (1 ≤ x ∧ (∃ a ∈ M, max a.t 1 = x) ∧ ∀ a ∈ M, x ≤ max a.t 1)) →
      ((M ++ L = [] ∧ L.foldl (fun x a => minL x a.t) x = 0) ∨ (1 ≤ L.foldl (fun x a => minL x a.t) x ∧ (∃ a ∈ M ++ L, max a.t 1 = L.foldl (fun x a => minL x a.t) x) ∧ ∀ a ∈ M ++ L, L.foldl (fun x a => minL x a.t) x ≤ max a.t 1)) by
    simpa [nextL] using H L [] 0 (.inl ⟨rfl, rfl⟩)
  intro L
  induction L with
  | nil => intro M x h; simpa using h
  | cons b L ih =>
    intro M x h
    have := ih (M ++ [b]) (minL x b.t) (by
      right
      rcases h with ⟨rfl, rfl⟩ | ⟨h1, ⟨a, ha, he⟩, hall⟩
      · have e : minL 0 b.t = max b.t 1 := by simp [minL]
        rw [e]
        exact ⟨by omega, ⟨b, by simp, rfl⟩, by simp⟩
      · unfold minL
        split
        · rename_i hc
          refine ⟨by omega, ⟨b, by simp, rfl⟩, fun c hcm => ?_⟩
          rcases List.mem_append.1 hcm with hc1 | hc1
          · have := hall c hc1; omega
          · obtain rfl := List.mem_singleton.1 hc1; omega
        · rename_i hc
          refine ⟨h1, ⟨a, by simp [ha], he⟩, fun c hcm => ?_⟩
          rcases List.mem_append.1 hcm with hc1 | hc1
          · exact hall c hc1
          · obtain rfl := List.mem_singleton.1 hc1; omega)
    simpa using this
/-- While no timer is due, all go on. -/
theorem tick_none {L : List Alm} (h : ∀ a ∈ L, 1 < a.t) : tickOn L = L.map Alm.dec ∧ tickOff L = [] := by
  induction L with
  | nil => exact ⟨rfl, rfl⟩
  | cons a L ih =>
    have h0 := h a List.mem_cons_self
    obtain ⟨h1, h2⟩ := ih fun b hb => h b (List.mem_cons_of_mem _ hb)
    have e1 : tickOn (a :: L) = (if 1 < a.t then [a.dec] else []) ++ tickOn L := rfl
    have e2 : tickOff (a :: L) = (if 1 < a.t then [] else [a.off]) ++ tickOff L := rfl
    rw [e1, e2, if_pos h0, if_pos h0, h1, h2]
    exact ⟨rfl, rfl⟩
theorem run_none {L : List Alm} (q : Nat) (h : ∀ a ∈ L, (q : Int) < a.t ∨ q = 0) : (∀ b ∈ runOn L q, ∃ a ∈ L, b.t = a.t - q) ∧ (∀ a ∈ L, ∃ b ∈ runOn L q, b.t = a.t - q) ∧ runOff L q = [] := by
  induction q with
  | zero => exact ⟨fun b hb => ⟨b, hb, by simp⟩, fun a ha => ⟨a, ha, by simp⟩, rfl⟩
  | succ q ih =>
    obtain ⟨i1, i2, i3⟩ := ih (fun a ha => by rcases h a ha with h | h <;> omega)
    have hall : ∀ b ∈ runOn L q, 1 < b.t := by
      intro b hb
      obtain ⟨a, ha, he⟩ := i1 b hb
      rcases h a ha with h | h <;> omega
    obtain ⟨t1, t2⟩ := tick_none hall
    simp only [runOn, runOff, t1, t2, i3, List.append_nil]
    refine ⟨fun b hb => ?_, fun a ha => ?_, trivial⟩
    · obtain ⟨c, hc, rfl⟩ := List.mem_map.1 hb
      obtain ⟨a, ha, he⟩ := i1 c hc
      exact ⟨a, ha, by show c.t - 1 = _; omega⟩
    · obtain ⟨b, hb, he⟩ := i2 a ha
      exact ⟨b.dec, List.mem_map_of_mem hb, by show b.t - 1 = _; omega⟩
/-- Ahead of Next nothing goes off .. -/
theorem run_ahead {L : List Alm} {q : Nat} (h : nextL L = (q : Int) + 1) : runOff L q = [] := by
  rcases next_least L with ⟨_, h0⟩ | ⟨_, _, h2⟩
  · omega
  · refine (run_none q fun a ha => ?_).2.2
    have := h2 a ha
    omega
/-- .. and then something does. -/
theorem run_then {L : List Alm} {q : Nat} (h : nextL L = (q : Int) + 1) : runOff L (q + 1) ≠ [] := by
  rcases next_least L with ⟨_, h0⟩ | ⟨_, ⟨a, ha, he⟩, h2⟩
  · omega
  · obtain ⟨b, hb, hbt⟩ := (run_none q fun a ha => by have := h2 a ha; omega).2.1 a ha
    intro e
    have e2 : tickOff (runOn L q) = [] := (List.append_eq_nil_iff.1 e).2
    have : b.off ∈ tickOff (runOn L q) := List.mem_flatMap.2 ⟨b, hb, by rw [if_neg (by omega)]; exact List.mem_singleton.2 rfl⟩
    rw [e2] at this
    cases this
end Go.Proofs.Ytpfgbdcnfmlkcaa
