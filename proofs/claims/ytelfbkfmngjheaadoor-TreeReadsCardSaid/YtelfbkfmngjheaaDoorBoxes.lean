/- A region that draws its order: three calls, one behind the other, whose answers go into three new variables that lie in blocks ('a, b, c := f(p, i), f(q, i), f(r, i)', each p a variable in a block): the blocks may be made ahead of, between and behind the calls: one law for all orders. No program is named here. -/
import Derived.Test.YtelfbkfmngjheaaDoorTail
import Derived.Test.YtelfbkfmngjheaaDoorBlk
namespace Go.Proofs.YtelfbkfmngjheaaDoor
open Go.RowKit
section
variable {P : Program} {ops : Array Oper} {Q : Exit → Act → World → Prop} {S F : World → Prop}

def boxP (b : Nat) : Value := .pointer (some ⟨b, 0, none⟩)
/-- What lies in a variable's slot: what was there, or its block. -/
def boxV (u : Value) : Option Nat → Value
  | none => u
  | some b => boxP b
def seenV (u v : Value) (k c : Nat) : Value := if k ≤ c then v else u
/-- What has come up: the loads, c of the calls, and the blocks that are made. -/
def seen3 (c : Nat) (x y z : Bool) : Array Bool := #[true, true, decide (1 ≤ c), true, true, decide (2 ≤ c), true, true, decide (3 ≤ c), x, y, z, false, false, false]
def ready3 (c : Nat) (x y z : Bool) : List Nat := (if c = 0 then [2] else if c = 1 then [5] else if c = 2 then [8] else []) ++ (if x then [] else [9]) ++ (if y then [] else [10]) ++ (if z then [] else [11])
/-- The blocks that are made hold Z, and no two are the same. -/
def Made (B : Nat) (Z : List Value) (w : World) (o : Option Nat) : Prop := ∀ b, o = some b → B ≤ b ∧ Blk w b Z
def Other (o p : Option Nat) : Prop := ∀ b c, o = some b → p = some c → b ≠ c
theorem Made.on {B : Nat} {Z : List Value} {w w' : World} {o : Option Nat} (h : Made B Z w o) (hb : Below w.heap.size w w') : Made B Z w' o := fun b hbq => ⟨(h b hbq).1, (h b hbq).2.on hb⟩
theorem Made.new {B : Nat} {Z : List Value} {w : World} {b : Nat} (hB : B ≤ b) (h : Blk w b Z) : Made B Z w (some b) := fun _ hc => Option.some.inj hc ▸ ⟨hB, h⟩
theorem Made.apart {B : Nat} {Z : List Value} {w : World} {o : Option Nat} (h : Made B Z w o) : Other o (some w.heap.size) := fun b c hb hc => by
  have h1 := (h b hb).2.lt
  have h2 : w.heap.size = c := Option.some.inj hc
  omega
theorem Other.flip {o p : Option Nat} (h : Other o p) : Other p o := fun b c hb hc e => h c b hc hb e.symm
theorem Other.none (o : Option Nat) : Other o none := fun _ _ _ h => by cases h

theorem ready3_none (c : Nat) (x y z : Bool) (h : ready3 c x y z = []) (hc : c ≤ 3) : c = 3 ∧ x = true ∧ y = true ∧ z = true := by
  rcases (show c = 0 ∨ c = 1 ∨ c = 2 ∨ c = 3 by omega) with rfl | rfl | rfl | rfl <;> cases x <;> cases y <;> cases z <;> simp [ready3] at h ⊢
theorem ready3_mem (i c : Nat) (x y z : Bool) (h : i ∈ ready3 c x y z) : (i = 2 ∧ c = 0) ∨ (i = 5 ∧ c = 1) ∨ (i = 8 ∧ c = 2) ∨ (i = 9 ∧ x = false) ∨ (i = 10 ∧ y = false) ∨ (i = 11 ∧ z = false) := by
  unfold ready3 at h
  simp only [List.mem_append] at h
  rcases h with ((h | h) | h) | h
  · split at h
    · exact .inl ⟨by simpa using h, by assumption⟩
    · split at h
      · exact .inr (.inl ⟨by simpa using h, by assumption⟩)
      · split at h
        · exact .inr (.inr (.inl ⟨by simpa using h, by assumption⟩))
        · simp at h
  · cases x
    · exact .inr (.inr (.inr (.inl ⟨by simpa using h, rfl⟩)))
    · simp at h
  · cases y
    · exact .inr (.inr (.inr (.inr (.inl ⟨by simpa using h, rfl⟩))))
    · simp at h
  · cases z
    · exact .inr (.inr (.inr (.inr (.inr ⟨by simpa using h, rfl⟩))))
    · simp at h
def doneN (o : Option Nat) : Nat := match o with
  | none => 0
  | some _ => 1

/-- Whatever the order: behind the three calls and the three new blocks the rest goes on (three stores, in their order). -/
theorem boxes_any (g : Value → Value → Value → Value → Value → Value → Act) (u1 u2 u3 r1 r2 r3 V1 V2 V3 : Value) (Z : List Value) (B : Nat) (hB : ∀ w, F w → B ≤ w.heap.size)
    (hF : ∀ w w', F w → Below w.heap.size w w' → F w') (hS : ∀ w, F w → S w)
    (h2 : ∀ x y z r s t w (K : Act → World → Prop), F w → (∀ w', Below w.heap.size w w' → K (g x y z V1 s t) w') → wpOp P ops Q 2 K (g x y z r s t) w)
    (h5 : ∀ x y z r s t w (K : Act → World → Prop), F w → (∀ w', Below w.heap.size w w' → K (g x y z r V2 t) w') → wpOp P ops Q 5 K (g x y z r s t) w)
    (h8 : ∀ x y z r s t w (K : Act → World → Prop), F w → (∀ w', Below w.heap.size w w' → K (g x y z r s V3) w') → wpOp P ops Q 8 K (g x y z r s t) w)
    (h9 : ∀ x y z r s t w (K : Act → World → Prop), F w → (∀ w', Below w.heap.size w w' → Blk w' w.heap.size Z → K (g (boxP w.heap.size) y z r s t) w') → wpOp P ops Q 9 K (g x y z r s t) w)
    (h10 : ∀ x y z r s t w (K : Act → World → Prop), F w → (∀ w', Below w.heap.size w w' → Blk w' w.heap.size Z → K (g x (boxP w.heap.size) z r s t) w') → wpOp P ops Q 10 K (g x y z r s t) w)
    (h11 : ∀ x y z r s t w (K : Act → World → Prop), F w → (∀ w', Below w.heap.size w w' → Blk w' w.heap.size Z → K (g x y (boxP w.heap.size) r s t) w') → wpOp P ops Q 11 K (g x y z r s t) w)
    (hr : ∀ c x y z, c ≤ 3 → ready3 c x y z ≠ [] → Region.ready .any ops (seen3 c x y z) = ready3 c x y z)
    (hfin : ∀ b1 b2 b3 w, F w → (B ≤ b1 ∧ Blk w b1 Z) → (B ≤ b2 ∧ Blk w b2 Z) → (B ≤ b3 ∧ Blk w b3 Z) → b1 ≠ b2 → b1 ≠ b3 → b2 ≠ b3 → wpAnyT P .any ops Q S (fun _ => false) 3 (seen3 3 true true true) (g (boxP b1) (boxP b2) (boxP b3) V1 V2 V3) w) :
    ∀ (n c : Nat) (o9 o10 o11 : Option Nat) (w : World), c ≤ 3 → n + c + doneN o9 + doneN o10 + doneN o11 = 6 → F w → Made B Z w o9 → Made B Z w o10 → Made B Z w o11 → Other o9 o10 → Other o9 o11 → Other o10 o11 →
      wpAnyT P .any ops Q S (fun _ => false) (n + 3) (seen3 c o9.isSome o10.isSome o11.isSome) (g (boxV u1 o9) (boxV u2 o10) (boxV u3 o11) (seenV r1 V1 1 c) (seenV r2 V2 2 c) (seenV r3 V3 3 c)) w
  | 0, c, o9, o10, o11, w, hc, hn, hf, m9, m10, m11, d1, d2, d3 => by
    cases o9 with
    | none => simp only [doneN] at hn; split at hn <;> split at hn <;> omega
    | some b1 =>
      cases o10 with
      | none => simp only [doneN] at hn; split at hn <;> omega
      | some b2 =>
        cases o11 with
        | none => simp only [doneN] at hn; omega
        | some b3 =>
          simp only [doneN] at hn
          obtain rfl : c = 3 := by omega
          exact hfin b1 b2 b3 w hf (m9 b1 rfl) (m10 b2 rfl) (m11 b3 rfl) (d1 b1 b2 rfl rfl) (d2 b1 b3 rfl rfl) (d3 b2 b3 rfl rfl)
  | n + 1, c, o9, o10, o11, w, hc, hn, hf, m9, m10, m11, d1, d2, d3 => by
    have hne : ready3 c o9.isSome o10.isSome o11.isSome ≠ [] := fun h => by
      obtain ⟨rfl, h9', h10', h11'⟩ := ready3_none _ _ _ _ h hc
      obtain ⟨b1, rfl⟩ := Option.isSome_iff_exists.1 h9'
      obtain ⟨b2, rfl⟩ := Option.isSome_iff_exists.1 h10'
      obtain ⟨b3, rfl⟩ := Option.isSome_iff_exists.1 h11'
      simp only [doneN] at hn
      omega
    have hrd := hr c o9.isSome o10.isSome o11.isSome hc hne
    have ih := boxes_any g u1 u2 u3 r1 r2 r3 V1 V2 V3 Z B hB hF hS h2 h5 h8 h9 h10 h11 hr hfin n
    refine ⟨fun h0 => absurd (hrd.symm.trans h0) hne, fun i hi => ?_⟩
    rw [hrd] at hi
    rcases ready3_mem i _ _ _ _ hi with ⟨rfl, rfl⟩ | ⟨rfl, rfl⟩ | ⟨rfl, rfl⟩ | ⟨rfl, hx⟩ | ⟨rfl, hx⟩ | ⟨rfl, hx⟩
    · refine h2 _ _ _ _ _ _ w _ hf (fun w' hb => ⟨fun _ => hS _ (hF _ _ hf hb), ?_⟩)
      exact ih 1 o9 o10 o11 w' (by omega) (by omega) (hF _ _ hf hb) (m9.on hb) (m10.on hb) (m11.on hb) d1 d2 d3
    · refine h5 _ _ _ _ _ _ w _ hf (fun w' hb => ⟨fun _ => hS _ (hF _ _ hf hb), ?_⟩)
      exact ih 2 o9 o10 o11 w' (by omega) (by omega) (hF _ _ hf hb) (m9.on hb) (m10.on hb) (m11.on hb) d1 d2 d3
    · refine h8 _ _ _ _ _ _ w _ hf (fun w' hb => ⟨fun _ => hS _ (hF _ _ hf hb), ?_⟩)
      exact ih 3 o9 o10 o11 w' (by omega) (by omega) (hF _ _ hf hb) (m9.on hb) (m10.on hb) (m11.on hb) d1 d2 d3
    · cases o9 with
      | some _ => cases hx
      | none =>
        refine h9 _ _ _ _ _ _ w _ hf (fun w' hb hk => ⟨fun _ => hS _ (hF _ _ hf hb), ?_⟩)
        exact ih c (some w.heap.size) o10 o11 w' hc (by simp only [doneN] at hn ⊢; omega) (hF _ _ hf hb) (Made.new (hB _ hf) hk) (m10.on hb) (m11.on hb) m10.apart.flip m11.apart.flip d3
    · cases o10 with
      | some _ => cases hx
      | none =>
        refine h10 _ _ _ _ _ _ w _ hf (fun w' hb hk => ⟨fun _ => hS _ (hF _ _ hf hb), ?_⟩)
        exact ih c o9 (some w.heap.size) o11 w' hc (by simp only [doneN] at hn ⊢; omega) (hF _ _ hf hb) (m9.on hb) (Made.new (hB _ hf) hk) (m11.on hb) m9.apart d2 m11.apart.flip
    · cases o11 with
      | some _ => cases hx
      | none =>
        refine h11 _ _ _ _ _ _ w _ hf (fun w' hb hk => ⟨fun _ => hS _ (hF _ _ hf hb), ?_⟩)
        exact ih c o9 o10 (some w.heap.size) w' hc (by simp only [doneN] at hn ⊢; omega) (hF _ _ hf hb) (m9.on hb) (m10.on hb) (Made.new (hB _ hf) hk) d1 m9.apart m10.apart
/-- The beginning: nothing but the loads has come up. -/
theorem boxes_start {k : Nat} {L : Array Bool} (hk : k = 9) (hL : L = seen3 0 false false false) (g : Value → Value → Value → Value → Value → Value → Act) (u1 u2 u3 r1 r2 r3 V1 V2 V3 : Value) (Z : List Value) (B : Nat) (w : World) (hB : ∀ w, F w → B ≤ w.heap.size)
    (hF : ∀ w w', F w → Below w.heap.size w w' → F w') (hS : ∀ w, F w → S w) (hf : F w)
    (h2 : ∀ x y z r s t w (K : Act → World → Prop), F w → (∀ w', Below w.heap.size w w' → K (g x y z V1 s t) w') → wpOp P ops Q 2 K (g x y z r s t) w)
    (h5 : ∀ x y z r s t w (K : Act → World → Prop), F w → (∀ w', Below w.heap.size w w' → K (g x y z r V2 t) w') → wpOp P ops Q 5 K (g x y z r s t) w)
    (h8 : ∀ x y z r s t w (K : Act → World → Prop), F w → (∀ w', Below w.heap.size w w' → K (g x y z r s V3) w') → wpOp P ops Q 8 K (g x y z r s t) w)
    (h9 : ∀ x y z r s t w (K : Act → World → Prop), F w → (∀ w', Below w.heap.size w w' → Blk w' w.heap.size Z → K (g (boxP w.heap.size) y z r s t) w') → wpOp P ops Q 9 K (g x y z r s t) w)
    (h10 : ∀ x y z r s t w (K : Act → World → Prop), F w → (∀ w', Below w.heap.size w w' → Blk w' w.heap.size Z → K (g x (boxP w.heap.size) z r s t) w') → wpOp P ops Q 10 K (g x y z r s t) w)
    (h11 : ∀ x y z r s t w (K : Act → World → Prop), F w → (∀ w', Below w.heap.size w w' → Blk w' w.heap.size Z → K (g x y (boxP w.heap.size) r s t) w') → wpOp P ops Q 11 K (g x y z r s t) w)
    (hr : ∀ c x y z, c ≤ 3 → ready3 c x y z ≠ [] → Region.ready .any ops (seen3 c x y z) = ready3 c x y z)
    (hfin : ∀ b1 b2 b3 w, F w → (B ≤ b1 ∧ Blk w b1 Z) → (B ≤ b2 ∧ Blk w b2 Z) → (B ≤ b3 ∧ Blk w b3 Z) → b1 ≠ b2 → b1 ≠ b3 → b2 ≠ b3 → wpAnyT P .any ops Q S (fun _ => false) 3 (seen3 3 true true true) (g (boxP b1) (boxP b2) (boxP b3) V1 V2 V3) w) :
    wpAnyT P .any ops Q S (fun _ => false) k L (g u1 u2 u3 r1 r2 r3) w := by
  subst hk hL
  exact boxes_any g u1 u2 u3 r1 r2 r3 V1 V2 V3 Z B hB hF hS h2 h5 h8 h9 h10 h11 hr hfin 6 0 none none none w (by omega) rfl hf (fun _ h => by cases h) (fun _ h => by cases h) (fun _ h => by cases h) (Other.none _) (Other.none _) (Other.none _)
end
end Go.Proofs.YtelfbkfmngjheaaDoor
