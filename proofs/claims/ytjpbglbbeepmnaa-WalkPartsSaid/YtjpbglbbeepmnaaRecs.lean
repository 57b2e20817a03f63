/- Slices of records (of any element type): what is read of them, rows of a call's own, append. A 'Shp' says how an element lies in cells. For any seat. -/
import Derived.Test.YtjpbglbbeepmnaaBlk
import Derived.ArgAppend
import Derived.Laws.AppendOwnNone
import Derived.OneCell
import Derived.Lib.AppendZeros
namespace Go.Proofs.Ytjpbglbbeepmnaa
open Go.RowKit

/-- How an element of a slice lies in cells. -/
structure Shp (α : Type) where
  K : Nat
  T : TypeId
  S : TypeId
  Z : Value
  bytes : Nat
  cells : α → List Value
  pos : 0 < K
  zsz : Z.cells.size = K
  len : ∀ x, (cells x).length = K
  one : ∀ x, ∀ u ∈ cells x, u.oneCell' = true
  und : Try.prog.underlying S = some (.slice T)
  inf : (Try.prog.info? T).map (fun i => (i.zero, i.size, i.bytes)) = some (some Z, K, bytes)
  low : bytes ≤ 1000
theorem Rec.add_add (q : Addr) (i j : Nat) : (q.add i).add j = q.add (i + j) := by
  unfold Addr.add
  split <;> split <;> split <;> simp_all <;> omega
theorem Rec.add_lit (g j : Nat) : (⟨g, 0, none⟩ : Addr).add j = ⟨g, j, none⟩ := by
  unfold Addr.add; split <;> simp_all
theorem Rec.block_add (q : Addr) (i : Nat) : (q.add i).block = q.block := by unfold Addr.add; split <;> rfl
theorem Rec.in_row {i k n K : Nat} (hi : i < n) (hk : k < K) : i * K + k < n * K :=
  Nat.lt_of_lt_of_le (by rw [Nat.succ_mul]; omega : i * K + k < (i + 1) * K) (Nat.mul_le_mul_right K hi)
/-- The row does not lie among the blocks from lo on that are ahead of hi. -/
def Rec.Off (a : Option Addr) (n lo hi : Nat) : Prop := 0 < n → ∀ b, a = some b → b.block < lo ∨ hi ≤ b.block
theorem Rec.Off.mono {a : Option Addr} {n lo hi lo' hi' : Nat} (h : Rec.Off a n lo hi) (h1 : lo ≤ lo') (h2 : hi' ≤ hi) : Rec.Off a n lo' hi' := fun hn b hb => by
  have := h hn b hb
  omega
namespace Shp
variable {α : Type} (S : Shp α)
/-- Elements as cells. -/
def row (L : List α) : List Value := L.flatMap S.cells
theorem row_cons (q : α) (L : List α) : S.row (q :: L) = S.cells q ++ S.row L := rfl
theorem row_length (L : List α) : (S.row L).length = L.length * S.K := by
  induction L with
  | nil => simp [row]
  | cons q L ih => rw [row_cons, List.length_append, ih, S.len, List.length_cons, Nat.succ_mul]; omega
theorem row_append (L M : List α) : S.row (L ++ M) = S.row L ++ S.row M := by simp [row]
theorem row_at {L : List α} {i k : Nat} {x : α} {v : Value} (h : L[i]? = some x) (hk : (S.cells x)[k]? = some v) : (S.row L)[i * S.K + k]? = some v := by
  induction L generalizing i with
  | nil => simp at h
  | cons q L ih =>
    rw [row_cons]
    cases i with
    | zero =>
      simp at h
      subst h
      rw [Nat.zero_mul, Nat.zero_add, List.getElem?_append_left (List.getElem?_eq_some_iff.1 hk).1]; exact hk
    | succ i =>
      rw [List.getElem?_append_right (by rw [S.len, Nat.succ_mul]; omega), S.len, show (i + 1) * S.K + k - S.K = i * S.K + k by rw [Nat.succ_mul]; omega]
      exact ih (by simpa using h)
theorem row_back {L : List α} {j : Nat} {u : Value} (h : (S.row L)[j]? = some u) : ∃ i x k, L[i]? = some x ∧ (S.cells x)[k]? = some u ∧ j = i * S.K + k := by
  induction L generalizing j with
  | nil => simp [row] at h
  | cons q L ih =>
    rw [row_cons] at h
    by_cases hj : j < S.K
    · rw [List.getElem?_append_left (by rw [S.len]; exact hj)] at h
      exact ⟨0, q, j, rfl, h, by rw [Nat.zero_mul, Nat.zero_add]⟩
    · rw [List.getElem?_append_right (by rw [S.len]; omega), S.len] at h
      obtain ⟨i, x, k, hx, hk, he⟩ := ih h
      exact ⟨i + 1, x, k, by simpa using hx, hk, by rw [Nat.succ_mul]; omega⟩
theorem row_one (L : List α) : ∀ u ∈ S.row L, u.oneCell' = true := by
  intro u hu
  obtain ⟨x, _, hx⟩ := List.mem_flatMap.1 hu
  exact S.one x u hx
/-- A slice of that length and capacity reads as these elements. -/
def At (w : World) (a : Option Addr) (n c : Nat) (L : List α) : Prop :=
  L.length = n ∧ n ≤ c ∧ c ≤ maxLen ∧ (a = none → c = 0) ∧ ∀ i x, L[i]? = some x → ∃ b, a = some b ∧ ∀ k v, (S.cells x)[k]? = some v → w.cell? ((b.add (i * S.K)).add k) = some v
/-- A row of the call's own. -/
def Own (w : World) (B : Nat) (v : Value) (L : List α) : Prop := w.ownsRow B S.T S.K v L.length (S.row L)
variable {S}
theorem At.on {w w' : World} {a : Option Addr} {n c : Nat} {L : List α} (h : S.At w a n c L) (hb : Below w.heap.size w w') : S.At w' a n c L :=
  ⟨h.1, h.2.1, h.2.2.1, h.2.2.2.1, fun i x hi => by
    obtain ⟨b, h2, h3⟩ := h.2.2.2.2 i x hi
    exact ⟨b, h2, fun k v hk => cell_later hb (h3 k v hk)⟩⟩
theorem At.next {w : World} {a : Option Addr} {n c : Nat} {L : List α} (h : S.At w a n c L) (o : Obj) : S.At (w.alloc o) a n c L := h.on ((Below.refl _ _).alloc (Nat.le_refl _) _)
theorem At.drewN {w : World} {a : Option Addr} {n c : Nat} {L : List α} (h : S.At w a n c L) (k : Nat) : S.At (w.drewN k) a n c L := h.on (below_drewN (Below.refl _ _) k)
theorem At.drew {w : World} {a : Option Addr} {n c : Nat} {L : List α} (h : S.At w a n c L) : S.At w.drew a n c L := h.drewN 1
theorem At.nil (w : World) : S.At w none 0 0 [] := ⟨rfl, Nat.le_refl _, by unfold maxLen; omega, fun _ => rfl, fun i x hi => by simp at hi⟩
theorem At.olds {w : World} {a : Option Addr} {n c : Nat} {L : List α} (h : S.At w a n c L) : ∀ b, a = some b → ∀ j u, (S.row L)[j]? = some u → w.cell? (b.add j) = some u := by
  intro b hb j u hu
  obtain ⟨i, x, k, hx, hk, rfl⟩ := S.row_back hu
  obtain ⟨b', hb', hc⟩ := h.2.2.2.2 i x hx
  rw [hb] at hb'
  obtain rfl := Option.some.inj hb'
  rw [← Rec.add_add]; exact hc k u hk
theorem At.ptr {w : World} {a : Option Addr} {n c : Nat} {L : List α} (h : S.At w a n c L) (hn : 0 < n) : ∃ b, a = some b := by
  obtain ⟨b, hb, _⟩ := h.2.2.2.2 0 _ (List.getElem?_eq_getElem (by have := h.1; omega))
  exact ⟨b, hb⟩
/-- Where l[i:j], of capacity m (counted from the head), begins. -/
def cutA (K : Nat) (a : Option Addr) (i m : Nat) : Option Addr := if m = i then a else a.map (·.add (i * K))
theorem At.cut {w : World} {a : Option Addr} {n c : Nat} {L : List α} (h : S.At w a n c L) (i j m : Nat) (hi : i ≤ j) (hj : j ≤ n) (hm : j ≤ m) (hc : m ≤ c) : S.At w (cutA S.K a i m) (j - i) (m - i) ((L.drop i).take (j - i)) := by
  refine ⟨by rw [List.length_take, List.length_drop, h.1]; omega, by omega, by have := h.2.2.1; omega, ?_, ?_⟩
  · intro hn
    unfold cutA at hn
    split at hn
    · omega
    · cases a with
      | none => have := h.2.2.2.1 rfl; omega
      | some b => simp at hn
  · intro k x hk
    have hkl := (List.getElem?_eq_some_iff.1 hk).1
    rw [List.length_take, List.length_drop, h.1] at hkl
    rw [List.getElem?_take_of_lt (by omega), List.getElem?_drop] at hk
    obtain ⟨b, rfl, hc⟩ := h.2.2.2.2 _ x hk
    refine ⟨b.add (i * S.K), ?_, fun z v hz => ?_⟩
    · unfold cutA
      rw [if_neg (by omega)]
      simp
    · rw [Rec.add_add b, ← Nat.add_mul]; exact hc z v hz
theorem Own.none_ (w : World) (B : Nat) : S.Own w B (.slice none 0 0) [] := World.ownsRow_nil _ _ _ _
theorem Own.on {w w' : World} {B : Nat} {v : Value} {L : List α} (h : S.Own w B v L) (hb : Below w.heap.size w w') : S.Own w' B v L := by
  refine ⟨h.1, ?_⟩
  rcases h.2 with h0 | ⟨g, cap, cur, hv, hB, hg, rest⟩
  · exact .inl h0
  · refine .inr ⟨g, cap, cur, hv, hB, ?_, rest⟩
    rw [hb.block g (Array.getElem?_eq_some_iff.1 hg).1]; exact hg
theorem Own.next {w : World} {B : Nat} {v : Value} {L : List α} (h : S.Own w B v L) (o : Obj) : S.Own (w.alloc o) B v L := h.on ((Below.refl _ _).alloc (Nat.le_refl _) _)
theorem Own.lower {w : World} {B B' : Nat} {v : Value} {L : List α} (h : S.Own w B' v L) (hb : B ≤ B') : S.Own w B v L :=
  ⟨h.1, h.2.imp id fun ⟨g, cap, cur, h1, h2, h3⟩ => ⟨g, cap, cur, h1, Nat.le_trans hb h2, h3⟩⟩
theorem Own.shape {w : World} {B : Nat} {v : Value} {L : List α} (h : S.Own w B v L) : ∃ a c, v = .slice a L.length c ∧ S.At w a L.length c L ∧ Rec.Off a L.length 0 B := by
  rcases h.2 with ⟨rfl, h0⟩ | ⟨g, cap, cur, rfl, hg, hb, h1, h2, h3, h4⟩
  · obtain rfl := List.eq_nil_of_length_eq_zero h0
    exact ⟨_, _, rfl, At.nil w, fun _ b hb => by cases hb⟩
  · refine ⟨_, _, rfl, ⟨rfl, h1, h2, (by intro h; cases h), fun i x hi => ⟨_, rfl, fun k v hk => ?_⟩⟩, (by intro _ b hb; cases hb; exact .inr hg)⟩
    rw [Rec.add_lit, show (⟨g, i * S.K, none⟩ : Addr).add k = ⟨g, i * S.K + k, none⟩ by unfold Addr.add; split <;> simp_all]
    exact (World.ownsRow.cellAt h (i * S.K + k) (Rec.in_row (List.getElem?_eq_some_iff.1 hi).1 (by rw [← S.len x]; exact (List.getElem?_eq_some_iff.1 hk).1))).trans (S.row_at hi hk)
theorem Own.lt {w : World} {B : Nat} {v : Value} {L : List α} (h : S.Own w B v L) : ∀ k, v.ownBlock = some k → B ≤ k ∧ k < w.heap.size := by
  intro k hk
  rcases h.2 with ⟨rfl, h0⟩ | ⟨g, cap, cur, rfl, hg, hb, _⟩
  · cases hk
  · obtain rfl := Option.some.inj hk
    exact ⟨hg, (Array.getElem?_eq_some_iff.1 hb).1⟩
theorem Own.kept {w w' : World} {B : Nat} {v : Value} {L : List α} {row : Option Nat} (h : S.Own w B v L) (hg : w.grownBy w' row) (hne : ∀ k, v.ownBlock = some k → row ≠ some k) : S.Own w' B v L :=
  World.ownsRow.kept h hg (by
    cases hk : v.ownBlock with
    | none => exact .inl rfl
    | some k => exact .inr (fun e => hne k hk e.symm))
/-- Two rows that share no block. -/
def _root_.Go.Proofs.Ytjpbglbbeepmnaa.Apart (v u : Value) : Prop := ∀ k, v.ownBlock = some k → u.ownBlock ≠ some k
theorem _root_.Go.Proofs.Ytjpbglbbeepmnaa.Apart.symm {v u : Value} (h : Apart v u) : Apart u v := fun k hk e => h k e hk
theorem _root_.Go.Proofs.Ytjpbglbbeepmnaa.apart_new {w : World} {B : Nat} {v v' u : Value} {L : List α} (hA : Apart v u) (hu : S.Own w B u L) (hp : ∀ k, v'.ownBlock = some k → v.ownBlock = some k ∨ w.heap.size ≤ k) : Apart v' u := fun k hk e => by
  rcases hp k hk with h | h
  · exact hA k h e
  · have := (hu.lt k e).2
    omega
theorem Own.set {w : World} {B : Nat} {v : Value} {L : List α} (h : S.Own w B v L) (p : Addr) (u : Value) (hp : ∀ k, v.ownBlock = some k → k ≠ p.block) : S.Own (w.setCell p u) B v L := ownsRow_setCell_other h (fun e => hp _ e rfl) u
theorem At.grown {w w' : World} {a : Option Addr} {n c : Nat} {L : List α} {row : Option Nat} (h : S.At w a n c L) (hg : w.grownBy w' row) (B : Nat) (ho : ∀ (i : Nat) x, L[i]? = some x → ∀ b, a = some b → b.block < B) (hr : ∀ k, row = some k → B ≤ k) : S.At w' a n c L :=
  ⟨h.1, h.2.1, h.2.2.1, h.2.2.2.1, fun i x hi => by
    obtain ⟨b, hb, h3⟩ := h.2.2.2.2 i x hi
    refine ⟨b, hb, fun k v hk => hg.cell (h3 k v hk) fun e => ?_⟩
    rw [Rec.block_add, Rec.block_add] at e
    have := hr _ e.symm
    have := ho i x hi b hb
    omega⟩
/-- The block of a slice with elements is there. -/
theorem At.block {w : World} {a : Option Addr} {n c : Nat} {L : List α} (h : S.At w a n c L) : ∀ (i : Nat) x, L[i]? = some x → ∀ b, a = some b → b.block < w.heap.size := by
  intro i x hi b hb
  obtain ⟨b', hb', h3⟩ := h.2.2.2.2 i x hi
  rw [hb] at hb'
  obtain rfl := Option.some.inj hb'
  have := World.block_lt_of_cell? _ _ (h3 0 _ (List.getElem?_eq_getElem (by rw [S.len]; exact S.pos)))
  rwa [Rec.block_add, Rec.block_add] at this
/-- One element that lies in a block of its own. -/
theorem _root_.Go.Proofs.Ytjpbglbbeepmnaa.Rec.one {w : World} {g : Nat} {x : α} (h : Blk w g (S.cells x)) : S.At w (some ⟨g, 0, none⟩) 1 1 [x] :=
  ⟨rfl, Nat.le_refl _, by unfold maxLen; omega, (by intro h; cases h), fun i y hi => by
    cases i with
    | zero =>
      obtain rfl := Option.some.inj hi
      refine ⟨_, rfl, fun k v hk => ?_⟩
      rw [Nat.zero_mul, Rec.add_lit, Rec.add_lit]
      exact h.cell k hk
    | succ i => simp at hi⟩
/-- New elements. -/
def Got (S : Shp α) (L : List α) (w : World) (e : Ending) (w' : World) : Prop := ∃ v, e = .returned v ∧ S.Own w' w.heap.size v L ∧ Below w.heap.size w w'
/-- What an append to a row of one's own gives: where the new row lies. -/
theorem run_app (w : World) (ty : TypeId) (B : Nat) (v : Value) (L M : List α) (b : Option Addr) (m d : Nat) (hown : S.Own w B v L) (hM : S.At w b m d M) (hsz : L.length + m ≤ 10000000) (hB : B ≤ w.heap.size) :
    ∃ v' w', (Builtin.append_ #[S.S, S.S] ty #[v, .slice b m d]).run Try.prog w = .ok v' w' ∧ S.Own w' B v' (L ++ M) ∧ w.grownBy w' v.ownBlock ∧ ∀ k, v'.ownBlock = some k → v.ownBlock = some k ∨ w.heap.size ≤ k := by
  obtain ⟨i0, hi, hz0, hz1, hz2⟩ := info_parts S.inf
  have hbyt : (L.length + m) * S.bytes ≤ 140737488355328 := Nat.le_trans (Nat.mul_le_mul hsz S.low) (by omega)
  have hml : L.length + m ≤ maxLen := by unfold maxLen; omega
  cases b with
  | none =>
    have h0 := hM.2.2.2.1 rfl
    subst h0
    obtain rfl : m = 0 := by have := hM.2.1; omega
    obtain rfl : M = [] := List.eq_nil_of_length_eq_zero hM.1
    refine ⟨v, w, run_append_owned_none (P := Try.prog) (w := w) B S.S ty S.T i0 S.K S.und hi v L.length (S.row L) hown, by rw [List.append_nil]; exact hown, ⟨rfl, rfl, rfl, Nat.le_refl _, fun _ _ _ => rfl⟩, fun k hk => .inl hk⟩
  | some g =>
    have hl : (S.row M).length = m * S.K := by rw [S.row_length, hM.1]
    obtain ⟨v', w', hr, h1, h2, h3⟩ := run_append_own (P := Try.prog) w B S.S ty S.T i0 S.Z S.K S.bytes S.und hi hz0 hz1 hz2 S.zsz S.pos v L.length (S.row L) hown g m d (S.row M) hl (hM.olds g rfl) (S.row_one M) hml hbyt hB
    have hown' : S.Own w' B v' (L ++ M) := by
      unfold Own
      rw [List.length_append, hM.1, S.row_append]; exact h1
    refine ⟨v', w', hr, hown', h2, fun k hk => ?_⟩
    have fresh : ∀ v'' w'', (Builtin.append_ #[S.S, S.S] ty #[v, .slice (some g) m d]).run Try.prog w = .ok v'' w'' → w''.ownsRow w.heap.size S.T S.K v'' (L.length + m) (S.row L ++ S.row M) → w.heap.size ≤ k := by
      intro v'' w'' hr2 ho2
      rw [hr] at hr2
      cases hr2
      rcases ho2.2 with ⟨rfl, _⟩ | ⟨g2, _, _, rfl, hg2, _⟩
      · cases hk
      · obtain rfl := Option.some.inj hk
        exact hg2
    rcases hown.2 with ⟨rfl, h0⟩ | ⟨g0, cap, cur, rfl, hg0, hcur, hnc, hcm, hcs, htake⟩
    · obtain rfl := List.eq_nil_of_length_eq_zero h0
      obtain ⟨v2, w2, hr2, ho2, _⟩ := run_append_own (P := Try.prog) w w.heap.size S.S ty S.T i0 S.Z S.K S.bytes S.und hi hz0 hz1 hz2 S.zsz S.pos (.slice none 0 0) 0 (S.row []) (World.ownsRow_nil _ _ _ _) g m d (S.row M) hl (hM.olds g rfl) (S.row_one M) (by simpa using hml) (by simpa using hbyt) (Nat.le_refl _)
      exact .inr (fresh v2 w2 hr2 ho2)
    · by_cases hroom : L.length + m ≤ cap
      · have hfit : L.length * i0.size + (S.row M).length ≤ cur.size := by
          have hr := Nat.mul_le_mul_right S.K hroom
          rw [hl, hcs, hz1]
          rw [Nat.add_mul] at hr
          exact hr
        have hr2 := run_append_room (P := Try.prog) w S.S ty S.T i0 S.und hi g0 L.length cap cur hcur g m d (S.row M) (by rw [hz1]; exact hl) (hM.olds g rfl) (S.row_one M) hroom hfit
        rw [hr] at hr2
        cases hr2
        exact .inl hk
      · obtain ⟨v2, w2, hr2, ho2, _⟩ := run_append_arg_grows (P := Try.prog) w S.S ty S.T i0 S.Z S.K S.bytes S.und hi hz0 hz1 hz2 S.zsz S.pos ⟨g0, 0, none⟩ L.length cap (S.row L) (S.row_length L) (World.ownsRow.cells hown (g := g0) rfl) g m d (S.row M) hl (hM.olds g rfl) (by omega) hml hbyt
        exact .inr (fresh v2 w2 hr2 ho2)
end Shp
section
variable {α : Type} {S : Shp α} {w : World} {ops : Array Oper} {rest : List Oper} {o : Oper} {act : Act} {Q : Exit → Act → World → Prop}
/-- Append to a row of the call's own, as a law of the walk. -/
theorem rec_app (hgd : o.guard = none) (s x : Operand) (t : TypeId) (ho : o.op = .call { callee := .builtin .append, args := #[s, x], argTypes := #[t, t] }) (ht : S.S = t)
    (B : Nat) (v : Value) (L M : List α) (b : Option Addr) (m d : Nat) (hs : act.eval s = v) (hx : act.eval x = .slice b m d) (hown : S.Own w B v L) (hM : S.At w b m d M) (hsz : L.length + m ≤ 10000000) (hB : B ≤ w.heap.size)
    (h : ∀ v' w', S.Own w' B v' (L ++ M) → w.grownBy w' v.ownBlock → (∀ k, v'.ownBlock = some k → v.ownBlock = some k ∨ w.heap.size ≤ k) → wpList Try.prog ops Q rest (act.put o.dst v') w') : wpList Try.prog ops Q (o :: rest) act w := by
  subst ht
  obtain ⟨v', w', hr, h2, h3, h4⟩ := Shp.run_app (S := S) w o.type B v L M b m d hown hM hsz hB
  exact Lib.wpList_append_run _ hgd s x S.S S.S ho v (.slice b m d) hs hx v' w' hr (h v' w' h2 h3 h4)
end
end Go.Proofs.Ytjpbglbbeepmnaa
