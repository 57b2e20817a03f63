/- Slices of texts ([]string): what is read of them, rows of a call's own. For any seat that has []string. -/
import Derived.Test.YtmgmgffgbkenkaaDoorBlk
import Derived.ArgAppend
namespace Go.Proofs.YtmgmgffgbkenkaaDoor
open Go.RowKit

theorem info_string : (Tryd.prog.info? 9).map (fun i => (i.zero, i.size, i.bytes)) = some (some (.string ⟨#[]⟩), 1, 16) := by kernel_rfl
/-- Texts as cells. -/
def strV (L : List ByteArray) : List Value := L.map fun s => .string s
theorem strV_length (L : List ByteArray) : (strV L).length = L.length := by simp [strV]
theorem strV_append (L M : List ByteArray) : strV (L ++ M) = strV L ++ strV M := by simp [strV]
theorem strV_at {L : List ByteArray} {i : Nat} {x : ByteArray} (h : L[i]? = some x) : (strV L)[i]? = some (.string x) := by simp [strV, h]
theorem strV_one (L : List ByteArray) : ∀ u ∈ strV L, u.oneCell' = true := by
  intro u hu
  obtain ⟨s, _, rfl⟩ := List.mem_map.1 hu
  rfl
theorem addr_add (q : Addr) (i j : Nat) : (q.add i).add j = q.add (i + j) := by
  unfold Addr.add
  split <;> split <;> split <;> simp_all <;> omega
/-- A slice of that length and capacity reads as these texts. -/
def Txts (w : World) (a : Option Addr) (n c : Nat) (L : List ByteArray) : Prop := L.length = n ∧ n ≤ c ∧ c ≤ maxLen ∧ (a = none → c = 0) ∧ ∀ i x, L[i]? = some x → ∃ b, a = some b ∧ w.cell? (b.add i) = some (.string x)
theorem Txts.on {w w' : World} {a : Option Addr} {n c : Nat} {L : List ByteArray} (h : Txts w a n c L) (hb : Below w.heap.size w w') : Txts w' a n c L :=
  ⟨h.1, h.2.1, h.2.2.1, h.2.2.2.1, fun i x hi => by
    obtain ⟨b, h2, h3⟩ := h.2.2.2.2 i x hi
    exact ⟨b, h2, cell_later hb h3⟩⟩
theorem Txts.next {w : World} {a : Option Addr} {n c : Nat} {L : List ByteArray} (h : Txts w a n c L) (o : Obj) : Txts (w.alloc o) a n c L := h.on ((Below.refl _ _).alloc (Nat.le_refl _) _)
theorem Txts.drewN {w : World} {a : Option Addr} {n c : Nat} {L : List ByteArray} (h : Txts w a n c L) (k : Nat) : Txts (w.drewN k) a n c L := h.on (below_drewN (Below.refl _ _) k)
theorem Txts.drew {w : World} {a : Option Addr} {n c : Nat} {L : List ByteArray} (h : Txts w a n c L) : Txts w.drew a n c L := h.drewN 1
theorem Txts.nil (w : World) : Txts w none 0 0 [] := ⟨rfl, Nat.le_refl _, by unfold maxLen; omega, fun _ => rfl, fun i x hi => by simp at hi⟩
theorem Txts.olds {w : World} {a : Option Addr} {n c : Nat} {L : List ByteArray} (h : Txts w a n c L) : ∀ b, a = some b → ∀ j u, (strV L)[j]? = some u → w.cell? (b.add j) = some u := by
  intro b hb j u hu
  unfold strV at hu
  rw [List.getElem?_map] at hu
  obtain ⟨x, hx, rfl⟩ := Option.map_eq_some_iff.1 hu
  obtain ⟨b', hb', hc⟩ := h.2.2.2.2 j x hx
  rw [hb] at hb'
  obtain rfl := Option.some.inj hb'
  exact hc
theorem Txts.some {w : World} {a : Option Addr} {n c : Nat} {L : List ByteArray} (h : Txts w a n c L) (hn : 0 < n) : ∃ b, a = some b := by
  obtain ⟨b, hb, _⟩ := h.2.2.2.2 0 _ (List.getElem?_eq_getElem (by have := h.1; omega))
  exact ⟨b, hb⟩
/-- Where l[i:j:j] begins. -/
def cutA (a : Option Addr) (i j : Nat) : Option Addr := if j = i then a else a.map (·.add (i * 1))
theorem Txts.cut {w : World} {a : Option Addr} {n c : Nat} {L : List ByteArray} (h : Txts w a n c L) (i j : Nat) (hi : i ≤ j) (hj : j ≤ n) : Txts w (cutA a i j) (j - i) (j - i) ((L.drop i).take (j - i)) := by
  refine ⟨by rw [List.length_take, List.length_drop, h.1]; omega, Nat.le_refl _, by have := h.2.1; have := h.2.2.1; omega, ?_, ?_⟩
  · intro hn
    unfold cutA at hn
    split at hn
    · omega
    · cases a with
      | none => have := h.2.2.2.1 rfl; have := h.2.1; omega
      | some b => simp at hn
  · intro k x hk
    have hkl := (List.getElem?_eq_some_iff.1 hk).1
    rw [List.length_take, List.length_drop, h.1] at hkl
    rw [List.getElem?_take_of_lt (by omega), List.getElem?_drop] at hk
    obtain ⟨b, rfl, hc⟩ := h.2.2.2.2 _ x hk
    refine ⟨b.add i, ?_, by rw [addr_add]; exact hc⟩
    unfold cutA
    rw [if_neg (by omega)]
    simp
/-- A slice's cells, as an append asks for them. -/
theorem row_txts {w : World} {B n c : Nat} {a : Option Addr} {L : List ByteArray} (h : w.ownsRow B 9 1 (.slice a n c) n (strV L)) (hn : L.length = n) : Txts w a n c L := by
  have hcap : n ≤ c ∧ c ≤ maxLen ∧ (a = none → c = 0) := by
    rcases h.2 with ⟨hv, hn⟩ | ⟨g, cap, cur, hv, _, _, h1, h2, _⟩
    · simp only [Value.slice.injEq] at hv
      obtain ⟨rfl, rfl, rfl⟩ := hv
      exact ⟨Nat.le_refl _, by unfold maxLen; omega, fun _ => rfl⟩
    · simp only [Value.slice.injEq] at hv
      obtain ⟨rfl, _, rfl⟩ := hv
      exact ⟨h1, h2, fun h => by cases h⟩
  refine ⟨hn, hcap.1, hcap.2.1, hcap.2.2, fun i x hi => ?_⟩
  have hlt := (List.getElem?_eq_some_iff.1 hi).1
  rcases h.2 with ⟨_, h0⟩ | ⟨g, cap, cur, hv, _⟩
  · omega
  · simp only [Value.slice.injEq] at hv
    obtain ⟨rfl, _, _⟩ := hv
    refine ⟨_, rfl, ?_⟩
    have e : (⟨g, 0, none⟩ : Addr).add i = ⟨g, i, none⟩ := by unfold Addr.add; split <;> simp_all
    rw [e]
    exact (h.cellAt i (by omega)).trans (strV_at hi)
/-- The row does not lie among the blocks from lo on that are ahead of hi. -/
def Off (a : Option Addr) (n lo hi : Nat) : Prop := 0 < n → ∀ b, a = some b → b.block < lo ∨ hi ≤ b.block
theorem Off.mono {a : Option Addr} {n lo hi lo' hi' : Nat} (h : Off a n lo hi) (h1 : lo ≤ lo') (h2 : hi' ≤ hi) : Off a n lo' hi' := fun hn b hb => by
  have := h hn b hb
  omega
theorem Txts.off {w : World} {a : Option Addr} {n c : Nat} {L : List ByteArray} (h : Txts w a n c L) (hi : Nat) : Off a n w.heap.size hi := fun hn b hb => by
  obtain ⟨b', hb', hc⟩ := h.2.2.2.2 0 _ (List.getElem?_eq_getElem (by have := h.1; omega))
  rw [hb] at hb'
  obtain rfl := Option.some.inj hb'
  have := World.block_lt_of_cell? _ _ hc
  have e : (b.add 0).block = b.block := rfl
  rw [e] at this
  exact .inl this
theorem cell_set_off {w : World} {p q : Addr} {v : Value} (h : q.block ≠ p.block) : (w.setCell p v).cell? q = w.cell? q := by
  have e : (w.setCell p v).heap[q.block]? = w.heap[q.block]? := heap_setCell_other w p q.block v h
  unfold World.cell?
  rw [e]
theorem Txts.set {w : World} {a : Option Addr} {n c lo hi : Nat} {L : List ByteArray} (h : Txts w a n c L) (ho : Off a n lo hi) (p : Addr) (v : Value) (h1 : lo ≤ p.block) (h2 : p.block < hi) : Txts (w.setCell p v) a n c L :=
  ⟨h.1, h.2.1, h.2.2.1, h.2.2.2.1, fun i x hx => by
    obtain ⟨b, hb, hc⟩ := h.2.2.2.2 i x hx
    have hl := (List.getElem?_eq_some_iff.1 hx).1
    have := ho (by have := h.1; omega) b hb
    have e : (b.add i).block = b.block := by unfold Addr.add; split <;> rfl
    exact ⟨b, hb, by rw [cell_set_off (by rw [e]; omega)]; exact hc⟩⟩
theorem row_shape {w : World} {B n : Nat} {v : Value} {L : List ByteArray} (h : w.ownsRow B 9 1 v n (strV L)) (hn : L.length = n) : ∃ a c, v = .slice a n c ∧ Txts w a n c L ∧ Off a n 0 B := by
  rcases h.2 with ⟨rfl, rfl⟩ | ⟨g, cap, cur, rfl, hg, _⟩
  · exact ⟨_, _, rfl, row_txts h hn, fun _ b hb => by cases hb⟩
  · exact ⟨_, _, rfl, row_txts h hn, fun _ b hb => by cases hb; exact .inr hg⟩
/-- New texts. -/
def GotTxts (L : List ByteArray) (w : World) (e : Ending) (w' : World) : Prop := ∃ a n c, e = .returned (.slice a n c) ∧ Txts w' a n c L ∧ Off a n 0 w.heap.size ∧ Below w.heap.size w w'
theorem blk_grown {w w' : World} {b : Nat} {cs : List Value} {row : Option Nat} (h : Blk w b cs) (hg : w.grownBy w' row) (hr : ∀ k, row = some k → b < k) : Blk w' b cs := by
  have hl := h.lt
  obtain ⟨t, h⟩ := h
  exact ⟨t, (hg.block b hl (fun e => by have := hr b e.symm; omega)).trans h⟩
end Go.Proofs.YtmgmgffgbkenkaaDoor
