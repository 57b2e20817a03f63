/- Appending texts to texts, as laws of the walk: to a slice that is full, to a row of the call's own. For any seat that has []string. -/
import Derived.Test.YtogmneidfoedbaaStrs
import Derived.Laws.AppendOwnNone
namespace Go.Proofs.Ytogmneidfoedbaa
open Go.RowKit

theorem blk_cells {w : World} {g : Nat} {cs : List Value} (h : Blk w g cs) : ∀ j u, cs[j]? = some u → w.cell? ((⟨g, 0, none⟩ : Addr).add j) = some u := fun j u hu => by
  have e : (⟨g, 0, none⟩ : Addr).add j = ⟨g, j, none⟩ := by unfold Addr.add; split <;> simp_all
  rw [e]; exact h.cell j hu
theorem one_txts {w : World} {g : Nat} {s : ByteArray} (h : Blk w g [.string s]) : Txts w (some ⟨g, 0, none⟩) 1 1 [s] :=
  ⟨rfl, Nat.le_refl _, by unfold maxLen; omega, (by intro h; cases h), fun i x hi => by
    cases i with
    | zero =>
      obtain rfl := Option.some.inj hi
      exact ⟨_, rfl, blk_cells h 0 _ rfl⟩
    | succ i => simp at hi⟩
section
variable {w : World} {ops : Array Oper} {rest : List Oper} {o : Oper} {act : Act} {Q : Exit → Act → World → Prop}
/-- Of a slice that is full: a new row. -/
theorem app_grow (hgd : o.guard = none) (s x : Operand) (ho : o.op = .call { callee := .builtin .append, args := #[s, x], argTypes := #[25, 25] })
    (a b : Option Addr) (n c m d : Nat) (L M : List ByteArray) (hs : act.eval s = .slice a n c) (hx : act.eval x = .slice b m d) (hL : Txts w a n c L) (hM : Txts w b m d M) (hfull : c < n + m) (hsz : n + m ≤ 100000000)
    (h : ∀ a' c' w', Txts w' a' (n + m) c' (L ++ M) → Off a' (n + m) 0 w.heap.size → w.grownBy w' none → wpList Try.prog ops Q rest (act.put o.dst (.slice a' (n + m) c')) w') : wpList Try.prog ops Q (o :: rest) act w := by
  obtain ⟨i0, hi, hz0, hz1, hz2⟩ := info_parts info_string
  have hm : 0 < m := by have := hL.2.1; omega
  obtain ⟨g, rfl⟩ := hM.some hm
  refine wpList_append_grows _ hgd s x 25 ho 9 i0 (.string ⟨#[]⟩) 1 16 Try.underlying25 hi hz0 hz1 hz2 rfl (by decide) a n c (strV L) hs (fun e => ⟨by have := hL.2.2.2.1 e; have := hL.2.1; omega, hL.2.2.2.1 e⟩) (by rw [strV_length, hL.1]; omega) hL.olds g m d (strV M) hx (by rw [strV_length, hM.1]; omega) (hM.olds g rfl) (strV_one _) hfull (by unfold maxLen; omega) (by omega) ?_
  intro v' w' hown hg
  rw [← strV_append] at hown
  obtain ⟨a', c', rfl, ht, hoff⟩ := row_shape hown (by rw [List.length_append, hL.1, hM.1])
  exact h a' c' w' ht hoff hg
/-- Of a row of the call's own. -/
theorem app_own (hgd : o.guard = none) (s x : Operand) (ho : o.op = .call { callee := .builtin .append, args := #[s, x], argTypes := #[25, 25] })
    (B : Nat) (a b : Option Addr) (n c m d : Nat) (L M : List ByteArray) (hs : act.eval s = .slice a n c) (hx : act.eval x = .slice b m d) (hown : w.ownsRow B 9 1 (.slice a n c) n (strV L)) (hL : L.length = n) (hM : Txts w b m d M) (hsz : n + m ≤ 100000000) (hB : B ≤ w.heap.size)
    (h : ∀ a' c' w', w'.ownsRow B 9 1 (.slice a' (n + m) c') (n + m) (strV (L ++ M)) → w.grownBy w' (Value.ownBlock (.slice a n c)) → wpList Try.prog ops Q rest (act.put o.dst (.slice a' (n + m) c')) w') : wpList Try.prog ops Q (o :: rest) act w := by
  obtain ⟨i0, hi, hz0, hz1, hz2⟩ := info_parts info_string
  cases b with
  | none =>
    have h0 := hM.2.2.2.1 rfl
    subst h0
    obtain rfl : m = 0 := by have := hM.2.1; omega
    obtain rfl : M = [] := List.eq_nil_of_length_eq_zero hM.1
    refine wpList_append_own_none hgd s x 25 ho B 9 i0 1 Try.underlying25 hi (.slice a n c) n (strV L) hs hown hx ?_
    exact h a c w (by rw [List.append_nil]; exact hown) ⟨rfl, rfl, rfl, Nat.le_refl _, fun _ _ _ => rfl⟩
  | some g =>
    refine wpList_append_own _ hgd s x 25 ho B 9 i0 (.string ⟨#[]⟩) 1 16 Try.underlying25 hi hz0 hz1 hz2 rfl (by decide) (.slice a n c) n (strV L) hs hown g m d (strV M) hx (by rw [strV_length, hM.1]; omega) (hM.olds g rfl) (strV_one _) (by unfold maxLen; omega) (by omega) hB ?_
    intro v' w' hown' hg _
    rw [← strV_append] at hown'
    obtain ⟨a', c', rfl, _⟩ := row_shape hown' (by rw [List.length_append, hL, hM.1])
    exact h a' c' w' hown' hg
end
end Go.Proofs.Ytogmneidfoedbaa
