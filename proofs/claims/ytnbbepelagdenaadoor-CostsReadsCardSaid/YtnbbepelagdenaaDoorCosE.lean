/- Links compared: as arrays of sixteen costs, and as structs. -/
import Derived.Test.YtnbbepelagdenaaDoorCosA
import Derived.Laws.StructEq
import Derived.ChangeKeysEq
namespace Go.Proofs.YtnbbepelagdenaaDoor
open Go.RowKit Go.Sort CosF

theorem cosC_at {L : List Nat} {i : Nat} (h : i < L.length) : (cosC L).toArray[i]? = some (.int .u32 (L.getD i 0 : Nat)) := by
  simp [cosC, h]
theorem row_items (d : Nat) (L M : List Nat) (w : World) : ∀ is : List Nat, (∀ i ∈ is, i < L.length ∧ i < M.length) →
    (Op.eqItems (d + 1) 22 (Tryd.prog.cellsOf 22) (cosC L).toArray (cosC M).toArray is).run Tryd.prog w = .ok (is.all fun i => L.getD i 0 == M.getD i 0) w
  | [], _ => rfl
  | i :: is, h => by
    obtain ⟨h1, h2⟩ := h i (by simp)
    have hone : Tryd.prog.cellsOf 22 = 1 := by kernel_rfl
    have p1 := run_part_plain (P := Tryd.prog) w (e := 22) (by kernel_rfl) (cosC_at h1)
    have p2 := run_part_plain (P := Tryd.prog) w (e := 22) (by kernel_rfl) (cosC_at h2)
    have p3 := run_equalIn_int (P := Tryd.prog) w d 22 .u32 .u32 (L.getD i 0 : Nat) (M.getD i 0 : Nat) Tryd.underlying22
    have ih := row_items d L M w is (fun j hj => h j (by simp [hj]))
    simp only [Op.eqItems, Sem.run_bind, hone, Nat.mul_one, p1, p2, p3, Result.andThen_ok, List.all_cons]
    rw [hone] at ih
    have hb : (((L.getD i 0 : Nat) : Int) == ((M.getD i 0 : Nat) : Int)) = (L.getD i 0 == M.getD i 0) := by
      rw [Bool.eq_iff_iff]; simp [Int.ofNat_inj]
    rw [hb]
    cases L.getD i 0 == M.getD i 0 with
    | true => simpa using ih
    | false => simp
theorem all_same (L M : List Nat) (hL : L.length = 16) (hM : M.length = 16) : ((List.range 16).all fun i => L.getD i 0 == M.getD i 0) = decide (L = M) := by
  rw [Bool.eq_iff_iff, decide_eq_true_eq, List.all_eq_true]
  constructor
  · intro h
    apply List.ext_getElem?
    intro i
    by_cases hi : i < 16
    · have := h i (List.mem_range.2 hi)
      simp only [beq_iff_eq, List.getD_eq_getElem?_getD] at this
      rw [List.getElem?_eq_getElem (by omega), List.getElem?_eq_getElem (by omega)] at this ⊢
      simpa using this
    · rw [List.getElem?_eq_none (by omega), List.getElem?_eq_none (by omega)]
  · rintro rfl i _
    simp
theorem row_equal (d : Nat) (L M : List Nat) (w : World) (hL : L.length = 16) (hM : M.length = 16) :
    (Op.equalIn (d + 2) 23 (.agg (cosC L).toArray) (.agg (cosC M).toArray)).run Tryd.prog w = .ok (decide (L = M)) w := by
  have hs : (Tryd.prog.info? 22).isSome = true := by kernel_rfl
  obtain ⟨i, hi⟩ := Option.isSome_iff_exists.1 hs
  rw [run_equalIn_array w (d + 1) _ _ Tryd.underlying23 hi, row_items d L M w _ (fun j hj => by have := List.mem_range.1 hj; omega), all_same L M hL hM]
theorem row_eql (L M : List Nat) (w : World) (hL : L.length = 16) (hM : M.length = 16) :
    (binOp .eql 23 (.agg (cosC L).toArray) (.agg (cosC M).toArray)).run Tryd.prog w = .ok (.bool (decide (L = M))) w := by
  rw [run_eql_struct, row_equal 9998 L M w hL hM]; rfl
theorem two_fields {P : Program} {d : Nat} {xs ys : Array Value} {f g : Field} {w : World} {x0 y0 x1 y1 : Value} {r0 r1 r : Bool}
    (p0 : (part f.type xs f.offset).run P w = .ok x0 w) (p1 : (part f.type ys f.offset).run P w = .ok y0 w) (h0 : (Op.equalIn d f.type x0 y0).run P w = .ok r0 w)
    (p2 : (part g.type xs g.offset).run P w = .ok x1 w) (p3 : (part g.type ys g.offset).run P w = .ok y1 w) (h1 : (Op.equalIn d g.type x1 y1).run P w = .ok r1 w)
    (hr : r = (r0 && r1)) (hf : f.name ≠ "_") (hg : g.name ≠ "_") : (Op.eqFields d xs ys [f, g]).run P w = .ok r w := by
  subst hr
  simp only [Op.eqFields, if_pos hf, if_pos hg, Sem.run_bind, p0, p1, h0, Result.andThen_ok]
  cases r0
  · simp
  · simp only [Bool.not_true, Bool.false_eq_true, if_false, Sem.run_bind, p2, p3, h1, Result.andThen_ok]
    cases r1 <;> simp
theorem cos_fields : ∃ f g : Field, (Tryd.prog.fieldsOf 25).toList = [f, g] ∧ f.type = 3 ∧ f.offset = 0 ∧ g.type = 23 ∧ g.offset = 1 ∧ f.name ≠ "_" ∧ g.name ≠ "_" := by
  unfold Program.fieldsOf
  rw [Tryd.underlying25]
  exact ⟨_, _, rfl, rfl, rfl, rfl, rfl, by decide, by decide⟩
theorem cos_equal (d : Nat) (a b : Pt) (w : World) (ha : a.2.length = 16) (hb : b.2.length = 16) :
    (Op.equalIn (d + 3) 25 (.agg (cosP a).toArray) (.agg (cosP b).toArray)).run Tryd.prog w = .ok (decide (a = b)) w := by
  have hex : ∀ c : Pt, c.2.length = 16 → (cosP c).toArray.extract 1 (1 + 16) = (cosC c.2).toArray := fun c hc => by
    apply Array.ext'
    simp only [cosP, Array.toList_extract, List.extract_eq_take_drop]
    rw [List.drop_succ_cons, List.drop_zero, List.take_of_length_le (by rw [cosC_length]; omega)]
  have q1 : ∀ c : Pt, c.2.length = 16 → (part 23 (cosP c).toArray 1).run Tryd.prog w = .ok (.agg (cosC c.2).toArray) w := fun c hc => by
    have := hex c hc
    simp only [Nat.reduceAdd] at this
    simp only [part, Sem.run_bind, Tryd.isAgg23, Tryd.sizeOf23, Result.andThen_ok, if_true, Sem.run_pure, Nat.reduceAdd, this]
  have q0 : ∀ c : Pt, (part 3 (cosP c).toArray 0).run Tryd.prog w = .ok (.int .i64 c.1) w := fun c => run_part_plain (P := Tryd.prog) w (by kernel_rfl) (by simp [cosP])
  have hr := row_equal d a.2 b.2 w ha hb
  have hi : (Op.equalIn (d + 2) 3 (.int .i64 a.1) (.int .i64 b.1)).run Tryd.prog w = .ok (a.1 == b.1) w := run_equalIn_int (P := Tryd.prog) w (d + 1) 3 .i64 .i64 a.1 b.1 Tryd.underlying3
  have hag := run_equalIn_agg (P := Tryd.prog) w (d + 2) 25 (cosP a).toArray (cosP b).toArray (by kernel_rfl) (by kernel_rfl)
  rw [show d + 3 = d + 2 + 1 from rfl, hag]
  clear hag
  obtain ⟨f, g, hf, f0, f1, g0, g1, fn, gn⟩ := cos_fields
  rw [hf]
  rw [← f0, ← f1] at q0
  rw [← f0] at hi
  rw [← g0, ← g1] at q1
  rw [← g0] at hr
  exact two_fields (q0 a) (q0 b) hi (q1 a ha) (q1 b hb) hr (by
    rw [Bool.eq_iff_iff, decide_eq_true_eq, Bool.and_eq_true, beq_iff_eq, decide_eq_true_eq]
    exact Prod.ext_iff) fn gn
theorem cos_eql (a b : Pt) (w : World) (ha : a.2.length = 16) (hb : b.2.length = 16) :
    (binOp .eql 25 (.agg (cosP a).toArray) (.agg (cosP b).toArray)).run Tryd.prog w = .ok (.bool (decide (a = b))) w := by
  rw [run_eql_struct, cos_equal 9997 a b w ha hb]; rfl
theorem cos_neq (a b : Pt) (w : World) (ha : a.2.length = 16) (hb : b.2.length = 16) :
    (binOp .neq 25 (.agg (cosP a).toArray) (.agg (cosP b).toArray)).run Tryd.prog w = .ok (.bool (!decide (a = b))) w := by
  rw [run_neq_struct, cos_equal 9997 a b w ha hb]; rfl
end Go.Proofs.YtnbbepelagdenaaDoor
