/- Entries and trees compared: as structs, and as arrays of such. -/
import Derived.Test.YtelfbkfmngjheaaDoorTreA
import Derived.Test.YtelfbkfmngjheaaDoorTwoF
import Derived.Laws.StructEq
import Derived.ChangeKeysEq
namespace Go.Proofs.YtelfbkfmngjheaaDoor
open Go.RowKit Go.Sort TreF

theorem ent_fields : ∃ f g : Field, (Tryd.prog.fieldsOf 24).toList = [f, g] ∧ f.type = 22 ∧ f.offset = 0 ∧ g.type = 3 ∧ g.offset = 1 ∧ f.name ≠ "_" ∧ g.name ≠ "_" := by
  unfold Program.fieldsOf
  rw [Tryd.underlying24]
  exact ⟨_, _, rfl, rfl, rfl, rfl, rfl, by decide, by decide⟩
theorem ent_equal (d : Nat) (a c : Nat) (p q : Int) (w : World) :
    (Op.equalIn (d + 2) 24 (.agg #[.int .u32 (a : Int), .int .i64 p]) (.agg #[.int .u32 (c : Int), .int .i64 q])).run Tryd.prog w = .ok (decide (((a, p) : Ent) = (c, q))) w := by
  have q0 : ∀ (a : Nat) (p : Int), (part 22 #[.int .u32 (a : Int), .int .i64 p] 0).run Tryd.prog w = .ok (.int .u32 (a : Int)) w := fun a p => run_part_plain (P := Tryd.prog) w (by kernel_rfl) (by rfl)
  have q1 : ∀ (a : Nat) (p : Int), (part 3 #[.int .u32 (a : Int), .int .i64 p] 1).run Tryd.prog w = .ok (.int .i64 p) w := fun a p => run_part_plain (P := Tryd.prog) w (by kernel_rfl) (by rfl)
  have h0 : (Op.equalIn (d + 1) 22 (.int .u32 (a : Int)) (.int .u32 (c : Int))).run Tryd.prog w = .ok ((a : Int) == (c : Int)) w := run_equalIn_int (P := Tryd.prog) w d 22 .u32 .u32 (a : Int) (c : Int) Tryd.underlying22
  have h1 : (Op.equalIn (d + 1) 3 (.int .i64 p) (.int .i64 q)).run Tryd.prog w = .ok (p == q) w := run_equalIn_int (P := Tryd.prog) w d 3 .i64 .i64 p q Tryd.underlying3
  have hag := run_equalIn_agg (P := Tryd.prog) w (d + 1) 24 #[.int .u32 (a : Int), .int .i64 p] #[.int .u32 (c : Int), .int .i64 q] (by kernel_rfl) (by kernel_rfl)
  rw [show d + 2 = d + 1 + 1 from rfl, hag]
  clear hag
  obtain ⟨f, g, hf, f0, f1, g0, g1, fn, gn⟩ := ent_fields
  rw [hf]
  rw [← f0, ← f1] at q0
  rw [← f0] at h0
  rw [← g0, ← g1] at q1
  rw [← g0] at h1
  exact two_fields (q0 a p) (q0 c q) h0 (q1 a p) (q1 c q) h1 (by
    rw [Bool.eq_iff_iff, decide_eq_true_eq, Bool.and_eq_true, beq_iff_eq, beq_iff_eq]
    simp [Prod.ext_iff, Int.ofNat_inj]) fn gn
theorem ent_eql (a c : Nat) (p q : Int) (w : World) :
    (binOp .eql 24 (.agg #[.int .u32 (a : Int), .int .i64 p]) (.agg #[.int .u32 (c : Int), .int .i64 q])).run Tryd.prog w = .ok (.bool (decide (((a, p) : Ent) = (c, q)))) w := by
  rw [run_eql_struct, ent_equal 9998 a c p q w]; rfl
theorem ent_neq (a c : Nat) (p q : Int) (w : World) :
    (binOp .neq 24 (.agg #[.int .u32 (a : Int), .int .i64 p]) (.agg #[.int .u32 (c : Int), .int .i64 q])).run Tryd.prog w = .ok (.bool (!decide (((a, p) : Ent) = (c, q)))) w := by
  rw [run_neq_struct, ent_equal 9998 a c p q w]; rfl
theorem tre_items (d : Nat) (t u : Tr) (w : World) : ∀ is : List Nat, (∀ i ∈ is, i < t.length ∧ i < u.length) →
    (Op.eqItems (d + 2) 24 (Tryd.prog.cellsOf 24) (treC t).toArray (treC u).toArray is).run Tryd.prog w = .ok (is.all fun i => decide (t.getD i farE = u.getD i farE)) w
  | [], _ => rfl
  | i :: is, h => by
    obtain ⟨h1, h2⟩ := h i (by simp)
    have htwo : Tryd.prog.cellsOf 24 = 2 := by kernel_rfl
    obtain ⟨⟨a, p⟩, hx⟩ : ∃ e, t[i]? = some e := ⟨_, List.getElem?_eq_getElem h1⟩
    obtain ⟨⟨c, q⟩, hy⟩ : ∃ e, u[i]? = some e := ⟨_, List.getElem?_eq_getElem h2⟩
    have p1 := ent_part hx w
    have p2 := ent_part hy w
    have p3 := ent_equal d a c p q w
    have ih := tre_items d t u w is (fun j hj => h j (by simp [hj]))
    rw [htwo] at ih
    simp only [Op.eqItems, Sem.run_bind, htwo, p1, p2, p3, Result.andThen_ok, List.all_cons, getD_at hx, getD_at hy]
    cases decide (((a, p) : Ent) = (c, q)) with
    | true => simpa using ih
    | false => simp
theorem tall_same (t u : Tr) (ht : t.length = 16) (hu : u.length = 16) : ((List.range 16).all fun i => decide (t.getD i farE = u.getD i farE)) = decide (t = u) := by
  rw [Bool.eq_iff_iff, decide_eq_true_eq, List.all_eq_true]
  constructor
  · intro h
    apply List.ext_getElem?
    intro i
    by_cases hi : i < 16
    · have := h i (List.mem_range.2 hi)
      simp only [decide_eq_true_eq, List.getD_eq_getElem?_getD] at this
      rw [List.getElem?_eq_getElem (by omega), List.getElem?_eq_getElem (by omega)] at this ⊢
      simpa using this
    · rw [List.getElem?_eq_none (by omega), List.getElem?_eq_none (by omega)]
  · rintro rfl i _
    simp
theorem tre_equal (d : Nat) (t u : Tr) (w : World) (ht : t.length = 16) (hu : u.length = 16) :
    (Op.equalIn (d + 3) 26 (.agg (treC t).toArray) (.agg (treC u).toArray)).run Tryd.prog w = .ok (decide (t = u)) w := by
  have hs : (Tryd.prog.info? 24).isSome = true := by kernel_rfl
  obtain ⟨i, hi⟩ := Option.isSome_iff_exists.1 hs
  rw [run_equalIn_array w (d + 2) _ _ Tryd.underlying26 hi, tre_items d t u w _ (fun j hj => by have := List.mem_range.1 hj; omega), tall_same t u ht hu]
theorem tre_eql (t u : Tr) (w : World) (ht : t.length = 16) (hu : u.length = 16) :
    (binOp .eql 26 (.agg (treC t).toArray) (.agg (treC u).toArray)).run Tryd.prog w = .ok (.bool (decide (t = u))) w := by
  rw [run_eql_struct, tre_equal 9997 t u w ht hu]; rfl
theorem tre_neq (t u : Tr) (w : World) (ht : t.length = 16) (hu : u.length = 16) :
    (binOp .neq 26 (.agg (treC t).toArray) (.agg (treC u).toArray)).run Tryd.prog w = .ok (.bool (!decide (t = u))) w := by
  rw [run_neq_struct, tre_equal 9997 t u w ht hu]; rfl
end Go.Proofs.YtelfbkfmngjheaaDoor
