/- What the law of two acks asks of Both: the program's and the document's answer, and what is known of it. -/
import Derived.Test.YtaamlmahhkoleaaDoorAcksK
import Derived.Test.YtaamlmahhkoleaaDoorAcksN
import Derived.Test.YtaamlmahhkoleaaDoorAcksD
namespace Go.Proofs.YtaamlmahhkoleaaDoor
open Go.RowKit Go.Sort

theorem boths (f a b c d n s f' a' b' c' d' n' s' : Int) (hn : -9223372036854775808 ≤ n ∧ n < 9223372036854775808) (hn' : -9223372036854775808 ≤ n' ∧ n' < 9223372036854775808) :
    ∃ (g x y z u k : Int) (m : Nat), GivesT Tryd.prog 10 #[(.agg #[.int .i64 f, .int .u32 a, .int .u32 b, .int .u32 c, .int .u32 d, .int .i64 n, .int .i64 s] : Value), (.agg #[.int .i64 f', .int .u32 a', .int .u32 b', .int .u32 c', .int .u32 d', .int .i64 n', .int .i64 s'] : Value)] (.agg #[.int .i64 g, .int .u32 x, .int .u32 y, .int .u32 z, .int .u32 u, .int .i64 k, .int .i64 (m : Int)] : Value) ∧
      Gives Tryd.prog 13 #[(.agg #[.int .i64 f, .int .u32 a, .int .u32 b, .int .u32 c, .int .u32 d, .int .i64 n, .int .i64 s] : Value), (.agg #[.int .i64 f', .int .u32 a', .int .u32 b', .int .u32 c', .int .u32 d', .int .i64 n', .int .i64 s'] : Value)] (.agg #[.int .i64 g, .int .u32 x, .int .u32 y, .int .u32 z, .int .u32 u, .int .i64 k, .int .i64 (m : Int)] : Value) ∧
      ((n < n' ∧ k = n') ∨ (¬ n < n' ∧ k = n)) ∧ (g = f ∨ g = f') ∧ m < 256 ∧
      (0 ≤ k → k ≤ 60000 → ∀ q : Int, k ≤ q → q < k + 8 → AcksF.hasB k (m : Int) q = (AcksF.hasB n s q || AcksF.hasB n' s' q)) := by
  by_cases h : n < n'
  · refine ⟨f', a', b', c', d', n', AcksF.ofN n' (AcksF.nearL n' fun q => AcksF.hasB n s q || AcksF.hasB n' s' q), fun w ht => both_up f a b c d n s f' a' b' c' d' n' s' w ht hn.2 hn'.2 h, fun w => ?_, .inl ⟨h, rfl⟩, .inr rfl, AcksF.ofN_lt _ _,
      fun h0 h1 q h2 h3 => AcksF.has_near (fun q => AcksF.hasB n s q || AcksF.hasB n' s' q) q h0 h2 h3 (by omega)⟩
    cases hs : AcksF.seqB n' with
    | true => exact rboth_up_in f a b c d n s f' a' b' c' d' n' s' w hn hn' h hs
    | false => exact rboth_up_out f a b c d n s f' a' b' c' d' n' s' w hn hn' h hs
  · refine ⟨f, a, b, c, d, n, AcksF.ofN n (AcksF.nearL n fun q => AcksF.hasB n s q || AcksF.hasB n' s' q), fun w ht => both_same f a b c d n s f' a' b' c' d' n' s' w ht hn.2 hn'.2 h, fun w => ?_, .inr ⟨h, rfl⟩, .inl rfl, AcksF.ofN_lt _ _,
      fun h0 h1 q h2 h3 => AcksF.has_near (fun q => AcksF.hasB n s q || AcksF.hasB n' s' q) q h0 h2 h3 (by omega)⟩
    cases hs : AcksF.seqB n with
    | true => exact rboth_same_in f a b c d n s f' a' b' c' d' n' s' w hn hn' h hs
    | false => exact rboth_same_out f a b c d n s f' a' b' c' d' n' s' w hn hn' h hs

/-- What is told: each is had, they rise. -/
theorem near_facts (n : Int) (p : Int → Bool) : ∃ l, AcksF.nearL n p = l ∧ l.length ≤ 8 ∧ (∀ x ∈ l, -9223372036854775808 ≤ x ∧ x < 9223372036854775808) ∧ (∀ (i : Nat) (x : Int), l[i]? = some x → p x = true) ∧
    ∀ (i : Nat) (x y : Int), l[i]? = some y → l[i + 1]? = some x → y < x := by
  refine ⟨_, rfl, AcksF.nearL_length _ _, AcksF.nearL_bound _ _, fun i x h => (AcksF.nearL_mem (List.mem_of_getElem? h)).2.1, fun i x y hy hx => ?_⟩
  have h := AcksF.nearL_rises n p
  obtain ⟨h1, rfl⟩ := List.getElem?_eq_some_iff.1 hy
  obtain ⟨h2, rfl⟩ := List.getElem?_eq_some_iff.1 hx
  exact List.pairwise_iff_getElem.1 h i (i + 1) h1 h2 (by omega)
end Go.Proofs.YtaamlmahhkoleaaDoor
