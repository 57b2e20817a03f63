/- Plain functions of package acks: bits as a number, what an ack has, which numbers are near. No program is named here. -/
import Derived.Test.YtmgmgffgbkenkaaDoorNodesF
namespace Go.Proofs.YtmgmgffgbkenkaaDoor
namespace AcksF
open NodesF

/-- The bit of the number seq where next is next. -/
def bitN (next seq : Int) : Nat := if 0 ≤ next ∧ next ≤ seq ∧ seq - next < 8 then 2 ^ (seq - next).toNat else 0
theorem bitN_lt (next seq : Int) : bitN next seq < 256 := by
  unfold bitN
  split
  · have h : 2 ^ (seq - next).toNat ≤ 2 ^ 7 := Nat.pow_le_pow_right (by omega) (by omega)
    omega
  · omega
theorem bitN_in {next seq : Int} {k : Nat} (h0 : 0 ≤ next) (hk : k < 8) (hs : seq - next = k) : bitN next seq = 2 ^ k := by
  unfold bitN; rw [if_pos (by omega), hs]; rfl
theorem bitN_out {next seq : Int} (h : next < 0 ∨ seq < next ∨ 8 ≤ seq - next) : bitN next seq = 0 := by
  unfold bitN; rw [if_neg (by omega)]
theorem bitN_test (next seq : Int) (k : Nat) (h0 : 0 ≤ next) (hk : k < 8) : (bitN next seq).testBit k = decide (next + k = seq) := by
  by_cases h : next ≤ seq ∧ seq - next < 8
  · obtain ⟨j, hj⟩ := Int.eq_ofNat_of_zero_le (show 0 ≤ seq - next by omega)
    rw [bitN_in h0 (k := j) (by omega) hj, Nat.testBit_two_pow]
    exact decide_eq_decide.2 (by omega)
  · rw [bitN_out (by omega), Nat.zero_testBit, decide_eq_false (by omega)]

/-- The bits of these numbers. -/
def ofN (next : Int) (l : List Int) : Nat := l.foldl (fun a s => a ||| bitN next s) 0
theorem ofN_nil (next : Int) : ofN next [] = 0 := rfl
theorem ofN_snoc (next : Int) (l : List Int) (s : Int) : ofN next (l ++ [s]) = ofN next l ||| bitN next s := by simp [ofN]
theorem fold_lt (next : Int) (l : List Int) (a : Nat) (h : a < 256) : l.foldl (fun a s => a ||| bitN next s) a < 256 := by
  induction l generalizing a with
  | nil => exact h
  | cons s l ih => exact ih _ (Nat.or_lt_two_pow (n := 8) h (bitN_lt next s))
theorem ofN_lt (next : Int) (l : List Int) : ofN next l < 256 := fold_lt next l 0 (by omega)
theorem fold_test (next : Int) (l : List Int) (a k : Nat) (h0 : 0 ≤ next) (hk : k < 8) : (l.foldl (fun a s => a ||| bitN next s) a).testBit k = (a.testBit k || decide (next + k ∈ l)) := by
  induction l generalizing a with
  | nil => simp
  | cons s l ih =>
    rw [List.foldl_cons, ih, Nat.testBit_or, bitN_test next s k h0 hk, Bool.or_assoc]
    congr 1
    rw [Bool.eq_iff_iff]; simp
theorem ofN_test (next : Int) (l : List Int) (k : Nat) (h0 : 0 ≤ next) (hk : k < 8) : (ofN next l).testBit k = decide (next + k ∈ l) := by
  unfold ofN; rw [fold_test next l 0 k h0 hk]; simp

theorem has_nat (m k : Nat) : hasN (m : Int) k = m.testBit k := by
  unfold hasN
  rw [bit_off]
  refine decide_eq_decide.2 ?_
  have e : (m : Int) / 2 ^ k % 2 = ((m / 2 ^ k % 2 : Nat) : Int) := by simp
  rw [e]; omega

/-- Whether an ack of this next number and these bits has the number seq. -/
def hasB (next bits seq : Int) : Bool := decide (seq < next) || (decide (0 ≤ next) && decide (seq ≤ 65535) && decide (seq - next < 8) && hasN bits (seq - next).toNat)
theorem hasB_low {next seq : Int} (bits : Int) (h : seq < next) : hasB next bits seq = true := by unfold hasB; rw [decide_eq_true h]; rfl
theorem hasB_off {next seq : Int} (bits : Int) (h : ¬ seq < next) (h' : next < 0 ∨ 65535 < seq ∨ 8 ≤ seq - next) : hasB next bits seq = false := by
  unfold hasB
  rw [decide_eq_false h, Bool.false_or]
  rcases h' with h' | h' | h'
  · rw [decide_eq_false (show ¬ 0 ≤ next by omega)]; rfl
  · rw [decide_eq_false (show ¬ seq ≤ 65535 by omega), Bool.and_false]; rfl
  · rw [decide_eq_false (show ¬ seq - next < 8 by omega), Bool.and_false]; rfl
theorem hasB_in {next seq : Int} {k : Nat} (bits : Int) (h0 : 0 ≤ next) (hk : k < 8) (hs : seq - next = k) (h : seq ≤ 65535) : hasB next bits seq = hasN bits k := by
  unfold hasB
  rw [decide_eq_false (show ¬ seq < next by omega), decide_eq_true h0, decide_eq_true h, decide_eq_true (show seq - next < 8 by omega), hs]; rfl
theorem hasB_of (next : Int) (l : List Int) (seq : Int) (h0 : 0 ≤ next) (h1 : next ≤ seq) (h8 : seq < next + 8) (h : seq ≤ 65535) : hasB next (ofN next l : Int) seq = decide (seq ∈ l) := by
  obtain ⟨k, hk⟩ := Int.eq_ofNat_of_zero_le (show 0 ≤ seq - next by omega)
  rw [hasB_in _ h0 (k := k) (by omega) hk h, has_nat, ofN_test _ _ _ h0 (by omega)]
  have e : next + (k : Int) = seq := by omega
  rw [e]

/-- The first n of next and those behind it that p has. -/
def nearK (next : Int) (p : Int → Bool) (n : Nat) : List Int := ((List.range n).map fun (k : Nat) => next + (k : Int)).filter p
theorem nearK_zero (next : Int) (p : Int → Bool) : nearK next p 0 = [] := rfl
theorem nearK_yes {next : Int} {p : Int → Bool} {n : Nat} (h : p (next + n) = true) : nearK next p (n + 1) = nearK next p n ++ [next + n] := by
  unfold nearK; rw [List.range_succ, List.map_append, List.filter_append]; simp [h]
theorem nearK_no {next : Int} {p : Int → Bool} {n : Nat} (h : p (next + n) = false) : nearK next p (n + 1) = nearK next p n := by
  unfold nearK; rw [List.range_succ, List.map_append, List.filter_append]; simp [h]
theorem nearK_length (next : Int) (p : Int → Bool) (n : Nat) : (nearK next p n).length ≤ n := by
  unfold nearK
  refine Nat.le_trans (List.length_filter_le _ _) ?_
  simp
theorem nearK_mem {next : Int} {p : Int → Bool} {n : Nat} {x : Int} : x ∈ nearK next p n ↔ (next ≤ x ∧ x < next + n) ∧ p x = true := by
  unfold nearK
  rw [List.mem_filter, List.mem_map]
  constructor
  · rintro ⟨⟨k, hk, rfl⟩, h⟩
    rw [List.mem_range] at hk
    exact ⟨by omega, h⟩
  · rintro ⟨⟨h1, h2⟩, h⟩
    exact ⟨⟨(x - next).toNat, by rw [List.mem_range]; omega, by omega⟩, h⟩
theorem nearK_rises (next : Int) (p : Int → Bool) (n : Nat) : (nearK next p n).Pairwise (· < ·) := by
  unfold nearK
  refine List.Pairwise.filter _ ?_
  rw [List.pairwise_map]
  exact List.pairwise_lt_range.imp (fun h => by omega)
theorem nearK_congr {next : Int} {p q : Int → Bool} {n : Nat} (h : ∀ x, p x = q x) : nearK next p n = nearK next q n := by
  have e : p = q := funext h
  rw [e]
/-- Whether a number may be a part's. -/
def seqB (next : Int) : Bool := decide (0 ≤ next) && decide (next ≤ 65535)
theorem seqB_in {n : Int} (h : seqB n = true) : 0 ≤ n ∧ n ≤ 65535 := by simpa [seqB] using h
theorem seqB_out {n : Int} (h : seqB n = false) : n < 0 ∨ 65535 < n := by
  by_cases h0 : n < 0
  · exact .inl h0
  · by_cases h1 : 65535 < n
    · exact .inr h1
    · have : seqB n = true := by simp [seqB]; omega
      rw [h] at this; cases this
/-- Those of next and the seven behind it that p has. -/
def nearL (next : Int) (p : Int → Bool) : List Int := if seqB next = true then nearK next p 8 else []
theorem nearL_in {next : Int} (p : Int → Bool) (h : seqB next = true) : nearL next p = nearK next p 8 := by unfold nearL; rw [if_pos h]
theorem nearL_out {next : Int} (p : Int → Bool) (h : seqB next = false) : nearL next p = [] := by unfold nearL; rw [h]; rfl
theorem nearL_length (next : Int) (p : Int → Bool) : (nearL next p).length ≤ 8 := by
  unfold nearL; split
  · exact nearK_length _ _ _
  · simp
theorem nearL_congr {next : Int} {p q : Int → Bool} (h : ∀ x, p x = q x) : nearL next p = nearL next q := by
  unfold nearL; rw [nearK_congr h]
theorem nearL_rises (next : Int) (p : Int → Bool) : (nearL next p).Pairwise (· < ·) := by
  unfold nearL; split
  · exact nearK_rises _ _ _
  · exact List.Pairwise.nil
theorem nearL_mem {next : Int} {p : Int → Bool} {x : Int} (h : x ∈ nearL next p) : (next ≤ x ∧ x < next + 8) ∧ p x = true ∧ seqB next = true := by
  unfold nearL at h; split at h
  · rename_i hs
    have := nearK_mem.1 h
    exact ⟨by omega, this.2, hs⟩
  · cases h

theorem nearL_bound (next : Int) (p : Int → Bool) : ∀ x ∈ nearL next p, -9223372036854775808 ≤ x ∧ x < 9223372036854775808 := fun x hx => by
  obtain ⟨h1, _, h2⟩ := nearL_mem hx
  have h3 := seqB_in h2
  omega

/-- The bits of those that either has: an ack of them has what either has. -/
theorem has_near {next : Int} (p : Int → Bool) (seq : Int) (h0 : 0 ≤ next) (h1 : next ≤ seq) (h8 : seq < next + 8) (h : seq ≤ 65535) : hasB next (ofN next (nearL next p) : Int) seq = p seq := by
  rw [hasB_of _ _ _ h0 h1 h8 h, nearL_in p (by simp [seqB]; omega), Bool.eq_iff_iff, decide_eq_true_iff, nearK_mem]
  constructor
  · exact fun h => h.2
  · exact fun h => ⟨by omega, h⟩

theorem and_two (m n : Nat) : m &&& 2 ^ n = if m.testBit n = true then 2 ^ n else 0 := by
  apply Nat.eq_of_testBit_eq
  intro i
  rw [Nat.testBit_and, Nat.testBit_two_pow]
  by_cases h : n = i
  · subst h
    cases hb : m.testBit n
    · simp
    · simp
  · rw [decide_eq_false h, Bool.and_false]
    split
    · rw [Nat.testBit_two_pow, decide_eq_false h]
    · simp
theorem and_pow (x : Int) (n : Nat) (hn : n < 16) : bits BinOp.and .i64 x (2 ^ n) = if hasN x n = true then 2 ^ n else 0 := by
  show IntKind.i64.wrap ((BitVec.ofInt 64 x &&& BitVec.ofInt 64 (2 ^ n)).toNat : Nat) = _
  rw [BitVec.toNat_and, toNat_pow n hn, BitVec.toNat_ofInt, and_two, bit_off, IntKind.wrap_i64]
  unfold hasN
  have e64 : ((2 ^ 64 : Nat) : Int) = 18446744073709551616 := by decide
  rw [e64]
  by_cases hb : x / 2 ^ n % 2 = 1
  · have hm : (x % 18446744073709551616).toNat / 2 ^ n % 2 = 1 := by
      rcases n16 n hn with h | h | h | h | h | h | h | h | h | h | h | h | h | h | h | h <;> subst h <;> simp at * <;> omega
    rw [decide_eq_true hm, if_pos rfl, if_pos (decide_eq_true hb)]
    rcases n16 n hn with h | h | h | h | h | h | h | h | h | h | h | h | h | h | h | h <;> subst h <;> decide
  · have hm : ¬ (x % 18446744073709551616).toNat / 2 ^ n % 2 = 1 := by
      rcases n16 n hn with h | h | h | h | h | h | h | h | h | h | h | h | h | h | h | h <;> subst h <;> simp at * <;> omega
    rw [decide_eq_false hm, if_neg Bool.false_ne_true, if_neg (by rw [decide_eq_false hb]; exact Bool.false_ne_true)]
    rfl
theorem and_pow_test (x : Int) (n : Nat) (hn : n < 16) : (bits BinOp.and .i64 x (2 ^ n) == 0) = !hasN x n := by
  rw [and_pow x n hn]
  cases hasN x n
  · rfl
  · rw [if_pos rfl]
    have : (0 : Int) < 2 ^ n := Int.pow_pos (by omega)
    simp; omega
theorem and_zero (x : Int) : bits BinOp.and .i64 x 0 = 0 := by
  show IntKind.i64.wrap ((BitVec.ofInt 64 x &&& BitVec.ofInt 64 0).toNat : Nat) = 0
  rw [BitVec.toNat_and]
  simp [IntKind.wrap_i64]
theorem or_nat (a b : Nat) (ha : a < 256) (hb : b < 256) : bits BinOp.or .i64 (a : Int) (b : Int) = ((a ||| b : Nat) : Int) := by
  show IntKind.i64.wrap ((BitVec.ofInt 64 a ||| BitVec.ofInt 64 b).toNat : Nat) = _
  have hl : a ||| b < 256 := Nat.or_lt_two_pow (n := 8) ha hb
  have e64 : ((2 ^ 64 : Nat) : Int) = 18446744073709551616 := by decide
  rw [BitVec.toNat_or, BitVec.toNat_ofInt, BitVec.toNat_ofInt, e64]
  have e1 : ((a : Int) % 18446744073709551616).toNat = a := by omega
  have e2 : ((b : Int) % 18446744073709551616).toNat = b := by omega
  rw [e1, e2, IntKind.wrap_i64]
  omega
end AcksF
end Go.Proofs.YtmgmgffgbkenkaaDoor
