/- Plain functions of package nodes: sets as numbers, and their laws. No program is named here. -/
import Derived.Laws.BitsLemmas
namespace Go.Proofs.Ytjpbglbbeepmnaa
namespace NodesF

theorem or_pow (c n : Nat) (h : c / 2 ^ n % 2 = 0) : c ||| 2 ^ n = c + 2 ^ n := by
  have hr : c % 2 ^ n < 2 ^ n := Nat.mod_lt _ (Nat.two_pow_pos n)
  obtain ⟨q, hq⟩ : ∃ q, c / 2 ^ n = 2 * q := ⟨c / 2 ^ n / 2, by omega⟩
  have e0 : c = 2 ^ n * (2 * q) + c % 2 ^ n := by rw [← hq]; exact (Nat.div_add_mod c (2 ^ n)).symm
  have e1 : c = 2 ^ n * (2 * q) ||| c % 2 ^ n := e0.trans (Nat.two_pow_add_eq_or_of_lt hr (2 * q))
  have e2 : 2 ^ n * (2 * q + 1) + c % 2 ^ n = 2 ^ n * (2 * q + 1) ||| c % 2 ^ n := Nat.two_pow_add_eq_or_of_lt hr _
  have e3 : 2 ^ n * (2 * q + 1) = 2 ^ n * (2 * q) ||| 2 ^ n := by
    have h2 : 2 ^ n < 2 ^ (n + 1) := by rw [Nat.pow_succ]; have := Nat.two_pow_pos n; omega
    have := Nat.two_pow_add_eq_or_of_lt h2 q
    have e : 2 ^ n * (2 * q) = 2 ^ (n + 1) * q := by rw [Nat.pow_succ, Nat.mul_assoc]
    rw [Nat.mul_add, Nat.mul_one, e, this]
  have e4 : c + 2 ^ n = 2 ^ n * (2 * q + 1) + c % 2 ^ n := by rw [Nat.mul_add, Nat.mul_one]; omega
  rw [e4, e2, e3, Nat.or_assoc, Nat.or_comm (2 ^ n), ← Nat.or_assoc, ← e1]

theorem bit_off (c n : Nat) : c.testBit n = decide (c / 2 ^ n % 2 = 1) := by
  rw [Nat.testBit_eq_decide_div_mod_eq]

theorem andNot_off (c n : Nat) (hc : c < 2 ^ 64) (hn : n < 64) (h : c / 2 ^ n % 2 = 0) : c &&& (2 ^ 64 - (2 ^ n + 1)) = c := by
  apply Nat.eq_of_testBit_eq
  intro i
  rw [Nat.testBit_and, Nat.testBit_two_pow_sub_succ (Nat.pow_lt_pow_right (by omega) hn)]
  by_cases hi : i < 64
  · by_cases hin : n = i
    · subst hin
      rw [bit_off, decide_eq_false (by omega)]; simp
    · simp [hi, hin]
  · rw [Nat.testBit_lt_two_pow (Nat.lt_of_lt_of_le hc (Nat.pow_le_pow_right (by omega) (by omega)))]; simp
theorem andNot_on (c n : Nat) (hc : c < 2 ^ 64) (hn : n < 64) (h : c / 2 ^ n % 2 = 0) : (c ||| 2 ^ n) &&& (2 ^ 64 - (2 ^ n + 1)) = c := by
  apply Nat.eq_of_testBit_eq
  intro i
  rw [Nat.testBit_and, Nat.testBit_or, Nat.testBit_two_pow_sub_succ (Nat.pow_lt_pow_right (by omega) hn)]
  by_cases hi : i < 64
  · by_cases hin : n = i
    · subst hin
      rw [bit_off, decide_eq_false (by omega)]; simp
    · simp [hi, hin]
  · rw [Nat.testBit_lt_two_pow (Nat.lt_of_lt_of_le hc (Nat.pow_le_pow_right (by omega) (by omega)))]
    simp [Nat.testBit_two_pow]; omega

theorem n16 (n : Nat) (h : n < 16) : n = 0 ∨ n = 1 ∨ n = 2 ∨ n = 3 ∨ n = 4 ∨ n = 5 ∨ n = 6 ∨ n = 7 ∨ n = 8 ∨ n = 9 ∨ n = 10 ∨ n = 11 ∨ n = 12 ∨ n = 13 ∨ n = 14 ∨ n = 15 := by omega

/-- The set s has the node n. -/
def hasN (s : Int) (n : Nat) : Bool := decide (s / 2 ^ n % 2 = 1)
def withN (s : Int) (n : Nat) : Int := if s / 2 ^ n % 2 = 1 then s else s + 2 ^ n
def withoutN (s : Int) (n : Nat) : Int := if s / 2 ^ n % 2 = 1 then s - 2 ^ n else s

theorem toNat_pow (n : Nat) (h : n < 16) : (BitVec.ofInt 64 (2 ^ n)).toNat = 2 ^ n := by
  rcases n16 n h with h | h | h | h | h | h | h | h | h | h | h | h | h | h | h | h <;> subst h <;> decide

theorem or_i64 (s : Int) (n : Nat) (hn : n < 16) (h1 : -9223372036854775808 ≤ s) (h2 : s < 9223372036854775808) : bits BinOp.or .i64 s (2 ^ n) = withN s n := by
  show IntKind.i64.wrap ((BitVec.ofInt 64 s ||| BitVec.ofInt 64 (2 ^ n)).toNat : Nat) = withN s n
  rw [BitVec.toNat_or, toNat_pow n hn, BitVec.toNat_ofInt, IntKind.wrap_i64]
  unfold withN
  have e64 : ((2 ^ 64 : Nat) : Int) = 18446744073709551616 := by decide
  rw [e64]
  by_cases hb : s / 2 ^ n % 2 = 1
  · rw [if_pos hb]
    have hm : (s % 18446744073709551616).toNat ||| 2 ^ n = (s % 18446744073709551616).toNat := by
      have hoff : ((s % 18446744073709551616).toNat - 2 ^ n) / 2 ^ n % 2 = 0 ∧ 2 ^ n ≤ (s % 18446744073709551616).toNat := by
        rcases n16 n hn with h | h | h | h | h | h | h | h | h | h | h | h | h | h | h | h <;> subst h <;> simp at * <;> omega
      have e := or_pow _ n hoff.1
      have e2 : (s % 18446744073709551616).toNat = ((s % 18446744073709551616).toNat - 2 ^ n) ||| 2 ^ n := by rw [e]; omega
      rw [e2, Nat.or_assoc, Nat.or_self]
    rw [hm]; omega
  · rw [if_neg hb]
    have hoff : (s % 18446744073709551616).toNat / 2 ^ n % 2 = 0 := by
      rcases n16 n hn with h | h | h | h | h | h | h | h | h | h | h | h | h | h | h | h <;> subst h <;> simp at * <;> omega
    rw [or_pow _ n hoff]
    rcases n16 n hn with h | h | h | h | h | h | h | h | h | h | h | h | h | h | h | h <;> subst h <;> simp at * <;> omega

theorem andNot_i64 (s : Int) (n : Nat) (hn : n < 16) (h1 : -9223372036854775808 ≤ s) (h2 : s < 9223372036854775808) : bits BinOp.andNot .i64 s (2 ^ n) = withoutN s n := by
  show IntKind.i64.wrap ((BitVec.ofInt 64 s &&& ~~~ BitVec.ofInt 64 (2 ^ n)).toNat : Nat) = withoutN s n
  rw [BitVec.toNat_and, BitVec.toNat_not, toNat_pow n hn, BitVec.toNat_ofInt, IntKind.wrap_i64]
  unfold withoutN
  have e64 : ((2 ^ 64 : Nat) : Int) = 18446744073709551616 := by decide
  rw [e64]
  have es : 2 ^ 64 - 1 - 2 ^ n = 2 ^ 64 - (2 ^ n + 1) := by omega
  rw [es]
  have hlt : (s % 18446744073709551616).toNat < 2 ^ 64 := by
    have : (2 : Nat) ^ 64 = 18446744073709551616 := by decide
    omega
  by_cases hb : s / 2 ^ n % 2 = 1
  · rw [if_pos hb]
    have hoff : ((s % 18446744073709551616).toNat - 2 ^ n) / 2 ^ n % 2 = 0 ∧ 2 ^ n ≤ (s % 18446744073709551616).toNat := by
      rcases n16 n hn with h | h | h | h | h | h | h | h | h | h | h | h | h | h | h | h <;> subst h <;> simp at * <;> omega
    have e := or_pow _ n hoff.1
    have e2 : (s % 18446744073709551616).toNat = ((s % 18446744073709551616).toNat - 2 ^ n) ||| 2 ^ n := by rw [e]; omega
    have e3 : (s % 18446744073709551616).toNat &&& (2 ^ 64 - (2 ^ n + 1)) = (s % 18446744073709551616).toNat - 2 ^ n := by
      have h3 := andNot_on _ n (Nat.lt_of_le_of_lt (Nat.sub_le _ _) hlt) (by omega) hoff.1
      rw [← e2] at h3; exact h3
    rw [e3]
    rcases n16 n hn with h | h | h | h | h | h | h | h | h | h | h | h | h | h | h | h <;> subst h <;> simp at * <;> omega
  · rw [if_neg hb]
    have hoff : (s % 18446744073709551616).toNat / 2 ^ n % 2 = 0 := by
      rcases n16 n hn with h | h | h | h | h | h | h | h | h | h | h | h | h | h | h | h <;> subst h <;> simp at * <;> omega
    rw [andNot_off _ n hlt (by omega) hoff]
    omega

theorem and_one (x : Int) : bits BinOp.and .i64 x 1 = x % 2 := by
  have h1 : (BitVec.ofInt 64 1).toNat = 2 ^ 1 - 1 := by decide
  have key : (BitVec.ofInt 64 x &&& BitVec.ofInt 64 1).toNat = (x % ((2 ^ 64 : Nat) : Int)).toNat % 2 ^ 1 := by
    rw [BitVec.toNat_and, BitVec.toNat_ofInt, h1, Nat.and_two_pow_sub_one_eq_mod]
  show IntKind.i64.wrap ((BitVec.ofInt 64 x &&& BitVec.ofInt 64 1).toNat : Nat) = x % 2
  rw [key, IntKind.wrap_i64]; omega
theorem and_low (x : Int) : bits BinOp.and .i64 x 65535 = x % 65536 := by
  have h1 : (BitVec.ofInt 64 65535).toNat = 2 ^ 16 - 1 := by decide
  have key : (BitVec.ofInt 64 x &&& BitVec.ofInt 64 65535).toNat = (x % ((2 ^ 64 : Nat) : Int)).toNat % 2 ^ 16 := by
    rw [BitVec.toNat_and, BitVec.toNat_ofInt, h1, Nat.and_two_pow_sub_one_eq_mod]
  show IntKind.i64.wrap ((BitVec.ofInt 64 x &&& BitVec.ofInt 64 65535).toNat : Nat) = x % 65536
  rw [key, IntKind.wrap_i64]; omega
theorem and_15 (x : Int) : bits BinOp.and .i64 x 15 = x % 16 := by
  have h1 : (BitVec.ofInt 64 15).toNat = 2 ^ 4 - 1 := by decide
  have key : (BitVec.ofInt 64 x &&& BitVec.ofInt 64 15).toNat = (x % ((2 ^ 64 : Nat) : Int)).toNat % 2 ^ 4 := by
    rw [BitVec.toNat_and, BitVec.toNat_ofInt, h1, Nat.and_two_pow_sub_one_eq_mod]
  show IntKind.i64.wrap ((BitVec.ofInt 64 x &&& BitVec.ofInt 64 15).toNat : Nat) = x % 16
  rw [key, IntKind.wrap_i64]; omega

theorem with_range (s : Int) (n : Nat) (hn : n < 16) (h1 : -9223372036854775808 ≤ s) (h2 : s < 9223372036854775808) : -9223372036854775808 ≤ withN s n ∧ withN s n < 9223372036854775808 := by
  unfold withN
  split
  · omega
  · rcases n16 n hn with h | h | h | h | h | h | h | h | h | h | h | h | h | h | h | h <;> subst h <;> simp at * <;> omega
theorem without_range (s : Int) (n : Nat) (hn : n < 16) (h1 : -9223372036854775808 ≤ s) (h2 : s < 9223372036854775808) : -9223372036854775808 ≤ withoutN s n ∧ withoutN s n < 9223372036854775808 := by
  unfold withoutN
  split
  · rcases n16 n hn with h | h | h | h | h | h | h | h | h | h | h | h | h | h | h | h <;> subst h <;> simp at * <;> omega
  · omega

theorem has_with (s : Int) (n : Nat) (hn : n < 16) : hasN (withN s n) n = true := by
  unfold hasN withN
  rw [decide_eq_true_eq]
  split
  · assumption
  · rcases n16 n hn with h | h | h | h | h | h | h | h | h | h | h | h | h | h | h | h <;> subst h <;> simp at * <;> omega
theorem has_without (s : Int) (n : Nat) (hn : n < 16) : hasN (withoutN s n) n = false := by
  unfold hasN withoutN
  rw [decide_eq_false_iff_not]
  split
  · rcases n16 n hn with h | h | h | h | h | h | h | h | h | h | h | h | h | h | h | h <;> subst h <;> simp at * <;> omega
  · assumption
theorem with_without (s : Int) (n : Nat) (hn : n < 16) : withN (withoutN s n) n = withN s n := by
  have h1 := has_without s n hn
  unfold hasN at h1
  rw [decide_eq_false_iff_not] at h1
  unfold withN
  rw [if_neg h1]
  unfold withoutN
  split <;> omega
theorem without_with (s : Int) (n : Nat) (hn : n < 16) : withoutN (withN s n) n = withoutN s n := by
  have h1 := has_with s n hn
  unfold hasN at h1
  rw [decide_eq_true_eq] at h1
  unfold withoutN
  rw [if_pos h1]
  unfold withN
  split <;> omega

/-- The number of set bits among the lowest k. -/
def popN : Nat → Nat → Nat
  | 0, _ => 0
  | k + 1, m => m % 2 + popN k (m / 2)
theorem popN_le (k m : Nat) : popN k m ≤ k := by
  induction k generalizing m with
  | zero => exact Nat.le_refl _
  | succ k ih => have := ih (m / 2); simp only [popN]; omega
theorem popN_add (k n m : Nat) (hn : n < k) (h : m / 2 ^ n % 2 = 0) : popN k (m + 2 ^ n) = popN k m + 1 := by
  induction k generalizing n m with
  | zero => omega
  | succ k ih =>
    rcases n with _ | n
    · simp only [popN] at *
      simp at h
      have e1 : (m + 2 ^ 0) % 2 = 1 := by simp; omega
      have e2 : (m + 2 ^ 0) / 2 = m / 2 := by simp; omega
      rw [e1, e2]; omega
    · have e1 : (m + 2 ^ (n + 1)) % 2 = m % 2 := by rw [Nat.pow_succ]; omega
      have e2 : (m + 2 ^ (n + 1)) / 2 = m / 2 + 2 ^ n := by rw [Nat.pow_succ]; omega
      have h' : m / 2 / 2 ^ n % 2 = 0 := by rw [Nat.div_div_eq_div_mul, Nat.mul_comm, ← Nat.pow_succ]; exact h
      simp only [popN]
      rw [e1, e2, ih n _ (by omega) h']; omega
theorem pop_split (m : Nat) : popN 16 m = popN 8 (m % 256) + popN 8 (m / 256) := by
  simp only [popN]; omega

/-- The lowest sixteen bits. -/
def lowN (s : Int) : Nat := (s % 65536).toNat
theorem lowN_lt (s : Int) : lowN s < 65536 := by unfold lowN; omega
theorem lowN_int (s : Int) : ((lowN s : Nat) : Int) = s % 65536 := by unfold lowN; omega
theorem lowN_nat (m : Nat) (h : m < 65536) : lowN (m : Int) = m := by unfold lowN; omega
theorem has_low (s : Int) (n : Nat) (hn : n < 16) : hasN s n = decide (lowN s / 2 ^ n % 2 = 1) := by
  unfold hasN lowN
  rw [decide_eq_decide]
  rcases n16 n hn with h | h | h | h | h | h | h | h | h | h | h | h | h | h | h | h <;> subst h <;> simp at * <;> omega
def countN (s : Int) : Nat := popN 16 (lowN s)
theorem count_step (s : Int) (n : Nat) (hn : n < 16) : countN (withN s n) = countN (withoutN s n) + 1 := by
  have h1 := has_without s n hn
  rw [has_low _ n hn, decide_eq_false_iff_not] at h1
  have e : withN s n = withoutN s n + 2 ^ n := by
    unfold withN withoutN; split <;> omega
  unfold countN
  rw [e]
  have h3 : lowN (withoutN s n + 2 ^ n) = lowN (withoutN s n) + 2 ^ n := by
    generalize withoutN s n = t at *
    unfold lowN at *
    rcases n16 n hn with h | h | h | h | h | h | h | h | h | h | h | h | h | h | h | h <;> subst h <;> simp at * <;> omega
  rw [h3, popN_add 16 n _ hn (by omega)]

/-- The nodes from 16 - k on in m. -/
def nodesN (m : Nat) : Nat → List Nat
  | 0 => []
  | k + 1 => if m / 2 ^ (15 - k) % 2 = 1 then (15 - k) :: nodesN m k else nodesN m k
/-- A node's letter. -/
def letF (n : Nat) : UInt8 := UInt8.ofNat (97 + n)
theorem letF_nat (n : Nat) (h : n < 16) : (letF n).toNat = 97 + n := by unfold letF; simp; omega
def lettersN (m k : Nat) : List UInt8 := (nodesN m k).map letF
def textL (m : Nat) : List UInt8 := if nodesN m 16 = [] then [46] else lettersN m 16
theorem nodes_len (m k : Nat) : (nodesN m k).length ≤ k := by
  induction k with
  | zero => exact Nat.le_refl _
  | succ k ih => simp only [nodesN]; split <;> (try simp only [List.length_cons]) <;> omega
theorem nodes_mem (m k : Nat) (hk : k ≤ 16) : ∀ n ∈ nodesN m k, 16 - k ≤ n ∧ n < 16 ∧ m / 2 ^ n % 2 = 1 := by
  induction k with
  | zero => intro n h; simp [nodesN] at h
  | succ k ih =>
    intro n h
    simp only [nodesN] at h
    split at h
    · rw [List.mem_cons] at h
      rcases h with rfl | h
      · exact ⟨by omega, by omega, by assumption⟩
      · have := ih (by omega) n h; omega
    · have := ih (by omega) n h; omega
theorem nodes_step (m i : Nat) (h : i < 16) : nodesN m (16 - i) = if m / 2 ^ i % 2 = 1 then i :: nodesN m (16 - (i + 1)) else nodesN m (16 - (i + 1)) := by
  have e : 16 - i = (16 - (i + 1)) + 1 := by omega
  have e2 : 15 - (16 - (i + 1)) = i := by omega
  rw [e, nodesN, e2]

/-- Reads letters that rise: what is read on top of 'set', no letter below 'least'. -/
def parF : List UInt8 → Nat → Nat → Option Nat
  | [], set, _ => some set
  | c :: l, set, least => if c.toNat < least ∨ 112 < c.toNat then none else parF l (set + 2 ^ (c.toNat - 97)) (c.toNat + 1)
def parseF (l : List UInt8) : Int × Int :=
  if l = [46] then (0, 0) else if l = [] then (0, 3) else match parF l 0 97 with
    | some n => ((n : Int), 0)
    | none => (0, 3)

theorem bit_split (m i : Nat) : m % 2 ^ (i + 1) = m % 2 ^ i + m / 2 ^ i % 2 * 2 ^ i := by
  rw [Nat.pow_succ, Nat.mod_mul]; rw [Nat.mul_comm]

/-- Reading back what was written. -/
theorem par_letters (m k least : Nat) (hk : k ≤ 16) (hm : m < 65536) (h97 : 97 ≤ least) (hl : least ≤ 97 + (16 - k)) : parF (lettersN m k) (m % 2 ^ (16 - k)) least = some m := by
  induction k generalizing least with
  | zero =>
    simp only [lettersN, nodesN, List.map_nil, parF]
    rw [Nat.mod_eq_of_lt (by simpa using hm)]
  | succ k ih =>
    have e : 16 - k = (16 - (k + 1)) + 1 := by omega
    have hs := bit_split m (16 - (k + 1))
    rw [← e] at hs
    have e15 : 15 - k = 16 - (k + 1) := by omega
    by_cases hb : m / 2 ^ (15 - k) % 2 = 1
    · have hn : nodesN m (k + 1) = (15 - k) :: nodesN m k := by simp only [nodesN]; rw [if_pos hb]
      have hc : (letF (15 - k)).toNat = 97 + (15 - k) := letF_nat _ (by omega)
      simp only [lettersN] at *
      rw [hn, List.map_cons, parF, hc, if_neg (by omega)]
      have e97 : 97 + (15 - k) - 97 = 16 - (k + 1) := by omega
      rw [e97]
      rw [e15] at hb
      rw [hb, Nat.one_mul] at hs
      rw [← hs]
      exact ih _ (by omega) (by omega) (by omega)
    · have hn : nodesN m (k + 1) = nodesN m k := by simp only [nodesN]; rw [if_neg hb]
      simp only [lettersN] at *
      rw [hn]
      rw [e15] at hb
      have hb0 : m / 2 ^ (16 - (k + 1)) % 2 = 0 := by omega
      rw [hb0, Nat.zero_mul, Nat.add_zero] at hs
      rw [← hs]
      exact ih _ (by omega) h97 (by omega)

theorem nodes_nil (m : Nat) (hm : m < 65536) (h : nodesN m 16 = []) : m = 0 := by
  have := par_letters m 16 97 (by omega) hm (by omega) (by omega)
  simp only [lettersN, h, List.map_nil, parF] at this
  simpa [Nat.mod_one] using this.symm
theorem letters_ne (m : Nat) : lettersN m 16 ≠ [46] := by
  intro h
  have hlen : (nodesN m 16).length = 1 := by
    have := congrArg List.length h
    simpa [lettersN] using this
  obtain ⟨a, ha⟩ := List.length_eq_one_iff.1 hlen
  have := nodes_mem m 16 (by omega) a (by rw [ha]; simp)
  simp only [lettersN, ha, List.map_cons, List.map_nil, List.cons.injEq, and_true] at h
  have h2 := congrArg UInt8.toNat h
  rw [letF_nat _ (by omega)] at h2
  have h3 : (46 : UInt8).toNat = 46 := rfl
  omega
theorem parse_text (m : Nat) (hm : m < 65536) : parseF (textL m) = ((m : Int), 0) := by
  unfold textL
  by_cases h : nodesN m 16 = []
  · rw [if_pos h]
    have := nodes_nil m hm h
    subst this
    rfl
  · rw [if_neg h]
    have h1 := letters_ne m
    have h2 : lettersN m 16 ≠ [] := by simpa [lettersN] using h
    unfold parseF
    rw [if_neg h1, if_neg h2]
    have := par_letters m 16 97 (by omega) hm (by omega) (by omega)
    simp only [Nat.sub_self, Nat.pow_zero, Nat.mod_one] at this
    rw [this]

theorem lt_pow (a n : Nat) (h : a < 2 ^ n) : a / 2 ^ n = 0 := Nat.div_eq_of_lt h
/-- What is read is written so. -/
theorem par_back (l : List UInt8) (set least b : Nat) (h97 : 97 ≤ least) (h113 : least ≤ 113) (hset : set < 2 ^ (least - 97)) (h : parF l set least = some b) :
    b < 65536 ∧ b % 2 ^ (least - 97) = set ∧ lettersN b (113 - least) = l := by
  induction l generalizing set least with
  | nil =>
    simp only [parF, Option.some.injEq] at h
    subst h
    have hp : 2 ^ (least - 97) ≤ 2 ^ 16 := Nat.pow_le_pow_right (by omega) (by omega)
    refine ⟨by omega, Nat.mod_eq_of_lt hset, ?_⟩
    unfold lettersN
    have : nodesN set (113 - least) = [] := by
      rw [List.eq_nil_iff_forall_not_mem]
      intro n hn
      have h1 := nodes_mem set (113 - least) (by omega) n hn
      have h2 : set < 2 ^ n := Nat.lt_of_lt_of_le hset (Nat.pow_le_pow_right (by omega) (by omega))
      rw [lt_pow _ _ h2] at h1
      omega
    rw [this]; rfl
  | cons c l ih =>
    simp only [parF] at h
    split at h
    · cases h
    · rename_i hc
      have hj : c.toNat - 97 < 16 := by omega
      have hp : 2 ^ (least - 97) ≤ 2 ^ (c.toNat - 97) := Nat.pow_le_pow_right (by omega) (by omega)
      have e1 : c.toNat + 1 - 97 = (c.toNat - 97) + 1 := by omega
      obtain ⟨h1, h2, h3⟩ := ih (set + 2 ^ (c.toNat - 97)) (c.toNat + 1) (by omega) (by omega) (by rw [e1, Nat.pow_succ]; omega) h
      refine ⟨h1, ?_, ?_⟩
      · have e2 : b % 2 ^ (least - 97) = (b % 2 ^ (c.toNat + 1 - 97)) % 2 ^ (least - 97) := (Nat.mod_mod_of_dvd _ (Nat.pow_dvd_pow 2 (by omega))).symm
        rw [e2, h2]
        have : 2 ^ (c.toNat - 97) % 2 ^ (least - 97) = 0 := Nat.mod_eq_zero_of_dvd (Nat.pow_dvd_pow 2 (by omega))
        rw [Nat.add_mod, this, Nat.add_zero, Nat.mod_mod, Nat.mod_eq_of_lt hset]
      · -- the nodes between are not in it
        rw [e1, bit_split] at h2
        have hb2 : b / 2 ^ (c.toNat - 97) % 2 < 2 := Nat.mod_lt _ (by omega)
        have hlt : b % 2 ^ (c.toNat - 97) < 2 ^ (c.toNat - 97) := Nat.mod_lt _ (Nat.two_pow_pos _)
        have hbit : b / 2 ^ (c.toNat - 97) % 2 = 1 := by
          rcases (by omega : b / 2 ^ (c.toNat - 97) % 2 = 0 ∨ b / 2 ^ (c.toNat - 97) % 2 = 1) with e | e
          · rw [e, Nat.zero_mul] at h2; omega
          · exact e
        rw [hbit, Nat.one_mul] at h2
        have hmod : b % 2 ^ (c.toNat - 97) = set := by omega
        have skip : ∀ d i, i + d = c.toNat - 97 → least - 97 ≤ i → nodesN b (16 - i) = (c.toNat - 97) :: nodesN b (113 - (c.toNat + 1)) := by
          intro d
          induction d with
          | zero =>
            intro i hi _
            obtain rfl : i = c.toNat - 97 := by omega
            rw [nodes_step b _ hj, if_pos hbit]
            congr 2; omega
          | succ d ihd =>
            intro i hi hi2
            rw [nodes_step b i (by omega)]
            have hz : b / 2 ^ i % 2 = 0 := by
              have hm : b % 2 ^ (i + 1) = set := by
                have e2 : b % 2 ^ (i + 1) = (b % 2 ^ (c.toNat - 97)) % 2 ^ (i + 1) := (Nat.mod_mod_of_dvd _ (Nat.pow_dvd_pow 2 (by omega))).symm
                rw [e2, hmod, Nat.mod_eq_of_lt (Nat.lt_of_lt_of_le hset (Nat.pow_le_pow_right (by omega) (by omega)))]
              rw [bit_split] at hm
              have hs2 : set < 2 ^ i := Nat.lt_of_lt_of_le hset (Nat.pow_le_pow_right (by omega) hi2)
              rcases (by omega : b / 2 ^ i % 2 = 0 ∨ b / 2 ^ i % 2 = 1) with e | e
              · exact e
              · rw [e, Nat.one_mul] at hm; omega
            rw [if_neg (by omega)]
            exact ihd (i + 1) (by omega) (by omega)
        have hsk := skip (c.toNat - 97 - (least - 97)) (least - 97) (by omega) (Nat.le_refl _)
        have e16 : 113 - least = 16 - (least - 97) := by omega
        unfold lettersN at h3 ⊢
        rw [e16, hsk, List.map_cons, h3]
        congr 1
        apply UInt8.toNat_inj.1
        rw [letF_nat _ hj]; omega
theorem parse_back (l : List UInt8) (b : Int) (h : parseF l = (b, 0)) : 0 ≤ b ∧ b ≤ 65535 ∧ textL b.toNat = l := by
  unfold parseF at h
  split at h
  · rename_i e
    simp only [Prod.mk.injEq, and_true] at h
    subst h; subst e
    exact ⟨by omega, by omega, rfl⟩
  · split at h
    · simp at h
    · rename_i h46 hnil
      cases hp : parF l 0 97 with
      | none => rw [hp] at h; simp at h
      | some n =>
        rw [hp] at h
        simp only [Prod.mk.injEq, and_true] at h
        subst h
        obtain ⟨h1, _, h3⟩ := par_back l 0 97 n (by omega) (by omega) (by simp) hp
        refine ⟨by omega, by omega, ?_⟩
        simp only [Int.toNat_natCast]
        unfold textL
        rw [if_neg (by intro e; apply hnil; rw [← h3]; simp [lettersN, e])]
        exact h3
theorem parse_code (l : List UInt8) : (parseF l).2 = 0 ∨ (parseF l).2 = 3 := by
  unfold parseF
  split
  · exact .inl rfl
  · split
    · exact .inr rfl
    · cases parF l 0 97 <;> simp

end NodesF
end Go.Proofs.Ytjpbglbbeepmnaa
