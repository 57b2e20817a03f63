/- Plain functions of package costs: links stay sound. No program is named here. -/
import Derived.Test.YtnbbepelagdenaaDoorCosG
namespace Go.Proofs.YtnbbepelagdenaaDoor
namespace CosF
open NodesF

theorem has_bit (s : Int) (j : Nat) (hj : j < 16) : hasN s j = (lowN s).testBit j := by
  rw [has_low s j hj, Nat.testBit_eq_decide_div_mod_eq]
theorem low_room (m n : Nat) (hm : m < 65536) (hn : n < 16) (h : m / 2 ^ n % 2 = 0) : m + 2 ^ n < 65536 := by
  rcases n16 n hn with h1 | h1 | h1 | h1 | h1 | h1 | h1 | h1 | h1 | h1 | h1 | h1 | h1 | h1 | h1 | h1 <;> subst h1 <;> simp at * <;> omega
theorem low_with (s : Int) (n : Nat) (hn : n < 16) : lowN (withN s n) = lowN s ||| 2 ^ n := by
  have hl := has_low s n hn
  have hlt := lowN_lt s
  have hint := lowN_int s
  have hpow : ((2 ^ n : Nat) : Int) = (2 : Int) ^ n := by simp
  unfold withN
  by_cases hb : s / 2 ^ n % 2 = 1
  · rw [if_pos hb]
    have h1 : lowN s / 2 ^ n % 2 = 1 := by
      unfold hasN at hl
      rw [decide_eq_true hb] at hl
      exact of_decide_eq_true hl.symm
    apply Nat.eq_of_testBit_eq
    intro i
    rw [Nat.testBit_or, Nat.testBit_two_pow]
    by_cases hi : n = i
    · subst hi
      rw [Nat.testBit_eq_decide_div_mod_eq, decide_eq_true h1]; simp
    · simp [hi]
  · rw [if_neg hb]
    have h0 : lowN s / 2 ^ n % 2 = 0 := by
      unfold hasN at hl
      rw [decide_eq_false hb] at hl
      have := of_decide_eq_false hl.symm
      omega
    have hr := low_room _ n hlt hn h0
    rw [or_pow _ n h0]
    show ((s + 2 ^ n) % 65536).toNat = _
    rw [← hpow]
    have h65 : 2 ^ n ≤ 65536 := by omega
    have e : lowN s = (s % 65536).toNat := rfl
    generalize 2 ^ n = p at *
    omega
theorem low_without (s : Int) (n : Nat) (hn : n < 16) : lowN (withoutN s n) ||| 2 ^ n = lowN s ||| 2 ^ n ∧ (lowN (withoutN s n)).testBit n = false := by
  have h1 := low_with (withoutN s n) n hn
  rw [with_without s n hn, low_with s n hn] at h1
  have h2 := has_without s n hn
  rw [has_bit _ n hn] at h2
  exact ⟨h1.symm, h2⟩
theorem has_with_other (s : Int) (n j : Nat) (hn : n < 16) (hj : j < 16) (h : j ≠ n) : hasN (withN s n) j = hasN s j := by
  rw [has_bit _ j hj, has_bit s j hj, low_with s n hn, Nat.testBit_or, Nat.testBit_two_pow]
  simp [Ne.symm h]
theorem has_without_other (s : Int) (n j : Nat) (hn : n < 16) (hj : j < 16) (h : j ≠ n) : hasN (withoutN s n) j = hasN s j := by
  have h1 := congrArg (fun x => x.testBit j) (low_without s n hn).1
  simp only [Nat.testBit_or, Nat.testBit_two_pow] at h1
  rw [has_bit _ j hj, has_bit s j hj]
  simpa [Ne.symm h] using h1
theorem with_low (s : Int) (n : Nat) (hn : n < 16) (h0 : 0 ≤ s) (h1 : s ≤ 65535) : 0 ≤ withN s n ∧ withN s n ≤ 65535 := by
  unfold withN
  split
  · omega
  · rcases n16 n hn with h | h | h | h | h | h | h | h | h | h | h | h | h | h | h | h <;> subst h <;> simp at * <;> omega
theorem without_low (s : Int) (n : Nat) (hn : n < 16) (h0 : 0 ≤ s) (h1 : s ≤ 65535) : 0 ≤ withoutN s n ∧ withoutN s n ≤ 65535 := by
  unfold withoutN
  split
  · rcases n16 n hn with h | h | h | h | h | h | h | h | h | h | h | h | h | h | h | h <;> subst h <;> simp at * <;> omega
  · omega

theorem sound_iff (c : Pt) : soundF c = true ↔ (∀ j, j < 16 → goodN c j = true) ∧ 0 ≤ c.1 ∧ c.1 ≤ 65535 := by
  unfold soundF
  rw [Bool.and_eq_true, goods_all, Bool.and_eq_true, decide_eq_true_eq, decide_eq_true_eq]
  constructor
  · rintro ⟨h1, h2⟩
    exact ⟨fun j hj => h1 j (Nat.zero_le _) (by omega), h2⟩
  · rintro ⟨h1, h2⟩
    exact ⟨fun j _ hj => h1 j (by omega), h2⟩
theorem cost_set (L : List Nat) (n k j : Nat) (hL : L.length = 16) (hn : n < 16) : (L.set n k).getD j 0 = if j = n then k else L.getD j 0 := by
  simp only [List.getD_eq_getElem?_getD, List.getElem?_set]
  by_cases h : n = j
  · subst h; simp [hL, hn]
  · rw [if_neg h, if_neg (Ne.symm h)]
theorem sound_set (c : Pt) (hc : c.2.length = 16) (n : Int) (k : Nat) (h : soundF c = true) : soundF (setC c n k) = true := by
  cases ho : okB n k with
  | false => rw [set_no c n k ho]; exact h
  | true =>
    obtain ⟨m, rfl, hm, hk1, hk2⟩ := ok_in ho
    rw [set_ok c m k ho]
    obtain ⟨hg, h0, h1⟩ := (sound_iff c).1 h
    refine (sound_iff _).2 ⟨fun j hj => ?_, with_low _ _ hm h0 h1⟩
    by_cases e : j = m
    · subst e
      have hr : rightN k = true := by simp [rightN, hk1, hk2]
      simp only [goodN, costN, has_with _ _ hm, cost_set _ _ _ _ hc hm, if_true, hr]
      rfl
    · have := hg j hj
      simp only [goodN, costN, has_with_other _ _ _ hm hj e, cost_set _ _ _ _ hc hm, if_neg e] at this ⊢
      exact this
theorem sound_cut (c : Pt) (hc : c.2.length = 16) (n : Int) (h : soundF c = true) : soundF (cutC c n) = true := by
  cases ho : nodeB n with
  | false => rw [cut_no c n ho]; exact h
  | true =>
    obtain ⟨m, rfl, hm⟩ := node_in ho
    rw [cut_ok c m hm]
    obtain ⟨hg, h0, h1⟩ := (sound_iff c).1 h
    refine (sound_iff _).2 ⟨fun j hj => ?_, without_low _ _ hm h0 h1⟩
    by_cases e : j = m
    · subst e
      simp only [goodN, costN, has_without _ _ hm, cost_set _ _ _ _ hc hm, if_true]
      rfl
    · have := hg j hj
      simp only [goodN, costN, has_without_other _ _ _ hm hj e, cost_set _ _ _ _ hc hm, if_neg e] at this ⊢
      exact this
theorem sound_zero : soundF none16 = true := by decide +kernel
theorem of_cut (c : Pt) (n : Int) : ofC (cutC c n) n = 4294967295 := by
  cases ho : nodeB n with
  | false => exact of_no _ n ho
  | true =>
    obtain ⟨m, rfl, hm⟩ := node_in ho
    rw [cut_ok c m hm]
    exact of_far _ m (has_without _ _ hm)
theorem of_set (c : Pt) (hc : c.2.length = 16) (n : Int) (k : Nat) (h : okB n k = true) : ofC (setC c n k) n = k := by
  obtain ⟨m, rfl, hm, hk1, hk2⟩ := ok_in h
  rw [set_ok c m k h, of_ok _ m hm (has_with _ _ hm)]
  simp only [cost_set _ _ _ _ hc hm, if_true]
end CosF
end Go.Proofs.YtnbbepelagdenaaDoor
