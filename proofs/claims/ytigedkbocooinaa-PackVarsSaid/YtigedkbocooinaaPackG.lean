/- Plain functions of package pack, second part: Var, Unvar, Zig, Zag, and their laws. No program is named here. -/
namespace Go.Proofs.Ytigedkbocooinaa
namespace PackF

/-- Zig and Zag. -/
def zigF (n : Int) : Int := if 0 ≤ n then 2 * n else 2 * (-(n + 1)) + 1
def zagF (u : Int) : Int := if u % 2 = 1 then -(u / 2) - 1 else u / 2
theorem zag_zig (n : Int) : zagF (zigF n) = n := by unfold zagF zigF; split <;> split <;> omega
theorem zig_zag (u : Int) (h : 0 ≤ u) : zigF (zagF u) = u := by unfold zagF zigF; split <;> split <;> omega
theorem zig_range (n : Int) (h1 : -9223372036854775808 ≤ n) (h2 : n ≤ 9223372036854775807) : 0 ≤ zigF n ∧ zigF n ≤ 18446744073709551615 := by unfold zigF; split <;> omega
theorem zag_range (u : Int) (h1 : 0 ≤ u) (h2 : u ≤ 18446744073709551615) : -9223372036854775808 ≤ zagF u ∧ zagF u ≤ 9223372036854775807 := by unfold zagF; split <;> omega

/-- Var: so many rounds at most. -/
def varG : Nat → Nat → List UInt8
  | 0, n => [UInt8.ofNat n]
  | f + 1, n => if n < 128 then [UInt8.ofNat n] else UInt8.ofNat (n % 128 + 128) :: varG f (n / 128)
def varL (n : Nat) : List UInt8 := varG 9 n

/-- Unvar, at the place i, with the number so far. -/
def unvarG (i n : Nat) : List UInt8 → Nat × List UInt8 × Int
  | [] => (0, [], 2)
  | c :: r =>
    if i = 9 ∧ 1 < c.toNat then (0, [], 4)
    else if 128 ≤ c.toNat then unvarG (i + 1) (n + c.toNat % 128 * 2 ^ (7 * i)) r
    else if c.toNat = 0 ∧ 0 < i then (0, [], 3)
    else (n + c.toNat % 128 * 2 ^ (7 * i), r, 0)
def unvarF (l : List UInt8) : Nat × List UInt8 × Int := unvarG 0 0 l

theorem varG_length (f n : Nat) : (varG f n).length ≤ f + 1 := by
  induction f generalizing n with
  | zero => simp [varG]
  | succ f ih => unfold varG; split <;> simp; exact ih _

theorem pow_split (i : Nat) : 2 ^ (7 * (i + 1)) = 128 * 2 ^ (7 * i) := by
  rw [Nat.mul_add, Nat.pow_add, Nat.mul_comm]

theorem byte_of (n : Nat) (h : n < 256) : (UInt8.ofNat n).toNat = n := by simp; omega

theorem unvar_varG (f i a n : Nat) (r : List UInt8) (hf : i + f = 9) (hn : n < 2 ^ (64 - 7 * i)) (h0 : n ≠ 0 ∨ i = 0) :
    unvarG i a (varG f n ++ r) = (a + n * 2 ^ (7 * i), r, 0) := by
  induction f generalizing i a n with
  | zero =>
    obtain rfl : i = 9 := by omega
    have hn' : n < 2 := by simpa using hn
    have hn1 : n = 1 := by omega
    subst hn1
    simp [varG, unvarG]
  | succ f ih =>
    unfold varG
    by_cases h : n < 128
    · rw [if_pos h]
      simp only [List.cons_append, List.nil_append, unvarG]
      rw [byte_of n (by omega), if_neg (by omega), if_neg (by omega), if_neg (by omega), Nat.mod_eq_of_lt h]
    · rw [if_neg h]
      simp only [List.cons_append, unvarG]
      rw [byte_of _ (by omega), if_neg (by omega), if_pos (by omega)]
      have hp : 2 ^ (64 - 7 * i) = 128 * 2 ^ (64 - 7 * (i + 1)) := by
        have e : 64 - 7 * i = 7 + (64 - 7 * (i + 1)) := by omega
        rw [e, Nat.pow_add]
      rw [ih (i + 1) _ _ (by omega) (by rw [hp] at hn; omega) (by omega), pow_split]
      have e2 : (n % 128 + 128) % 128 = n % 128 := by omega
      rw [e2]
      have e3 : n / 128 * (128 * 2 ^ (7 * i)) = n / 128 * 128 * 2 ^ (7 * i) := by rw [Nat.mul_assoc]
      rw [e3, Nat.add_assoc, ← Nat.add_mul]
      have e4 : n % 128 + n / 128 * 128 = n := by omega
      rw [e4]

theorem unvar_var (n : Nat) (r : List UInt8) (h : n < 18446744073709551616) : unvarF (varL n ++ r) = (n, r, 0) := by
  have := unvar_varG 9 0 0 n r (by omega) (by simpa using h) (.inr rfl)
  simpa [unvarF, varL] using this

/-- What is read is written so. -/
theorem unvarG_back (f i a : Nat) (l : List UInt8) (hf : i + f = 9) (ho : (unvarG i a l).2.2 = 0) :
    ∃ n, (n ≠ 0 ∨ i = 0) ∧ (unvarG i a l).1 = a + n * 2 ^ (7 * i) ∧ varG f n ++ (unvarG i a l).2.1 = l := by
  induction f generalizing i a l with
  | zero =>
    obtain rfl : i = 9 := by omega
    match l with
    | [] => simp [unvarG] at ho
    | c :: r =>
      have hc := c.toNat_lt
      simp only [unvarG] at ho ⊢
      by_cases h1 : 1 < c.toNat
      · simp [h1] at ho
      · rw [if_neg (by omega), if_neg (by omega)] at ho ⊢
        by_cases h2 : c.toNat = 0
        · rw [if_pos ⟨h2, by omega⟩] at ho; simp at ho
        · rw [if_neg (fun h => h2 h.1)]
          refine ⟨c.toNat, .inl h2, by rw [Nat.mod_eq_of_lt (by omega)], ?_⟩
          simp [varG]
  | succ f ih =>
    match l with
    | [] => simp [unvarG] at ho
    | c :: r =>
      have hc := c.toNat_lt
      simp only [unvarG] at ho ⊢
      rw [if_neg (by omega)] at ho ⊢
      by_cases h1 : 128 ≤ c.toNat
      · rw [if_pos h1] at ho ⊢
        obtain ⟨n, hn, e1, e2⟩ := ih (i + 1) _ r (by omega) ho
        have hn' : n ≠ 0 := by omega
        refine ⟨c.toNat % 128 + 128 * n, .inl (by omega), ?_, ?_⟩
        · rw [e1, pow_split, Nat.add_mul, ← Nat.add_assoc, ← Nat.mul_assoc, Nat.mul_comm n 128]
        · unfold varG
          rw [if_neg (by omega)]
          have e3 : (c.toNat % 128 + 128 * n) / 128 = n := by omega
          have e4 : (c.toNat % 128 + 128 * n) % 128 + 128 = c.toNat := by omega
          rw [e3, e4, List.cons_append, e2]
          simp
      · rw [if_neg h1] at ho ⊢
        by_cases h2 : c.toNat = 0 ∧ 0 < i
        · rw [if_pos h2] at ho; simp at ho
        · rw [if_neg h2]
          refine ⟨c.toNat, by omega, by rw [Nat.mod_eq_of_lt (by omega)], ?_⟩
          unfold varG
          rw [if_pos (by omega)]
          simp

theorem var_unvar (l : List UInt8) (ho : (unvarF l).2.2 = 0) : varL (unvarF l).1 ++ (unvarF l).2.1 = l := by
  obtain ⟨n, _, e1, e2⟩ := unvarG_back 9 0 0 l (by omega) ho
  have e3 : (unvarG 0 0 l).1 = n := by rw [e1]; simp
  unfold unvarF varL
  rw [e3]; exact e2

theorem unvarG_lt (f i a : Nat) (l : List UInt8) (hf : i + f = 9) (ha : a < 2 ^ (7 * i)) : (unvarG i a l).1 < 18446744073709551616 := by
  induction f generalizing i a l with
  | zero =>
    obtain rfl : i = 9 := by omega
    match l with
    | [] => simp [unvarG]
    | c :: r =>
      simp only [unvarG]
      have e : (2 : Nat) ^ (7 * 9) = 9223372036854775808 := by decide
      rw [e] at ha ⊢
      by_cases h1 : 1 < c.toNat
      · simp [h1]
      · rw [if_neg (by omega), if_neg (by omega)]
        split
        · simp
        · simp only; omega
  | succ f ih =>
    match l with
    | [] => simp [unvarG]
    | c :: r =>
      have hs := pow_split i
      have hm : c.toNat % 128 * 2 ^ (7 * i) ≤ 127 * 2 ^ (7 * i) := Nat.mul_le_mul_right _ (by omega)
      simp only [unvarG]
      split
      · simp
      · split
        · exact ih _ _ _ (by omega) (by omega)
        · split
          · simp
          · have hp : (2 : Nat) ^ (7 * (i + 1)) ≤ 2 ^ (7 * 9) := Nat.pow_le_pow_right (by omega) (by omega)
            have e : (2 : Nat) ^ (7 * 9) = 9223372036854775808 := by decide
            simp only
            omega
theorem unvarF_lt (l : List UInt8) : (unvarF l).1 < 18446744073709551616 := unvarG_lt 9 0 0 l (by omega) (by simp)
theorem unvarG_length (l : List UInt8) (i a : Nat) : (unvarG i a l).2.1.length ≤ l.length := by
  induction l generalizing i a with
  | nil => simp [unvarG]
  | cons c r ih =>
    simp only [unvarG, List.length_cons]
    split
    · simp
    · split
      · exact Nat.le_succ_of_le (ih _ _)
      · split <;> simp
theorem unvarF_length (l : List UInt8) : (unvarF l).2.1.length ≤ l.length := unvarG_length l 0 0
end PackF
end Go.Proofs.Ytigedkbocooinaa
