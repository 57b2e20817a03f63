/- Plain functions of package pack, over lists of bytes, and their laws. No program is named here. -/
namespace Go.Proofs.Ytdpcpjloacifpaa
namespace PackF

def numL (n : Nat) : Nat → List UInt8
  | 0 => []
  | k + 1 => UInt8.ofNat (n / 256 ^ k) :: numL n k

theorem numL_length (n k : Nat) : (numL n k).length = k := by
  induction k with
  | zero => rfl
  | succ k ih => simp [numL, ih]

def valL (l : List UInt8) : Nat := l.foldl (fun a c => a * 256 + c.toNat) 0

theorem fold_add (l : List UInt8) (a : Nat) : l.foldl (fun a c => a * 256 + c.toNat) a = a * 256 ^ l.length + valL l := by
  induction l generalizing a with
  | nil => simp [valL]
  | cons c l ih =>
    simp only [List.foldl_cons, List.length_cons, valL]
    rw [ih, ih (0 * 256 + c.toNat)]
    rw [Nat.pow_succ, Nat.add_mul, Nat.mul_assoc, Nat.mul_comm 256 (256 ^ l.length), Nat.zero_mul, Nat.zero_add, Nat.add_assoc]

theorem valL_cons (c : UInt8) (l : List UInt8) : valL (c :: l) = c.toNat * 256 ^ l.length + valL l := by
  have h := fold_add l (0 * 256 + c.toNat)
  simp only [valL, List.foldl_cons] at h ⊢
  rw [h]; simp

theorem valL_lt (l : List UInt8) : valL l < 256 ^ l.length := by
  induction l with
  | nil => simp [valL]
  | cons c l ih =>
    rw [valL_cons, List.length_cons, Nat.pow_succ]
    have hc := c.toNat_lt
    have h : c.toNat * 256 ^ l.length ≤ 255 * 256 ^ l.length := Nat.mul_le_mul_right _ (by omega)
    omega

theorem valL_snoc (l : List UInt8) (c : UInt8) : valL (l ++ [c]) = valL l * 256 + c.toNat := by
  simp [valL, List.foldl_append]

theorem valL_numL (n k : Nat) : valL (numL n k) = n % 256 ^ k := by
  induction k with
  | zero => simp [numL, valL, Nat.mod_one]
  | succ k ih =>
    simp only [numL]
    rw [valL_cons, ih, numL_length]
    have h1 : (UInt8.ofNat (n / 256 ^ k)).toNat = n / 256 ^ k % 256 := by simp
    rw [h1, Nat.pow_succ, Nat.mod_mul, Nat.add_comm, Nat.mul_comm]

/-- Num, at any number of bytes. -/
def numK (k : Int) : Nat := (min (max k 0) 8).toNat

/-- Take. -/
def takeF (l : List UInt8) (k : Int) : Nat × List UInt8 × Int :=
  if k < 0 ∨ 8 < k then (0, [], 1) else if (l.length : Int) < k then (0, [], 2) else (valL (l.take k.toNat), l.drop k.toNat, 0)

/-- Unblob. -/
def unblobF (l : List UInt8) : List UInt8 × List UInt8 × Int :=
  match l with
  | [] => ([], [], 2)
  | c :: r => if r.length < c.toNat then ([], [], 2) else (r.take c.toNat, r.drop c.toNat, 0)

/-- Flip. -/
def flipF (l : List UInt8) (bit : Int) : List UInt8 :=
  if bit < 0 ∨ (l.length : Int) ≤ bit / 8 then l
  else l.set (bit / 8).toNat (l.getD (bit / 8).toNat 0 ^^^ (128 >>> UInt8.ofNat (bit % 8).toNat))

theorem take_num (n k : Nat) (r : List UInt8) (hk : k ≤ 8) : takeF (numL n k ++ r) k = (n % 256 ^ k, r, 0) := by
  unfold takeF
  rw [if_neg (by omega), if_neg (by rw [List.length_append, numL_length]; omega)]
  have h := numL_length n k
  have e1 : (numL n k ++ r).take k = numL n k := by rw [List.take_append_of_le_length (by omega), List.take_of_length_le (by omega)]
  have e2 : (numL n k ++ r).drop k = r := by rw [List.drop_append_of_le_length (by omega), List.drop_of_length_le (by omega)]; rfl
  simp only [Int.toNat_natCast]
  rw [e1, e2, valL_numL]

theorem unblob_blob (l r : List UInt8) (h : l.length ≤ 255) : unblobF (UInt8.ofNat l.length :: (l ++ r)) = (l, r, 0) := by
  have e : (UInt8.ofNat l.length).toNat = l.length := by simp; omega
  simp only [unblobF]
  rw [e, if_neg (by simp)]
  simp

theorem flip_length (l : List UInt8) (bit : Int) : (flipF l bit).length = l.length := by
  unfold flipF; split <;> simp

theorem shift_ne (k : Nat) (hk : k < 8) : (128 >>> UInt8.ofNat k : UInt8) ≠ 0 := by
  match k, hk with
  | 0, _ => decide
  | 1, _ => decide
  | 2, _ => decide
  | 3, _ => decide
  | 4, _ => decide
  | 5, _ => decide
  | 6, _ => decide
  | 7, _ => decide
theorem xor_ne (a b : UInt8) (h : b ≠ 0) : a ^^^ b ≠ a := by
  intro e
  apply h
  have : a ^^^ (a ^^^ b) = a ^^^ a := by rw [e]
  rw [← UInt8.xor_assoc, UInt8.xor_self, UInt8.zero_xor] at this
  exact this

theorem flip_ne (l : List UInt8) (bit : Int) (h0 : 0 ≤ bit) (h1 : bit < 8 * l.length) : flipF l bit ≠ l := by
  unfold flipF
  rw [if_neg (by omega)]
  intro e
  have hi : (bit / 8).toNat < l.length := by omega
  have e2 := congrArg (fun x => x.getD (bit / 8).toNat 0) e
  simp only [List.getD_eq_getElem?_getD, List.getElem?_set_self hi, Option.getD_some] at e2
  exact xor_ne _ _ (shift_ne _ (by omega)) e2

theorem flip_flip (l : List UInt8) (bit : Int) : flipF (flipF l bit) bit = l := by
  have hl := flip_length l bit
  by_cases h : bit < 0 ∨ (l.length : Int) ≤ bit / 8
  · have e : flipF l bit = l := by unfold flipF; rw [if_pos h]
    rw [e, e]
  · have hi : (bit / 8).toNat < l.length := by omega
    have e : flipF l bit = l.set (bit / 8).toNat (l.getD (bit / 8).toNat 0 ^^^ (128 >>> UInt8.ofNat (bit % 8).toNat)) := by unfold flipF; rw [if_neg h]
    have e' : flipF (flipF l bit) bit = (flipF l bit).set (bit / 8).toNat ((flipF l bit).getD (bit / 8).toNat 0 ^^^ (128 >>> UInt8.ofNat (bit % 8).toNat)) := by
      rw [flipF, if_neg (by rw [hl]; exact h)]
    rw [e', e]
    simp only [List.getD_eq_getElem?_getD, List.getElem?_set_self hi, Option.getD_some, List.set_set]
    rw [UInt8.xor_assoc, UInt8.xor_self, UInt8.xor_zero]
    rw [List.getElem?_eq_getElem hi, Option.getD_some, List.set_getElem_self]
end PackF
end Go.Proofs.Ytdpcpjloacifpaa
