/- What the laws of package hello ask of the contracts. -/
import Derived.Test.YtgmpfnhdcgcldaaHelloAw
import Derived.Test.YtgmpfnhdcgcldaaHelloK
import Derived.Test.YtgmpfnhdcgcldaaHelloS
namespace Go.Proofs.Ytgmpfnhdcgcldaa
open Go.RowKit Go.Sort

theorem numL_of (l : List UInt8) : PackF.numL (PackF.valL l) l.length = l := by
  induction l with
  | nil => rfl
  | cons c l ih =>
    rw [PackF.valL_cons, List.length_cons, PackF.numL]
    have hv := PackF.valL_lt l
    have hp : 0 < 256 ^ l.length := Nat.pow_pos (by omega)
    have e1 : (c.toNat * 256 ^ l.length + PackF.valL l) / 256 ^ l.length = c.toNat := by
      rw [Nat.mul_comm, Nat.mul_add_div hp, Nat.div_eq_of_lt hv, Nat.add_zero]
    rw [e1]
    have e2 : ∀ (k m n : Nat), m % 256 ^ k = n % 256 ^ k → PackF.numL m k = PackF.numL n k := by
      intro k
      induction k with
      | zero => intro _ _ _; rfl
      | succ k ih2 =>
        intro m n h
        rw [PackF.numL, PackF.numL]
        have hk : 0 < 256 ^ k := Nat.pow_pos (by omega)
        have a1 : m / 256 ^ k % 256 = n / 256 ^ k % 256 := by
          have := congrArg (· / 256 ^ k) h
          simp only [Nat.pow_succ] at this
          rwa [← Nat.mod_mul_right_div_self, ← Nat.mod_mul_right_div_self]
        have a2 : m % 256 ^ k = n % 256 ^ k := by
          have := congrArg (· % 256 ^ k) h
          simp only [Nat.pow_succ] at this
          rwa [Nat.mod_mul_right_mod, Nat.mod_mul_right_mod] at this
        rw [ih2 _ _ a2]
        congr 1
        apply UInt8.toNat_inj.1
        simpa using a1
    rw [e2 l.length _ (PackF.valL l) (by rw [Nat.mul_comm, Nat.mul_add_mod])]
    rw [ih]
    congr 1
    exact UInt8.ofNat_toNat

theorem putL_of (l : List UInt8) (h : l.length = 8) : putL (boot l) (local' l) = l := by
  unfold putL boot local'
  have e1 := numL_of (l.take 4)
  have e2 := numL_of ((l.drop 4).take 4)
  rw [show (l.take 4).length = 4 by rw [List.length_take]; omega] at e1
  rw [show ((l.drop 4).take 4).length = 4 by rw [List.length_take, List.length_drop]; omega] at e2
  rw [e1, e2, List.take_of_length_le (l := l.drop 4) (by rw [List.length_drop]; omega), List.take_append_drop]
theorem boot_take (l : List UInt8) (h : 8 ≤ l.length) : boot (l.take 8) = boot l ∧ local' (l.take 8) = local' l := by
  have e : l = l.take 8 ++ l.drop 8 := (List.take_append_drop 8 l).symm
  have hl : (l.take 8).length = 8 := by rw [List.length_take]; omega
  have hp := putL_of (l.take 8) hl
  constructor
  · have := boot_put (boot (l.take 8)) (local' (l.take 8)) (l.drop 8) (boot_lt _)
    rw [hp, ← e] at this; exact this.symm
  · have := local_put (boot (l.take 8)) (local' (l.take 8)) (l.drop 8) (local_lt _)
    rw [hp, ← e] at this; exact this.symm
theorem pairL_of (l : List UInt8) (h : l.length = 16) : pairL (boot l) (local' l) (boot (l.drop 8)) (local' (l.drop 8)) = l := by
  unfold pairL
  obtain ⟨e1, e2⟩ := boot_take l (by omega)
  rw [← e1, ← e2, putL_of _ (by rw [List.length_take]; omega), putL_of _ (by rw [List.length_drop]; omega), List.take_append_drop]

/-- What is read is written so. -/
theorem helloL_of {l : List UInt8} (h : rdOk l = true) : helloL (rdF l) (rdA l) (rdB l) (rdC l) (rdD l) = l := by
  obtain ⟨h1, h2, h3, h4, h5, _⟩ := rd_yes h
  rw [h1, h2, h3, h4, h5]
  unfold rdOk at h
  simp only [Bool.and_eq_true, decide_eq_true_eq] at h
  obtain ⟨hl, _, hd⟩ := h
  match l, hl, hd with
  | c :: l, hl, hd =>
    have hd' : l.drop 16 = [] := hd
    have hl16 : l.length = 16 := by
      have := List.drop_eq_nil_iff.1 hd'
      rw [List.length_cons] at hl; omega
    have hf : hfrom (c :: l) = c.toNat := by simp [hfrom, PackF.valL]
    have e : (c :: l).drop 9 = l.drop 8 := rfl
    have e1 : (c :: l).drop 1 = l := rfl
    rw [hf, e, e1]
    unfold helloL
    rw [pairL_of l hl16, UInt8.ofNat_toNat]
/-- What is written is read. -/
theorem rd_back {f a b c d : Nat} (hr : rightF (f : Int) (a : Int) (b : Int) = true) (ha : a < 4294967296) (hb : b < 4294967296) (hc : c < 4294967296) (hd : d < 4294967296) :
    rdF (helloL f a b c d) = f ∧ rdA (helloL f a b c d) = a ∧ rdB (helloL f a b c d) = b ∧ rdC (helloL f a b c d) = c ∧ rdD (helloL f a b c d) = d ∧ rdE (helloL f a b c d) = 0 := by
  have hf := (rightF_in hr).1
  have h1 : (helloL f a b c d).drop 1 = putL a b ++ (putL c d ++ []) := by rw [List.append_nil]; rfl
  have h9 : (helloL f a b c d).drop 9 = putL c d ++ [] := by
    have e : (helloL f a b c d).drop 9 = (pairL a b c d).drop 8 := rfl
    rw [e]; unfold pairL; rw [drop_put, List.append_nil]
  have h17 : (helloL f a b c d).drop 17 = [] := by
    have e : (helloL f a b c d).drop 17 = (pairL a b c d).drop 16 := rfl
    rw [e, List.drop_eq_nil_iff, pairL_length]; exact Nat.le_refl _
  have hfr : hfrom (helloL f a b c d) = f := by
    have : f % 256 = f := by omega
    simp [hfrom, helloL, PackF.valL, this]
  have hok : rdOk (helloL f a b c d) = true := rd_good (by rw [helloL_length]; exact Nat.le_refl _) (by rw [hfr, h1, boot_put _ _ _ ha, local_put _ _ _ hb]; exact hr) h17
  obtain ⟨e1, e2, e3, e4, e5, e6⟩ := rd_yes hok
  rw [e1, e2, e3, e4, e5, e6, hfr, h1, h9, boot_put _ _ _ ha, local_put _ _ _ hb, boot_put _ _ _ hc, local_put _ _ _ hd]
  exact ⟨rfl, rfl, rfl, rfl, rfl, rfl⟩
theorem rd_right {l : List UInt8} (h : rdOk l = true) : rightF (rdF l : Int) (rdA l : Int) (rdB l : Int) = true := by
  obtain ⟨h1, h2, h3, _⟩ := rd_yes h
  rw [h1, h2, h3]
  unfold rdOk at h
  simp only [Bool.and_eq_true] at h
  exact h.2.1
theorem rd_fits (l : List UInt8) : rdA l < 4294967296 ∧ rdB l < 4294967296 ∧ rdC l < 4294967296 ∧ rdD l < 4294967296 := by
  unfold rdA rdB rdC rdD
  refine ⟨?_, ?_, ?_, ?_⟩ <;> split <;> first | exact boot_lt _ | exact local_lt _ | decide
theorem rdE_no {l : List UInt8} (h : rdOk l = false) : (rdE l == 0) = false := by
  unfold rdE; rw [h, if_neg (by decide)]; split <;> rfl

/-- Bytes, and the document's own. -/
theorem bytes_both (f : Int) (a b c d : Nat) (ha : a < 4294967296) (hb : b < 4294967296) (hc : c < 4294967296) (hd : d < 4294967296) : ∃ (s : ByteArray) (e : Int),
    Gives Try.prog 7 #[(.agg #[.int .i64 f, .int .u32 (a : Int), .int .u32 (b : Int), .int .u32 (c : Int), .int .u32 (d : Int)] : Value)] (.tuple #[.string s, .int .i64 e]) ∧
    Gives Try.prog 8 #[(.agg #[.int .i64 f, .int .u32 (a : Int), .int .u32 (b : Int), .int .u32 (c : Int), .int .u32 (d : Int)] : Value)] (.tuple #[.string s, .int .i64 e]) := by
  cases h : rightF f (a : Int) (b : Int) with
  | false => exact ⟨_, _, hbytes_bad f a b c d h, rhbytes_bad f a b c d h⟩
  | true =>
    obtain ⟨n, rfl⟩ := Int.eq_ofNat_of_zero_le (rightF_in h).1.1
    exact ⟨_, _, hbytes_ok n a b c d h ha hb hc hd, rhbytes_ok n a b c d h ha hb hc hd⟩

/-- What Knows answers. -/
theorem knows_fits (c d m n : Int) : decide (knowsF c d m n < 0) = false ∧ decide (3 < knowsF c d m n) = false ∧ (knowsF c d m n == 0) = (c == 0 && d == 0) := by
  unfold knowsF
  cases h : (c == 0 && d == 0) with
  | true => rw [if_pos rfl]; decide
  | false =>
    rw [if_neg (by decide)]
    split
    · decide
    · split <;> decide
/-- Who answers knows whom it answers. -/
theorem answers_knows {f a b c d g x y z u : Int} (h : answersF f a b c d g x y z u = true) : rightF f a b = true ∧ (f != g) = true ∧ knowsF z u a b = 3 := by
  unfold answersF at h
  simp only [Bool.and_eq_true, Bool.not_eq_true', beq_iff_eq] at h
  obtain ⟨⟨⟨⟨h1, h2⟩, h3⟩, h4, h5⟩, _⟩ := h
  have hr := (rightF_in h1).2
  subst h4 h5
  refine ⟨h1, by unfold bne; rw [h3]; rfl, ?_⟩
  unfold knowsF
  rw [if_neg (by simpa using hr), if_pos (by simp)]
end Go.Proofs.Ytgmpfnhdcgcldaa
