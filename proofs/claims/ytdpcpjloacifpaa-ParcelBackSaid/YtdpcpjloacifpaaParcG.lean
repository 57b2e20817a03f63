/- What the laws of package parcel ask of Bytes and Read: each undoes the other one. -/
import Derived.Test.YtdpcpjloacifpaaEpochF
import Derived.Test.YtdpcpjloacifpaaParcC
namespace Go.Proofs.Ytdpcpjloacifpaa
open Go.RowKit Go.Sort

/-- The parts of the nineteen bytes ahead of a parcel's body. -/
def pF (l : List UInt8) : Nat := PackF.valL (l.take 1)
def pG (l : List UInt8) : Nat := PackF.valL ((l.drop 17).take 1)
def pT (l : List UInt8) : Nat := PackF.valL ((l.drop 18).take 1)
theorem pval_lt1 (l : List UInt8) : PackF.valL (l.take 1) < 256 := by
  have h := PackF.valL_lt (l.take 1)
  have h1 : (l.take 1).length ≤ 1 := by rw [List.length_take]; omega
  have hp : 256 ^ (l.take 1).length ≤ 256 ^ 1 := Nat.pow_le_pow_right (by omega) h1
  omega

theorem rhead_of (l : List UInt8) (h : 19 ≤ l.length) (hs : l.length ≤ maxLen) :
    Gives Try.prog 19 #[.string (str l)] (.agg #[.int .i64 (pF l : Int), .int .u32 (boot (l.drop 1) : Int), .int .u32 (local' (l.drop 1) : Int), .int .u32 (boot (l.drop 9) : Int), .int .u32 (local' (l.drop 9) : Int), .int .i64 ((pG l / 16 : Nat) : Int), .int .i64 ((pG l % 16 : Nat) : Int), .int .i64 (pT l : Int), .string ⟨#[]⟩] : Value) := by
  have t1 := ptake_gives l 1 (by omega) (by omega) hs
  have t2 := read_ok (l.drop 1) (by rw [List.length_drop]; omega) (by rw [List.length_drop]; omega)
  rw [List.drop_drop, List.drop_drop] at t2
  have t3 := ptake_gives (l.drop 17) 1 (by omega) (by rw [List.length_drop]; omega) (by rw [List.length_drop]; omega)
  rw [List.drop_drop] at t3
  have t4 := ptake_gives (l.drop 18) 1 (by omega) (by rw [List.length_drop]; omega) (by rw [List.length_drop]; omega)
  exact rhead_any l (l.drop 1) (l.drop 17) (l.drop 18) ((l.drop 18).drop 1) (pF l) _ _ _ _ (pG l) _ _ (pT l) (Lib.hid t1) (Lib.hid t2) (Lib.hid t3) (Lib.hid t4) (pval_lt1 _) (pval_lt1 _) (pval_lt1 _) rfl rfl

theorem headP_of (l : List UInt8) (h : 19 ≤ l.length) : headP (pF l) (boot (l.drop 1)) (local' (l.drop 1)) (boot (l.drop 9)) (local' (l.drop 9)) (pG l) (pT l) = l.take 19 := by
  have hp := pairL_take (l.drop 1) (by rw [List.length_drop]; omega)
  rw [List.drop_drop] at hp
  have hp' : pairL (boot (l.drop 1)) (local' (l.drop 1)) (boot (l.drop 9)) (local' (l.drop 9)) = (l.drop 1).take 16 := hp
  have e1 := numL_of (l.take 1)
  rw [show (l.take 1).length = 1 by rw [List.length_take]; omega] at e1
  have e2 := numL_of ((l.drop 17).take 1)
  rw [show ((l.drop 17).take 1).length = 1 by rw [List.length_take, List.length_drop]; omega] at e2
  have e3 := numL_of ((l.drop 18).take 1)
  rw [show ((l.drop 18).take 1).length = 1 by rw [List.length_take, List.length_drop]; omega] at e3
  unfold headP pF pG pT
  rw [hp', e1, e2, e3]
  have a1 : l.take 1 ++ (l.drop 1).take 16 = l.take 17 := (List.take_add (l := l) (i := 1) (j := 16)).symm
  have a2 : l.take 17 ++ (l.drop 17).take 1 = l.take 18 := (List.take_add (l := l) (i := 17) (j := 1)).symm
  have a3 : l.take 18 ++ (l.drop 18).take 1 = l.take 19 := (List.take_add (l := l) (i := 18) (j := 1)).symm
  rw [a1, a2, a3]

/-- Of what is written, its parts. -/
theorem pparts_of {f a b c d g t : Nat} (m : List UInt8) (hf : f < 256) (ha : a < 4294967296) (hb : b < 4294967296) (hc : c < 4294967296) (hd : d < 4294967296) (hg : g < 256) (ht : t < 256) :
    pF (parcL f a b c d g t m) = f ∧ boot ((parcL f a b c d g t m).drop 1) = a ∧ local' ((parcL f a b c d g t m).drop 1) = b ∧ boot ((parcL f a b c d g t m).drop 9) = c ∧ local' ((parcL f a b c d g t m).drop 9) = d ∧
      pG (parcL f a b c d g t m) = g ∧ pT (parcL f a b c d g t m) = t ∧ (parcL f a b c d g t m).drop 19 = blobL m := by
  have l1 := PackF.numL_length f 1
  have l2 := PackF.numL_length g 1
  have l3 := PackF.numL_length t 1
  have l4 := putL_length a b
  have l5 := putL_length c d
  have e : parcL f a b c d g t m = PackF.numL f 1 ++ (putL a b ++ (putL c d ++ (PackF.numL g 1 ++ (PackF.numL t 1 ++ blobL m)))) := by unfold parcL headP pairL; simp
  have d1 : (parcL f a b c d g t m).drop 1 = putL a b ++ (putL c d ++ (PackF.numL g 1 ++ (PackF.numL t 1 ++ blobL m))) := by
    rw [e, List.drop_append_of_le_length (by omega), List.drop_of_length_le (by omega)]; rfl
  have d9 : (parcL f a b c d g t m).drop 9 = putL c d ++ (PackF.numL g 1 ++ (PackF.numL t 1 ++ blobL m)) := by
    have : (parcL f a b c d g t m).drop 9 = ((parcL f a b c d g t m).drop 1).drop 8 := by rw [List.drop_drop]
    rw [this, d1, drop_put]
  have d17 : (parcL f a b c d g t m).drop 17 = PackF.numL g 1 ++ (PackF.numL t 1 ++ blobL m) := by
    have : (parcL f a b c d g t m).drop 17 = ((parcL f a b c d g t m).drop 9).drop 8 := by rw [List.drop_drop]
    rw [this, d9, drop_put]
  have d18 : (parcL f a b c d g t m).drop 18 = PackF.numL t 1 ++ blobL m := by
    have : (parcL f a b c d g t m).drop 18 = ((parcL f a b c d g t m).drop 17).drop 1 := by rw [List.drop_drop]
    rw [this, d17, List.drop_append_of_le_length (by omega), List.drop_of_length_le (by omega)]; rfl
  have d19 : (parcL f a b c d g t m).drop 19 = blobL m := by
    have : (parcL f a b c d g t m).drop 19 = ((parcL f a b c d g t m).drop 18).drop 1 := by rw [List.drop_drop]
    rw [this, d18, List.drop_append_of_le_length (by omega), List.drop_of_length_le (by omega)]; rfl
  refine ⟨?_, ?_, ?_, ?_, ?_, ?_, ?_, d19⟩
  · unfold pF
    rw [e, List.take_append_of_le_length (by omega), List.take_of_length_le (by omega), PackF.valL_numL, Nat.mod_eq_of_lt (by omega)]
  · rw [d1, boot_put _ _ _ ha]
  · rw [d1, local_put _ _ _ hb]
  · rw [d9, boot_put _ _ _ hc]
  · rw [d9, local_put _ _ _ hd]
  · unfold pG
    rw [d17, List.take_append_of_le_length (by omega), List.take_of_length_le (by omega), PackF.valL_numL, Nat.mod_eq_of_lt (by omega)]
  · unfold pT
    rw [d18, List.take_append_of_le_length (by omega), List.take_of_length_le (by omega), PackF.valL_numL, Nat.mod_eq_of_lt (by omega)]

/-- Unblob of what follows nineteen bytes. -/
theorem unblob_gives (c : UInt8) (r : List UInt8) (hs : r.length < maxLen) :
    Gives Try.prog 18 #[.string (str (c :: r))] (unblobV (c :: r)) := by
  intro w
  have h := unblob_any (str (c :: r)) w (by rw [str_size]; exact hs)
  rw [str_list] at h
  exact h.mono fun _ _ ⟨h1, n, h2⟩ => ⟨h1, h2 ▸ below_drewN (Below.refl _ _) n⟩
theorem unblobV_yes (c : UInt8) (r : List UInt8) (h : ¬ r.length < c.toNat) : unblobV (c :: r) = .tuple #[.string (str (r.take c.toNat)), .string (str (r.drop c.toNat)), .int .i64 0] := by
  simp only [unblobV, PackF.unblobF]; rw [if_neg h]

/-- What is read: the body is as long as is said, nothing follows, and it is right. -/
theorem pread_cases (l : List UInt8) (hs : l.length ≤ maxLen) :
    (l.length < 20 ∧ Gives Try.prog 7 #[.string (str l)] (.tuple #[(.agg #[.int .i64 0, .int .u32 0, .int .u32 0, .int .u32 0, .int .u32 0, .int .i64 0, .int .i64 0, .int .i64 0, .string ⟨#[]⟩] : Value), .int .i64 2])) ∨
    ∃ (c : UInt8) (r : List UInt8), 20 ≤ l.length ∧ l.drop 19 = c :: r ∧
      ((r.length < c.toNat ∧ Gives Try.prog 7 #[.string (str l)] (.tuple #[(.agg #[.int .i64 0, .int .u32 0, .int .u32 0, .int .u32 0, .int .u32 0, .int .i64 0, .int .i64 0, .int .i64 0, .string ⟨#[]⟩] : Value), .int .i64 2])) ∨
       (¬ r.length < c.toNat ∧ ¬ (r.length = c.toNat ∧ rightP (pF l : Int) ((pG l / 16 : Nat) : Int) ((pG l % 16 : Nat) : Int) (pT l : Int) r.length = true) ∧
          Gives Try.prog 7 #[.string (str l)] (.tuple #[(.agg #[.int .i64 0, .int .u32 0, .int .u32 0, .int .u32 0, .int .u32 0, .int .i64 0, .int .i64 0, .int .i64 0, .string ⟨#[]⟩] : Value), .int .i64 3])) ∨
       (r.length = c.toNat ∧ rightP (pF l : Int) ((pG l / 16 : Nat) : Int) ((pG l % 16 : Nat) : Int) (pT l : Int) r.length = true ∧
          Gives Try.prog 7 #[.string (str l)] (.tuple #[(.agg #[.int .i64 (pF l : Int), .int .u32 (boot (l.drop 1) : Int), .int .u32 (local' (l.drop 1) : Int), .int .u32 (boot (l.drop 9) : Int), .int .u32 (local' (l.drop 9) : Int), .int .i64 ((pG l / 16 : Nat) : Int), .int .i64 ((pG l % 16 : Nat) : Int), .int .i64 (pT l : Int), .string (str r)] : Value), .int .i64 0]))) := by
  have hz := str_size l
  by_cases h20 : l.length < 20
  · exact .inl ⟨h20, pread_less (str l) (by omega)⟩
  · right
    obtain ⟨c, r, hcr⟩ : ∃ c r, l.drop 19 = c :: r := by
      rcases hd : l.drop 19 with _ | ⟨c, r⟩
      · have := congrArg List.length hd
        rw [List.length_drop] at this
        simp at this; omega
      · exact ⟨c, r, rfl⟩
    have hlen : r.length + 20 = l.length := by
      have := congrArg List.length hcr
      rw [List.length_drop, List.length_cons] at this; omega
    refine ⟨c, r, by omega, hcr, ?_⟩
    have hu : (str l).extract 19 (str l).size = str (c :: r) := by rw [str_drop, str_list, hcr]
    have UB := unblob_gives c r (by omega)
    have RH := rhead_of l (by omega) hs
    by_cases hsh : r.length < c.toNat
    · left
      rw [unblobV_short c r hsh] at UB
      exact ⟨hsh, pread_short (str l) _ (by omega) hu (Lib.hid UB)⟩
    · right
      rw [unblobV_yes c r hsh] at UB
      by_cases hm : r.length = c.toNat
      · have e1 : r.take c.toNat = r := List.take_of_length_le (by omega)
        have e2 : r.drop c.toNat = [] := List.drop_of_length_le (by omega)
        rw [e1, e2] at UB
        have hy : (!(str []).toList.isEmpty) = false := by rw [Lib.toList_data, str_list]; rfl
        have RT := pright_any (pF l : Int) (boot (l.drop 1) : Int) (local' (l.drop 1) : Int) (boot (l.drop 9) : Int) (local' (l.drop 9) : Int) ((pG l / 16 : Nat) : Int) ((pG l % 16 : Nat) : Int) (pT l : Int) (str r) (by rw [str_size]; omega)
        rw [str_size] at RT
        cases hr : rightP (pF l : Int) ((pG l / 16 : Nat) : Int) ((pG l % 16 : Nat) : Int) (pT l : Int) r.length with
        | true =>
          rw [hr] at RT
          exact .inr ⟨hm, rfl, pread_good (str l) _ (by omega) hu _ _ _ _ _ _ _ _ _ _ (Lib.hid UB) (Lib.hid RH) hy (Lib.hid RT)⟩
        | false =>
          rw [hr] at RT
          exact .inl ⟨hsh, fun h => Bool.noConfusion h.2, pread_wrong (str l) _ (by omega) hu _ _ _ _ _ _ _ _ _ _ (Lib.hid UB) (Lib.hid RH) hy (Lib.hid RT)⟩
      · have hy : (!(str (r.drop c.toNat)).toList.isEmpty) = true := by
          rw [Lib.toList_data, str_list]
          have : r.drop c.toNat ≠ [] := fun h => by
            have := congrArg List.length h
            rw [List.length_drop] at this; simp at this; omega
          simpa using this
        exact .inl ⟨hsh, fun h => hm h.1, pread_more (str l) _ (by omega) hu _ _ _ _ _ _ _ _ _ _ (Lib.hid UB) (Lib.hid RH) hy⟩

/-- Whatever is read: it isn't read, or it is written as it came. -/
theorem pback_read (s : ByteArray) (hs : s.size ≤ maxLen) : ∃ (f a b c d q r t : Nat) (x : ByteArray) (er : Int), Gives Try.prog 7 #[.string s] (.tuple #[(.agg #[.int .i64 (f : Int), .int .u32 (a : Int), .int .u32 (b : Int), .int .u32 (c : Int), .int .u32 (d : Int), .int .i64 (q : Int), .int .i64 (r : Int), .int .i64 (t : Int), .string x] : Value), .int .i64 er]) ∧
    (er ≠ 0 ∨ (er = 0 ∧ Gives Try.prog 6 #[(.agg #[.int .i64 (f : Int), .int .u32 (a : Int), .int .u32 (b : Int), .int .u32 (c : Int), .int .u32 (d : Int), .int .i64 (q : Int), .int .i64 (r : Int), .int .i64 (t : Int), .string x] : Value)] (.tuple #[.string s, .int .i64 0]))) := by
  have hz := size_list s
  have hc := pread_cases s.data.toList (by rw [hz]; exact hs)
  rw [str_of] at hc
  rcases hc with ⟨_, h1⟩ | ⟨c, r, h20, hcr, ⟨_, h1⟩ | ⟨_, _, h1⟩ | ⟨hm, hr, h1⟩⟩
  · exact ⟨0, 0, 0, 0, 0, 0, 0, 0, _, 2, h1, .inl (by omega)⟩
  · exact ⟨0, 0, 0, 0, 0, 0, 0, 0, _, 2, h1, .inl (by omega)⟩
  · exact ⟨0, 0, 0, 0, 0, 0, 0, 0, _, 3, h1, .inl (by omega)⟩
  · have h2 := pbytes_ok (pF s.data.toList) (boot (s.data.toList.drop 1)) (local' (s.data.toList.drop 1)) (boot (s.data.toList.drop 9)) (local' (s.data.toList.drop 9)) (pG s.data.toList / 16) (pG s.data.toList % 16) (pT s.data.toList) (str r)
      (by rw [str_size]; exact hr) (boot_lt _) (local_lt _) (boot_lt _) (local_lt _)
    have eg : 16 * (pG s.data.toList / 16) + pG s.data.toList % 16 = pG s.data.toList := by omega
    have eb : blobL r = c :: r := by
      unfold blobL
      rw [hm]; congr 1
      exact UInt8.ofNat_toNat
    have e : parcL (pF s.data.toList) (boot (s.data.toList.drop 1)) (local' (s.data.toList.drop 1)) (boot (s.data.toList.drop 9)) (local' (s.data.toList.drop 9)) (pG s.data.toList) (pT s.data.toList) r = s.data.toList := by
      unfold parcL
      rw [headP_of _ (by omega), eb, ← hcr, List.take_append_drop]
    rw [str_list, eg, e, str_of] at h2
    exact ⟨_, _, _, _, _, _, _, _, _, 0, h1, .inr ⟨rfl, h2⟩⟩

/-- What is written is read. -/
theorem pback_write (f a b c d s e t : Nat) (x : ByteArray) (h : rightP (f : Int) (s : Int) (e : Int) (t : Int) x.size = true) (ha : a < 4294967296) (hb : b < 4294967296) (hc : c < 4294967296) (hd : d < 4294967296) :
    Gives Try.prog 7 #[.string (str (parcL f a b c d (16 * s + e) t x.data.toList))] (.tuple #[(.agg #[.int .i64 (f : Int), .int .u32 (a : Int), .int .u32 (b : Int), .int .u32 (c : Int), .int .u32 (d : Int), .int .i64 (s : Int), .int .i64 (e : Int), .int .i64 (t : Int), .string x] : Value), .int .i64 0]) := by
  obtain ⟨hf, hs, he, ht, hx⟩ := rightP_in h
  have hz := size_list x
  obtain ⟨e1, e2, e3, e4, e5, e6, e7, e8⟩ := pparts_of (f := f) (a := a) (b := b) (c := c) (d := d) (g := 16 * s + e) (t := t) x.data.toList (by omega) ha hb hc hd (by omega) (by omega)
  have g1 : (16 * s + e) / 16 = s := by omega
  have g2 : (16 * s + e) % 16 = e := by omega
  have ec : (UInt8.ofNat x.data.toList.length).toNat = x.data.toList.length := by rw [hz]; simp; omega
  have hlen := parcL_length f a b c d (16 * s + e) t x.data.toList
  rcases pread_cases (parcL f a b c d (16 * s + e) t x.data.toList) (by unfold maxLen; omega) with ⟨h20, _⟩ | ⟨c0, r, h20, hcr, hh⟩
  · omega
  · rw [e8] at hcr
    unfold blobL at hcr
    obtain ⟨rfl, rfl⟩ := List.cons.inj hcr
    rw [e1, e6, e7, g1, g2] at hh
    rcases hh with ⟨h1, _⟩ | ⟨_, h1, _⟩ | ⟨_, _, h1⟩
    · rw [ec] at h1; omega
    · exact absurd ⟨ec.symm, by rw [hz]; exact h⟩ h1
    · rw [e2, e3, e4, e5, str_of] at h1
      exact h1
end Go.Proofs.Ytdpcpjloacifpaa
