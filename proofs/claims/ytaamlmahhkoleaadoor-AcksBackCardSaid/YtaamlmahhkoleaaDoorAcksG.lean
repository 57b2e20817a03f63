/- What the laws of package acks ask of Bytes and Read: each undoes the other one. -/
import Derived.Test.YtaamlmahhkoleaaDoorEpochF
import Derived.Test.YtaamlmahhkoleaaDoorAcksE
namespace Go.Proofs.YtaamlmahhkoleaaDoor
open Go.RowKit Go.Sort

/-- What is read is written so. -/
theorem ackL_of (l : List UInt8) (h : l.length = 20) : ackL (ackF l) (boot (l.drop 1)) (local' (l.drop 1)) (boot (l.drop 9)) (local' (l.drop 9)) (ackN l) (ackS l) = l := by
  have hp := pairL_take (l.drop 1) (by rw [List.length_drop]; omega)
  rw [List.drop_drop] at hp
  have hp' : pairL (boot (l.drop 1)) (local' (l.drop 1)) (boot (l.drop 9)) (local' (l.drop 9)) = (l.drop 1).take 16 := hp
  have e1 := numL_of (l.take 1)
  rw [show (l.take 1).length = 1 by rw [List.length_take]; omega] at e1
  have e2 := numL_of ((l.drop 17).take 2)
  rw [show ((l.drop 17).take 2).length = 2 by rw [List.length_take, List.length_drop]; omega] at e2
  have e3 := numL_of ((l.drop 19).take 1)
  rw [show ((l.drop 19).take 1).length = 1 by rw [List.length_take, List.length_drop]; omega] at e3
  unfold ackL ackF ackN ackS
  rw [hp', e1, e2, e3]
  have a1 : l.take 1 ++ (l.drop 1).take 16 = l.take 17 := (List.take_add (l := l) (i := 1) (j := 16)).symm
  have a2 : l.take 17 ++ (l.drop 17).take 2 = l.take 19 := (List.take_add (l := l) (i := 17) (j := 2)).symm
  have a3 : l.take 19 ++ (l.drop 19).take 1 = l.take 20 := (List.take_add (l := l) (i := 19) (j := 1)).symm
  rw [a1, a2, a3, List.take_of_length_le (by omega)]

/-- What is written is read. -/
theorem parts_of {f a b c d n s : Nat} (hf : f < 256) (ha : a < 4294967296) (hb : b < 4294967296) (hc : c < 4294967296) (hd : d < 4294967296) (hn : n < 65536) (hs : s < 256) :
    ackF (ackL f a b c d n s) = f ∧ boot ((ackL f a b c d n s).drop 1) = a ∧ local' ((ackL f a b c d n s).drop 1) = b ∧ boot ((ackL f a b c d n s).drop 9) = c ∧ local' ((ackL f a b c d n s).drop 9) = d ∧
      ackN (ackL f a b c d n s) = n ∧ ackS (ackL f a b c d n s) = s := by
  have l1 := PackF.numL_length f 1
  have l2 := PackF.numL_length n 2
  have l3 := PackF.numL_length s 1
  have l4 := putL_length a b
  have l5 := putL_length c d
  have e : ackL f a b c d n s = PackF.numL f 1 ++ (putL a b ++ (putL c d ++ (PackF.numL n 2 ++ PackF.numL s 1))) := by unfold ackL pairL; simp
  have d1 : (ackL f a b c d n s).drop 1 = putL a b ++ (putL c d ++ (PackF.numL n 2 ++ PackF.numL s 1)) := by
    rw [e, List.drop_append_of_le_length (by omega), List.drop_of_length_le (by omega)]; rfl
  have d9 : (ackL f a b c d n s).drop 9 = putL c d ++ (PackF.numL n 2 ++ PackF.numL s 1) := by
    have : (ackL f a b c d n s).drop 9 = ((ackL f a b c d n s).drop 1).drop 8 := by rw [List.drop_drop]
    rw [this, d1, drop_put]
  have d17 : (ackL f a b c d n s).drop 17 = PackF.numL n 2 ++ PackF.numL s 1 := by
    have : (ackL f a b c d n s).drop 17 = ((ackL f a b c d n s).drop 9).drop 8 := by rw [List.drop_drop]
    rw [this, d9, drop_put]
  have d19 : (ackL f a b c d n s).drop 19 = PackF.numL s 1 := by
    have : (ackL f a b c d n s).drop 19 = ((ackL f a b c d n s).drop 17).drop 2 := by rw [List.drop_drop]
    rw [this, d17, List.drop_append_of_le_length (by omega), List.drop_of_length_le (by omega)]; rfl
  refine ⟨?_, ?_, ?_, ?_, ?_, ?_, ?_⟩
  · unfold ackF
    rw [e, List.take_append_of_le_length (by omega), List.take_of_length_le (by omega), PackF.valL_numL, Nat.mod_eq_of_lt (by omega)]
  · rw [d1, boot_put _ _ _ ha]
  · rw [d1, local_put _ _ _ hb]
  · rw [d9, boot_put _ _ _ hc]
  · rw [d9, local_put _ _ _ hd]
  · unfold ackN
    rw [d17, List.take_append_of_le_length (by omega), List.take_of_length_le (by omega), PackF.valL_numL, Nat.mod_eq_of_lt (by omega)]
  · unfold ackS
    rw [d19, List.take_of_length_le (by omega), PackF.valL_numL, Nat.mod_eq_of_lt (by omega)]

/-- Whatever is read: it isn't read, or it is written as it came. -/
theorem back_read (s : ByteArray) (hs : s.size ≤ maxLen) : ∃ (f a b c d n m : Nat) (x : Int), Gives Tryd.prog 6 #[.string s] (.tuple #[(.agg #[.int .i64 (f : Int), .int .u32 (a : Int), .int .u32 (b : Int), .int .u32 (c : Int), .int .u32 (d : Int), .int .i64 (n : Int), .int .i64 (m : Int)] : Value), .int .i64 x]) ∧
    (x ≠ 0 ∨ (x = 0 ∧ Gives Tryd.prog 7 #[(.agg #[.int .i64 (f : Int), .int .u32 (a : Int), .int .u32 (b : Int), .int .u32 (c : Int), .int .u32 (d : Int), .int .i64 (n : Int), .int .i64 (m : Int)] : Value)] (.tuple #[.string s, .int .i64 0]))) := by
  have hz := size_list s
  by_cases h : s.data.toList.length = 20 ∧ ackF s.data.toList < 16
  · have h1 := aread_yes s.data.toList h.1 h.2
    rw [str_of] at h1
    have h2 := abytes_ok (ackF s.data.toList) (boot (s.data.toList.drop 1)) (local' (s.data.toList.drop 1)) (boot (s.data.toList.drop 9)) (local' (s.data.toList.drop 9)) (ackN s.data.toList) (ackS s.data.toList)
      (by have := ackN_lt s.data.toList; have := ackS_lt s.data.toList; exact rightA_mk (by omega) (by omega) (by omega)) (boot_lt _) (local_lt _) (boot_lt _) (local_lt _)
    rw [ackL_of _ h.1, str_of] at h2
    exact ⟨_, _, _, _, _, _, _, 0, h1, .inr ⟨rfl, h2⟩⟩
  · obtain ⟨x, hx, h1⟩ := aread_no s.data.toList (by omega) h
    rw [str_of] at h1
    exact ⟨0, 0, 0, 0, 0, 0, 0, x, h1, .inl hx⟩
/-- What is written is read. -/
theorem back_write (n m : Nat) (hn : n < 65536) (hm : m < 256) : ∃ t, Gives Tryd.prog 7 #[(.agg #[.int .i64 1, .int .u32 0, .int .u32 0, .int .u32 0, .int .u32 0, .int .i64 (n : Int), .int .i64 (m : Int)] : Value)] (.tuple #[.string t, .int .i64 0]) ∧
    Gives Tryd.prog 6 #[.string t] (.tuple #[(.agg #[.int .i64 1, .int .u32 0, .int .u32 0, .int .u32 0, .int .u32 0, .int .i64 (n : Int), .int .i64 (m : Int)] : Value), .int .i64 0]) := by
  obtain ⟨e1, e2, e3, e4, e5, e6, e7⟩ := parts_of (f := 1) (a := 0) (b := 0) (c := 0) (d := 0) (n := n) (s := m) (by omega) (by omega) (by omega) (by omega) (by omega) hn hm
  refine ⟨str (ackL 1 0 0 0 0 n m), abytes_ok 1 0 0 0 0 n m (rightA_mk (by omega) (by omega) (by omega)) (by omega) (by omega) (by omega) (by omega), ?_⟩
  have h := aread_yes (ackL 1 0 0 0 0 n m) (ackL_length _ _ _ _ _ _ _) (by rw [e1]; omega)
  rw [e1, e2, e3, e4, e5, e6, e7] at h
  exact h
end Go.Proofs.YtaamlmahhkoleaaDoor
