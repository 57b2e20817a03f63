/- The contracts of check.More and check.Sum. -/
import Derived.Test.YtbohejohemegpaaBase
import Derived.Test.YtbohejohemegpaaCheckF
import Derived.OneCell
namespace Go.Proofs.Ytbohejohemegpaa
open Go.RowKit

/-- Where More's loop stands: its two variables hold a sum's halves. -/
structure AtSum (w wr : World) (p : Nat × Nat) : Prop where
  below : Below w.heap.size w wr
  one : wr.heap[w.heap.size]? = some (.cells #[.int .u32 (p.1 : Int)] 27 (0, 0))
  two : wr.heap[w.heap.size + 1]? = some (.cells #[.int .u32 (p.2 : Int)] 27 (0, 0))

theorem AtSum.start (w : World) (a b : Nat) : AtSum w ((w.alloc (.cells #[.int .u32 (a : Int)] 27)).alloc (.cells #[.int .u32 (b : Int)] 27)) (a, b) := by
  refine ⟨((Below.refl _ _).alloc (Nat.le_refl _) _).alloc (by simp) _, ?_, ?_⟩
  · rw [Below.heap_alloc _ _ _ (by simp), heap_alloc_new]
  · have h := heap_alloc_new (w.alloc (.cells #[.int .u32 (a : Int)] 27)) (.cells #[.int .u32 (b : Int)] 27)
    simpa using h

set_option maxHeartbeats 400000 in
theorem add_any (w wr : World) (p : Nat × Nat) (c : UInt8) (hp : CheckF.Small p) (h : AtSum w wr p) :
    Calls Try.prog 11 #[.int .u8 (c.toNat : Int), .pointer (some ⟨w.heap.size + 1, 0, none⟩), .pointer (some ⟨w.heap.size, 0, none⟩)] wr
      fun e w' => e = .returned (.tuple #[]) ∧ AtSum w w' (CheckF.stepF p c) := by
  obtain ⟨a, b⟩ := p
  obtain ⟨hb, h1, h2⟩ := h
  obtain ⟨p1, p2⟩ := hp
  simp only at h1 h2 p1 p2
  have hc := c.toNat_lt
  have c1 := cell_of_one h1
  have c2 := cell_of_one h2
  have f1 := free_of_one h1
  have f2 := free_of_one h2
  have H : Hid (AtSum w ((wr.setCell ⟨w.heap.size + 1, 0, none⟩ (.int .u32 (((b : Int) + c.toNat) % 65521))).setCell ⟨w.heap.size, 0, none⟩ (.int .u32 (((a : Int) + ((b : Int) + c.toNat)) % 65521))) (CheckF.stepF (a, b) c)) := by
    refine ⟨(hb.setCell (by simp) _).setCell (by simp) _, ?_, ?_⟩
    · have e := one_setCell (u := .int .u32 (((a : Int) + ((b : Int) + c.toNat)) % 65521)) (w := wr.setCell ⟨w.heap.size + 1, 0, none⟩ (.int .u32 (((b : Int) + c.toNat) % 65521))) (b := w.heap.size) (t := 27) (v := .int .u32 a) (by rw [Below.heap_setCell _ _ _ _ (by simp)]; exact h1)
      have e2 : ((CheckF.stepF (a, b) c).1 : Int) = ((a : Int) + ((b : Int) + c.toNat)) % 65521 := by simp [CheckF.stepF]
      rw [e2]; exact e
    · rw [Below.heap_setCell _ _ _ _ (by simp)]
      have e2 : ((CheckF.stepF (a, b) c).2 : Int) = ((b : Int) + c.toNat) % 65521 := by simp [CheckF.stepF]
      rw [e2]; exact one_setCell h2
  clear hb h1 h2
  go_enter Try.func11, Try.ntmps11
  go_wp2
  go_end0
  refine ⟨rfl, ?_⟩
  exact H.out


theorem halves_int (n : Nat) : (n : Int) / 65536 % 65521 = ((CheckF.halves n).1 : Int) := by
  unfold CheckF.halves; simp
theorem low_int (n : Nat) (h : n < 4294967296) : (bits BinOp.and IntKind.u32 (n : Int) 65535).tmod 65521 = ((CheckF.halves n).2 : Int) := by
  have e : bits BinOp.and IntKind.u32 (n : Int) ((65535 : Nat) : Int) = _ := u32_and_nat n 65535 h (by omega)
  have e2 : (65535 : Nat) = 2 ^ 16 - 1 := by decide
  rw [e2, Nat.and_two_pow_sub_one_eq_mod] at e
  have e3 : (((2 ^ 16 - 1 : Nat)) : Int) = 65535 := by decide
  rw [e3] at e
  rw [e]
  unfold CheckF.halves
  simp
  rw [Int.tmod_eq_emod_of_nonneg (by omega)]
theorem join_int (p : Nat × Nat) (hp : CheckF.Small p) : bits BinOp.or IntKind.u32 ((p.1 : Int) * 65536) (p.2 : Int) = ((CheckF.pairN p : Nat) : Int) := by
  obtain ⟨a, b⟩ := p
  obtain ⟨p1, p2⟩ := hp
  simp only at p1 p2 ⊢
  have e : (a : Int) * 65536 = ((a * 65536 : Nat) : Int) := by omega
  rw [e, u32_or_nat _ _ (by omega) (by omega)]
  unfold CheckF.pairN
  have e2 := nat_join16 (a * 65536) b (by omega) (by omega)
  rw [e2]
theorem fold_take (s : ByteArray) (p : Nat × Nat) (k : Nat) (h : k < s.size) : CheckF.foldF p (s.data.toList.take (k + 1)) = CheckF.stepF (CheckF.foldF p (s.data.toList.take k)) s[k] := by
  have hl : k < s.data.toList.length := by rw [size_list]; exact h
  rw [List.take_succ_eq_append_getElem hl, CheckF.fold_append]; rfl

set_option maxHeartbeats 400000 in
theorem more_any (n : Nat) (s : ByteArray) (w : World) (hn : n < 4294967296) (hs : s.size ≤ maxLen) :
    Calls Try.prog 8 #[.int .u32 (n : Int), .string s] w fun e w' => e = .returned (.int .u32 (CheckF.moreN n s.data.toList : Nat)) ∧ Below w.heap.size w w' := by
  have hmf : ∀ (fn : Fn) (first cap : Array Value) (w : World), (Instr.makeFunc fn first cap).run Try.prog w = .ok (.func fn first cap) w := fun _ _ _ _ => rfl
  unfold maxLen at hs
  have h1 := halves_int n
  have h3 := low_int n hn
  have hst := AtSum.start w (CheckF.halves n).1 (CheckF.halves n).2
  have HST := Lib.hid hst
  clear hst
  go_enter Try.func8, Try.ntmps8
  go_wp2
  clear h1 h3
  go_loopw [18] (fun i wr => ∃ k : Nat, k ≤ s.size ∧ i = .int .i64 k ∧ AtSum w wr (CheckF.foldF (CheckF.halves n) (s.data.toList.take k))) (fun i _ => s.size - (intOf i).toNat)
  case atStart => exact ⟨0, Nat.zero_le _, rfl, HST.out⟩
  case round =>
    obtain ⟨k, hk, rfl, hat⟩ := hrel
    have hsm := CheckF.small_fold (s.data.toList.take k) _ (CheckF.small_halves n)
    by_cases hlt : k < s.size
    · have HF := Lib.hid (fold_take s (CheckF.halves n) k hlt)
      have HA := Lib.hid hat
      clear hat
      go_wp2_with fail
      refine (add_any w wr _ s[k] hsm HA.out).mono ?_
      rintro e w1 ⟨rfl, hat1⟩
      rw [← HF.out] at hat1
      have HA1 := Lib.hid hat1
      clear hat1 hsm
      go_wp2
      go_roundw
      case rel => exact ⟨k + 1, by omega, by go_num, HA1.out⟩
      case measure => simp [intOf]; omega
    · obtain rfl : k = s.size := by omega
      have c1 := cell_of_one hat.one
      have c2 := cell_of_one hat.two
      have hbel := hat.below
      have hj := join_int _ hsm
      have hj2 : CheckF.pairN (CheckF.foldF (CheckF.halves n) (s.data.toList.take s.size)) = CheckF.moreN n s.data.toList := by
        rw [← size_list, List.take_length]; rfl
      rw [hj2] at hj
      have hp1 := hsm.1
      have hp2 := hsm.2
      have HB := Lib.hid hbel
      clear hat hsm hj2 hbel
      go_wp2
      go_ret
      exact ⟨rfl, HB.out⟩

set_option maxHeartbeats 400000 in
theorem sum_any (s : ByteArray) (w : World) (hs : s.size ≤ maxLen) :
    Calls Try.prog 9 #[.string s] w fun e w' => e = .returned (.int .u32 (CheckF.sumN s.data.toList : Nat)) ∧ Below w.heap.size w w' := by
  have hm := more_any 1 s w (by omega) hs
  have e : CheckF.moreN 1 s.data.toList = CheckF.sumN s.data.toList := rfl
  rw [e] at hm
  have HM := Lib.hid hm
  clear hm e
  go_enter Try.func9, Try.ntmps9
  go_wp2_with fail
  refine (HM.out).mono ?_
  rintro e w' ⟨rfl, hb⟩
  have HB := Lib.hid hb
  clear hb
  go_wp2
  go_ret
  exact ⟨rfl, HB.out⟩
end Go.Proofs.Ytbohejohemegpaa
