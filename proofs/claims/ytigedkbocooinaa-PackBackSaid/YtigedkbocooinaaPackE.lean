/- Contracts of package pack, part E: Flip. -/
import Derived.Test.YtigedkbocooinaaPackD
import Derived.Test.YtigedkbocooinaaPackA
import Derived.Test.YtigedkbocooinaaWalkU
import Derived.RegionTactic
import Derived.BigRegion
namespace Go.Proofs.Ytigedkbocooinaa
open Go.RowKit

theorem bit_int (k : Nat) (hk : k < 8) : (128 : Int) / (2 : Int) ^ k = (((128 >>> UInt8.ofNat k : UInt8).toNat : Nat) : Int) := by
  match k, hk with
  | 0, _ => rfl
  | 1, _ => rfl
  | 2, _ => rfl
  | 3, _ => rfl
  | 4, _ => rfl
  | 5, _ => rfl
  | 6, _ => rfl
  | 7, _ => rfl
theorem xor_bit (x : UInt8) (k : Nat) (hk : k < 8) : bits BinOp.xor IntKind.u8 (x.toNat : Int) (128 / 2 ^ k) = ((x ^^^ (128 >>> UInt8.ofNat k)).toNat : Int) := by
  rw [bit_int k hk, u8_xor_nat _ _ x.toNat_lt (UInt8.toNat_lt _), UInt8.toNat_xor]
theorem flipF_at (s : ByteArray) (b : Nat) (h : b / 8 < s.size) : PackF.flipF s.data.toList b = s.data.toList.set (b / 8) (s.data[b / 8] ^^^ (128 >>> UInt8.ofNat (b % 8))) := by
  have hl := size_list s
  have hi : b / 8 < s.data.toList.length := by omega
  unfold PackF.flipF
  rw [if_neg (by omega)]
  have e1 : ((b : Int) / 8).toNat = b / 8 := by omega
  have e2 : ((b : Int) % 8).toNat = b % 8 := by omega
  rw [e1, e2, List.getD_eq_getElem?_getD, List.getElem?_eq_getElem hi, Option.getD_some]
  rfl

set_option maxHeartbeats 400000 in
theorem flip_any (s : ByteArray) (bit : Int) (w : World) (hs : s.size ≤ maxLen) (hb : bit ≤ 9223372036854775807) :
    Calls Try.prog 11 #[.string s, .int .i64 bit] w fun e w' => e = .returned (.string (str (PackF.flipF s.data.toList bit))) ∧ Below w.heap.size w w' := by
  unfold maxLen at hs
  by_cases h0 : bit < 0
  · have HV : Hid (PackF.flipF s.data.toList bit = s.data.toList) := by unfold PackF.flipF; rw [if_pos (.inl h0)]; trivial
    go_enter Try.func11, Try.ntmps11
    go_wp2
    go_ret
    exact ⟨by rw [HV.out, str_of]; rfl, Below.refl _ _⟩
  · obtain ⟨b, rfl⟩ := Int.eq_ofNat_of_zero_le (by omega : 0 ≤ bit)
    by_cases h1 : (s.size : Int) ≤ (b : Int) / 8
    · have HV : Hid (PackF.flipF s.data.toList b = s.data.toList) := by unfold PackF.flipF; rw [if_pos (.inr (by rw [size_list]; exact h1))]; trivial
      go_enter Try.func11, Try.ntmps11
      go_wp2
      go_ret
      exact ⟨by rw [HV.out, str_of]; rfl, Below.refl _ _⟩
    · have hl := size_list s
      have hi : b / 8 < s.data.toList.length := by omega
      have hi' : b / 8 < s.size := by omega
      clear hl
      go_enter Try.func11, Try.ntmps11
      go_wp2_with (refine wpList_bytes_of _ rfl _ 9 _ 5 rfl Try.underlying9 Try.underlying43 Try.underlying5 s rfl ?_; intro w1 g c hw1)
      have hc := hw1.cell (b / 8) hi
      have hf := hw1.thawed (b / 8) hi
      have hset := (hw1.set hi (s.data[b / 8] ^^^ (128 >>> UInt8.ofNat (b % 8)))).drew
      have hbel := hset.below
      have hback := hset.back (P := Try.prog) 43 9 5 c Try.underlying43 Try.underlying5 Try.underlying9
      rw [← flipF_at s b hi', ← xor_bit _ _ (by omega), PackF.flip_length, size_list] at hback
      rw [← xor_bit _ _ (by omega)] at hbel
      have HB := Lib.hid hbel
      clear hw1 hset hbel
      go_region
      go_wp2
      go_ret
      exact ⟨rfl, HB.out⟩
end Go.Proofs.Ytigedkbocooinaa
