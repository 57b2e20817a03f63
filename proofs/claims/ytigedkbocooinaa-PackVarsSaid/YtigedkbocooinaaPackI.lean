/- Contracts of package pack, part I: Var, and the document's own. -/
import Derived.Test.YtigedkbocooinaaPackH
namespace Go.Proofs.Ytigedkbocooinaa
open Go.RowKit

def byteV (l : List UInt8) : List Value := l.map fun b => .int .u8 (b.toNat : Int)
theorem byteV_snoc (l : List UInt8) (c : UInt8) : byteV (l ++ [c]) = byteV l ++ [.int .u8 (c.toNat : Int)] := by simp [byteV]
theorem byteV_length (l : List UInt8) : (byteV l).length = l.length := by simp [byteV]

/-- A slice of bytes of the call's own, as a text. -/
theorem own_text {P : Program} {w : World} {B : Nat} {v : Value} {l : List UInt8} (src dst e : TypeId) (h : w.ownsRow B e 1 v l.length (byteV l))
    (hs : P.underlying src = some (.slice e)) (he : P.underlying e = some (.int .u8)) (hd : P.underlying dst = some .string) :
    (convert src dst v).run P w = .ok (.string (str l)) w := by
  rcases h.2 with ⟨rfl, hx⟩ | ⟨g, cap, cur, hv, _⟩
  · have hl : l = [] := by simpa [byteV] using hx
    subst hl
    rw [run_convert_bytes_nil w src e hs he 0 0 dst hd]
    rfl
  · subst hv
    refine run_convert_bytes_back (P := P) w src dst e ⟨g, 0, none⟩ cap l hs he hd fun j hj => ?_
    exact h.cells rfl j _ (by simp [byteV, hj])

theorem byte_or (x : Nat) (h : x < 256) : x ||| 128 = x % 128 + 128 := by
  rw [Nat.or_comm]
  rcases Nat.lt_or_ge x 128 with h1 | h1
  · rw [nat_join 7 128 x (by decide) (by omega)]; omega
  · have e : x = 128 ||| (x - 128) := by rw [nat_join 7 128 _ (by decide) (by omega)]; omega
    rw [e, ← Nat.or_assoc, Nat.or_self, ← e]
    omega
theorem own_push {w : World} {B e : Nat} {v : Value} {l : List UInt8} {x : Int} {c : UInt8} (hx : x = (c.toNat : Int)) (h : w.ownsRow B e 1 v (l.length + 1) (byteV l ++ [.int .u8 x])) :
    w.ownsRow B e 1 v (l ++ [c]).length (byteV (l ++ [c])) := by
  subst hx
  rw [byteV_snoc, List.length_append]
  exact h
/-- The step of Var's loop. -/
theorem var_byte (n : Nat) : bits BinOp.or IntKind.u8 ((n : Int) % 256) 128 = (((UInt8.ofNat (n % 128 + 128)).toNat : Nat) : Int) := by
  rw [PackF.byte_of _ (by omega)]
  have e : (n : Int) % 256 = ((n % 256 : Nat) : Int) := by omega
  have e2 : (128 : Int) = ((128 : Nat) : Int) := rfl
  rw [e, e2, u8_or_nat _ _ (by omega) (by omega)]
  rw [byte_or (n % 256) (by omega)]; omega
theorem var_byte' (n : Nat) : IntKind.u8.wrap (n : Int) = (((UInt8.ofNat n).toNat : Nat) : Int) := by
  rw [IntKind.wrap_u8']; simp

theorem var_room (p n N : Nat) (hN : N < 18446744073709551616) (h : n * 128 ^ p ≤ N) (hn : 128 ≤ n) : p + 1 ≤ 9 ∧ n / 128 * 128 ^ (p + 1) ≤ N := by
  constructor
  · rcases Nat.lt_or_ge 8 p with h8 | h8
    · have h1 : 128 ^ 9 ≤ 128 ^ p := Nat.pow_le_pow_right (by omega) h8
      have h2 : 128 * 128 ^ p ≤ n * 128 ^ p := Nat.mul_le_mul_right _ hn
      have e : (128 : Nat) ^ 9 = 9223372036854775808 := by decide
      omega
    · omega
  · rw [Nat.pow_succ, Nat.mul_comm (128 ^ p) 128, ← Nat.mul_assoc]
    exact Nat.le_trans (Nat.mul_le_mul_right _ (Nat.div_mul_le_self n 128)) h

/-- What is left to say of n behind p rounds. -/
def varRest (p n : Nat) : List UInt8 := PackF.varG (9 - p) n
theorem varRest_step (p n : Nat) (hp : p + 1 ≤ 9) (h : ¬ n < 128) : varRest p n = UInt8.ofNat (n % 128 + 128) :: varRest (p + 1) (n / 128) := by
  unfold varRest
  have e : 9 - p = (9 - (p + 1)) + 1 := by omega
  rw [e, PackF.varG, if_neg h]
theorem varRest_end (p n : Nat) (h : n < 128) : varRest p n = [UInt8.ofNat n] := by
  unfold varRest
  rcases 9 - p with _ | f
  · rfl
  · rw [PackF.varG, if_pos h]

set_option maxRecDepth 100000 in
set_option maxHeartbeats 400000 in
theorem var_any (n : Nat) (w : World) (hn : n < 18446744073709551616) :
    Calls Try.prog 14 #[.int .u64 (n : Int)] w fun e w' => e = .returned (.string (str (PackF.varL n))) ∧ Below w.heap.size w w' := by
  obtain ⟨i0, hi, hz0, hz1, hz2⟩ := info_parts Try.info5
  go_enter Try.func14, Try.ntmps14
  go_wp2
  go_loopw [0, 3] (fun c v wr => ∃ (pre : List UInt8) (m : Nat), c = .int .u64 (m : Int) ∧ pre.length ≤ 9 ∧ m * 128 ^ pre.length ≤ n ∧ pre ++ varRest pre.length m = PackF.varL n ∧
      wr.ownsRow w.heap.size 5 1 v pre.length (byteV pre) ∧ Below w.heap.size w wr)
    (fun c _ _ => (intOf c).toNat)
  case atStart => exact ⟨[], n, rfl, by simp, by simp, rfl, World.ownsRow_nil _ _ _ _, Below.refl _ _⟩
  case round =>
    obtain ⟨pre, m, rfl, hp9, hpn, heq, hown, hbel⟩ := hrel
    have HEQ := Lib.hid heq
    clear heq
    have hsz := hbel.size
    have HBL := Lib.hid hbel
    by_cases h : 128 ≤ m
    · have HR := Lib.hid (var_room pre.length m n hn hpn h)
      have HB := Lib.hid (var_byte m)
      clear hpn hbel
      go_wp2_with (at_builtin; refine wpList_append_own _ rfl (.tmp 6) (.tmp 10) 43 rfl w.heap.size 5 i0 (.int .u8 0) 1 1 Try.underlying43 hi hz0 hz1 hz2 rfl (by decide) _ _ _ rfl (hown.alloc _) ⟨wr.heap.size, 0, none⟩ 1 1 [_] rfl rfl (cell_one_new _ _ _) (by simp [Value.oneCell']) (by unfold maxLen; omega) (by omega) (by simp; omega) ?_; intro v1 w1 hown1 hg1 _)
      go_roundw
      case rel =>
        rw [HB.out] at hown1
        exact ⟨pre ++ [UInt8.ofNat (m % 128 + 128)], m / 128, congrArg _ (by omega), by rw [List.length_append]; exact HR.out.1, by rw [List.length_append]; exact HR.out.2,
          by rw [← HEQ.out, varRest_step pre.length m HR.out.1 (by omega)]; simp, by rw [byteV_snoc, List.length_append]; exact hown1,
          (HBL.out.alloc hsz _).grown hg1 (by simp; omega) (fun k hk => (hown.lt k hk).1)⟩
      case measure => simp [intOf]; omega
    · have HB := Lib.hid (show (m : Int) = (((UInt8.ofNat m).toNat : Nat) : Int) by rw [PackF.byte_of _ (by omega)])
      clear hpn hbel
      go_wp2_with (at_builtin; refine wpList_append_own _ rfl (.tmp 14) (.tmp 17) 43 rfl w.heap.size 5 i0 (.int .u8 0) 1 1 Try.underlying43 hi hz0 hz1 hz2 rfl (by decide) _ _ _ rfl (hown.alloc _) ⟨wr.heap.size, 0, none⟩ 1 1 [_] rfl rfl (cell_one_new _ _ _) (by simp [Value.oneCell']) (by unfold maxLen; omega) (by omega) (by simp; omega) ?_; intro v1 w1 hown1 hg1 _; have hcv := own_text (P := Try.prog) 43 9 5 (own_push HB.out hown1) Try.underlying43 Try.underlying5 Try.underlying9; clear hown1)
      have HB1 := Lib.hid ((HBL.out.alloc hsz _).grown hg1 (by simp; omega) (fun k hk => (hown.lt k hk).1))
      have HE : Hid (pre ++ [UInt8.ofNat m] = PackF.varL n) := by rw [← HEQ.out, varRest_end _ _ (by omega)]; trivial
      go_ret
      exact ⟨by rw [← HE.out]; rfl, HB1.out⟩

/-- A byte of a row that was made just now, as a text. -/
theorem one_text {P : Program} (W : World) (c : UInt8) (src dst e : TypeId) (hs : P.underlying src = some (.slice e)) (he : P.underlying e = some (.int .u8)) (hd : P.underlying dst = some .string) :
    (convert src dst (.slice (some ⟨W.heap.size, 0, none⟩) 1 1)).run P (W.alloc (.cells #[.int .u8 (c.toNat : Int)] e)) = .ok (.string (str [c])) (W.alloc (.cells #[.int .u8 (c.toNat : Int)] e)) := by
  refine run_convert_bytes_back (P := P) _ src dst e ⟨W.heap.size, 0, none⟩ 1 [c] hs he hd fun j hj => ?_
  have hj0 : j = 0 := by simpa using hj
  subst hj0
  exact cell_one_new _ _ _ 0 _ rfl

theorem refbyte (m : Nat) (hm : m < 18446744073709551616) : bits BinOp.or IntKind.u8 (bits BinOp.and IntKind.u64 (m : Int) 127 % 256) 128 = (((UInt8.ofNat (m % 128 + 128)).toNat : Nat) : Int) := by
  have e : (127 : Int) = ((127 : Nat) : Int) := rfl
  rw [e, u64_and_nat _ _ hm (by omega), nat_mask7, PackF.byte_of _ (by omega)]
  have e1 : ((m % 128 : Nat) : Int) % 256 = ((m % 128 : Nat) : Int) := by omega
  have e2 : (128 : Int) = ((128 : Nat) : Int) := rfl
  rw [e1, e2, u8_or_nat _ _ (by omega) (by omega), byte_or _ (by omega)]
  omega

set_option maxRecDepth 100000 in
set_option maxHeartbeats 400000 in
theorem refvar_any (n : Nat) (w : World) (hn : n < 18446744073709551616) :
    Calls Try.prog 15 #[.int .u64 (n : Int)] w fun e w' => e = .returned (.string (str (PackF.varL n))) ∧ Below w.heap.size w w' := by
  go_enter Try.func15, Try.ntmps15
  go_wp2
  go_loopw [0, 3] (fun c v wr => ∃ (pre : List UInt8) (m : Nat), c = .int .u64 (m : Int) ∧ pre.length ≤ 9 ∧ m * 128 ^ pre.length ≤ n ∧ pre ++ varRest pre.length m = PackF.varL n ∧
      v = .string (str pre) ∧ Below w.heap.size w wr)
    (fun c _ _ => (intOf c).toNat)
  case atStart => exact ⟨[], n, rfl, by simp, by simp, rfl, rfl, Below.refl _ _⟩
  case round =>
    obtain ⟨pre, m, rfl, hp9, hpn, heq, rfl, hbel⟩ := hrel
    have HEQ := Lib.hid heq
    clear heq
    have hsz := hbel.size
    have HBL := Lib.hid hbel
    have hss : (str pre).size ≤ 9 := by rw [str_size]; exact hp9
    by_cases h : 128 ≤ m
    · have HR := Lib.hid (var_room pre.length m n hn hpn h)
      have hm : m < 18446744073709551616 := by
        have h1 : m * 1 ≤ m * 128 ^ pre.length := Nat.mul_le_mul_left _ (Nat.pos_of_ne_zero (by simp))
        omega
      obtain ⟨c, hc⟩ : ∃ c, c = UInt8.ofNat (m % 128 + 128) := ⟨_, rfl⟩
      have HC := Lib.hid hc
      have hb := refbyte m hm
      rw [← hc] at hb
      have hcv := one_text (P := Try.prog) wr c 43 9 5 Try.underlying43 Try.underlying5 Try.underlying9
      rw [← hb] at hcv
      have hs1 : (str [c]).size ≤ 1 := by rw [str_size]; simp
      clear hpn hbel hb hc
      go_wp2
      go_roundw
      case rel => 
        exact ⟨pre ++ [c], m / 128, congrArg _ (by omega), by rw [List.length_append]; exact HR.out.1, by rw [List.length_append]; exact HR.out.2,
          by rw [← HEQ.out, varRest_step pre.length m HR.out.1 (by omega), ← HC.out]; simp, by rw [str_append], HBL.out.alloc hsz _⟩
      case measure => simp [intOf]; omega
    · have HB := Lib.hid (show (m : Int) = (((UInt8.ofNat m).toNat : Nat) : Int) by rw [PackF.byte_of _ (by omega)])
      obtain ⟨c, hc⟩ : ∃ c, c = UInt8.ofNat m := ⟨_, rfl⟩
      rw [← hc] at HB
      have hcv := one_text (P := Try.prog) wr c 43 9 5 Try.underlying43 Try.underlying5 Try.underlying9
      rw [← HB.out] at hcv
      have hs1 : (str [c]).size ≤ 1 := by rw [str_size]; simp
      have HE : Hid (pre ++ [c] = PackF.varL n) := by rw [hc, ← HEQ.out, varRest_end _ _ (by omega)]; trivial
      clear hpn hbel hc
      go_wp2
      go_ret
      exact ⟨by rw [← HE.out, ← str_append]; rfl, HBL.out.alloc hsz _⟩
end Go.Proofs.Ytigedkbocooinaa
