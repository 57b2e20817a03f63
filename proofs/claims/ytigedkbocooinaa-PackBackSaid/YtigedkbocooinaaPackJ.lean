/- Contracts of package pack, part J: Unvar, and the document's own. -/
import Derived.Test.YtigedkbocooinaaPackI
namespace Go.Proofs.Ytigedkbocooinaa
open Go.RowKit

def unvarV (l : List UInt8) : Value := .tuple #[.int .u64 ((PackF.unvarF l).1 : Int), .string (str (PackF.unvarF l).2.1), .int .i64 (PackF.unvarF l).2.2]
theorem unvarV_err (l : List UInt8) (e : Int) (h : PackF.unvarF l = (0, [], e)) : unvarV l = .tuple #[.int .u64 0, .string ⟨#[]⟩, .int .i64 e] := by
  unfold unvarV; rw [h]; rfl
theorem unvarV_ok (s : ByteArray) (n i : Nat) (h : PackF.unvarF s.data.toList = (n, s.data.toList.drop i, 0)) : unvarV s.data.toList = .tuple #[.int .u64 (n : Int), .string (s.extract i s.size), .int .i64 0] := by
  unfold unvarV; rw [h, str_drop]

/-- Where Unvar stands: at the place i, with the number a. -/
structure AtVar (s : ByteArray) (i a : Nat) : Prop where
  le : i ≤ s.size
  nine : i ≤ 9
  small : a < 2 ^ (7 * i)
  rest : PackF.unvarG i a (s.data.toList.drop i) = PackF.unvarF s.data.toList

theorem AtVar.start (s : ByteArray) : AtVar s 0 0 := ⟨Nat.zero_le _, by omega, by simp, rfl⟩
theorem AtVar.cons {s : ByteArray} {i a : Nat} (_h : AtVar s i a) (hi : i < s.size) : s.data.toList.drop i = s[i] :: s.data.toList.drop (i + 1) := by
  have hl : i < s.data.toList.length := by rw [size_list]; exact hi
  rw [List.drop_eq_getElem_cons hl]; rfl
theorem AtVar.short {s : ByteArray} {i a : Nat} (h : AtVar s i a) (hi : ¬ i < s.size) : PackF.unvarF s.data.toList = (0, [], 2) := by
  rw [← h.rest, List.drop_of_length_le (by rw [size_list]; omega)]; rfl
theorem AtVar.long {s : ByteArray} {a : Nat} (h : AtVar s 9 a) (hi : 9 < s.size) (hc : 1 < s[9].toNat) : PackF.unvarF s.data.toList = (0, [], 4) := by
  rw [← h.rest, h.cons hi]; simp [PackF.unvarG, hc]
theorem AtVar.form {s : ByteArray} {i a : Nat} (h : AtVar s i a) (hi : i < s.size) (h0 : 0 < i) (hc : s[i].toNat = 0) : PackF.unvarF s.data.toList = (0, [], 3) := by
  rw [← h.rest, h.cons hi]; simp only [PackF.unvarG]
  rw [if_neg (by omega), if_neg (by omega), if_pos ⟨hc, h0⟩]
theorem AtVar.done {s : ByteArray} {i a : Nat} (h : AtVar s i a) (hi : i < s.size) (hc : s[i].toNat < 128) (h9 : i = 9 → s[i].toNat ≤ 1) (h0 : ¬ (s[i].toNat = 0 ∧ 0 < i)) :
    PackF.unvarF s.data.toList = (a + s[i].toNat % 128 * 2 ^ (7 * i), s.data.toList.drop (i + 1), 0) := by
  rw [← h.rest, h.cons hi]; simp only [PackF.unvarG]
  rw [if_neg (by omega), if_neg (by omega), if_neg h0]
theorem AtVar.next {s : ByteArray} {i a : Nat} (h : AtVar s i a) (hi : i < s.size) (h9 : i < 9) (hc : 128 ≤ s[i].toNat) : AtVar s (i + 1) (a + s[i].toNat % 128 * 2 ^ (7 * i)) := by
  refine ⟨hi, h9, ?_, ?_⟩
  · have hs := PackF.pow_split i
    have hm : s[i].toNat % 128 * 2 ^ (7 * i) ≤ 127 * 2 ^ (7 * i) := Nat.mul_le_mul_right _ (by omega)
    have := h.small
    omega
  · rw [← h.rest, h.cons hi]; simp only [PackF.unvarG]
    rw [if_neg (by omega), if_pos hc]

theorem var_fits (x : Nat) (i : Nat) (hi : i ≤ 9) (h : i = 9 → x ≤ 1) : x % 128 * 2 ^ (7 * i) < 18446744073709551616 := by
  by_cases h9 : i = 9
  · subst h9
    have := h rfl
    have e : (2 : Nat) ^ (7 * 9) = 9223372036854775808 := by decide
    rw [e]; omega
  · have hp : (2 : Nat) ^ (7 * i) ≤ 2 ^ (7 * 8) := Nat.pow_le_pow_right (by omega) (by omega)
    have e : (2 : Nat) ^ (7 * 8) = 72057594037927936 := by decide
    have hm : x % 128 * 2 ^ (7 * i) ≤ 127 * 2 ^ (7 * i) := Nat.mul_le_mul_right _ (by omega)
    omega
theorem var_join (x a i : Nat) (ha : a < 2 ^ (7 * i)) (hi : i ≤ 9) (h : i = 9 → x ≤ 1) :
    bits BinOp.or IntKind.u64 (a : Int) (IntKind.u64.wrap (((x % 128 : Nat) : Int) * 2 ^ (7 * i))) = ((a + x % 128 * 2 ^ (7 * i) : Nat) : Int) := by
  have hf := var_fits x i hi h
  have hp : (2 : Nat) ^ (7 * i) ≤ 2 ^ (7 * 9) := Nat.pow_le_pow_right (by omega) (by omega)
  have e9 : (2 : Nat) ^ (7 * 9) = 9223372036854775808 := by decide
  have e : ((x % 128 : Nat) : Int) * 2 ^ (7 * i) = ((x % 128 * 2 ^ (7 * i) : Nat) : Int) := by
    rw [Int.natCast_mul, Int.natCast_pow]; rfl
  rw [e, IntKind.wrap_u64]
  have e3 : ((x % 128 * 2 ^ (7 * i) : Nat) : Int) % 18446744073709551616 = ((x % 128 * 2 ^ (7 * i) : Nat) : Int) := by omega
  rw [e3, u64_or_nat _ _ (by omega) hf, Nat.or_comm, nat_join (7 * i) _ _ (Nat.mul_mod_left _ _) ha, Nat.add_comm]
theorem var_step (x : UInt8) (a i : Nat) (ha : a < 2 ^ (7 * i)) (hi : i ≤ 9) (h : i = 9 → x.toNat ≤ 1) :
    bits BinOp.or IntKind.u64 (a : Int) (IntKind.u64.wrap (IntKind.u64.wrap (bits BinOp.andNot IntKind.u8 (x.toNat : Int) 128) * 2 ^ (7 * i))) = ((a + x.toNat % 128 * 2 ^ (7 * i) : Nat) : Int) := by
  have e : (128 : Int) = ((128 : Nat) : Int) := rfl
  have e2 : IntKind.u64.wrap (((x.toNat &&& (255 - 128) : Nat)) : Int) = ((x.toNat % 128 : Nat) : Int) := by
    rw [show (255 - 128 : Nat) = 127 from rfl, nat_mask7, IntKind.wrap_u64]; omega
  rw [e, u8_andNot_nat _ _ x.toNat_lt (by omega), e2]
  exact var_join _ _ _ ha hi h

set_option maxRecDepth 100000 in
set_option maxHeartbeats 400000 in
theorem unvar_any (s : ByteArray) (w : World) (hs : s.size ≤ maxLen) :
    Calls Try.prog 12 #[.string s] w fun e w' => e = .returned (unvarV s.data.toList) ∧ ∃ n, w' = w.drewN n := by
  unfold maxLen at hs
  go_enter Try.func12, Try.ntmps12
  go_wp2
  go_step3
  go_wp2
  go_step3
  go_wp2
  go_loop [5, 6, 7, 12] (fun c u e t => ∃ i a : Nat, c = .int .u64 (a : Int) ∧ u = .int .i64 0 ∧ e = .int .i64 2 ∧ t = .int .i64 (i : Int) ∧ AtVar s i a) (fun _ _ _ t => s.size - (intOf t).toNat)
  case atStart => exact ⟨0, 0, rfl, rfl, rfl, rfl, AtVar.start s⟩
  case round =>
    obtain ⟨i, a, rfl, rfl, rfl, rfl, hat⟩ := hrel
    have hle := hat.le
    have h9 := hat.nine
    by_cases hlt : i < s.size
    · have hb := s[i].toNat_lt
      by_cases hc : 128 ≤ s[i].toNat
      · by_cases hi9 : i = 9
        · subst hi9
          have HV := Lib.hid (unvarV_err _ _ (hat.long hlt (by omega)))
          clear hat
          go_wp2
          go_ret3
          exact ⟨congrArg _ HV.out.symm, 0, rfl⟩
        · have HV := Lib.hid (hat.next hlt (by omega) hc)
          have HS := Lib.hid (var_step s[i] a i hat.small h9 (by omega))
          clear hat
          go_wp2
          go_round
          case rel => exact ⟨i + 1, _, congrArg _ HS.out, rfl, rfl, by go_num, HV.out⟩
          case measure => simp [intOf]; omega
      · by_cases hi9 : i = 9 ∧ 1 < s[i].toNat
        · obtain ⟨hi9, h1⟩ := hi9
          subst hi9
          have HV := Lib.hid (unvarV_err _ _ (hat.long hlt h1))
          clear hat
          go_wp2
          go_ret3
          exact ⟨congrArg _ HV.out.symm, 0, rfl⟩
        · have hsm := hat.small
          by_cases h0 : s[i].toNat = 0 ∧ 0 < i
          · obtain ⟨h0, hpos⟩ := h0
            have HV := Lib.hid (unvarV_err _ _ (hat.form hlt hpos h0))
            clear hat hi9 hsm
            go_wp2
            all_goals (go_ret3; exact ⟨congrArg _ HV.out.symm, 0, rfl⟩)
          · have HV := Lib.hid (unvarV_ok s _ _ (hat.done hlt (by omega) (by omega) h0))
            have HS := Lib.hid (var_step s[i] a i hat.small h9 (by omega))
            clear hat hsm
            by_cases h9' : i = 9
            · subst h9'
              have hc1 : s[9].toNat ≤ 1 := by omega
              have hz : ((s[9].toNat : Int) == 0) = false := by simp; omega
              clear hi9 h0
              go_wp2
              go_quiet (fail)
              go_wp2
              try rw [Exit.noGoto_ret]
              go_ret3
              exact ⟨by rw [HV.out, ← HS.out]; rfl, nq, rfl⟩
            · have h9'' : i < 9 := by omega
              clear hi9 h9'
              by_cases hz0 : s[i].toNat = 0
              · have hi0 : i = 0 := by omega
                subst hi0
                clear h0
                have HE : Hid (unvarV s.data.toList = .tuple #[.int .u64 (bits BinOp.or IntKind.u64 (a : Int) (IntKind.u64.wrap (IntKind.u64.wrap (bits BinOp.andNot IntKind.u8 0 128)))), .string (s.extract 1 s.size), .int .i64 0]) := by
                  rw [HV.out, ← HS.out, hz0, show (2 : Int) ^ (7 * 0) = 1 from rfl, Int.mul_one]
                  trivial
                go_wp2
                go_quiet (fail)
                go_wp2
                try rw [Exit.noGoto_ret]
                go_ret3
                exact ⟨congrArg _ HE.out.symm, nq, rfl⟩
              · have hz : ((s[i].toNat : Int) == 0) = false := by simp; omega
                clear h0 hz0
                go_wp2
                go_quiet (fail)
                go_wp2
                try rw [Exit.noGoto_ret]
                go_ret3
                exact ⟨by rw [HV.out, ← HS.out]; rfl, nq, rfl⟩
    · have HV := Lib.hid (unvarV_err _ _ (hat.short hlt))
      have HA := Lib.hid hat
      clear hat
      go_wp2
      go_ret3
      exact ⟨congrArg _ HV.out.symm, 0, rfl⟩

theorem refvar_step (x : UInt8) (a i : Nat) (ha : a < 2 ^ (7 * i)) (hi : i ≤ 9) (h : i = 9 → x.toNat ≤ 1) :
    bits BinOp.or IntKind.u64 (a : Int) (IntKind.u64.wrap (bits BinOp.and IntKind.u64 (x.toNat : Int) 127 * 2 ^ (7 * i))) = ((a + x.toNat % 128 * 2 ^ (7 * i) : Nat) : Int) := by
  have e : (127 : Int) = ((127 : Nat) : Int) := rfl
  have hx := x.toNat_lt
  rw [e, u64_and_nat _ _ (by omega) (by omega), nat_mask7]
  exact var_join _ _ _ ha hi h

set_option maxRecDepth 100000 in
set_option maxHeartbeats 400000 in
theorem refunvar_any (s : ByteArray) (w : World) (hs : s.size ≤ maxLen) :
    Calls Try.prog 13 #[.string s] w fun e w' => e = .returned (unvarV s.data.toList) ∧ ∃ n, w' = w.drewN n := by
  unfold maxLen at hs
  go_enter Try.func13, Try.ntmps13
  go_wp2
  go_loop [5, 10] (fun c t => ∃ i a : Nat, c = .int .u64 (a : Int) ∧ t = .int .i64 (i : Int) ∧ AtVar s i a) (fun _ t => s.size - (intOf t).toNat)
  case atStart => exact ⟨0, 0, rfl, rfl, AtVar.start s⟩
  case round =>
    obtain ⟨i, a, rfl, rfl, hat⟩ := hrel
    have hle := hat.le
    have h9 := hat.nine
    by_cases hlt : i < s.size
    · have hb := s[i].toNat_lt
      by_cases hc : 128 ≤ s[i].toNat
      · by_cases hi9 : i = 9
        · subst hi9
          have HV := Lib.hid (unvarV_err _ _ (hat.long hlt (by omega)))
          clear hat
          go_wp2
          go_ret3
          exact ⟨congrArg _ HV.out.symm, 0, rfl⟩
        · have HV := Lib.hid (hat.next hlt (by omega) hc)
          have HS := Lib.hid (refvar_step s[i] a i hat.small h9 (by omega))
          clear hat
          go_wp2
          go_round
          case rel => exact ⟨i + 1, _, congrArg _ HS.out, by go_num, HV.out⟩
          case measure => simp [intOf]; omega
      · by_cases hi9 : i = 9 ∧ 1 < s[i].toNat
        · obtain ⟨hi9, h1⟩ := hi9
          subst hi9
          have HV := Lib.hid (unvarV_err _ _ (hat.long hlt h1))
          clear hat
          go_wp2
          go_ret3
          exact ⟨congrArg _ HV.out.symm, 0, rfl⟩
        · have hsm := hat.small
          by_cases h0 : s[i].toNat = 0 ∧ 0 < i
          · obtain ⟨h0, hpos⟩ := h0
            have HV := Lib.hid (unvarV_err _ _ (hat.form hlt hpos h0))
            clear hat hi9 hsm
            go_wp2
            all_goals (go_ret3; exact ⟨congrArg _ HV.out.symm, 0, rfl⟩)
          · have HV := Lib.hid (unvarV_ok s _ _ (hat.done hlt (by omega) (by omega) h0))
            have HS := Lib.hid (refvar_step s[i] a i hat.small h9 (by omega))
            clear hat hsm
            by_cases h9' : i = 9
            · subst h9'
              have hc1 : s[9].toNat ≤ 1 := by omega
              have hz : ((s[9].toNat : Int) == 0) = false := by simp; omega
              clear hi9 h0
              go_wp2
              go_quiet (fail)
              go_wp2
              try rw [Exit.noGoto_ret]
              go_ret3
              exact ⟨by rw [HV.out, ← HS.out]; rfl, nq, rfl⟩
            · have h9'' : i < 9 := by omega
              clear hi9 h9'
              by_cases hz0 : s[i].toNat = 0
              · have hi0 : i = 0 := by omega
                subst hi0
                clear h0
                have HE : Hid (unvarV s.data.toList = .tuple #[.int .u64 (bits BinOp.or IntKind.u64 (a : Int) (IntKind.u64.wrap (IntKind.u64.wrap (bits BinOp.andNot IntKind.u8 0 128)))), .string (s.extract 1 s.size), .int .i64 0]) := by
                  rw [HV.out, ← HS.out, hz0, show (2 : Int) ^ (7 * 0) = 1 from rfl, Int.mul_one]
                  trivial
                go_wp2
                go_quiet (fail)
                go_wp2
                try rw [Exit.noGoto_ret]
                go_ret3
                exact ⟨congrArg _ HE.out.symm, nq, rfl⟩
              · have hz : ((s[i].toNat : Int) == 0) = false := by simp; omega
                clear h0 hz0
                go_wp2
                go_quiet (fail)
                go_wp2
                try rw [Exit.noGoto_ret]
                go_ret3
                exact ⟨by rw [HV.out, ← HS.out]; rfl, nq, rfl⟩
    · have HV := Lib.hid (unvarV_err _ _ (hat.short hlt))
      have HA := Lib.hid hat
      clear hat
      go_wp2
      go_ret3
      exact ⟨congrArg _ HV.out.symm, 0, rfl⟩
end Go.Proofs.Ytigedkbocooinaa
