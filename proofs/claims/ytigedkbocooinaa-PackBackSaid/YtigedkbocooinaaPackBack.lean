/- PackBack: for every number, every pair of texts and every count of bytes, PackBack answers true and leaves its arguments as they were. No condition. -/
import Derived.Test.YtigedkbocooinaaRows
import Derived.Test.YtigedkbocooinaaPackK
import Derived.Test.YtigedkbocooinaaOpen
import Derived.Deep.RegionHeld3
import Derived.Deep.DeepCutAuto
import Derived.ProofKit
import Derived.OpenShut
import Derived.ShutString
import Derived.ChangeOld
import Derived.Carry
namespace Go.Proofs.Ytigedkbocooinaa.packBack
open Go.ChangeShapes Go.WideShapes Go.ChangeAt Go.RowKit
open Go.ChangeMaps (open_string shut_string)

theorem own : ownKnob Try.prog.godebug = none := by kernel_rfl
theorem laidOut : laidOutB Try.prog = true := by kernel_rfl

theorem nine_in (k : Int) : ∃ j : Nat, j ≤ 8 ∧ wrap64 ((IntKind.u64.wrap k).tmod 9) = (j : Int) := by
  rw [IntKind.wrap_u64]
  have h0 : 0 ≤ k % 18446744073709551616 := by omega
  have ha := Int.tmod_nonneg 9 h0
  have hb := Int.tmod_lt_of_pos (k % 18446744073709551616) (show (0 : Int) < 9 by omega)
  rw [IntWalk.wrap64_in _ (by omega)]
  exact ⟨((k % 18446744073709551616).tmod 9).toNat, by omega, by omega⟩

theorem low_bits (n j : Nat) (hj : j < 8) (hn : n < 18446744073709551616) : bits BinOp.and IntKind.u64 (n : Int) (IntKind.u64.wrap (IntKind.u64.wrap (2 ^ (8 * j)) - 1)) = ((n % 256 ^ j : Nat) : Int) := by
  have hp : (2 : Nat) ^ (8 * j) ≤ 2 ^ 56 := Nat.pow_le_pow_right (by omega) (by omega)
  have hp1 : 0 < (2 : Nat) ^ (8 * j) := Nat.pos_of_ne_zero (by simp)
  have e56 : (2 : Nat) ^ 56 = 72057594037927936 := by decide
  have e : (2 : Int) ^ (8 * j) = ((2 ^ (8 * j) : Nat) : Int) := by rw [Int.natCast_pow]; rfl
  have e2 : IntKind.u64.wrap (IntKind.u64.wrap (2 ^ (8 * j)) - 1) = ((2 ^ (8 * j) - 1 : Nat) : Int) := by
    rw [e, IntKind.wrap_u64, IntKind.wrap_u64]; omega
  rw [e2, u64_and_nat _ _ hn (by omega), Nat.and_two_pow_sub_one_eq_mod]
  have e3 : (256 : Nat) ^ j = 2 ^ (8 * j) := by rw [Nat.pow_mul]
  rw [e3]
theorem low_all (n j : Nat) (hj : 8 ≤ j) (hn : n < 18446744073709551616) : (n : Int) = ((n % 256 ^ j : Nat) : Int) := by
  have hp : (256 : Nat) ^ 8 ≤ 256 ^ j := Nat.pow_le_pow_right (by omega) hj
  have e : (256 : Nat) ^ 8 = 18446744073709551616 := by decide
  rw [Nat.mod_eq_of_lt (by omega)]

/-- Behind the boxing of a pair of texts. -/
def Boxed (w w' : World) (a b : ByteArray) : Prop :=
  w'.cell? ⟨w.heap.size, 0, none⟩ = some (.string a) ∧ w'.cell? ⟨w.heap.size, 1, none⟩ = some (.string b) ∧ w.heap.size < w'.heap.size ∧ Below w.heap.size w w'
theorem Boxed.new (w : World) (a b : ByteArray) (t : TypeId) : Boxed w (w.alloc (.cells #[.string a, .string b] t)) a b :=
  ⟨by simp [World.cell?_alloc_new], by simp [World.cell?_alloc_new], by simp, (Below.refl _ _).alloc (Nat.le_refl _) _⟩
theorem Boxed.on {w w1 w2 : World} {a b : ByteArray} (h : Boxed w w1 a b) (hb : Below w1.heap.size w1 w2) : Boxed w w2 a b := by
  obtain ⟨h0, h1, h2, h3⟩ := h
  exact ⟨(hb.cell (p := ⟨w.heap.size, 0, none⟩) h2).trans h0, (hb.cell (p := ⟨w.heap.size, 1, none⟩) h2).trans h1, Nat.lt_of_lt_of_le h2 hb.size, h3.trans (hb.mono (by omega))⟩
theorem Boxed.dr {w w1 : World} {a b : ByteArray} (h : Boxed w w1 a b) : Boxed w w1.drew a b := ⟨h.1, h.2.1, h.2.2.1, h.2.2.2.drew⟩
theorem num_keep {w0 : World} {a b : ByteArray} {r : ByteArray} {n : Nat} {k : Int} (w : World) (hn : n < 18446744073709551616) (h : str (PackF.numL n (PackF.numK k)) = r) (hx : Boxed w0 w a b) :
    Calls Try.prog 8 #[.int .u64 (n : Int), .int .i64 k] w fun e w' => e = .returned (.string r) ∧ Boxed w0 w' a b :=
  (num_is w hn h).mono fun _ _ ⟨he, hb⟩ => ⟨he, hx.on hb⟩

set_option maxRecDepth 100000 in
set_option maxHeartbeats 1000000 in
theorem walk (n : Nat) (a b : ByteArray) (k : Int) (hn : n < 18446744073709551616) (hk : -9223372036854775808 ≤ k ∧ k ≤ 9223372036854775807) (ha : a.size ≤ maxLen) (hb : b.size ≤ maxLen) (w : World) :
    Calls Try.prog 3 #[.int .u64 (n : Int), .agg #[.string a, .string b], .int .i64 k] w fun e w' => e = .returned (.bool true) ∧ Below w.heap.size w w' := by
  unfold maxLen at ha hb
  obtain ⟨hk1, hk2⟩ := hk
  by_cases hbig : 255 < a.size
  · have ha255 : decide (255 < (a.size : Int)) = true := decide_eq_true (by omega)
    clear hbig
    go_enter Try.func3, Try.ntmps3
    go_wp2_with fail
    refine (awake_any _).mono ?_
    rintro e w2 ⟨rfl, hbel2⟩
    go_wp2_with fail
    go_ret
    exact ⟨rfl, ((Below.refl _ _).alloc (Nat.le_refl _) _).trans (hbel2.mono (by simp))⟩
  by_cases hbig2 : 600 < b.size
  · have ha255 : decide (255 < (a.size : Int)) = false := decide_eq_false (by omega)
    have hb600 : decide (600 < (b.size : Int)) = true := decide_eq_true (by omega)
    clear hbig hbig2
    go_enter Try.func3, Try.ntmps3
    go_wp2_with fail
    refine (awake_any _).mono ?_
    rintro e w2 ⟨rfl, hbel2⟩
    go_wp2_with fail
    go_ret
    exact ⟨rfl, ((Below.refl _ _).alloc (Nat.le_refl _) _).trans (hbel2.mono (by simp))⟩
  have ha2 : a.size ≤ 255 := by omega
  have hb2 : b.size ≤ 600 := by omega
  have ha255 : decide (255 < (a.size : Int)) = false := decide_eq_false (by omega)
  have hb600 : decide (600 < (b.size : Int)) = false := decide_eq_false (by omega)
  clear hbig hbig2
  obtain ⟨j, hj8, hje⟩ := nine_in k
  go_enter Try.func3, Try.ntmps3
  go_upto_if 33 with fail
  go_cut [2, 7] (fun s2 s7 wx => s2 = .int .i64 (j : Int) ∧ s7 = .int .u64 (n % 256 ^ j : Nat) ∧ Boxed w wx a b)
  case first =>
    have hbx : Boxed w (w.alloc (.cells #[.string a, .string b] 23)) a b := Boxed.new w a b _
    have HBX := Lib.hid hbx
    clear hbx
    go_wp2
    · go_meet
      exact ⟨congrArg _ hje, congrArg _ (low_bits n j (by omega) hn), HBX.out⟩
    · go_meet
      exact ⟨congrArg _ hje, congrArg _ (low_all n j (by omega) hn), HBX.out⟩
  case rest =>
    obtain ⟨rfl, rfl, hbx⟩ := hcut
    obtain ⟨hc0, hc1, hlt, hbel⟩ := hbx
    obtain ⟨y, hy⟩ : ∃ y, str (PackF.numL n (PackF.numK j)) = y := ⟨_, rfl⟩
    have HY := Lib.hid hy
    have hys : y.size ≤ 8 := by rw [← hy, str_size, PackF.numL_length]; exact numK_le _
    have hT : Hid (takeV (y ++ b).data.toList j = .tuple #[.int .u64 (n % 256 ^ j : Nat), .string b, .int .i64 0]) := by
      have e : (y ++ b).data.toList = PackF.numL n j ++ b.data.toList := by
        rw [← hy, ByteArray.data_append, Array.toList_append, str_list]
        have : PackF.numK j = j := by unfold PackF.numK; omega
        rw [this]
      rw [e]; unfold takeV; rw [PackF.take_num n j _ hj8, str_of]; trivial
    have hm1 : (y ++ b).size ≤ maxLen := by rw [ByteArray.size_append]; unfold maxLen; omega
    have HM1 := Lib.hid hm1
    have HN := Lib.hid hn
    obtain ⟨z, hz⟩ : ∃ z, str (UInt8.ofNat a.size :: a.data.toList) = z := ⟨_, rfl⟩
    have hzs : z.size ≤ 256 := by rw [← hz, str_size, List.length_cons, size_list]; omega
    have hB : Hid (blobV a.data.toList = .tuple #[.string z, .int .i64 0]) := by
      unfold blobV; rw [size_list, if_neg (by omega), hz]; trivial
    have hU : Hid (unblobV (z ++ b).data.toList = .tuple #[.string a, .string b, .int .i64 0]) := by
      have e : (z ++ b).data.toList = UInt8.ofNat a.data.toList.length :: (a.data.toList ++ b.data.toList) := by
        rw [← hz, ByteArray.data_append, Array.toList_append, str_list, size_list]; rfl
      rw [e]; unfold unblobV
      rw [PackF.unblob_blob _ _ (by rw [size_list]; exact ha2), str_of, str_of]; trivial
    have hm2 : (z ++ b).size ≤ maxLen := by rw [ByteArray.size_append]; unfold maxLen; omega
    have HM2 := Lib.hid hm2
    have hm3 : a.size ≤ maxLen := by unfold maxLen; omega
    have HM3 := Lib.hid hm3
    clear hm1 hy hje hz hm2 hm3
    have hov : ¬ 9223372036854775807 < y.size + b.size := by omega
    go_upto_region 7 with fail
    go_region_held3 (fun w' => w'.cell? ⟨w.heap.size, 0, none⟩ = some (.string a) ∧ w'.cell? ⟨w.heap.size, 1, none⟩ = some (.string b) ∧ w.heap.size < w'.heap.size ∧ Below w.heap.size w w')
      ((refine ⟨?_, ?_, ?_, ?_⟩ <;> first | assumption | exact Below.drew (by assumption) | exact below_drewN (by assumption) _ | go_keep))
      (first
        | (go_at_call 8; refine (num_keep (w0 := w) (a := a) (b := b) _ HN.out HY.out ?_).mono ?_; (unfold Boxed; assumption); rintro e w1 ⟨rfl, hc0', hc1', hlt', hbel'⟩)
        | (go_at_call 7; refine (take_is _ HM1.out hT.out).mono ?_; rintro e w' ⟨rfl, n1, rfl⟩))
    have hS : Boxed w (w1.drewN n1) a b := by unfold Boxed; assumption
    obtain ⟨s0, s1, s2, s3⟩ := hS
    go_wp2_with fail
    refine (blob_is _ HM3.out hB.out).mono ?_
    rintro e w2 ⟨rfl, hb2⟩
    have h2 := Boxed.on ⟨s0, s1, s2, s3⟩ hb2
    clear s0 s1 s2 s3 hc0 hc1 hlt hbel
    obtain ⟨s0, s1, s2, s3⟩ := h2
    go_wp2_with fail
    refine (unblob_is _ HM2.out hU.out).mono ?_
    rintro e w3 ⟨rfl, n3, rfl⟩
    go_wp2_with fail
    refine (awake_any _).mono ?_
    rintro e w4 ⟨rfl, hb4⟩
    go_wp2_with fail
    go_ret
    exact ⟨rfl, (below_drewN s3 n3).trans (hb4.mono (by simpa using Nat.le_of_lt s2))⟩

set_option maxRecDepth 100000 in
theorem lifted (os : Os) (started : os.Started) (H : Type) (enc : TypeId × Value → H) :
    ReturnsInHanded {} Try.checked os 3 .any (Rows.packBackSpec.pre6 enc Try.prog Try.f3 Rows.packBackRow.domain false) (Rows.packBackSpec.post enc Try.prog Try.f3 false true false false) := by
  refine returnsInHanded_of_change (C := Try.checked) own started (by kernel_rfl) Try.func3
    (ChangeSpec.witness6 (enc := enc) (C := Try.checked) false ⟨#[], #[.int .u64 0, .agg #[.string ByteArray.empty, .string ByteArray.empty], .int .i64 0], []⟩ 8 (by kernel_rfl) (by kernel_rfl) (by kernel_rfl) (by kernel_rfl)) ?_
  intro W base args ds gs before hval0 hW hcnd _
  have hval : ∀ (j : Nat) t v, Try.f3.params[j]? = some t → args[j]? = some v → Value.okWide Try.prog W .any base t v := hval0
  have hW' := hW
  obtain ⟨p, q, hA0, hV, rfl, hfz, hnd⟩ := hW
  have hA : DataW.TrodAll enc Try.prog W 0 (fun _ => true) true Try.f3.params.toList args.toList ds p := hA0
  rw [Try.params3] at hA hval
  obtain ⟨v0, vs0, d0, ds0, p0, q0, hargs, rfl, rfl, h0, r0⟩ := trodAll_cons hA
  obtain ⟨v1, vs1, d1, ds1, p1, q1, rfl, rfl, rfl, h1, r1⟩ := trodAll_cons r0
  obtain ⟨v2, vs2, d2, ds2, p2, q2, rfl, rfl, rfl, h2, r2⟩ := trodAll_cons r1
  obtain ⟨rfl, rfl, rfl⟩ := trodAll_nil r2
  obtain rfl : args = #[v0, v1, v2] := by cases args; simp_all
  obtain ⟨rfl, rfl⟩ := trodVars_none hV
  have k0 := h0
  have lt0 : ∀ x ∈ p0, x.block < W.heap.size := by obtain ⟨m, hm⟩ := k0; exact DataW.trod_lt m _ _ _ hm
  have k1 := h1
  have lt1 : ∀ x ∈ p1, x.block < W.heap.size := by obtain ⟨m, hm⟩ := k1; exact DataW.trod_lt m _ _ _ hm
  have k2 := h2
  have lt2 : ∀ x ∈ p2, x.block < W.heap.size := by obtain ⟨m, hm⟩ := k2; exact DataW.trod_lt m _ _ _ hm
  obtain ⟨n, rfl, _, _, hn⟩ := open_int Try.underlying22 (hval 0 22 v0 rfl rfl) h0
  obtain ⟨a, b, rfl, ha, hb⟩ := open_pair_strings Try.underlying23 Try.underlying9 (by kernel_rfl) (by kernel_rfl) (hval 1 23 v1 rfl rfl) h1
  obtain ⟨k, rfl, _, _, hk⟩ := open_int Try.underlying3 (hval 2 3 v2 rfl rfl) h2
  clear hA0 hval0
  have hnb := bounds_u64 hn
  obtain ⟨n, rfl⟩ := Int.eq_ofNat_of_zero_le hnb.1
  refine (walk n a b k (by omega) (bounds_i64 hk) ha hb W).mono fun e W' ⟨he, bel⟩ => ?_
  subst he
  exact ⟨_, rfl, _, _, _, [], _, [], hW', trodAll_mk1 (shut_bool Try.underlying4 _),
    (trodAll_cons_mk (Below.trod laidOut (by kernel_rfl) (of_decide_eq_true (by kernel_rfl)) k0 bel lt0)
    (trodAll_cons_mk (Below.trod laidOut (by kernel_rfl) (of_decide_eq_true (by kernel_rfl)) k1 bel lt1)
    (trodAll_cons_mk (Below.trod laidOut (by kernel_rfl) (of_decide_eq_true (by kernel_rfl)) k2 bel lt2) trodAll_mk0))), rfl, bel.frame _, fun h => by cases h⟩

theorem proved : Rows.PackBackSaid :=
  OpenClaim.holds_of_wide 3 Try.f3 rfl rfl rfl rfl rfl rfl rfl ⟨rfl, rfl, rfl, rfl, rfl⟩ rfl rfl rfl rfl rfl (by kernel_rfl) Try.func3 (by kernel_rfl)
    (of_decide_eq_true (by kernel_rfl)) (by unfold Func.isWrapper; first | (rw [if_pos (by decide +kernel)]; kernel_rfl) | (rw [if_neg (by decide +kernel)]; exact ⟨rfl, rfl⟩))
    (fun os started H enc _ => lifted os started H enc)
end Go.Proofs.Ytigedkbocooinaa.packBack
