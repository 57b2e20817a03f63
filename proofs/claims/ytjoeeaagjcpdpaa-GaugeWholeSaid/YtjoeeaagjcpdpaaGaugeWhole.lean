/- GaugeWhole: for every two numbers of 16 bits and every count of eighths GaugeWhole answers true and leaves its arguments as they were. No condition. -/
import Derived.Test.YtjoeeaagjcpdpaaRows
import Derived.Test.YtjoeeaagjcpdpaaGaugeAw
import Derived.Test.YtjoeeaagjcpdpaaGaugeH
import Derived.ProofKit
import Derived.OpenShut
import Derived.ShutString
import Derived.ChangeOld
import Derived.Carry
namespace Go.Proofs.Ytjoeeaagjcpdpaa.gaugeWhole
open Go.ChangeShapes Go.WideShapes Go.ChangeAt Go.RowKit
open Go.ChangeMaps (open_string shut_string)

theorem own : ownKnob Try.prog.godebug = none := by kernel_rfl
theorem laidOut : laidOutB Try.prog = true := by kernel_rfl

theorem many_in (k : Int) : ∃ J : Int, wrap64 ((IntKind.u64.wrap k).tmod 9) = J ∧ 0 ≤ J ∧ J ≤ 8 := by
  rw [IntKind.wrap_u64]
  have h0 : 0 ≤ k % 18446744073709551616 := by omega
  have ha := Int.tmod_nonneg 9 h0
  have hb := Int.tmod_lt_of_pos (k % 18446744073709551616) (show (0 : Int) < 9 by omega)
  rw [IntWalk.wrap64_in _ (by omega)]
  exact ⟨_, rfl, by omega, by omega⟩

theorem order8 {n m : Nat} (hn : n < 9007199254740992) (hm : m < 9007199254740992) : FloatKind.f64.format.order (GaugeF.w8 n) (GaugeF.w8 m) = some (compare (GaugeF.w8 n : Int) (GaugeF.w8 m)) := by
  obtain ⟨a1, a2, a3⟩ := GaugeF.w8_val hn
  obtain ⟨b1, b2, b3⟩ := GaugeF.w8_val hm
  rw [← a2, ← b2]
  exact GaugeF.order_val a3 b3 a1 b1
theorem min8 {n m : Nat} (hn : n < 9007199254740992) (hm : m < 9007199254740992) : minF (GaugeF.w8 n) (GaugeF.w8 m) = some (GaugeF.w8 (min n m)) := by
  unfold minF
  rw [order8 hn hm]
  have h1 := GaugeF.w8_iff hn hm
  have h2 := GaugeF.w8_iff hm hn
  have h3 := @GaugeF.w8_inj n m hn hm
  simp only [compare, compareOfLessAndEq]
  by_cases e1 : n < m
  · rw [if_pos (by omega), Nat.min_eq_left (by omega)]
  · rw [if_neg (by omega)]
    by_cases e2 : GaugeF.w8 n = GaugeF.w8 m
    · rw [if_pos (by omega), h3 e2, Nat.min_self]; simp
    · rw [if_neg (by omega), Nat.min_eq_right (by omega)]
theorem max8 {n m : Nat} (hn : n < 9007199254740992) (hm : m < 9007199254740992) : maxF (GaugeF.w8 n) (GaugeF.w8 m) = some (GaugeF.w8 (max n m)) := by
  unfold maxF
  rw [order8 hn hm]
  have h1 := GaugeF.w8_iff hn hm
  have h2 := GaugeF.w8_iff hm hn
  have h3 := @GaugeF.w8_inj n m hn hm
  simp only [compare, compareOfLessAndEq]
  by_cases e1 : n < m
  · rw [if_pos (by omega), Nat.max_eq_right (by omega)]
  · rw [if_neg (by omega)]
    by_cases e2 : GaugeF.w8 n = GaugeF.w8 m
    · rw [if_pos (by omega), h3 e2, Nat.max_self]; simp
    · rw [if_neg (by omega), Nat.max_eq_left (by omega)]

/-- All that the walk asks of floats. -/
theorem facts (old sam j : Nat) (ho : old < 65536) (hs : sam < 65536) (hj : j ≤ 8) : ∃ A B X M N Y : Nat,
    floatOfInt .f64 (old : Int) = A ∧ floatOfInt .f64 (sam : Int) = B ∧ X < 18446744073709551616 ∧
    (∀ w, Calls Try.prog 13 #[.float .f64 A, .float .f64 B, .int .i64 (j : Int)] w fun e w' => e = .returned (.tuple #[.float .f64 X, .int .i64 0]) ∧ w = w') ∧
    GaugeF.fineB X = true ∧ minF A B = some M ∧ maxF A B = some N ∧
    (FloatKind.f64.format.order X M == some .lt) = false ∧ (FloatKind.f64.format.order X N == some .gt) = false ∧
    (j = 0 → (FloatKind.f64.format.order X A != some .eq) = false) ∧ (j = 8 → (FloatKind.f64.format.order X B != some .eq) = false) ∧
    floatBits .mul .f64 4620693217682128896 X = some Y ∧ floatOfInt .f64 ((8 - (j : Int)) * (old : Int) + (j : Int) * (sam : Int)) = Y ∧
    (FloatKind.f64.format.order Y Y == some .eq) = true := by
  have b1 : (8 - j) * old ≤ 8 * 65536 := Nat.mul_le_mul (by omega) (by omega)
  have b2 : j * sam ≤ 8 * 65536 := Nat.mul_le_mul hj (by omega)
  have hA := GaugeF.of_int old (by omega)
  have hB := GaugeF.of_int sam (by omega)
  have q1 := GaugeF.quo8 ⟨j, by omega⟩
  have q2 := GaugeF.sub8 ⟨j, by omega⟩
  simp only at q1 q2
  have q3 : floatBits .mul .f64 (GaugeF.w8 (8 * old)) (GaugeF.w8 (8 - j)) = some (GaugeF.w8 ((8 - j) * old)) := GaugeF.mul8 (by omega) (by omega) (by omega) (by rw [Nat.mul_assoc, Nat.mul_comm old])
  have q4 : floatBits .mul .f64 (GaugeF.w8 (8 * sam)) (GaugeF.w8 j) = some (GaugeF.w8 (j * sam)) := GaugeF.mul8 (by omega) (by omega) (by omega) (by rw [Nat.mul_assoc, Nat.mul_comm sam])
  have q5 : floatBits .add .f64 (GaugeF.w8 ((8 - j) * old)) (GaugeF.w8 (j * sam)) = some (GaugeF.w8 ((8 - j) * old + j * sam)) := GaugeF.add8 (by omega) (by omega) (by omega)
  have q6 : floatBits .mul .f64 (GaugeF.w8 64) (GaugeF.w8 ((8 - j) * old + j * sam)) = some (GaugeF.w8 (8 * ((8 - j) * old + j * sam))) := GaugeF.mul8 (by omega) (by omega) (by omega) (by omega)
  rw [GaugeF.w8_eight] at q6
  have lo : 8 * min old sam ≤ (8 - j) * old + j * sam := by
    have e1 : (8 - j) * min old sam ≤ (8 - j) * old := Nat.mul_le_mul_left _ (Nat.min_le_left ..)
    have e2 : j * min old sam ≤ j * sam := Nat.mul_le_mul_left _ (Nat.min_le_right ..)
    have e3 : 8 * min old sam = (8 - j) * min old sam + j * min old sam := by rw [← Nat.add_mul, Nat.sub_add_cancel hj]
    omega
  have hi : (8 - j) * old + j * sam ≤ 8 * max old sam := by
    have e1 : (8 - j) * old ≤ (8 - j) * max old sam := Nat.mul_le_mul_left _ (Nat.le_max_left ..)
    have e2 : j * sam ≤ j * max old sam := Nat.mul_le_mul_left _ (Nat.le_max_right ..)
    have e3 : 8 * max old sam = (8 - j) * max old sam + j * max old sam := by rw [← Nat.add_mul, Nat.sub_add_cancel hj]
    omega
  have hmn : min (8 * old) (8 * sam) = 8 * min old sam := by omega
  have hmx : max (8 * old) (8 * sam) = 8 * max old sam := by omega
  refine ⟨_, _, GaugeF.w8 ((8 - j) * old + j * sam), _, _, _, hA, hB, ?_, fun w => ?_, GaugeF.w8_fine (by omega), min8 (by omega) (by omega), max8 (by omega) (by omega), ?_, ?_, ?_, ?_, q6, ?_, ?_⟩
  · exact (GaugeF.w8_val (by omega)).2.2
  · exact smooth_go _ _ j _ _ _ _ _ w (GaugeF.w8_val (by omega)).2.2 (GaugeF.w8_val (by omega)).2.2 (by omega) (by omega) (GaugeF.w8_fine (by omega)) (GaugeF.w8_fine (by omega)) q1 q2 q3 q4 q5
  · rw [GaugeF.lt8 (by omega) (by omega), hmn]; exact decide_eq_false (by omega)
  · rw [GaugeF.gt8 (by omega) (by omega), hmx]; exact decide_eq_false (by omega)
  · rintro rfl
    rw [show (8 - 0) * old + 0 * sam = 8 * old by omega]
    show (!(_ == _)) = false
    rw [GaugeF.eq8 (by omega) (by omega), decide_eq_true rfl]; rfl
  · rintro rfl
    rw [show (8 - 8) * old + 8 * sam = 8 * sam by omega]
    show (!(_ == _)) = false
    rw [GaugeF.eq8 (by omega) (by omega), decide_eq_true rfl]; rfl
  · rw [← GaugeF.of_int _ (by omega)]
    congr 1
    rw [Int.natCast_add, Int.natCast_mul, Int.natCast_mul, Int.ofNat_sub hj]; rfl
  · rw [GaugeF.eq8 (by omega) (by omega)]; exact decide_eq_true rfl

set_option maxRecDepth 100000 in
set_option maxHeartbeats 2000000 in
theorem walk (old sam : Nat) (k : Int) (ho : old < 65536) (hs : sam < 65536) (w : World) :
    Calls Try.prog 5 #[.int .u16 (old : Int), .int .u16 (sam : Int), .int .i64 k] w fun e w' => e = .returned (.bool true) ∧ Below w.heap.size w w' := by
  obtain ⟨J, hJ, hJ0, hJ8⟩ := many_in k
  obtain ⟨j, rfl⟩ : ∃ j : Nat, J = (j : Int) := ⟨J.toNat, by omega⟩
  obtain ⟨A, B, X, M, N, Y, hA, hB, hX, hsm, hf, hmin, hmax, hlt, hgt, h0, h8, hmul, hY, hyy⟩ := facts old sam j ho hs (by omega)
  have b1 : (8 - (j : Int)) * (old : Int) ≤ 524288 := by
    have : (8 - j) * old ≤ 8 * 65536 := Nat.mul_le_mul (by omega) (by omega)
    have e : (((8 - j) * old : Nat) : Int) = (8 - (j : Int)) * (old : Int) := by rw [Int.natCast_mul, Int.ofNat_sub (by omega)]; rfl
    omega
  have b2 : 0 ≤ (8 - (j : Int)) * (old : Int) := Int.mul_nonneg (by omega) (by omega)
  have b3 : (j : Int) * (sam : Int) ≤ 524288 := by
    have : j * sam ≤ 8 * 65536 := Nat.mul_le_mul (by omega) (by omega)
    have e : ((j * sam : Nat) : Int) = (j : Int) * (sam : Int) := Int.natCast_mul ..
    omega
  have b4 : 0 ≤ (j : Int) * (sam : Int) := Int.mul_nonneg (by omega) (by omega)
  have m1 : ∀ ts t w, (Builtin.min_ ts t #[.float .f64 A, .float .f64 B]).run Try.prog w = .ok (.float .f64 M) w := fun ts t w => run_min_fl w ts t A B M hmin
  have m2 : ∀ ts t w, (Builtin.max_ ts t #[.float .f64 A, .float .f64 B]).run Try.prog w = .ok (.float .f64 N) w := fun ts t w => run_max_fl w ts t A B N hmax
  have m3 : ∀ t w, (binOp .mul t (.float .f64 4620693217682128896) (.float .f64 X)).run Try.prog w = .ok (.float .f64 Y) w := fun t w => run_float_arith w .mul t .f64 _ _ _ hmul
  have M1 := Lib.hid m1
  have M2 := Lib.hid m2
  have M3 := Lib.hid m3
  have HS := Lib.hid hsm
  have HF := Lib.hid hf
  have HJ := Lib.hid hJ
  have HY := Lib.hid hY
  obtain ⟨J, hj⟩ : ∃ J : Int, (j : Int) = J := ⟨_, rfl⟩
  rw [hj] at HS HJ b1 b2 b3 b4 hJ0 hJ8 HY
  replace h0 : J = 0 → (FloatKind.f64.format.order X A != some .eq) = false := fun e => h0 (by omega)
  replace h8 : J = 8 → (FloatKind.f64.format.order X B != some .eq) = false := fun e => h8 (by omega)
  clear hj hJ hsm hf hmin hmax hmul hY m1 m2 m3
  have hyy2 : (FloatKind.f64.format.order Y (floatOfInt .f64 ((8 - J) * (old : Int) + J * (sam : Int))) == some .eq) = true := by rw [HY.out]; exact hyy
  clear hyy HY
  obtain ⟨b0, e0⟩ : ∃ b, (J == 0) = b := ⟨_, rfl⟩
  obtain ⟨b8, e8⟩ : ∃ b, (J == 8) = b := ⟨_, rfl⟩
  have z0 : b0 = true → (FloatKind.f64.format.order X A != some .eq) = false := fun e => h0 (eq_of_beq (e0.trans e))
  have z8 : b8 = true → (FloatKind.f64.format.order X B != some .eq) = false := fun e => h8 (eq_of_beq (e8.trans e))
  clear h0 h8
  cases b0
  case false =>
    cases b8
    case false =>
      clear z0 z8
      go_enter Try.func5, Try.ntmps5
      go_upto_region 1 with fail
      go_cut [2] (fun s1 wx => s1 = .int .i64 J ∧ w = wx)
      case first =>
        go_wp2
        go_meet
        exact ⟨congrArg _ HJ.out, rfl⟩
      case rest =>
        obtain ⟨rfl, rfl⟩ := hcut
        go_wp2_with fail
        refine (HS.out _).mono ?_
        rintro e w1 ⟨rfl, rfl⟩
        go_wp2_with fail
        refine (fine_is _ hX HF.out).mono ?_
        rintro e w1 ⟨rfl, rfl⟩
        go_wp2_with (simp only [M1.out, M2.out, M3.out])
        refine (gawake_any _).mono ?_
        rintro e w1 ⟨rfl, h1⟩
        go_wp2_with fail
        go_ret
        exact ⟨rfl, h1⟩
    case true =>
      replace z8 := z8 rfl
      clear z0
      go_enter Try.func5, Try.ntmps5
      go_upto_region 1 with fail
      go_cut [2] (fun s1 wx => s1 = .int .i64 J ∧ w = wx)
      case first =>
        go_wp2
        go_meet
        exact ⟨congrArg _ HJ.out, rfl⟩
      case rest =>
        obtain ⟨rfl, rfl⟩ := hcut
        go_wp2_with fail
        refine (HS.out _).mono ?_
        rintro e w1 ⟨rfl, rfl⟩
        go_wp2_with fail
        refine (fine_is _ hX HF.out).mono ?_
        rintro e w1 ⟨rfl, rfl⟩
        go_wp2_with (simp only [M1.out, M2.out, M3.out])
        refine (gawake_any _).mono ?_
        rintro e w1 ⟨rfl, h1⟩
        go_wp2_with fail
        go_ret
        exact ⟨rfl, h1⟩
  case true =>
    replace z0 := z0 rfl
    have e8' : (J == 8) = false := by
      have := eq_of_beq e0
      subst this; rfl
    obtain rfl : b8 = false := e8.symm.trans e8'
    clear e8' z8
    go_enter Try.func5, Try.ntmps5
    go_upto_region 1 with fail
    go_cut [2] (fun s1 wx => s1 = .int .i64 J ∧ w = wx)
    case first =>
      go_wp2
      go_meet
      exact ⟨congrArg _ HJ.out, rfl⟩
    case rest =>
      obtain ⟨rfl, rfl⟩ := hcut
      go_wp2_with fail
      refine (HS.out _).mono ?_
      rintro e w1 ⟨rfl, rfl⟩
      go_wp2_with fail
      refine (fine_is _ hX HF.out).mono ?_
      rintro e w1 ⟨rfl, rfl⟩
      go_wp2_with (simp only [M1.out, M2.out, M3.out])
      refine (gawake_any _).mono ?_
      rintro e w1 ⟨rfl, h1⟩
      go_wp2_with fail
      go_ret
      exact ⟨rfl, h1⟩


set_option maxRecDepth 100000 in
theorem lifted (os : Os) (started : os.Started) (H : Type) (enc : TypeId × Value → H) :
    ReturnsInHanded {} Try.checked os 5 .any (Rows.gaugeWholeSpec.pre6 enc Try.prog Try.f5 Rows.gaugeWholeRow.domain false) (Rows.gaugeWholeSpec.post enc Try.prog Try.f5 false true false false) := by
  refine returnsInHanded_of_change (C := Try.checked) own started (by kernel_rfl) Try.func5
    (ChangeSpec.witness6 (enc := enc) (C := Try.checked) false ⟨#[], #[.int .u16 0, .int .u16 0, .int .i64 0], []⟩ 8 (by kernel_rfl) (by kernel_rfl) (by kernel_rfl) (by kernel_rfl)) ?_
  intro W base args ds gs before hval0 hW hcnd _
  have hval : ∀ (j : Nat) t v, Try.f5.params[j]? = some t → args[j]? = some v → Value.okWide Try.prog W .any base t v := hval0
  have hW' := hW
  obtain ⟨p, q, hA0, hV, rfl, hfz, hnd⟩ := hW
  have hA : DataW.TrodAll enc Try.prog W 0 (fun _ => true) true Try.f5.params.toList args.toList ds p := hA0
  rw [Try.params5] at hA hval
  obtain ⟨v0, vs0, d0, ds0, p0, q0, hargs, rfl, rfl, h0, r0⟩ := trodAll_cons hA
  obtain ⟨v1, vs1, d1, ds1, p1, q1, rfl, rfl, rfl, h1, r1⟩ := trodAll_cons r0
  obtain ⟨v2, vs2, d2, ds2, p2, q2, rfl, rfl, rfl, h2, r2⟩ := trodAll_cons r1
  obtain ⟨rfl, rfl, rfl⟩ := trodAll_nil r2
  obtain rfl : args = #[v0, v1, v2] := by cases args; simp_all
  obtain ⟨rfl, rfl⟩ := trodVars_none hV
  have k0 := h0
  have lt0 : ∀ x ∈ p0, x.block < W.heap.size := by obtain ⟨m, hm⟩ := k0; exact DataW.trod_lt m _ _ _ hm
  have k1 := h1
  have lt1 : ∀ x ∈ p1, x.block < W.heap.size := by obtain ⟨m, hm⟩ := k1; exact DataW.trod_lt m _ _ _ hm
  have k2 := h2
  have lt2 : ∀ x ∈ p2, x.block < W.heap.size := by obtain ⟨m, hm⟩ := k2; exact DataW.trod_lt m _ _ _ hm
  obtain ⟨old, rfl, _, _, hold⟩ := open_int Try.underlying31 (hval 0 31 v0 rfl rfl) h0
  have hbold := bounds_u16 hold
  obtain ⟨old, rfl⟩ := Int.eq_ofNat_of_zero_le hbold.1
  obtain ⟨sam, rfl, _, _, hsam⟩ := open_int Try.underlying31 (hval 1 31 v1 rfl rfl) h1
  have hbsam := bounds_u16 hsam
  obtain ⟨sam, rfl⟩ := Int.eq_ofNat_of_zero_le hbsam.1
  obtain ⟨n, rfl, _, _, hn⟩ := open_int Try.underlying3 (hval 2 3 v2 rfl rfl) h2
  have hbn := bounds_i64 hn
  clear hA0 hval0
  refine (walk old sam n (by omega) (by omega) W).mono fun e W' ⟨he, bel⟩ => ?_
  subst he
  exact ⟨_, rfl, _, _, _, [], _, [], hW', trodAll_mk1 (shut_bool Try.underlying4 _),
    (trodAll_cons_mk (Below.trod laidOut (by kernel_rfl) (of_decide_eq_true (by kernel_rfl)) k0 bel lt0)
    (trodAll_cons_mk (Below.trod laidOut (by kernel_rfl) (of_decide_eq_true (by kernel_rfl)) k1 bel lt1)
    (trodAll_cons_mk (Below.trod laidOut (by kernel_rfl) (of_decide_eq_true (by kernel_rfl)) k2 bel lt2)
    trodAll_mk0))), rfl, bel.frame _, fun h => by cases h⟩

theorem proved : Rows.GaugeWholeSaid :=
  OpenClaim.holds_of_wide 5 Try.f5 rfl rfl rfl rfl rfl rfl rfl ⟨rfl, rfl, rfl, rfl, rfl⟩ rfl rfl rfl rfl rfl (by kernel_rfl) Try.func5 (by kernel_rfl)
    (of_decide_eq_true (by kernel_rfl)) (by unfold Func.isWrapper; first | (rw [if_pos (by decide +kernel)]; kernel_rfl) | (rw [if_neg (by decide +kernel)]; exact ⟨rfl, rfl⟩))
    (fun os started H enc _ => lifted os started H enc)
end Go.Proofs.Ytjoeeaagjcpdpaa.gaugeWhole
