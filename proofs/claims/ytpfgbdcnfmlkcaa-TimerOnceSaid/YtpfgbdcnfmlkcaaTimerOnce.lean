/- TimerOnce: whatever timer and number come, the law returns true (a timer that is set goes off behind just as many ticks, once, and is told rightly till then), and its arguments read as before. No condition. -/
import Derived.Test.YtpfgbdcnfmlkcaaRows
import Derived.Test.YtpfgbdcnfmlkcaaTimI
import Derived.Test.YtpfgbdcnfmlkcaaTimG
import Derived.Test.YtpfgbdcnfmlkcaaAlOpen
import Derived.Test.YtpfgbdcnfmlkcaaFrom
import Derived.ProofKit
import Derived.OpenShut
import Derived.ShutString
import Derived.ChangeOld
import Derived.Carry
namespace Go.Proofs.Ytpfgbdcnfmlkcaa.timerOnce
open Go.ChangeShapes Go.WideShapes Go.ChangeAt Go.RowKit
open Go.ChangeMaps (open_string shut_string)

theorem own : ownKnob Try.prog.godebug = none := by kernel_rfl
theorem laidOut : laidOutB Try.prog = true := by kernel_rfl

theorem rem_in (t : Int) (n : Nat) (h0 : 0 < n) (h1 : n ≤ 1000) : ∃ q : Nat, q < n ∧ wrap64 ((IntKind.u64.wrap t).tmod (n : Int)) = (q : Int) := by
  have hu : 0 ≤ IntKind.u64.wrap t := by rw [IntKind.wrap_u64]; omega
  rw [Int.tmod_eq_emod_of_nonneg hu]
  have h2 : 0 ≤ IntKind.u64.wrap t % (n : Int) := Int.emod_nonneg _ (by omega)
  have h3 : IntKind.u64.wrap t % (n : Int) < (n : Int) := Int.emod_lt_of_pos _ (by omega)
  refine ⟨(IntKind.u64.wrap t % (n : Int)).toNat, by omega, ?_⟩
  rw [IntWalk.wrap64_in _ (by omega)]
  omega
theorem once_right (K N Y : Nat) (hk : K < 4) (hn : N < 16) (h1 : 1 ≤ Y) (hy : Y ≤ 50) : (Alm.mk (K : Int) (N : Int) (Y : Int)).right = true := by
  simp [Alm.right, nodeF]; omega
theorem set_one (x : Alm) : setL [] x = [x] := by simp [setL, placeA, stopL]
theorem tick_more (k n : Int) (R Q : Nat) (h : Q + 1 = R) (h1 : 1 ≤ Q) : tickOn [⟨k, n, (R : Int)⟩] = [⟨k, n, (Q : Int)⟩] ∧ tickOff [⟨k, n, (R : Int)⟩] = [] := by
  have h2 : (1 : Int) < (R : Int) := by omega
  have h3 : (R : Int) - 1 = (Q : Int) := by omega
  simp [tickOn, tickOff, h2, Alm.dec, h3]
theorem tick_last (k n : Int) : tickOn [⟨k, n, 1⟩] = [] ∧ tickOff [⟨k, n, 1⟩] = [⟨k, n, 0⟩] := by simp [tickOn, tickOff, Alm.off]
theorem left_one (k n t : Int) : leftL [⟨k, n, t⟩] k n = t := by simp [leftL, Alm.is]
/-- What is there ahead of tick j, of a timer that was set to Y. -/
def onceL (K N Y : Nat) (j : Nat) : List Alm := if j ≤ Y then [⟨(K : Int), (N : Int), ((Y + 1 - j : Nat) : Int)⟩] else []
def onceT (Y j : Nat) : Int := if j ≤ Y then 0 else 1
theorem once_fits (K N Y j : Nat) (h : Y ≤ 50) : Fits (onceL K N Y j) := by
  intro a ha
  unfold onceL at ha
  split at ha
  · obtain rfl := List.mem_singleton.1 ha
    show ((Y + 1 - j : Nat) : Int) < _
    omega
  · cases ha
theorem own_len {w : World} {B : Nat} {v : Value} {L M : List Alm} (h : alS.Own w B v L) (e : L = M) : ∃ a c, v = .slice a M.length c ∧ alS.At w a M.length c M := by
  subst e
  obtain ⟨a, c, h1, h2, _⟩ := h.shape
  exact ⟨a, c, h1, h2⟩

theorem once_meas (M i : Nat) (h : i < M + 1) (v : Int) (hv : v = (i : Int) + 1) : ((M : Int) + 1 - intOf (.int .i64 v)).toNat < ((M : Int) + 1 - intOf (.int .i64 (i : Int))).toNat := by
  subst hv
  simp [intOf]; omega

set_option maxRecDepth 100000 in
set_option maxHeartbeats 4000000 in
theorem walk (k n t more : Int) (w : World) :
    Calls Try.prog 3 #[(.agg #[.int .i64 k, .int .i64 n, .int .i64 t] : Value), .int .i64 more] w fun e w' => e = .returned (.bool true) ∧ Below w.heap.size w w' := by
  have AW := Lib.hid tawake_any
  obtain ⟨K, hK, eK⟩ := rem_in k 4 (by omega) (by omega)
  have EK : Hid (wrap64 ((IntKind.u64.wrap k).tmod 4) = (K : Int)) := Lib.hid eK
  clear eK
  obtain ⟨N, hN, eN⟩ := rem_in n 16 (by omega) (by omega)
  have EN : Hid (wrap64 ((IntKind.u64.wrap n).tmod 16) = (N : Int)) := Lib.hid eN
  clear eN
  obtain ⟨X, hX, eX⟩ := rem_in t 50 (by omega) (by omega)
  have EX : Hid (wrap64 ((IntKind.u64.wrap t).tmod 50) = (X : Int)) := Lib.hid eX
  clear eX
  obtain ⟨Z, hZ, eZ⟩ := rem_in more 20 (by omega) (by omega)
  have EZ : Hid (wrap64 ((IntKind.u64.wrap more).tmod 20) = (Z : Int)) := Lib.hid eZ
  clear eZ
  obtain ⟨Y, hY⟩ : ∃ Y, 1 + X = Y := ⟨_, rfl⟩
  obtain ⟨M, hM⟩ : ∃ M, Y + Z = M := ⟨_, rfl⟩
  have eY : 1 + (X : Int) = (Y : Int) := by omega
  have eM : (Y : Int) + (Z : Int) = (M : Int) := by omega
  have HR := Lib.hid (once_right K N Y hK hN (by omega) (by omega))
  have HY : Hid (1 ≤ Y ∧ Y ≤ 50 ∧ Y ≤ M ∧ M ≤ 100) := Lib.hid (by omega)
  have EY : Hid (wrap64 (Y : Int) = (Y : Int)) := Lib.hid (IntWalk.wrap64_in _ (by omega))
  have EM : Hid (wrap64 (M : Int) = (M : Int)) := Lib.hid (IntWalk.wrap64_in _ (by omega))
  clear hK hN hX hZ hY hM
  have eK' := EK.out
  have eN' := EN.out
  have eX' := EX.out
  have eY' := EY.out
  go_enter Try.func3, Try.ntmps3
  go_upto_region 2 with fail
  obtain ⟨v, hv⟩ : ∃ v, w.alloc (.cells #[.int .i64 (K : Int), .int .i64 (N : Int), .int .i64 (Y : Int)] 23) = v := ⟨_, rfl⟩
  rw [hv]
  have HB : Hid (Blk v w.heap.size [.int .i64 (K : Int), .int .i64 (N : Int), .int .i64 (Y : Int)]) := Lib.hid (hv ▸ Blk.new w [.int .i64 (K : Int), .int .i64 (N : Int), .int .i64 (Y : Int)] 23)
  have HH : Hid (Below w.heap.size w v) := Lib.hid (hv ▸ (Below.refl _ _).alloc (Nat.le_refl _) _)
  clear hv eX' eY eY' eK' eN' EK EN EX EY
  have k0 := HB.out.cell 0 rfl
  have k1 := HB.out.cell 1 rfl
  have k2 := HB.out.cell 2 rfl
  go_wp2_with fail
  refine (set_ok ⟨(K : Int), (N : Int), (Y : Int)⟩ none 0 0 [] _ (Shp.At.nil _) (by omega) HR.out).mono ?_
  rintro e w1 ⟨v1, rfl, ho, hb⟩
  obtain ⟨la, lc, rfl, hat⟩ := own_len ho (set_one _)
  have HL : Hid (alS.At w1 la 1 lc (onceL K N Y 1)) := Lib.hid (by
    have e : onceL K N Y 1 = [⟨(K : Int), (N : Int), (Y : Int)⟩] := by
      unfold onceL
      rw [if_pos HY.out.1, Nat.add_sub_cancel]
    rw [e]
    exact hat)
  have HB1 := Lib.hid (HB.out.on hb)
  have HH1 := Lib.hid (bel_on HH.out hb)
  clear ho hb hat HB HH k0 k1 k2 HR
  go_upto_region 7 with fail
  have eZ' := EZ.out
  have eM' := EM.out
  clear EZ EM
  go_loopw [5, 7, 8] (fun u s j wr => ∃ (i : Nat) (la : Option Addr) (ln lc : Nat), 1 ≤ i ∧ i ≤ M + 1 ∧ u = .slice la ln lc ∧ s = .int .i64 (onceT Y i) ∧ j = .int .i64 (i : Int) ∧ alS.At wr la ln lc (onceL K N Y i) ∧ Blk wr w.heap.size [.int .i64 (K : Int), .int .i64 (N : Int), .int .i64 (Y : Int)] ∧ Below w.heap.size w wr) (fun _ _ j _ => (M + 1 - intOf j).toNat)
  case atStart => exact ⟨1, la, 1, lc, Nat.le_refl _, by omega, rfl, by unfold onceT; rw [if_pos HY.out.1], rfl, HL.out, HB1.out, HH1.out⟩
  case round =>
    obtain ⟨i, la, ln, lc, hi1, hi, rfl, rfl, rfl, hL, hB, hH⟩ := hrel
    have HL2 := Lib.hid hL
    have HB2 := Lib.hid hB
    have HH2 := Lib.hid hH
    clear hL hB hH HL HB1 HH1
    have k0 := HB2.out.cell 0 rfl
    have k1 := HB2.out.cell 1 rfl
    have k2 := HB2.out.cell 2 rfl
    have hy := HY.out
    have TK := Lib.hid (tick_any la ln lc (onceL K N Y i) wr HL2.out (by have := HL2.out.1; unfold onceL at this; split at this <;> simp at this <;> omega) (once_fits K N Y i hy.2.1))
    by_cases him : i ≤ M
    · have d1 : decide ((i : Int) ≤ (M : Int)) = true := decide_eq_true (by omega)
      have d1' : decide (i ≤ M) = true := decide_eq_true him
      have e1 : wrap64 ((i : Int) + 1) = (i : Int) + 1 := IntWalk.wrap64_in _ (by omega)
      have HI : Hid (i < M + 1) := Lib.hid (by omega)
      rcases Nat.lt_trichotomy i Y with h | h | h
      · obtain ⟨Q, hQ⟩ : ∃ Q, Y - i = Q := ⟨_, rfl⟩
        have eQ : (Y : Int) - (i : Int) = (Q : Int) := by omega
        have eQ' : wrap64 (Q : Int) = (Q : Int) := IntWalk.wrap64_in _ (by omega)
        have d2 : decide ((i : Int) < (Y : Int)) = true := decide_eq_true (by omega)
        have d2' : decide (i < Y) = true := decide_eq_true h
        have nq : ((Q : Int) != (Q : Int)) = false := by simp
        have e2 : onceL K N Y i = [⟨(K : Int), (N : Int), ((Q + 1 : Nat) : Int)⟩] := by
          unfold onceL
          rw [if_pos (by omega), show Y + 1 - i = Q + 1 by omega]
        have e3 : onceL K N Y (i + 1) = [⟨(K : Int), (N : Int), (Q : Int)⟩] := by
          unfold onceL
          rw [if_pos (by omega), show Y + 1 - (i + 1) = Q by omega]
        have eT : onceT Y i = 0 := by
          unfold onceT
          rw [if_pos (by omega)]
        have ET : Hid (onceT Y (i + 1) = 0) := Lib.hid (by
          unfold onceT
          rw [if_pos (by omega)])
        obtain ⟨p1, p2⟩ := tick_more (K : Int) (N : Int) (Q + 1) Q rfl (by omega)
        rw [← e2] at p1 p2
        have P1 := Lib.hid p1
        have P2 := Lib.hid p2
        have E3 := Lib.hid e3
        clear p1 p2 e2 e3 hQ h him hi hi1 hy
        rw [eT]
        clear eT
        go_wp2_with fail
        refine (TK.out).mono ?_
        rintro e w1 ⟨u, v, rfl, hu, hv, _, hb⟩
        obtain ⟨ua, uc, rfl, hua⟩ := own_len hu P1.out
        obtain ⟨va, vc, rfl, _⟩ := own_len hv P2.out
        have UA := Lib.hid hua
        have HB3 := Lib.hid (HB2.out.on hb)
        have HH3 := Lib.hid (bel_on HH2.out hb)
        have F1 : Hid (From w1 Try.prog 7 #[.slice ua 1 uc, .int .i64 (K : Int), .int .i64 (N : Int)] (.int .i64 (Q : Int))) := Lib.hid (fun w' hb => by
          have := left_any (K : Int) (N : Int) ua 1 uc [⟨(K : Int), (N : Int), (Q : Int)⟩] w' (UA.out.on hb) (by omega)
          rwa [left_one] at this)
        clear hu hv hb hua TK k0 k1 k2 HL2 HB2 HH2
        have k0 := HB3.out.cell 0 rfl
        have k1 := HB3.out.cell 1 rfl
        have k2 := HB3.out.cell 2 rfl
        go_upto_region 14 with fail
        clear k0 k1 k2
        have k0 := cell_regrown (HB3.out.cell 0 rfl)
        have k1 := cell_regrown (HB3.out.cell 1 rfl)
        have k2 := cell_regrown (HB3.out.cell 2 rfl)
        refine wp_region_quiet_below (by kernel_rfl) (by kernel_rfl) ?_
        repeat (first | go_big_quiet_step (first | with_reducible exact F1.out.at _ _) | quiet_step (first | with_reducible exact F1.out.at _ _))
        refine wpQuiet_nil ?_
        intro _ hw'
        obtain ⟨⟨dq, osq⟩, hw''⟩ := hw'
        subst hw''
        clear k0 k1 k2
        obtain ⟨v17, hv17⟩ : ∃ v, Go.Sort.grow (redrawn w1 dq) osq = v := ⟨_, rfl⟩
        have hb := below_regrown w1 dq osq
        rw [hv17] at hb ⊢
        have HB4 := Lib.hid (HB3.out.on hb)
        have HH4 := Lib.hid (bel_on HH3.out hb)
        have UA4 := Lib.hid (UA.out.on hb)
        clear hb hv17 HB3 HH3 UA F1
        go_wp2_with fail
        go_roundw
        case rel => exact ⟨i + 1, ua, 1, uc, by omega, HI.out, rfl, by rw [ET.out], by go_num, by rw [E3.out]; exact UA4.out, HB4.out, HH4.out⟩
        case measure => exact once_meas M i HI.out _ e1
      · subst h
        have d2 : decide ((i : Int) < (i : Int)) = false := decide_eq_false (by omega)
        have d2' : decide (i < i) = false := decide_eq_false (by omega)
        have nn : ((i : Int) != (i : Int)) = false := by simp
        have nk : ((K : Int) != (K : Int)) = false := by simp
        have nm : ((N : Int) != (N : Int)) = false := by simp
        have e2 : onceL K N i i = [⟨(K : Int), (N : Int), 1⟩] := by
          unfold onceL
          rw [if_pos (by omega), show i + 1 - i = 1 by omega]
          rfl
        have e3 : onceL K N i (i + 1) = [] := by
          unfold onceL
          rw [if_neg (by omega)]
        have eT : onceT i i = 0 := by
          unfold onceT
          rw [if_pos (by omega)]
        have ET : Hid (onceT i (i + 1) = 1) := Lib.hid (by
          unfold onceT
          rw [if_neg (by omega)])
        obtain ⟨p1, p2⟩ := tick_last (K : Int) (N : Int)
        rw [← e2] at p1 p2
        have P1 := Lib.hid p1
        have P2 := Lib.hid p2
        have E3 := Lib.hid e3
        clear p1 p2 e2 e3 him hi hi1 hy
        rw [eT]
        clear eT
        go_wp2_with fail
        refine (TK.out).mono ?_
        rintro e w1 ⟨u, v, rfl, hu, hv, _, hb⟩
        rw [P2.out] at hv
        obtain ⟨ua, uc, rfl, hua⟩ := own_len hu P1.out
        obtain ⟨g, vc, rfl, hva⟩ := own_lit hv Nat.zero_lt_one
        have UA := Lib.hid hua
        have HB3 := Lib.hid (HB2.out.on hb)
        have HH3 := Lib.hid (bel_on HH2.out hb)
        have g0 : w1.cell? ⟨g, 0, none⟩ = some (.int .i64 (K : Int)) := al_lit hva 0 0 rfl rfl
        have g1 : w1.cell? ⟨g, 1, none⟩ = some (.int .i64 (N : Int)) := al_lit hva 0 1 rfl rfl
        clear hu hv hb hua hva TK k0 k1 k2 HL2 HB2 HH2
        have k0 := HB3.out.cell 0 rfl
        have k1 := HB3.out.cell 1 rfl
        have k2 := HB3.out.cell 2 rfl
        go_upto_region 12 with fail
        go_quiet (fail)
        go_upto_region 14 with fail
        obtain ⟨v2, hv2⟩ : ∃ v, w1.drewN nq = v := ⟨_, rfl⟩
        have hb : Below w1.heap.size w1 v2 := hv2 ▸ below_drewN (Below.refl _ _) _
        rw [hv2]
        have HB4 := Lib.hid (HB3.out.on hb)
        have HH4 := Lib.hid (bel_on HH3.out hb)
        have UA4 := Lib.hid (UA.out.on hb)
        clear k0 k1 k2 g0 g1 hb hv2 HB3 HH3 UA
        have k0 := HB4.out.cell 0 rfl
        have k1 := HB4.out.cell 1 rfl
        have k2 := HB4.out.cell 2 rfl
        go_quiet (fail)
        go_wp2_with fail
        go_roundw
        case rel => exact ⟨i + 1, ua, 0, uc, by omega, HI.out, rfl, by rw [ET.out], by go_num, by rw [E3.out]; exact UA4.out.drewN _, HB4.out.drewN _, below_drewN HH4.out _⟩
        case measure => exact once_meas M i HI.out _ e1
      · have d2 : decide ((i : Int) < (Y : Int)) = false := decide_eq_false (by omega)
        have d2' : decide (i < Y) = false := decide_eq_false (by omega)
        have e2 : onceL K N Y i = [] := by
          unfold onceL
          rw [if_neg (by omega)]
        have e3 : onceL K N Y (i + 1) = [] := by
          unfold onceL
          rw [if_neg (by omega)]
        have eT : onceT Y i = 1 := by
          unfold onceT
          rw [if_neg (by omega)]
        have ET : Hid (onceT Y (i + 1) = 1) := Lib.hid (by
          unfold onceT
          rw [if_neg (by omega)])
        have P1 : Hid (tickOn (onceL K N Y i) = []) := Lib.hid (by rw [e2]; rfl)
        have P2 : Hid (tickOff (onceL K N Y i) = []) := Lib.hid (by rw [e2]; rfl)
        have E3 := Lib.hid e3
        clear e2 e3 h him hi hi1 hy
        rw [eT]
        clear eT
        go_wp2_with fail
        refine (TK.out).mono ?_
        rintro e w1 ⟨u, v, rfl, hu, hv, _, hb⟩
        obtain ⟨ua, uc, rfl, hua⟩ := own_len hu P1.out
        obtain ⟨va, vc, rfl, _⟩ := own_len hv P2.out
        have UA := Lib.hid hua
        have HB3 := Lib.hid (HB2.out.on hb)
        have HH3 := Lib.hid (bel_on HH2.out hb)
        clear hu hv hb hua TK k0 k1 k2 HL2 HB2 HH2
        have k0 := HB3.out.cell 0 rfl
        have k1 := HB3.out.cell 1 rfl
        have k2 := HB3.out.cell 2 rfl
        go_upto_region 14 with fail
        go_quiet (fail)
        go_wp2_with fail
        go_roundw
        case rel => exact ⟨i + 1, ua, 0, uc, by omega, HI.out, rfl, by rw [ET.out], by go_num, by rw [E3.out]; exact UA.out.drewN _, HB3.out.drewN _, below_drewN HH3.out _⟩
        case measure => exact once_meas M i HI.out _ e1
    · obtain rfl : i = M + 1 := by omega
      have d1 : decide (((M + 1 : Nat) : Int) ≤ (M : Int)) = false := decide_eq_false (by omega)
      have d1' : decide (M + 1 ≤ M) = false := decide_eq_false (by omega)
      have d1b : decide ((M : Int) + 1 ≤ (M : Int)) = false := decide_eq_false (by omega)
      have eT : onceT Y (M + 1) = 1 := by
        unfold onceT
        rw [if_neg (by omega)]
      have hln : ln = 0 := by
        have h := HL2.out.1
        unfold onceL at h
        rw [if_neg (by omega)] at h
        exact h.symm
      subst hln
      rw [eT]
      clear eT hi hi1 hy him TK
      go_wp2_with fail
      refine (AW.out _).mono ?_
      rintro e w1 ⟨rfl, hb⟩
      have HH3 := Lib.hid (bel_on HH2.out hb)
      clear hb HH2 HB2 HL2 k0 k1 k2
      go_wp2_with fail
      go_ret
      exact ⟨rfl, HH3.out⟩

set_option maxRecDepth 100000 in
theorem lifted (os : Os) (started : os.Started) (H : Type) (enc : TypeId × Value → H) :
    ReturnsInHanded {} Try.checked os 3 .any (Rows.timerOnceSpec.pre6 enc Try.prog Try.f3 Rows.timerOnceRow.domain false) (Rows.timerOnceSpec.post enc Try.prog Try.f3 false true false false) := by
  refine returnsInHanded_of_change (C := Try.checked) own started (by kernel_rfl) Try.func3
    (ChangeSpec.witness6 (enc := enc) (C := Try.checked) false ⟨#[], #[.agg #[.int .i64 0, .int .i64 0, .int .i64 0], .int .i64 0], []⟩ 8 (by kernel_rfl) (by kernel_rfl) (by kernel_rfl) (by kernel_rfl)) ?_
  intro W base args ds gs before hval0 hW hcnd _
  have hval : ∀ (j : Nat) t v, Try.f3.params[j]? = some t → args[j]? = some v → Value.okWide Try.prog W .any base t v := hval0
  have hW' := hW
  obtain ⟨p, q, hA0, hV, rfl, hfz, hnd⟩ := hW
  have hA : DataW.TrodAll enc Try.prog W 0 (fun _ => true) true Try.f3.params.toList args.toList ds p := hA0
  rw [Try.params3] at hA hval
  obtain ⟨v0, vs0, d0, ds0, p0, q0, hargs, rfl, rfl, h0, r0⟩ := trodAll_cons hA
  obtain ⟨v1, vs1, d1, ds1, p1, q1, rfl, rfl, rfl, h1, r1⟩ := trodAll_cons r0
  obtain ⟨rfl, rfl, rfl⟩ := trodAll_nil r1
  obtain rfl : args = #[v0, v1] := by cases args; simp_all
  obtain ⟨rfl, rfl⟩ := trodVars_none hV
  have k0 := h0
  have lt0 : ∀ x ∈ p0, x.block < W.heap.size := by obtain ⟨m, hm⟩ := k0; exact DataW.trod_lt m _ _ _ hm
  have k1 := h1
  have lt1 : ∀ x ∈ p1, x.block < W.heap.size := by obtain ⟨m, hm⟩ := k1; exact DataW.trod_lt m _ _ _ hm
  obtain ⟨xk, xn, xt, rfl, hix⟩ := open_alarm (hval 0 23 v0 rfl rfl) h0
  obtain ⟨more, rfl, _, _, hmore⟩ := open_int Try.underlying3 (hval 1 3 v1 rfl rfl) h1
  have hbmore := bounds_i64 hmore
  clear hA0 hval0
  refine (walk xk xn xt more W).mono fun e W' ⟨he, bel⟩ => ?_
  subst he
  exact ⟨_, rfl, _, _, _, [], _, [], hW', trodAll_mk1 (shut_bool Try.underlying4 _),
    (trodAll_cons_mk (Below.trod laidOut (by kernel_rfl) (of_decide_eq_true (by kernel_rfl)) k0 bel lt0)
    (trodAll_cons_mk (Below.trod laidOut (by kernel_rfl) (of_decide_eq_true (by kernel_rfl)) k1 bel lt1)
    trodAll_mk0)), rfl, bel.frame _, fun h => by cases h⟩

theorem proved : Rows.TimerOnceSaid :=
  OpenClaim.holds_of_wide 3 Try.f3 rfl rfl rfl rfl rfl rfl rfl ⟨rfl, rfl, rfl, rfl, rfl⟩ rfl rfl rfl rfl rfl (by kernel_rfl) Try.func3 (by kernel_rfl)
    (of_decide_eq_true (by kernel_rfl)) (by unfold Func.isWrapper; first | (rw [if_pos (by decide +kernel)]; kernel_rfl) | (rw [if_neg (by decide +kernel)]; exact ⟨rfl, rfl⟩))
    (fun os started H enc _ => lifted os started H enc)
end Go.Proofs.Ytpfgbdcnfmlkcaa.timerOnce
