/- NodesParts: for every set and every two numbers NodesParts answers true and leaves its arguments as they were. No condition. -/
import Derived.Test.YtnhfadmnfppnfaaRows
import Derived.Test.YtnhfadmnfppnfaaNodesI
import Derived.ProofKit
import Derived.OpenShut
import Derived.ShutString
import Derived.ChangeOld
import Derived.Carry
namespace Go.Proofs.Ytnhfadmnfppnfaa.nodesParts
open Go.ChangeShapes Go.WideShapes Go.ChangeAt Go.RowKit
open Go.ChangeMaps (open_string shut_string)

theorem own : ownKnob Try.prog.godebug = none := by kernel_rfl
theorem laidOut : laidOutB Try.prog = true := by kernel_rfl

theorem many_in (k : Int) : ∃ j : Nat, wrap64 ((IntKind.u64.wrap k).tmod 300) = (j : Int) ∧ j < 300 := by
  rw [IntKind.wrap_u64]
  have h0 : 0 ≤ k % 18446744073709551616 := by omega
  have ha := Int.tmod_nonneg 300 h0
  have hb := Int.tmod_lt_of_pos (k % 18446744073709551616) (show (0 : Int) < 300 by omega)
  rw [IntWalk.wrap64_in _ (by omega)]
  exact ⟨((k % 18446744073709551616).tmod 300).toNat, by omega, by omega⟩
theorem own_below {w w' : World} {B e size n : Nat} {v : Value} {xs : List Value} (h : w.ownsRow B e size v n xs) (hb : Below w.heap.size w w') : w'.ownsRow B e size v n xs := by
  refine ⟨h.1, ?_⟩
  rcases h.2 with h0 | ⟨g, cap, cur, hv, hB, hg, rest⟩
  · exact .inl h0
  · refine .inr ⟨g, cap, cur, hv, hB, ?_, rest⟩
    rw [hb.block g (Array.getElem?_eq_some_iff.1 hg).1]; exact hg

set_option maxRecDepth 100000 in
set_option maxHeartbeats 2000000 in
theorem walk (s k m : Int) (w : World) :
    Calls Try.prog 4 #[.int .i64 s, .int .i64 k, .int .i64 m] w fun e w' => e = .returned (.bool true) ∧ Below w.heap.size w w' := by
  obtain ⟨j, hje, hj⟩ := many_in m
  have HJ := Lib.hid hje
  have hlow := NodesF.and_low s
  have hlow2 : bits BinOp.and IntKind.i64 s 65535 = (NodesF.lowN s : Int) := by rw [NodesF.lowN_int]; exact hlow
  have hlt := NodesF.lowN_lt s
  obtain ⟨L, hL⟩ : ∃ L, NodesF.subsL (NodesF.lowN s) j = L := ⟨_, rfl⟩
  have hLn : L.length = min j (2 ^ NodesF.popN 16 (NodesF.lowN s)) := by rw [← hL, NodesF.subs_length]
  obtain ⟨n, hn⟩ : ∃ n, L.length = n := ⟨_, rfl⟩
  have hn3 : n ≤ 300 := by omega
  have HL := Lib.hid hL
  have HLN := Lib.hid hLn
  have HN := Lib.hid hn
  clear hje hlow hL hLn hn
  go_enter Try.func4, Try.ntmps4
  go_upto_region 1 with fail
  go_cut [2] (fun s1 wx => s1 = .int .i64 (j : Int) ∧ w = wx)
  case first =>
    go_wp2
    go_meet
    exact ⟨congrArg _ HJ.out, rfl⟩
  case rest =>
    obtain ⟨rfl, rfl⟩ := hcut
    go_wp2_with fail
    ((with_reducible refine (subsets_any s j _ (by omega)).mono ?_); skip)
    rintro e w1 ⟨v1, rfl, o1, h1⟩
    rw [HL.out, HN.out] at o1
    obtain ⟨a1, c1, rfl⟩ := own_slice o1
    have O1 := Lib.hid o1
    clear o1
    go_wp2_with fail
    ((with_reducible refine (refsubsets_any s j _ (by omega)).mono ?_); skip)
    rintro e w2 ⟨v2, rfl, o2, h2⟩
    rw [HL.out, HN.out] at o2
    obtain ⟨a2, c2, rfl⟩ := own_slice o2
    have O2 := Lib.hid o2
    have P1 := Lib.hid (own_below O1.out h2)
    replace h2 := bel_on h1 h2
    clear o2 h1
    go_wp2_with fail
    ((with_reducible refine (low_any s _).mono ?_); skip)
    rintro e w3 ⟨rfl, rfl⟩
    go_wp2_with fail
    ((with_reducible refine (reflow_any s _).mono ?_); skip)
    rintro e w3 ⟨rfl, rfl⟩
    go_wp2_with fail
    ((with_reducible refine (high_any s _).mono ?_); skip)
    rintro e w3 ⟨rfl, rfl⟩
    go_wp2_with fail
    ((with_reducible refine (refhigh_any s _).mono ?_); skip)
    rintro e w3 ⟨rfl, rfl⟩
    go_wp2_with fail
    ((with_reducible refine (next_any s k _).mono ?_); skip)
    rintro e w3 ⟨rfl, rfl⟩
    go_wp2_with fail
    ((with_reducible refine (refnext_any s k _).mono ?_); skip)
    rintro e w3 ⟨rfl, rfl⟩
    go_wp2_with fail
    go_loopw [51] (fun c wr => ∃ (i q : Nat), c = .int .i64 (i : Int) ∧ i ≤ n ∧ wr = w2.drewN q)
      (fun c _ => (n - intOf c).toNat)
    case atStart => exact ⟨0, 0, rfl, by omega, rfl⟩
    case round =>
      obtain ⟨i, q, rfl, hi, rfl⟩ := hrel
      by_cases hlt2 : i < n
      · obtain ⟨g1, c1', hg1⟩ := own_some P1.out (by omega)
        simp only [Value.slice.injEq, true_and] at hg1
        obtain ⟨rfl, rfl⟩ := hg1
        obtain ⟨g2, c2', hg2⟩ := own_some O2.out (by omega)
        simp only [Value.slice.injEq, true_and] at hg2
        obtain ⟨rfl, rfl⟩ := hg2
        have hx : ∀ i, i < n → (natV L)[i]? = some (.int .i64 (NodesF.subN 16 (NodesF.lowN s) i : Int)) := fun i hi => by
          rw [← HL.out]
          have h2 : i < min j (2 ^ NodesF.popN 16 (NodesF.lowN s)) := by rw [← HLN.out, HN.out]; exact hi
          rw [natV, List.getElem?_map, NodesF.subsL, List.getElem?_map, List.getElem?_range h2]; rfl
        have hc1 : ∀ i, i < n → w2.cell? ⟨g1, i, none⟩ = some (.int .i64 (NodesF.subN 16 (NodesF.lowN s) i : Int)) := fun i hi =>
          (P1.out.cellAt i (by omega)).trans (hx i hi)
        have hc2 : ∀ i, i < n → w2.cell? ⟨g2, i, none⟩ = some (.int .i64 (NodesF.subN 16 (NodesF.lowN s) i : Int)) := fun i hi =>
          (O2.out.cellAt i (by omega)).trans (hx i hi)
        have hsl := NodesF.sub_lt 16 (NodesF.lowN s) i
        have han := NodesF.andNot_sub _ _ hsl hlt (NodesF.sub_and 16 (NodesF.lowN s) i)
        have c1i := hc1 i hlt2
        have c2i := hc2 i hlt2
        have i0 : (0 : Int) ≤ (i : Int) := by omega
        have i1 : (i : Int) < (n : Int) := by omega
        rcases i with _ | i
        · clear hc1 hc2 hx
          have hz : decide ((0 : Int) < ((0 : Nat) : Int)) = false := rfl
          generalize hS : NodesF.subN 16 (NodesF.lowN s) 0 = S at *
          have HS := Lib.hid hS
          clear hS
          go_wp2
          go_quiet (fail)
          go_wp2
          go_roundw
          case rel => exact ⟨1, _, rfl, by omega, rfl⟩
          case measure => simp [intOf]; omega
        · have hr := NodesF.sub_rise 16 (NodesF.lowN s) i (i + 1) (by omega) (by
            have e := HLN.out
            rw [HN.out] at e
            omega)
          have cp := hc1 i (by omega)
          clear hc1 hc2 hx
          have hz : decide ((0 : Int) < ((i + 1 : Nat) : Int)) = true := decide_eq_true (by omega)
          generalize hS : NodesF.subN 16 (NodesF.lowN s) (i + 1) = S at *
          generalize hS2 : NodesF.subN 16 (NodesF.lowN s) i = S2 at *
          have HS := Lib.hid hS
          have HS2 := Lib.hid hS2
          have hle : decide ((S : Int) ≤ (S2 : Int)) = false := decide_eq_false (by omega)
          clear hS hS2
          go_wp2
          go_quiet (fail)
          go_wp2
          go_roundw
          case rel => exact ⟨i + 2, _, by go_num, by omega, rfl⟩
          case measure => simp [intOf]; omega
      · obtain rfl : i = n := by omega
        clear hlow2 hlt2
        go_wp2_with fail
        ((with_reducible refine (list_any s _).mono ?_); skip)
        rintro e w3 ⟨v3, rfl, o3, h3⟩
        replace h3 := bel_on (below_drewN h2 q) h3
        clear h2
        obtain ⟨a3, c3, rfl⟩ := own_slice o3
        have hpop := NodesF.nodes_pop (NodesF.lowN s)
        have hp16 := NodesF.popN_le 16 (NodesF.lowN s)
        have hnl := NodesF.next_low (NodesF.lowN s) 16 (by omega)
        have hhp := NodesF.high_pre (NodesF.lowN s) 16
        rw [NodesF.pre_all] at hhp
        have hnh := NodesF.next_has (NodesF.lowN s) (k % 16).toNat (by omega)
        obtain ⟨Z, hZ⟩ : ∃ Z, NodesF.nodesN (NodesF.lowN s) 16 = Z := ⟨_, rfl⟩
        rw [hZ] at hpop hnl hhp hnh o3
        have HO := Lib.hid o3
        have HPOP := Lib.hid hpop
        have HNL := Lib.hid hnl
        have HHP := Lib.hid hhp
        have HNH := Lib.hid hnh
        rw [hZ]
        have hzl : Z.length ≤ 16 := by omega
        obtain ⟨p, hp⟩ : ∃ p, Z.length = p := ⟨_, rfl⟩
        rw [hp] at HO hzl HPOP
        rw [hp]
        have HP := Lib.hid hp
        clear o3 hnl hhp hnh hpop hp16 hZ hp
        go_upto_region 12 with fail
        go_cut [121] (fun c wx => c = .bool false ∧ Below w.heap.size w wx)
        case first =>
          rcases HNL.out with ⟨hz, _⟩ | ⟨x, l, hz, hx⟩
          · obtain rfl : p = 0 := by rw [← HP.out, hz]; rfl
            have hd : decide ((0 : Int) < ((0 : Nat) : Int)) = false := rfl
            clear hz
            go_quiet (fail)
            go_wp2
            go_meet
            exact ⟨rfl, below_drewN h3 _⟩
          · rcases HHP.out with ⟨hz2, _⟩ | ⟨y, l2, hz2, hy⟩
            · rw [hz] at hz2; cases hz2
            obtain ⟨b, hb, hb16, hbit⟩ := HNH.out (by rw [hz]; simp)
            obtain ⟨t, rfl⟩ : ∃ t, p = t + 1 := ⟨l.length, by rw [← HP.out, hz]; rfl⟩
            have ht2 : t = l2.length := by have := congrArg List.length hz2; rw [HP.out] at this; simp at this; omega
            obtain ⟨g3, c3', hg3⟩ := own_some HO.out (by omega)
            simp only [Value.slice.injEq, true_and] at hg3
            obtain ⟨rfl, rfl⟩ := hg3
            have hc0 : w3.cell? ⟨g3, 0, none⟩ = some (.int .i64 (x : Int)) := (HO.out.cellAt 0 (by omega)).trans (by rw [hz]; rfl)
            have hct : w3.cell? ⟨g3, t, none⟩ = some (.int .i64 (y : Int)) := (HO.out.cellAt t (by omega)).trans (by rw [hz2, ht2]; simp [natV])
            have hlow3 : nextV s 15 = (x : Int) := hx
            have hhigh3 : highV s = (y : Int) := hy
            have hnx3 : nextV s k = (b : Int) := hb
            have hhas : NodesF.hasN s b = true := by rw [NodesF.has_low s b hb16, hbit]; rfl
            have cl := low_any s
            have ch := high_any s
            have cn := next_any s k
            have cb := has_in s b
            rw [hlow3] at cl
            rw [hhigh3] at ch
            rw [hnx3] at cn
            rw [hhas] at cb
            have CL := Lib.hid cl
            have CH := Lib.hid ch
            have CN := Lib.hid cn
            have CB := Lib.hid cb
            have hd : decide ((0 : Int) < ((t + 1 : Nat) : Int)) = true := decide_eq_true (by omega)
            have i0 : (0 : Int) < (t : Int) + 1 := by omega
            have i1 : (0 : Int) ≤ (t : Int) := by omega
            have i2 : (t : Int) < (t : Int) + 1 := by omega
            have i3 : IntKind.i64.wrap (t : Int) = (t : Int) := IntWalk.i64_in _ (by omega)
            have h3 := h3
            clear hz hz2 hb hbit ht2 hx hy hlow3 hhigh3 hnx3 hhas cl ch cn cb
            go_quiet ((first
              | (go_at_call 14; exact Calls.quiet_of_same ((CL.out _).mono fun _ _ ⟨a, b⟩ => ⟨a, b.symm⟩))
              | (go_at_call 16; exact Calls.quiet_of_same ((CH.out _).mono fun _ _ ⟨a, b⟩ => ⟨a, b.symm⟩))
              | (go_at_call 18; exact Calls.quiet_of_same ((CN.out _).mono fun _ _ ⟨a, b⟩ => ⟨a, b.symm⟩))
              | (go_at_call 10; exact Calls.quiet_of_same ((CB.out _ hb16).mono fun _ _ ⟨a, b⟩ => ⟨a, b.symm⟩))))
            go_wp2
            go_meet
            exact ⟨rfl, below_drewN h3 _⟩
        case rest =>
          obtain ⟨rfl, h4⟩ := hcut
          clear h3
          obtain ⟨P, hP⟩ : ∃ P : Nat, 2 ^ p = P := ⟨_, rfl⟩
          have hP16 : P ≤ 2 ^ 16 := by rw [← hP]; exact Nat.pow_le_pow_right (by omega) (by omega)
          have hPi : (2 : Int) ^ p = (P : Int) := by rw [← hP]; simp
          have hw : wrap64 (2 ^ p) = (P : Int) := by rw [hPi]; exact IntWalk.wrap64_in _ (by omega)
          have hmin : min (j : Int) (P : Int) = (i : Int) := by
            have e := HLN.out
            rw [HN.out, ← HPOP.out, hP] at e
            omega
          clear hP hPi
          rcases Nat.lt_or_ge P j with hq | hq
          · obtain rfl : i = P := by omega
            have hq2 : (i : Int) < (j : Int) := by omega
            clear hmin
            go_wp2_with fail
            ((with_reducible refine (nawake_any _).mono ?_); skip)
            rintro e w6 ⟨rfl, h6⟩
            replace h6 := bel_on h4 h6
            go_wp2_with fail
            go_ret
            exact ⟨rfl, h6⟩
          obtain rfl : i = j := by omega
          have hq2 : ¬ (P : Int) < (i : Int) := by omega
          clear hmin
          go_wp2_with fail
          ((with_reducible refine (nawake_any _).mono ?_); skip)
          rintro e w6 ⟨rfl, h6⟩
          replace h6 := bel_on h4 h6
          go_wp2_with fail
          go_ret
          exact ⟨rfl, h6⟩


set_option maxRecDepth 100000 in
theorem lifted (os : Os) (started : os.Started) (H : Type) (enc : TypeId × Value → H) :
    ReturnsInHanded {} Try.checked os 4 .any (Rows.nodesPartsSpec.pre6 enc Try.prog Try.f4 Rows.nodesPartsRow.domain false) (Rows.nodesPartsSpec.post enc Try.prog Try.f4 false true false false) := by
  refine returnsInHanded_of_change (C := Try.checked) own started (by kernel_rfl) Try.func4
    (ChangeSpec.witness6 (enc := enc) (C := Try.checked) false ⟨#[], #[.int .i64 0, .int .i64 0, .int .i64 0], []⟩ 8 (by kernel_rfl) (by kernel_rfl) (by kernel_rfl) (by kernel_rfl)) ?_
  intro W base args ds gs before hval0 hW hcnd _
  have hval : ∀ (j : Nat) t v, Try.f4.params[j]? = some t → args[j]? = some v → Value.okWide Try.prog W .any base t v := hval0
  have hW' := hW
  obtain ⟨p, q, hA0, hV, rfl, hfz, hnd⟩ := hW
  have hA : DataW.TrodAll enc Try.prog W 0 (fun _ => true) true Try.f4.params.toList args.toList ds p := hA0
  rw [Try.params4] at hA hval
  obtain ⟨v0, vs0, d0, ds0, p0, q0, hargs, rfl, rfl, h0, r0⟩ := trodAll_cons hA
  obtain ⟨v1, vs1, d1, ds1, p1, q1, rfl, rfl, rfl, h1, r1⟩ := trodAll_cons r0
  obtain ⟨v2, vs2, d2, ds2, p2, q2, rfl, rfl, rfl, h2, r2⟩ := trodAll_cons r1
  obtain ⟨rfl, rfl, rfl⟩ := trodAll_nil r2
  obtain rfl : args = #[v0, v1, v2] := by cases args; simp_all
  obtain ⟨rfl, rfl⟩ := trodVars_none hV
  have k0 := h0
  have lt0 : ∀ x ∈ p0, x.block < W.heap.size := by obtain ⟨m, hm⟩ := k0; exact DataW.trod_lt m _ _ _ hm
  have k1 := h1
  have lt1 : ∀ x ∈ p1, x.block < W.heap.size := by obtain ⟨m, hm⟩ := k1; exact DataW.trod_lt m _ _ _ hm
  have k2 := h2
  have lt2 : ∀ x ∈ p2, x.block < W.heap.size := by obtain ⟨m, hm⟩ := k2; exact DataW.trod_lt m _ _ _ hm
  obtain ⟨s, rfl, _, _, hs⟩ := open_int Try.underlying3 (hval 0 3 v0 rfl rfl) h0
  have hbs := bounds_i64 hs
  obtain ⟨k, rfl, _, _, hk⟩ := open_int Try.underlying3 (hval 1 3 v1 rfl rfl) h1
  have hbk := bounds_i64 hk
  obtain ⟨m, rfl, _, _, hm⟩ := open_int Try.underlying3 (hval 2 3 v2 rfl rfl) h2
  have hbm := bounds_i64 hm
  clear hA0 hval0
  refine (walk s k m W).mono fun e W' ⟨he, bel⟩ => ?_
  subst he
  exact ⟨_, rfl, _, _, _, [], _, [], hW', trodAll_mk1 (shut_bool Try.underlying4 _),
    (trodAll_cons_mk (Below.trod laidOut (by kernel_rfl) (of_decide_eq_true (by kernel_rfl)) k0 bel lt0)
    (trodAll_cons_mk (Below.trod laidOut (by kernel_rfl) (of_decide_eq_true (by kernel_rfl)) k1 bel lt1)
    (trodAll_cons_mk (Below.trod laidOut (by kernel_rfl) (of_decide_eq_true (by kernel_rfl)) k2 bel lt2)
    trodAll_mk0))), rfl, bel.frame _, fun h => by cases h⟩

theorem proved : Rows.NodesPartsSaid :=
  OpenClaim.holds_of_wide 4 Try.f4 rfl rfl rfl rfl rfl rfl rfl ⟨rfl, rfl, rfl, rfl, rfl⟩ rfl rfl rfl rfl rfl (by kernel_rfl) Try.func4 (by kernel_rfl)
    (of_decide_eq_true (by kernel_rfl)) (by unfold Func.isWrapper; first | (rw [if_pos (by decide +kernel)]; kernel_rfl) | (rw [if_neg (by decide +kernel)]; exact ⟨rfl, rfl⟩))
    (fun os started H enc _ => lifted os started H enc)
end Go.Proofs.Ytnhfadmnfppnfaa.nodesParts
