/- NodesBack: for every set, every number and every text NodesBack answers true and leaves its arguments as they were. No condition. -/
import Derived.Test.YtnhfadmnfppnfaaRows
import Derived.Test.YtnhfadmnfppnfaaNodesAw
import Derived.ProofKit
import Derived.OpenShut
import Derived.ShutString
import Derived.ChangeOld
import Derived.Carry
namespace Go.Proofs.Ytnhfadmnfppnfaa.nodesBack
open Go.ChangeShapes Go.WideShapes Go.ChangeAt Go.RowKit
open Go.ChangeMaps (open_string shut_string)

theorem own : ownKnob Try.prog.godebug = none := by kernel_rfl
theorem laidOut : laidOutB Try.prog = true := by kernel_rfl

theorem node_in (k : Int) : ∃ j : Nat, wrap64 ((IntKind.u64.wrap k).tmod 16) = (j : Int) ∧ j < 16 := by
  rw [IntKind.wrap_u64]
  have h0 : 0 ≤ k % 18446744073709551616 := by omega
  have ha := Int.tmod_nonneg 16 h0
  have hb := Int.tmod_lt_of_pos (k % 18446744073709551616) (show (0 : Int) < 16 by omega)
  rw [IntWalk.wrap64_in _ (by omega)]
  exact ⟨((k % 18446744073709551616).tmod 16).toNat, by omega, by omega⟩

set_option maxRecDepth 100000 in
set_option maxHeartbeats 2000000 in
theorem walk (a k : Int) (s : ByteArray) (ha1 : -9223372036854775808 ≤ a) (ha2 : a < 9223372036854775808) (w : World) :
    Calls Try.prog 3 #[.int .i64 a, .int .i64 k, .string s] w fun e w' => e = .returned (.bool true) ∧ Below w.heap.size w w' := by
  by_cases hbig : 300 < s.size
  · have hb : (300 : Int) < (s.size : Int) := by omega
    clear hbig
    go_enter Try.func3, Try.ntmps3
    go_wp2_with fail
    refine (nawake_any _).mono ?_
    rintro e w1 ⟨rfl, h1⟩
    go_wp2_with fail
    go_ret
    exact ⟨rfl, h1⟩
  have hb : ¬ (300 : Int) < (s.size : Int) := by omega
  obtain ⟨t, ht⟩ : ∃ t, str (NodesF.textL (NodesF.lowN a)) = t := ⟨_, rfl⟩
  have hpt : parseV t.data.toList = .tuple #[.int .i64 (NodesF.lowN a : Int), .int .i64 0] := by
    rw [← ht, str_list]; unfold parseV; rw [NodesF.parse_text _ (NodesF.lowN_lt a)]
  have HT := Lib.hid ht
  have HPT := Lib.hid hpt
  obtain ⟨b, f, hps⟩ : ∃ b f, NodesF.parseF s.data.toList = (b, f) := ⟨(NodesF.parseF s.data.toList).1, (NodesF.parseF s.data.toList).2, rfl⟩
  have HPS : Hid (parseV s.data.toList = .tuple #[.int .i64 b, .int .i64 f]) := by unfold parseV; rw [hps]; exact Lib.hid rfl
  have hlow := NodesF.and_low a
  have hlow2 : a % 65536 = (NodesF.lowN a : Int) := (NodesF.lowN_int a).symm
  obtain ⟨j, hje, hj⟩ := node_in k
  have HJ := Lib.hid hje
  obtain ⟨x, hx⟩ : ∃ x, NodesF.withN a j = x := ⟨_, rfl⟩
  obtain ⟨y, hy⟩ : ∃ y, NodesF.withoutN a j = y := ⟨_, rfl⟩
  have hxr := NodesF.with_range a j hj ha1 ha2
  have hyr := NodesF.without_range a j hj ha1 ha2
  have hx1 := NodesF.has_with a j hj
  have hy1 := NodesF.has_without a j hj
  have hxy := NodesF.with_without a j hj
  have hyx := NodesF.without_with a j hj
  have hct := NodesF.count_step a j hj
  rw [hx] at hxr hx1 hyx hct hxy
  rw [hy] at hyr hy1 hxy hct hyx
  obtain ⟨hxr1, hxr2⟩ := hxr
  obtain ⟨hyr1, hyr2⟩ := hyr
  have HX := Lib.hid hx
  have HY := Lib.hid hy
  have HX1 := Lib.hid hx1
  have HY1 := Lib.hid hy1
  have HXY := Lib.hid hxy
  have HYX := Lib.hid hyx
  have hcb := NodesF.popN_le 16 (NodesF.lowN y)
  have hcy : (NodesF.countN y : Int) ≤ 16 := by unfold NodesF.countN; omega
  have HCT : Hid ((NodesF.countN x : Int) = (NodesF.countN y : Int) + 1) := by rw [hct]; exact Lib.hid rfl
  clear hbig ht hpt hje hx hy hx1 hy1 hxy hyx hct hcb
  have hcase : (f = 0 ∧ Hid (str (NodesF.textL (NodesF.lowN b)) = s) ∧ 0 ≤ b ∧ b ≤ 65535) ∨ f = 3 := by
    have h1 := NodesF.parse_code s.data.toList
    rw [hps] at h1
    rcases h1 with h1 | h1
    · simp only at h1
      subst h1
      obtain ⟨h2, h3, h4⟩ := NodesF.parse_back _ _ hps
      refine .inl ⟨rfl, ?_, h2, h3⟩
      have e : NodesF.lowN b = b.toNat := by unfold NodesF.lowN; omega
      exact Lib.hid (by rw [e, h4, str_of])
    · exact .inr h1
  clear hps
  have HCASE := Lib.hid hcase
  clear hcase
  go_enter Try.func3, Try.ntmps3
  go_wp2_with fail
  ((with_reducible refine (text_is _ HT.out).mono ?_); skip)
  rintro e w1 ⟨rfl, h1⟩
  go_wp2_with fail
  ((with_reducible refine (parse_is _ HPT.out).mono ?_); skip)
  rintro e w2 ⟨rfl, h2⟩
  replace h2 := bel_on h1 h2
  clear h1
  go_wp2_with fail
  ((with_reducible refine (parse_is _ HPS.out).mono ?_); skip)
  rintro e w3 ⟨rfl, h3⟩
  replace h3 := bel_on h2 h3
  clear h2
  go_upto_region 5 with fail
  go_cut [53] (fun c wx => c = .bool false ∧ Below w.heap.size w wx)
  case first =>
    rcases HCASE.out with ⟨rfl, HB, hb0, hb1⟩ | rfl
    · have q1 : decide (b < 0) = false := decide_eq_false (by omega)
      have q2 : decide (65535 < b) = false := decide_eq_false (by omega)
      go_wp2_with fail
      ((with_reducible refine (text_is _ HB.out).mono ?_); skip)
      rintro e w4 ⟨rfl, h4⟩
      replace h4 := bel_on h3 h4
      clear h3
      go_wp2_with fail
      go_meet
      exact ⟨rfl, h4⟩
    · go_wp2_with fail
      go_meet
      exact ⟨rfl, h3⟩
  case rest =>
    obtain ⟨rfl, h4⟩ := hcut
    clear hlow hlow2 h3
    go_upto_region 7 with fail
    go_cut [1] (fun s1 wx => s1 = .int .i64 (j : Int) ∧ wx = wc)
    case first =>
      go_wp2
      go_meet
      exact ⟨congrArg _ HJ.out, rfl⟩
    case rest =>
      obtain ⟨rfl, rfl⟩ := hcut
      go_wp2_with fail
      ((with_reducible refine (with_is _ rfl hj ha1 ha2 HX.out).mono ?_); skip)
      rintro e w5 ⟨rfl, rfl⟩
      go_wp2_with fail
      ((with_reducible refine (without_is _ rfl hj ha1 ha2 HY.out).mono ?_); skip)
      rintro e w5 ⟨rfl, rfl⟩
      go_wp2_with fail
      ((with_reducible refine (has_is _ rfl hj HX1.out).mono ?_); skip)
      rintro e w5 ⟨rfl, rfl⟩
      go_wp2_with fail
      ((with_reducible refine (has_is _ rfl hj HY1.out).mono ?_); skip)
      rintro e w5 ⟨rfl, rfl⟩
      go_wp2_with fail
      ((with_reducible refine (with_is _ rfl hj hyr1 hyr2 HXY.out).mono ?_); skip)
      rintro e w5 ⟨rfl, rfl⟩
      go_wp2_with fail
      ((with_reducible refine (without_is _ rfl hj hxr1 hxr2 HYX.out).mono ?_); skip)
      rintro e w5 ⟨rfl, rfl⟩
      go_wp2_with fail
      ((with_reducible refine (count_is _ HCT.out).mono ?_); skip)
      rintro e w5 ⟨rfl, n1, rfl⟩
      go_wp2_with fail
      ((with_reducible refine (count_any _ _).mono ?_); skip)
      rintro e w5 ⟨rfl, n2, rfl⟩
      go_wp2_with fail
      refine (nawake_any _).mono ?_
      rintro e w6 ⟨rfl, h6⟩
      replace h6 := bel_on (below_drewN h4 _) h6
      go_wp2_with fail
      go_ret
      exact ⟨rfl, h6⟩


set_option maxRecDepth 100000 in
theorem lifted (os : Os) (started : os.Started) (H : Type) (enc : TypeId × Value → H) :
    ReturnsInHanded {} Try.checked os 3 .any (Rows.nodesBackSpec.pre6 enc Try.prog Try.f3 Rows.nodesBackRow.domain false) (Rows.nodesBackSpec.post enc Try.prog Try.f3 false true false false) := by
  refine returnsInHanded_of_change (C := Try.checked) own started (by kernel_rfl) Try.func3
    (ChangeSpec.witness6 (enc := enc) (C := Try.checked) false ⟨#[], #[.int .i64 0, .int .i64 0, .string ByteArray.empty], []⟩ 8 (by kernel_rfl) (by kernel_rfl) (by kernel_rfl) (by kernel_rfl)) ?_
  intro W base args ds gs before hval0 hW hcnd _
  have hval : ∀ (j : Nat) t v, Try.f3.params[j]? = some t → args[j]? = some v → Value.okWide Try.prog W .any base t v := hval0
  have hW' := hW
  obtain ⟨p, q, hA0, hV, rfl, hfz, hnd⟩ := hW
  have hA : DataW.TrodAll enc Try.prog W 0 (fun _ => true) true Try.f3.params.toList args.toList ds p := hA0
  rw [Try.params3] at hA hval
  obtain ⟨v0, vs0, d0, ds0, p0, q0, hargs, rfl, rfl, h0, r0⟩ := trodAll_cons hA
  obtain ⟨v1, vs1, d1, ds1, p1, q1, rfl, rfl, rfl, h1, r1⟩ := trodAll_cons r0
  obtain ⟨v2, vs2, d2, ds2, p2, q2, rfl, rfl, rfl, h2, r2⟩ := trodAll_cons r1
  obtain ⟨rfl, rfl, rfl⟩ := trodAll_nil r2
  obtain rfl : args = #[v0, v1, v2] := by cases args; simp_all
  obtain ⟨rfl, rfl⟩ := trodVars_none hV
  have k0 := h0
  have lt0 : ∀ x ∈ p0, x.block < W.heap.size := by obtain ⟨m, hm⟩ := k0; exact DataW.trod_lt m _ _ _ hm
  have k1 := h1
  have lt1 : ∀ x ∈ p1, x.block < W.heap.size := by obtain ⟨m, hm⟩ := k1; exact DataW.trod_lt m _ _ _ hm
  have k2 := h2
  have lt2 : ∀ x ∈ p2, x.block < W.heap.size := by obtain ⟨m, hm⟩ := k2; exact DataW.trod_lt m _ _ _ hm
  obtain ⟨a, rfl, _, _, ha⟩ := open_int Try.underlying3 (hval 0 3 v0 rfl rfl) h0
  have hba := bounds_i64 ha
  obtain ⟨k, rfl, _, _, hk⟩ := open_int Try.underlying3 (hval 1 3 v1 rfl rfl) h1
  have hbk := bounds_i64 hk
  obtain ⟨s, rfl, _, _, hs⟩ := open_string Try.underlying9 (hval 2 9 v2 rfl rfl) h2
  clear hA0 hval0
  refine (walk a k s (by omega) (by omega) W).mono fun e W' ⟨he, bel⟩ => ?_
  subst he
  exact ⟨_, rfl, _, _, _, [], _, [], hW', trodAll_mk1 (shut_bool Try.underlying4 _),
    (trodAll_cons_mk (Below.trod laidOut (by kernel_rfl) (of_decide_eq_true (by kernel_rfl)) k0 bel lt0)
    (trodAll_cons_mk (Below.trod laidOut (by kernel_rfl) (of_decide_eq_true (by kernel_rfl)) k1 bel lt1)
    (trodAll_cons_mk (Below.trod laidOut (by kernel_rfl) (of_decide_eq_true (by kernel_rfl)) k2 bel lt2)
    trodAll_mk0))), rfl, bel.frame _, fun h => by cases h⟩

theorem proved : Rows.NodesBackSaid :=
  OpenClaim.holds_of_wide 3 Try.f3 rfl rfl rfl rfl rfl rfl rfl ⟨rfl, rfl, rfl, rfl, rfl⟩ rfl rfl rfl rfl rfl (by kernel_rfl) Try.func3 (by kernel_rfl)
    (of_decide_eq_true (by kernel_rfl)) (by unfold Func.isWrapper; first | (rw [if_pos (by decide +kernel)]; kernel_rfl) | (rw [if_neg (by decide +kernel)]; exact ⟨rfl, rfl⟩))
    (fun os started H enc _ => lifted os started H enc)
end Go.Proofs.Ytnhfadmnfppnfaa.nodesBack
