/- CheckTells: for every text, every place and every byte CheckTells answers true and leaves its arguments as they were. No condition. -/
import Derived.Test.YtbohejohemegpaaRows
import Derived.Test.YtbohejohemegpaaCheckAw
import Derived.Test.YtbohejohemegpaaWalkU
import Derived.ProofKit
import Derived.OpenShut
import Derived.ShutString
import Derived.ChangeOld
import Derived.Carry
namespace Go.Proofs.Ytbohejohemegpaa.checkTells
open Go.ChangeShapes Go.WideShapes Go.ChangeAt Go.RowKit
open Go.ChangeMaps (open_string shut_string)

theorem own : ownKnob Try.prog.godebug = none := by kernel_rfl
theorem laidOut : laidOutB Try.prog = true := by kernel_rfl

theorem at_in (k : Int) (n : Nat) (h1 : 2 ≤ n) (h2 : n ≤ 300) : ∃ j : Nat, wrap64 ((IntKind.u64.wrap k).tmod ((n : Int) - 1)) = (j : Int) ∧ j + 1 < n := by
  rw [IntKind.wrap_u64]
  have h0 : 0 ≤ k % 18446744073709551616 := by omega
  have ha := Int.tmod_nonneg ((n : Int) - 1) h0
  have hb := Int.tmod_lt_of_pos (k % 18446744073709551616) (show 0 < (n : Int) - 1 by omega)
  rw [IntWalk.wrap64_in _ (by omega)]
  exact ⟨((k % 18446744073709551616).tmod ((n : Int) - 1)).toNat, by omega, by omega⟩

set_option maxRecDepth 100000 in
set_option maxHeartbeats 2000000 in
theorem walk (s : ByteArray) (k : Int) (c : UInt8) (hs : s.size ≤ maxLen) (w : World) :
    Calls Try.prog 4 #[.string s, .int .i64 k, .int .u8 (c.toNat : Int)] w fun e w' => e = .returned (.bool true) ∧ Below w.heap.size w w' := by
  unfold maxLen at hs
  by_cases hlo : s.size < 2
  · have ha6 : decide ((s.size : Int) < 2) = true := decide_eq_true (by omega)
    clear hlo
    go_enter Try.func4, Try.ntmps4
    go_wp2_with fail
    refine (cawake_any _).mono ?_
    rintro e w1 ⟨rfl, h1⟩
    go_wp2_with fail
    go_ret
    exact ⟨rfl, h1⟩
  by_cases hbig2 : 300 < s.size
  · have ha6 : decide ((s.size : Int) < 2) = false := decide_eq_false (by omega)
    have hb6 : decide (300 < (s.size : Int)) = true := decide_eq_true (by omega)
    clear hlo hbig2
    go_enter Try.func4, Try.ntmps4
    go_wp2_with fail
    refine (cawake_any _).mono ?_
    rintro e w1 ⟨rfl, h1⟩
    go_wp2_with fail
    go_ret
    exact ⟨rfl, h1⟩
  have ha6 : decide ((s.size : Int) < 2) = false := decide_eq_false (by omega)
  have hb6 : decide (300 < (s.size : Int)) = false := decide_eq_false (by omega)
  have hs3 : s.size ≤ 300 := by omega
  have hs2 : 2 ≤ s.size := by omega
  have hsm4 : s.size + 4 ≤ maxLen := by unfold maxLen; omega
  obtain ⟨j, hje, hj⟩ := at_in k s.size (by omega) (by omega)
  obtain ⟨y, hy⟩ : ∃ y, str (CheckF.sealL s.data.toList) = y := ⟨_, rfl⟩
  have hyl : y.data.toList = CheckF.sealL s.data.toList := by rw [← hy, str_list]
  have hys : y.size = s.size + 4 := by rw [← size_list, hyl]; unfold CheckF.sealL; rw [List.length_append, CheckF.sealB_length, size_list]
  have hj0 : j < y.data.toList.length := by rw [size_list]; omega
  have hyj : y.data[j] = s.data.toList[j]'(by rw [size_list]; omega) := by
    have e : y.data.toList[j]'hj0 = (CheckF.sealL s.data.toList)[j]'(by rw [← hyl]; exact hj0) := by simp only [hyl]
    have e2 : (CheckF.sealL s.data.toList)[j]'(by rw [← hyl]; exact hj0) = s.data.toList[j]'(by rw [size_list]; omega) := by
      unfold CheckF.sealL; rw [List.getElem_append_left]
    exact e.trans e2
  have hj1 : j + 1 < y.data.toList.length := by rw [size_list]; omega
  have hyj1 : y.data[j + 1] = s.data.toList[j + 1]'(by rw [size_list]; omega) := by
    have e : y.data.toList[j + 1]'hj1 = (CheckF.sealL s.data.toList)[j + 1]'(by rw [← hyl]; exact hj1) := by simp only [hyl]
    have e2 : (CheckF.sealL s.data.toList)[j + 1]'(by rw [← hyl]; exact hj1) = s.data.toList[j + 1]'(by rw [size_list]; omega) := by
      unfold CheckF.sealL; rw [List.getElem_append_left]
    exact e.trans e2
  -- one byte
  have hO1 : openV (y.data.toList.set j c) = .tuple #[.string (str (CheckF.openF (y.data.toList.set j c)).1), .int .i64 (if c = y.data[j] then 0 else 5)] := by
    unfold openV
    have e := CheckF.open_byte s.data.toList j (by rw [size_list]; omega) c
    rw [hyj, hyl, e]
  have hO2 : openV ((y.data.toList.set j y.data[j + 1]).set (j + 1) y.data[j]) = .tuple #[.string (str (CheckF.openF ((y.data.toList.set j y.data[j + 1]).set (j + 1) y.data[j])).1), .int .i64 (if y.data[j] = y.data[j + 1] then 0 else 5)] := by
    unfold openV
    have e := CheckF.open_two s.data.toList j (by rw [size_list]; omega)
    rw [hyj, hyj1, hyl, e]
  have hjs : j + 1 < y.size := by omega
  obtain ⟨b1, hb1⟩ : ∃ b, (((c.toNat : Int)) == (y[j].toNat : Int)) = b := ⟨_, rfl⟩
  obtain ⟨b2, hb2⟩ : ∃ b, (((y[j].toNat : Int)) == (y[j + 1].toNat : Int)) = b := ⟨_, rfl⟩
  have hq2 : (!b1 == b1) = false := by cases b1 <;> rfl
  have hq3 : (b2 == b2) = true := by cases b2 <;> rfl
  have y0 : y[j] = y.data[j] := rfl
  have y1 : y[j + 1] = y.data[j + 1] := rfl
  obtain ⟨e1, he1⟩ : ∃ e, (if c = y.data[j] then (0 : Int) else 5) = e := ⟨_, rfl⟩
  obtain ⟨e2, he2⟩ : ∃ e, (if y.data[j] = y.data[j + 1] then (0 : Int) else 5) = e := ⟨_, rfl⟩
  have hz1 : (e1 == 0) = b1 := by
    rw [← he1, ← hb1, y0]
    by_cases hx : c = y.data[j]
    · rw [if_pos hx, hx]; simp
    · rw [if_neg hx]
      have : ¬ (c.toNat : Int) = (y.data[j].toNat : Int) := fun h => hx (UInt8.toNat_inj.1 (by omega))
      simp [this]
  have hz2 : (e2 == 0) = b2 := by
    rw [← he2, ← hb2, y0, y1]
    by_cases hx : y.data[j] = y.data[j + 1]
    · rw [if_pos hx, hx]; simp
    · rw [if_neg hx]
      have : ¬ (y.data[j].toNat : Int) = (y.data[j + 1].toNat : Int) := fun h => hx (UInt8.toNat_inj.1 (by omega))
      simp [this]
  rw [he1] at hO1
  rw [he2] at hO2
  obtain ⟨l1, hl1⟩ : ∃ l, y.data.toList.set j c = l := ⟨_, rfl⟩
  obtain ⟨l2, hl2⟩ : ∃ l, (y.data.toList.set j y.data[j + 1]).set (j + 1) y.data[j] = l := ⟨_, rfl⟩
  rw [hl1] at hO1
  rw [hl2] at hO2
  generalize str (CheckF.openF l1).1 = r1 at hO1
  generalize str (CheckF.openF l2).1 = r2 at hO2
  have hn1 : l1.length = y.size := by rw [← hl1, List.length_set, size_list]
  have hn2 : l2.length = y.size := by rw [← hl2, List.length_set, List.length_set, size_list]
  have hm1 : (str l1).size ≤ maxLen := by rw [str_size, hn1]; unfold maxLen; omega
  have hm2 : (str l2).size ≤ maxLen := by rw [str_size, hn2]; unfold maxLen; omega
  have HO1 : Hid (openV (str l1).data.toList = .tuple #[.string r1, .int .i64 e1]) := by rw [str_list]; exact hO1
  have HO2 : Hid (openV (str l2).data.toList = .tuple #[.string r2, .int .i64 e2]) := by rw [str_list]; exact hO2
  have hq1 : ((y.size : Int) != (s.size : Int) + 4) = false := by
    have : (y.size : Int) = (s.size : Int) + 4 := by omega
    simp [this]
  have HY := Lib.hid hy
  have HJ := Lib.hid hje
  have HL1 := Lib.hid hl1
  have HL2 := Lib.hid hl2
  have HN1 := Lib.hid hn1
  have HN2 := Lib.hid hn2
  have hys' : y.size ≤ 304 := by omega
  clear y0 y1 hlo hbig2 hy hje hyl hyj hyj1 hO1 hO2 he1 he2 hl1 hl2 hn1 hn2 hys
  go_enter Try.func4, Try.ntmps4
  go_upto_region 3 with fail
  go_cut [1] (fun s1 wx => s1 = .int .i64 (j : Int) ∧ w = wx)
  case first =>
    go_wp2
    go_meet
    exact ⟨congrArg _ HJ.out, rfl⟩
  case rest =>
    obtain ⟨rfl, rfl⟩ := hcut
    go_wp2_with fail
    refine (cseal_is _ hsm4 HY.out).mono ?_
    rintro e w1 ⟨rfl, h1⟩
    go_upto_region 8 with (refine wpList_bytes_of _ rfl _ 9 _ 5 rfl Try.underlying9 Try.underlying32 Try.underlying5 y rfl ?_; intro w2 g cp hw2)
    have hc2 := hw2.cell j hj0
    have hf2 := hw2.thawed j hj0
    have HS := Lib.hid (hw2.set hj0 c)
    have hback := HS.out.back (P := Try.prog) 32 9 5 cp Try.underlying32 Try.underlying5 Try.underlying9
    rw [HL1.out, HN1.out] at hback
    clear hw2
    go_wp2_with fail
    refine (copen_is _ hm1 HO1.out).mono ?_
    rintro e w3 ⟨rfl, h3⟩
    replace h3 := bel_on (bel_on h1 HS.out.below) h3
    clear HS hc2 hf2 hback h1
    go_upto_region 13 with (refine wpList_bytes_of _ rfl _ 9 _ 5 rfl Try.underlying9 Try.underlying32 Try.underlying5 y rfl ?_; intro w4 g cp hw4)
    have hc4 := hw4.cell j hj0
    have hc5 := hw4.cell (j + 1) hj1
    have hf4 := hw4.thawed j hj0
    have hf5 := hw4.thawed (j + 1) hj1
    have hs1 := hw4.set hj0 y.data[j + 1]
    have HS := Lib.hid (hs1.set (by simpa using hj1) y.data[j])
    have hback := HS.out.drew.back (P := Try.prog) 32 9 5 cp Try.underlying32 Try.underlying5 Try.underlying9
    rw [HL2.out, HN2.out] at hback
    clear hw4 hs1
    have i0 : (0 : Int) ≤ (j : Int) := by omega
    have i1 : (j : Int) < (y.size : Int) := by omega
    have i2 : (j : Int) + 1 < (y.size : Int) := by omega
    go_region
    go_wp2_with fail
    refine (copen_is _ hm2 HO2.out).mono ?_
    rintro e w5 ⟨rfl, h5⟩
    replace h5 := bel_on (bel_on h3 HS.out.drew.below) h5
    clear HS hc4 hc5 hf4 hf5 hback h3
    go_wp2_with fail
    have q1 : IntKind.i64.wrap ((j : Int) + 1) = (j : Int) + 1 := IntWalk.i64_in _ (by omega)
    have q2 : (0 : Int) ≤ (j : Int) + 1 := by omega
    have q3 : ((j : Int) + 1).toNat = j + 1 := by omega
    go_region_held3 (fun _ => True) (trivial) ((refine (cawake_any _).mono ?_; rintro e w6 ⟨rfl, h6⟩))
    all_goals
      replace h6 := bel_on h5.drew h6
      try go_wp2_with fail
      go_ret
      exact ⟨rfl, h6⟩


set_option maxRecDepth 100000 in
theorem lifted (os : Os) (started : os.Started) (H : Type) (enc : TypeId × Value → H) :
    ReturnsInHanded {} Try.checked os 4 .any (Rows.checkTellsSpec.pre6 enc Try.prog Try.f4 Rows.checkTellsRow.domain false) (Rows.checkTellsSpec.post enc Try.prog Try.f4 false true false false) := by
  refine returnsInHanded_of_change (C := Try.checked) own started (by kernel_rfl) Try.func4
    (ChangeSpec.witness6 (enc := enc) (C := Try.checked) false ⟨#[], #[.string ByteArray.empty, .int .i64 0, .int .u8 0], []⟩ 8 (by kernel_rfl) (by kernel_rfl) (by kernel_rfl) (by kernel_rfl)) ?_
  intro W base args ds gs before hval0 hW hcnd _
  have hval : ∀ (j : Nat) t v, Try.f4.params[j]? = some t → args[j]? = some v → Value.okWide Try.prog W .any base t v := hval0
  have hW' := hW
  obtain ⟨p, q, hA0, hV, rfl, hfz, hnd⟩ := hW
  have hA : DataW.TrodAll enc Try.prog W 0 (fun _ => true) true Try.f4.params.toList args.toList ds p := hA0
  rw [Try.params4] at hA hval
  obtain ⟨v0, vs0, d0, ds0, p0, q0, hargs, rfl, rfl, h0, r0⟩ := trodAll_cons hA
  obtain ⟨v1, vs1, d1, ds1, p1, q1, rfl, rfl, rfl, h1, r1⟩ := trodAll_cons r0
  obtain ⟨v2, vs2, d2, ds2, p2, q2, rfl, rfl, rfl, h2, r2⟩ := trodAll_cons r1
  obtain ⟨rfl, rfl, rfl⟩ := trodAll_nil r2
  obtain rfl : args = #[v0, v1, v2] := by cases args; simp_all
  obtain ⟨rfl, rfl⟩ := trodVars_none hV
  have k0 := h0
  have lt0 : ∀ x ∈ p0, x.block < W.heap.size := by obtain ⟨m, hm⟩ := k0; exact DataW.trod_lt m _ _ _ hm
  have k1 := h1
  have lt1 : ∀ x ∈ p1, x.block < W.heap.size := by obtain ⟨m, hm⟩ := k1; exact DataW.trod_lt m _ _ _ hm
  have k2 := h2
  have lt2 : ∀ x ∈ p2, x.block < W.heap.size := by obtain ⟨m, hm⟩ := k2; exact DataW.trod_lt m _ _ _ hm
  obtain ⟨s, rfl, _, _, hs⟩ := open_string Try.underlying9 (hval 0 9 v0 rfl rfl) h0
  obtain ⟨k, rfl, _, _, hk⟩ := open_int Try.underlying3 (hval 1 3 v1 rfl rfl) h1
  have hbk := bounds_i64 hk
  obtain ⟨c, rfl, _, _, hc⟩ := open_int Try.underlying5 (hval 2 5 v2 rfl rfl) h2
  obtain ⟨c, rfl⟩ : ∃ u : UInt8, c = (u.toNat : Int) := by
    have hb := bounds_u8 hc
    exact ⟨UInt8.ofNat c.toNat, by simp; omega⟩
  clear hA0 hval0
  refine (walk s k c hs W).mono fun e W' ⟨he, bel⟩ => ?_
  subst he
  exact ⟨_, rfl, _, _, _, [], _, [], hW', trodAll_mk1 (shut_bool Try.underlying4 _),
    (trodAll_cons_mk (Below.trod laidOut (by kernel_rfl) (of_decide_eq_true (by kernel_rfl)) k0 bel lt0)
    (trodAll_cons_mk (Below.trod laidOut (by kernel_rfl) (of_decide_eq_true (by kernel_rfl)) k1 bel lt1)
    (trodAll_cons_mk (Below.trod laidOut (by kernel_rfl) (of_decide_eq_true (by kernel_rfl)) k2 bel lt2)
    trodAll_mk0))), rfl, bel.frame _, fun h => by cases h⟩

theorem proved : Rows.CheckTellsSaid :=
  OpenClaim.holds_of_wide 4 Try.f4 rfl rfl rfl rfl rfl rfl rfl ⟨rfl, rfl, rfl, rfl, rfl⟩ rfl rfl rfl rfl rfl (by kernel_rfl) Try.func4 (by kernel_rfl)
    (of_decide_eq_true (by kernel_rfl)) (by unfold Func.isWrapper; first | (rw [if_pos (by decide +kernel)]; kernel_rfl) | (rw [if_neg (by decide +kernel)]; exact ⟨rfl, rfl⟩))
    (fun os started H enc _ => lifted os started H enc)
end Go.Proofs.Ytbohejohemegpaa.checkTells
