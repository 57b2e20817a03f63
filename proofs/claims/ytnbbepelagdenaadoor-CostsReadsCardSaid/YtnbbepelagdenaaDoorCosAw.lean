/- Contracts of law 14: its own example (awake). -/
import Derived.Test.YtnbbepelagdenaaDoorCosJ
namespace Go.Proofs.YtnbbepelagdenaaDoor
open Go.RowKit Go.Sort CosF
attribute [local go_sem ↓] loadAt_cos loadAt_row storeAt_cos

/-- A link to node 3 that costs 7. -/
def c3 : Pt := (8, [0, 0, 0, 7, 0, 0, 0, 0, 0, 0, 0, 0, 0, 0, 0, 0])
def c1 : Pt := (1, [0, 0, 0, 0, 0, 0, 0, 0, 0, 0, 0, 0, 0, 0, 0, 0])
theorem c3_cos : Cos c3 := ⟨rfl, by decide, by decide, by decide⟩
theorem c1_cos : Cos c1 := ⟨rfl, by decide, by decide, by decide⟩
theorem aw1 : setC none16 3 7 = c3 := by decide +kernel
theorem aw2 : setE 3 7 = 0 := by decide +kernel
theorem aw3 : setC c3 3 0 = c3 := by decide +kernel
theorem aw4 : setE 3 0 = 1 := by decide +kernel
theorem aw5 : setC c3 16 1 = c3 := by decide +kernel
theorem aw6 : setE 16 1 = 1 := by decide +kernel
theorem aw7 : ofC c3 3 = 7 := by decide +kernel
theorem aw8 : ofC c3 2 = 4294967295 := by decide +kernel
theorem aw9 : cutC c3 3 = none16 := by decide +kernel
theorem aw10 : (upC c3).length = 1 := by decide +kernel
theorem aw11 : soundF c3 = true := by decide +kernel
theorem aw12 : soundF c1 = false := by decide +kernel
theorem aw13 : upC c3 = [3] := by decide +kernel
theorem aw14 : str (textC c3) = ⟨#[100, 55, 32]⟩ := by
  have h : Lib.decDigits 7 = [55] := Lib.decDigits_one (i := 7) (by decide)
  rw [textC, aw13]
  simp only [textF, pieceF]
  rw [show ((3 : Nat) : Int) = 3 from rfl, aw7, h]
  rfl

set_option maxHeartbeats 1000000 in
set_option maxRecDepth 100000 in
theorem awake_any (w : World) : Calls Tryd.prog 18 #[] w fun e w' => e = .returned (.bool true) ∧ Below w.heap.size w w' := by
  have C3 := Lib.hid c3_cos
  have S1 : Hid (∀ w, Calls Tryd.prog 6 #[.agg #[.int .i64 0, .int .u32 0, .int .u32 0, .int .u32 0, .int .u32 0, .int .u32 0, .int .u32 0, .int .u32 0, .int .u32 0, .int .u32 0, .int .u32 0, .int .u32 0, .int .u32 0, .int .u32 0, .int .u32 0, .int .u32 0, .int .u32 0], .int .i64 3, .int .u32 7] w fun e w' => e = .returned (.tuple #[.agg (cosP c3).toArray, .int .i64 0]) ∧ Below w.heap.size w w') := Lib.hid (fun w => by
    have h := cset_any none16 3 7 Cos.zero w
    rw [aw1, aw2] at h
    exact h)
  have S2 : Hid (∀ w, Calls Tryd.prog 6 #[.agg (cosP c3).toArray, .int .i64 3, .int .u32 0] w fun e w' => e = .returned (.tuple #[.agg (cosP c3).toArray, .int .i64 1]) ∧ Below w.heap.size w w') := Lib.hid (fun w => by
    have h := cset_any c3 3 0 c3_cos w
    rw [aw3, aw4] at h
    exact h)
  have S3 : Hid (∀ w, Calls Tryd.prog 6 #[.agg (cosP c3).toArray, .int .i64 16, .int .u32 1] w fun e w' => e = .returned (.tuple #[.agg (cosP c3).toArray, .int .i64 1]) ∧ Below w.heap.size w w') := Lib.hid (fun w => by
    have h := cset_any c3 16 1 c3_cos w
    rw [aw5, aw6] at h
    exact h)
  have O3 : Hid (∀ w, Calls Tryd.prog 12 #[.agg (cosP c3).toArray, .int .i64 3] w fun e w' => e = .returned (.int .u32 7) ∧ Below w.heap.size w w') := Lib.hid (fun w => by
    have h := cof_any c3 3 c3_cos w
    rw [aw7] at h
    exact h)
  have O2 : Hid (∀ w, Calls Tryd.prog 12 #[.agg (cosP c3).toArray, .int .i64 2] w fun e w' => e = .returned (.int .u32 4294967295) ∧ Below w.heap.size w w') := Lib.hid (fun w => by
    have h := cof_any c3 2 c3_cos w
    rw [aw8] at h
    exact h)
  have CU : Hid (∀ w, Calls Tryd.prog 10 #[.agg (cosP c3).toArray, .int .i64 3] w fun e w' => e = .returned (.agg (cosP none16).toArray) ∧ Below w.heap.size w w') := Lib.hid (fun w => by
    have h := ccut_any c3 3 c3_cos w
    rw [aw9] at h
    exact h)
  have hce : ∀ w, (binOp .eql 25 (.agg (cosP none16).toArray) (.agg #[.int .i64 0, .int .u32 0, .int .u32 0, .int .u32 0, .int .u32 0, .int .u32 0, .int .u32 0, .int .u32 0, .int .u32 0, .int .u32 0, .int .u32 0, .int .u32 0, .int .u32 0, .int .u32 0, .int .u32 0, .int .u32 0, .int .u32 0])).run Tryd.prog w = .ok (.bool true) w := fun w => by
    have h := cos_eql none16 none16 w rfl rfl
    rw [decide_eq_true rfl] at h
    exact h
  have UP := Lib.hid (fun w => cup_any c3 w)
  have LU := Lib.hid aw10
  have SO : Hid (∀ w, Calls Tryd.prog 14 #[.agg (cosP c3).toArray] w fun e w' => e = .returned (.bool true) ∧ Below w.heap.size w w') := Lib.hid (fun w => by
    have h := csound_any c3 c3_cos w
    rw [aw11] at h
    exact h)
  have SN : Hid (∀ w, Calls Tryd.prog 14 #[.agg #[.int .i64 1, .int .u32 0, .int .u32 0, .int .u32 0, .int .u32 0, .int .u32 0, .int .u32 0, .int .u32 0, .int .u32 0, .int .u32 0, .int .u32 0, .int .u32 0, .int .u32 0, .int .u32 0, .int .u32 0, .int .u32 0, .int .u32 0]] w fun e w' => e = .returned (.bool false) ∧ Below w.heap.size w w') := Lib.hid (fun w => by
    have h := csound_any c1 c1_cos w
    rw [aw12] at h
    exact h)
  have TX : Hid (∀ w, Calls Tryd.prog 16 #[.agg (cosP c3).toArray] w fun e w' => e = .returned (.string ⟨#[100, 55, 32]⟩) ∧ Below w.heap.size w w') := Lib.hid (fun w => by
    have h := ctext_any c3 c3_cos w (fun n hn h100 => by
      rw [aw13] at hn
      obtain rfl : n = 3 := by simpa using hn
      rw [show ((3 : Nat) : Int) = 3 from rfl, aw7] at h100
      omega)
    rw [aw14] at h
    exact h)
  go_enter Tryd.func18, Tryd.ntmps18
  go_wp2_with fail
  refine (S1.out _).mono ?_
  rintro e w1 ⟨rfl, hb⟩
  have HB := Lib.hid hb
  clear hb
  have hst := new_store (w := w1) rfl C3.out
  go_upto_region 2 with fail
  clear hst
  have k0 := Blk.new w1 (cosP c3) 25
  have h0 := HB.out.alloc HB.out.size (.cells (cosP c3).toArray 25)
  obtain ⟨w1a, hwa⟩ : ∃ v, w1.alloc (.cells (cosP c3).toArray 25) = v := ⟨_, rfl⟩
  rw [hwa] at k0 h0 ⊢
  obtain ⟨b, hbn⟩ : ∃ b, w1.heap.size = b := ⟨_, rfl⟩
  rw [hbn] at k0 ⊢
  clear hbn
  clear hwa HB
  have K := Lib.hid k0
  have HB := Lib.hid h0
  clear k0 h0
  have hl := cos_load K.out C3.out
  go_wp2_with fail
  refine (S2.out _).mono ?_
  rintro e w2 ⟨rfl, hb⟩
  clear hl
  have K' := Lib.hid (K.out.on hb)
  have HB' := Lib.hid (bel_on HB.out hb)
  clear K HB hb
  have K := K'
  have HB := HB'
  clear K' HB'
  have hst := new_store (w := w2) rfl C3.out
  go_upto_region 3 with fail
  clear hst
  have k0 := K.out.next (.cells (cosP c3).toArray 25)
  have h0 := HB.out.alloc HB.out.size (.cells (cosP c3).toArray 25)
  obtain ⟨w2a, hwa⟩ : ∃ v, w2.alloc (.cells (cosP c3).toArray 25) = v := ⟨_, rfl⟩
  rw [hwa] at k0 h0 ⊢
  clear hwa K HB
  have K := Lib.hid k0
  have HB := Lib.hid h0
  clear k0 h0
  have hl := cos_load K.out C3.out
  go_wp2_with fail
  refine (S3.out _).mono ?_
  rintro e w3 ⟨rfl, hb⟩
  clear hl
  have K' := Lib.hid (K.out.on hb)
  have HB' := Lib.hid (bel_on HB.out hb)
  clear K HB hb
  have K := K'
  have HB := HB'
  clear K' HB'
  have hst := new_store (w := w3) rfl C3.out
  go_upto_region 4 with fail
  clear hst
  have k0 := K.out.next (.cells (cosP c3).toArray 25)
  have h0 := HB.out.alloc HB.out.size (.cells (cosP c3).toArray 25)
  obtain ⟨w3a, hwa⟩ : ∃ v, w3.alloc (.cells (cosP c3).toArray 25) = v := ⟨_, rfl⟩
  rw [hwa] at k0 h0 ⊢
  clear hwa K HB
  have K := Lib.hid k0
  have HB := Lib.hid h0
  clear k0 h0
  have hl := cos_load K.out C3.out
  go_wp2_with fail
  refine (O3.out _).mono ?_
  rintro e w4 ⟨rfl, hb⟩
  clear hl
  have K' := Lib.hid (K.out.on hb)
  have HB' := Lib.hid (bel_on HB.out hb)
  clear K HB hb
  have K := K'
  have HB := HB'
  clear K' HB'
  have hl := cos_load K.out C3.out
  go_wp2_with fail
  refine (O2.out _).mono ?_
  rintro e w5 ⟨rfl, hb⟩
  clear hl
  have K' := Lib.hid (K.out.on hb)
  have HB' := Lib.hid (bel_on HB.out hb)
  clear K HB hb
  have K := K'
  have HB := HB'
  clear K' HB'
  have hl := cos_load K.out C3.out
  go_wp2_with fail
  refine (CU.out _).mono ?_
  rintro e w6 ⟨rfl, hb⟩
  clear hl
  have K' := Lib.hid (K.out.on hb)
  have HB' := Lib.hid (bel_on HB.out hb)
  clear K HB hb
  have K := K'
  have HB := HB'
  clear K' HB'
  have hl := cos_load K.out C3.out
  go_wp2_with fail
  refine (UP.out _).mono ?_
  rintro e w7 hown
  obtain ⟨ua, uc, rfl, _, hb⟩ := nats_slice hown
  rw [LU.out]
  clear hl hown
  have K' := Lib.hid (K.out.on hb)
  have HB' := Lib.hid (bel_on HB.out hb)
  clear K HB hb
  have K := K'
  have HB := HB'
  clear K' HB'
  have hl := cos_load K.out C3.out
  go_wp2_with fail
  refine (SO.out _).mono ?_
  rintro e w8 ⟨rfl, hb⟩
  clear hl
  have K' := Lib.hid (K.out.on hb)
  have HB' := Lib.hid (bel_on HB.out hb)
  clear K HB hb
  have K := K'
  have HB := HB'
  clear K' HB'
  go_wp2_with fail
  refine (SN.out _).mono ?_
  rintro e w9 ⟨rfl, hb⟩
  have K' := Lib.hid (K.out.on hb)
  have HB' := Lib.hid (bel_on HB.out hb)
  clear K HB hb
  have K := K'
  have HB := HB'
  clear K' HB'
  have hl := cos_load K.out C3.out
  go_wp2_with fail
  refine (TX.out _).mono ?_
  rintro e w10 ⟨rfl, hb⟩
  clear hl
  have K' := Lib.hid (K.out.on hb)
  have HB' := Lib.hid (bel_on HB.out hb)
  clear K HB hb
  have K := K'
  have HB := HB'
  clear K' HB'
  go_wp2_with fail
  go_ret
  exact ⟨rfl, HB.out⟩
end Go.Proofs.YtnbbepelagdenaaDoor
