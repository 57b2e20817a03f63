/- ParcelCuts: for every parcel, text and slice of parcels ParcelCuts answers true and leaves its arguments as they were. No condition. -/
import Derived.Test.YtdpcpjloacifpaaRows
import Derived.Test.YtdpcpjloacifpaaParcN
import Derived.Test.YtdpcpjloacifpaaParcsOpen
import Derived.ProofKit
import Derived.OpenShut
import Derived.ShutString
import Derived.ChangeOld
import Derived.Carry
namespace Go.Proofs.Ytdpcpjloacifpaa.parcelCuts
open Go.Sort Go.ChangeShapes Go.WideShapes Go.ChangeAt Go.RowKit
open Go.ChangeMaps (open_string shut_string)

theorem own : ownKnob Try.prog.godebug = none := by kernel_rfl
theorem laidOut : laidOutB Try.prog = true := by kernel_rfl

set_option maxRecDepth 100000 in
set_option maxHeartbeats 4000000 in
theorem walk (p : Par) (z : ByteArray) (a : Option Addr) (c : Nat) (L : List Par) (hlc : L.length ≤ c) (hc : c ≤ maxLen) (h0 : a = none → c = 0) (w : World) (hL : ParAt w a L) :
    Calls Try.prog 4 #[(.agg #[.int .i64 p.f, .int .u32 p.a, .int .u32 p.b, .int .u32 p.c, .int .u32 p.d, .int .i64 p.s, .int .i64 p.e, .int .i64 p.t, .string p.x] : Value), .string z, .slice a L.length c] w fun e w' => e = .returned (.bool true) ∧ Below w.heap.size w w' := by
  have HB : Hid (Below w.heap.size w (w.alloc (.cells #[.int .i64 p.f, .int .u32 p.a, .int .u32 p.b, .int .u32 p.c, .int .u32 p.d, .int .i64 p.s, .int .i64 p.e, .int .i64 p.t, .string p.x] 28))) := Lib.hid ((Below.refl _ _).alloc (Nat.le_refl _) _)
  have AW := Lib.hid pawake_any
  obtain ⟨n, hn⟩ : ∃ n, L.length = n := ⟨_, rfl⟩
  rw [hn] at hlc ⊢
  have HLC := Lib.hid hlc
  have HC := Lib.hid hc
  have H0 := Lib.hid h0
  have HN := Lib.hid hn
  have LL := Lib.hid hL
  clear hlc hc h0 hn hL
  by_cases hb1 : 5000 < z.size
  · have g1 : decide ((5000 : Int) < (z.size : Int)) = true := decide_eq_true (by omega)
    clear hb1
    go_enter Try.func4, Try.ntmps4
    go_wp2_with fail
    refine (AW.out _).mono ?_
    rintro e w1 ⟨rfl, hb⟩
    go_wp2_with fail
    go_ret
    exact ⟨rfl, bel_on HB.out hb⟩
  have g1 : decide ((5000 : Int) < (z.size : Int)) = false := decide_eq_false (by omega)
  by_cases hb2 : 500 < p.x.size
  · have g2 : decide ((500 : Int) < (p.x.size : Int)) = true := decide_eq_true (by omega)
    clear hb1 hb2
    go_enter Try.func4, Try.ntmps4
    go_wp2_with fail
    refine (AW.out _).mono ?_
    rintro e w1 ⟨rfl, hb⟩
    go_wp2_with fail
    go_ret
    exact ⟨rfl, bel_on HB.out hb⟩
  have g2 : decide ((500 : Int) < (p.x.size : Int)) = false := decide_eq_false (by omega)
  by_cases hb3 : 80 < n
  · have g3 : decide ((80 : Int) < (n : Int)) = true := decide_eq_true (by omega)
    clear hb1 hb2 hb3
    go_enter Try.func4, Try.ntmps4
    go_wp2_with fail
    refine (AW.out _).mono ?_
    rintro e w1 ⟨rfl, hb⟩
    go_wp2_with fail
    go_ret
    exact ⟨rfl, bel_on HB.out hb⟩
  have g3 : decide ((80 : Int) < (n : Int)) = false := decide_eq_false (by omega)
  have CU := Lib.hid (fun w => cut_any p z w (by omega))
  have RC := Lib.hid (fun w => rcut_any p z w (by omega))
  have HZ : Hid (z.size ≤ 5000) := Lib.hid (by omega)
  have HN80 : Hid (n ≤ 80) := Lib.hid (by omega)
  clear hb1 hb2 hb3
  go_enter Try.func4, Try.ntmps4
  go_upto_region 4 with fail
  clear g1 g2 g3
  go_loopw [30] (fun v wr => ∃ i : Nat, i ≤ n ∧ v = .int .i64 (i : Int) ∧ Below w.heap.size w wr ∧ Blk wr w.heap.size [.int .i64 p.f, .int .u32 p.a, .int .u32 p.b, .int .u32 p.c, .int .u32 p.d, .int .i64 p.s, .int .i64 p.e, .int .i64 p.t, .string p.x] ∧ (∀ k q, k < i → L[k]? = some q → q.x.size ≤ 500)) (fun v _ => (n - intOf v).toNat)
  case atStart => exact ⟨0, by omega, rfl, HB.out, Blk.new w [.int .i64 p.f, .int .u32 p.a, .int .u32 p.b, .int .u32 p.c, .int .u32 p.d, .int .i64 p.s, .int .i64 p.e, .int .i64 p.t, .string p.x] 28, fun k q hk => absurd hk (Nat.not_lt_zero _)⟩
  case round =>
    obtain ⟨i, hi, rfl, hbel, hblk, hall⟩ := hrel
    have HH := Lib.hid hbel
    have HK := Lib.hid hblk
    have HA := Lib.hid hall
    clear hbel hblk hall
    by_cases him : i < n
    · obtain ⟨q, hq⟩ : ∃ q, L[i]? = some q := ⟨_, List.getElem?_eq_getElem (by have := HN.out; omega)⟩
      obtain ⟨b, rfl, hf⟩ := LL.out.on HH.out i q hq
      obtain ⟨y, hy⟩ : ∃ y, b.add (i * 9) = y := ⟨_, rfl⟩
      rw [hy] at hf
      have c0 := hf 0 _ rfl
      rw [add_zero] at c0
      have c1 := hf 1 _ rfl
      rw [add_succ] at c1
      have c2 := hf 2 _ rfl
      rw [add_succ] at c2
      have c3 := hf 3 _ rfl
      rw [add_succ] at c3
      have c4 := hf 4 _ rfl
      rw [add_succ] at c4
      have c5 := hf 5 _ rfl
      rw [add_succ] at c5
      have c6 := hf 6 _ rfl
      rw [add_succ] at c6
      have c7 := hf 7 _ rfl
      rw [add_succ] at c7
      have c8 := hf 8 _ rfl
      rw [add_succ] at c8
      clear hf
      have him' : (i : Int) < (n : Int) := by omega
      have e1 : wrap64 ((i : Int) + 1) = (i : Int) + 1 := IntWalk.wrap64_in _ (by have := HN80.out; omega)
      have HI : Hid (i < n) := Lib.hid him
      have HQ := Lib.hid hq
      by_cases hbq : 500 < q.x.size
      · have gq : decide ((500 : Int) < (q.x.size : Int)) = true := decide_eq_true (by omega)
        have HX := Lib.hid (HH.out.alloc HH.out.size (.cells #[.int .i64 q.f, .int .u32 q.a, .int .u32 q.b, .int .u32 q.c, .int .u32 q.d, .int .i64 q.s, .int .i64 q.e, .int .i64 q.t, .string q.x] 28))
        clear hq him hi hbq e1
        go_wp2_with fail
        refine (AW.out _).mono ?_
        rintro e w1 ⟨rfl, hb⟩
        go_wp2_with fail
        go_ret
        exact ⟨rfl, bel_on HX.out hb⟩
      · have gq : decide ((500 : Int) < (q.x.size : Int)) = false := decide_eq_false (by omega)
        have HX : Hid (∀ k r, k < i + 1 → L[k]? = some r → r.x.size ≤ 500) := Lib.hid (fun k r hk hr => by
          by_cases hki : k < i
          · exact HA.out k r hki hr
          · obtain rfl : k = i := by omega
            rw [hq] at hr
            obtain rfl := Option.some.inj hr
            omega)
        clear hq him hi hbq
        go_wp2_with fail
        go_roundw
        case rel => exact ⟨i + 1, HI.out, by go_num, HH.out.alloc HH.out.size _, HK.out.next _, HX.out⟩
        case measure => exact meas_up n i HI.out _ e1
    · obtain rfl : i = n := by omega
      have HX : Hid (∀ q ∈ L, q.x.size ≤ 4096) := Lib.hid (fun q hq => by
        obtain ⟨k, hk⟩ := List.mem_iff_getElem?.1 hq
        have hkl := (List.getElem?_eq_some_iff.1 hk).1
        have := HA.out k q (by have := HN.out; omega) hk
        omega)
      clear HA hi him
      have c0 := HK.out.cell 0 rfl
      have c1 := HK.out.cell 1 rfl
      have c2 := HK.out.cell 2 rfl
      have c3 := HK.out.cell 3 rfl
      have c4 := HK.out.cell 4 rfl
      have c5 := HK.out.cell 5 rfl
      have c6 := HK.out.cell 6 rfl
      have c7 := HK.out.cell 7 rfl
      have c8 := HK.out.cell 8 rfl
      go_upto_region 9 with fail
      go_region_held3 (fun w' => w'.cell? ⟨w.heap.size, 0, none⟩ = some (.int .i64 p.f) ∧ w'.cell? ⟨w.heap.size, 1, none⟩ = some (.int .u32 p.a) ∧ w'.cell? ⟨w.heap.size, 2, none⟩ = some (.int .u32 p.b) ∧ w'.cell? ⟨w.heap.size, 3, none⟩ = some (.int .u32 p.c) ∧ w'.cell? ⟨w.heap.size, 4, none⟩ = some (.int .u32 p.d) ∧ w'.cell? ⟨w.heap.size, 5, none⟩ = some (.int .i64 p.s) ∧ w'.cell? ⟨w.heap.size, 6, none⟩ = some (.int .i64 p.e) ∧ w'.cell? ⟨w.heap.size, 7, none⟩ = some (.int .i64 p.t) ∧ w'.cell? ⟨w.heap.size, 8, none⟩ = some (.string p.x) ∧ Below wr.heap.size wr w')
        (first | (refine ⟨?_, ?_, ?_, ?_, ?_, ?_, ?_, ?_, ?_, ?_⟩ <;> (first | assumption | exact Below.refl _ _ | exact (Below.refl _ _).drew | exact q4 | exact q3 | exact cell_later (w := wr) q4 (by assumption) | exact cell_later (w := wr) q3 (by assumption) | go_keep)) | (first | assumption | exact Below.refl _ _ | exact (Below.refl _ _).drew | exact q4 | exact q3 | exact cell_later (w := wr) q4 (by assumption) | exact cell_later (w := wr) q3 (by assumption) | go_keep))
        (first | (go_at_call 9; refine (CU.out _).mono ?_; rintro e w3 ⟨v, rfl, hown3, hb3⟩; rw [cutP_length] at hown3; obtain ⟨la, lc, rfl⟩ := row_slice hown3; have q3 : Below wr.heap.size wr w3 := bel_on ((Below.refl _ _).drew) hb3; clear hb3) | (go_at_call 10; refine (RC.out _).mono ?_; rintro e w4 ⟨v, rfl, hown4, hb4⟩; rw [cutP_length] at hown4; obtain ⟨ma, mc, rfl⟩ := row_slice hown4; have q4 : Below wr.heap.size wr w4 := bel_on q3 hb4; have hown5 := row_below hown3 hb4; clear hb4))
      obtain ⟨m, hm⟩ : ∃ m, cutN z.size = m := ⟨_, rfl⟩
      rw [hm] at hown3 hown4 hown5 ⊢
      have HM := Lib.hid hm
      have IA := Lib.hid (ParAt.own hown5 (cutP_length _ _ _))
      have IB := Lib.hid (ParAt.own hown4 (cutP_length _ _ _))
      have CAP := Lib.hid (row_caps hown5)
      have H4 := Lib.hid (bel_on HH.out q4)
      have K4 := Lib.hid (HK.out.on q4)
      have L4 := Lib.hid (LL.out.on H4.out)
      obtain ⟨J, hJ⟩ : ∃ J, str (joinL (L.take 64) p.s) = J := ⟨_, rfl⟩
      have JA : Hid (From w4 Try.prog 11 #[.slice a i c, .int .i64 p.s] (.string J)) := Lib.hid (fun w' hb => by rw [← hJ]; exact join_any a c i L p.s w' (L4.out.on hb) HN.out HX.out HLC.out HC.out H0.out)
      have JB : Hid (From w4 Try.prog 12 #[.slice a i c, .int .i64 p.s] (.string J)) := Lib.hid (fun w' hb => by rw [← hJ]; exact rjoin_any a c i L p.s w' (L4.out.on hb) HN.out HX.out (by have := HN80.out; omega))
      clear hJ hm hown3 hown4 hown5 q4 q3 HH HK L4 HX CU RC c0 c1 c2 c3 c4 c5 c6 c7 c8
      have hm5 : m ≤ 64 := by have := HM.out; unfold cutN at this; omega
      go_upto_region 10 with fail
      have c5 := cell_regrown (K4.out.cell 5 rfl)
      refine wp_region_quiet_below (by kernel_rfl) (by kernel_rfl) ?_
      repeat (first | go_big_quiet_step (first | with_reducible exact JA.out.at _ _ | with_reducible exact JB.out.at _ _) | quiet_step (first | with_reducible exact JA.out.at _ _ | with_reducible exact JB.out.at _ _))
      refine wpQuiet_nil ?_
      intro _ hw'
      obtain ⟨⟨dq, osq⟩, hw''⟩ := hw'
      subst hw''
      obtain ⟨w5, hw5⟩ : ∃ w5, Go.Sort.grow (redrawn w4 dq) osq = w5 := ⟨_, rfl⟩
      have q5 : Below w4.heap.size w4 w5 := by rw [← hw5]; exact below_regrown _ dq osq
      rw [hw5]
      have H5 := Lib.hid (bel_on H4.out q5)
      have K5 := Lib.hid (K4.out.on q5)
      have IA5 := Lib.hid (IA.out.on q5)
      have IB5 := Lib.hid (IB.out.on q5)
      clear hw5 q5 H4 K4 IA IB JA JB c5
      go_upto_region 13 with fail
      go_loopw [64] (fun v wq => ∃ j : Nat, j ≤ m ∧ v = .int .i64 (j : Int) ∧ Below w5.heap.size w5 wq) (fun v _ => (m - intOf v).toNat)
      case atStart => exact ⟨0, by omega, rfl, Below.refl _ _⟩
      case round =>
        obtain ⟨j, hj, rfl, hbq⟩ := hrel
        have HQ := Lib.hid hbq
        clear hbq
        by_cases hjm : j < m
        · obtain ⟨q, hq⟩ : ∃ q, (cutP p z.data.toList m)[j]? = some q := ⟨_, cutP_at hjm⟩
          obtain ⟨hqs, hqe, hq64, hq0⟩ := cut_fits hq (by rw [size_list, HM.out]; exact Nat.le_refl _)
          obtain ⟨b1, rfl, f1⟩ := IA5.out.on HQ.out j q hq
          obtain ⟨b2, rfl, f2⟩ := IB5.out.on HQ.out j q hq
          obtain ⟨y1, hy1⟩ : ∃ y, b1.add (j * 9) = y := ⟨_, rfl⟩
          obtain ⟨y2, hy2⟩ : ∃ y, b2.add (j * 9) = y := ⟨_, rfl⟩
          rw [hy1] at f1
          rw [hy2] at f2
          have u0 := f1 0 _ rfl
          rw [add_zero] at u0
          replace u0 := cell_regrown u0
          have u1 := f1 1 _ rfl
          rw [add_succ] at u1
          replace u1 := cell_regrown u1
          have u2 := f1 2 _ rfl
          rw [add_succ] at u2
          replace u2 := cell_regrown u2
          have u3 := f1 3 _ rfl
          rw [add_succ] at u3
          replace u3 := cell_regrown u3
          have u4 := f1 4 _ rfl
          rw [add_succ] at u4
          replace u4 := cell_regrown u4
          have u5 := f1 5 _ rfl
          rw [add_succ] at u5
          replace u5 := cell_regrown u5
          have u6 := f1 6 _ rfl
          rw [add_succ] at u6
          replace u6 := cell_regrown u6
          have u7 := f1 7 _ rfl
          rw [add_succ] at u7
          replace u7 := cell_regrown u7
          have u8 := f1 8 _ rfl
          rw [add_succ] at u8
          replace u8 := cell_regrown u8
          have v0 := f2 0 _ rfl
          rw [add_zero] at v0
          replace v0 := cell_regrown v0
          have v1 := f2 1 _ rfl
          rw [add_succ] at v1
          replace v1 := cell_regrown v1
          have v2 := f2 2 _ rfl
          rw [add_succ] at v2
          replace v2 := cell_regrown v2
          have v3 := f2 3 _ rfl
          rw [add_succ] at v3
          replace v3 := cell_regrown v3
          have v4 := f2 4 _ rfl
          rw [add_succ] at v4
          replace v4 := cell_regrown v4
          have v5 := f2 5 _ rfl
          rw [add_succ] at v5
          replace v5 := cell_regrown v5
          have v6 := f2 6 _ rfl
          rw [add_succ] at v6
          replace v6 := cell_regrown v6
          have v7 := f2 7 _ rfl
          rw [add_succ] at v7
          replace v7 := cell_regrown v7
          have v8 := f2 8 _ rfl
          rw [add_succ] at v8
          replace v8 := cell_regrown v8
          clear f1 f2
          have k6 := K5.out.on HQ.out
          have c5 := cell_regrown (k6.cell 5 rfl)
          have c6 := cell_regrown (k6.cell 6 rfl)
          clear k6
          have NE : ∀ w, (binOp .neq 28 (.agg #[.int .i64 q.f, .int .u32 q.a, .int .u32 q.b, .int .u32 q.c, .int .u32 q.d, .int .i64 q.s, .int .i64 q.e, .int .i64 q.t, .string q.x] : Value) (.agg #[.int .i64 q.f, .int .u32 q.a, .int .u32 q.b, .int .u32 q.c, .int .u32 q.d, .int .i64 q.s, .int .i64 q.e, .int .i64 q.t, .string q.x] : Value)).run Try.prog w = .ok (.bool false) w := fun w => by rw [run_parcel_ne, sameP_refl]; rfl
          have d1 : decide ((64 : Int) < (q.x.size : Int)) = false := decide_eq_false (by omega)
          have d2 : ((q.x.size : Int) == 0) = false := by rw [beq_eq_false_iff_ne]; omega
          have d3 : (q.s != p.s) = false := by simp [hqs]
          have d4 : (q.e != p.e) = false := by simp [hqe]
          have i0 : (0 : Int) ≤ (j : Int) := by omega
          have i1 : (j : Int) < (m : Int) := by omega
          have e1 : wrap64 ((j : Int) + 1) = (j : Int) + 1 := IntWalk.wrap64_in _ (by omega)
          have HI : Hid (j < m) := Lib.hid hjm
          clear hq hqs hqe hq64 hq0 hjm hj
          go_upto_region 15 with fail
          refine wp_region_quiet_below (by kernel_rfl) (by kernel_rfl) ?_
          repeat (first | go_big_quiet_step (fail) | quiet_step (fail))
          refine wpQuiet_nil ?_
          intro _ hw'
          obtain ⟨⟨dq, osq⟩, hw''⟩ := hw'
          subst hw''
          go_wp2_with fail
          go_roundw
          case rel => exact ⟨j + 1, HI.out, by go_num, bel_on HQ.out (below_regrown _ dq osq)⟩
          case measure => exact meas_up m j HI.out _ rfl
        · obtain rfl : j = m := by omega
          obtain ⟨k, hk⟩ : ∃ k, min z.size 4096 = k := ⟨_, rfl⟩
          have hk' : min (z.size : Int) 4096 = (k : Int) := by omega
          have hkz : (k : Int) ≤ (z.size : Int) := by omega
          have HE : str (joinL ((cutP p z.data.toList j).take 64) p.s) = z.extract 0 k := by
            rw [List.take_of_length_le (by rw [cutP_length]; exact hm5), join_cut, ← HM.out]
            have e1 := take_cut z.data.toList
            rw [size_list] at e1
            rw [e1, hk, str_take]
          have JC := Lib.hid (fun wq (h : ParAt wq la (cutP p z.data.toList j)) => join_any la lc j (cutP p z.data.toList j) p.s wq h (cutP_length _ _ _) (fun q hq => by
              obtain ⟨i, hi⟩ := List.mem_iff_getElem?.1 hq
              have := (cut_fits hi (by rw [size_list, HM.out]; exact Nat.le_refl _)).2.2.1
              omega) CAP.out.1 CAP.out.2.1 CAP.out.2.2)
          rw [HE] at JC
          have zz : ((z.extract 0 k).toList == (z.extract 0 k).toList) = true := by simp
          have k6 := K5.out.on HQ.out
          have c5 := k6.cell 5 rfl
          clear k6 hk hm5 hj HE hjm
          go_wp2_with fail
          refine (JC.out _ (IA5.out.on HQ.out)).mono ?_
          rintro e w6 ⟨rfl, h6⟩
          have H6 := Lib.hid (bel_on (bel_on H5.out HQ.out) h6)
          clear h6 c5
          go_wp2_with fail
          refine (AW.out _).mono ?_
          rintro e w7 ⟨rfl, h7⟩
          go_wp2_with fail
          go_ret
          exact ⟨rfl, bel_on H6.out h7⟩


set_option maxRecDepth 100000 in
theorem lifted (os : Os) (started : os.Started) (H : Type) (enc : TypeId × Value → H) :
    ReturnsInHanded {} Try.checked os 4 .any (Rows.parcelCutsSpec.pre6 enc Try.prog Try.f4 Rows.parcelCutsRow.domain false) (Rows.parcelCutsSpec.post enc Try.prog Try.f4 false true false false) := by
  refine returnsInHanded_of_change (C := Try.checked) own started (by kernel_rfl) Try.func4
    (ChangeSpec.witness6 (enc := enc) (C := Try.checked) false ⟨#[], #[.agg #[.int .i64 0, .int .u32 0, .int .u32 0, .int .u32 0, .int .u32 0, .int .i64 0, .int .i64 0, .int .i64 0, .string ByteArray.empty], .string ByteArray.empty, .slice none 0 0], []⟩ 8 (by kernel_rfl) (by kernel_rfl) (by kernel_rfl) (by kernel_rfl)) ?_
  intro W base args ds gs before hval0 hW hcnd _
  have hval : ∀ (j : Nat) t v, Try.f4.params[j]? = some t → args[j]? = some v → Value.okWide Try.prog W .any base t v := hval0
  have hW' := hW
  obtain ⟨p, q, hA0, hV, rfl, hfz, hnd⟩ := hW
  have hA : DataW.TrodAll enc Try.prog W 0 (fun _ => true) true Try.f4.params.toList args.toList ds p := hA0
  rw [Try.params4] at hA hval
  obtain ⟨v0, vs0, d0, ds0, p0, q0, hargs, rfl, rfl, h0, r0⟩ := trodAll_cons hA
  obtain ⟨v1, vs1, d1, ds1, p1, q1, rfl, rfl, rfl, h1, r1⟩ := trodAll_cons r0
  obtain ⟨v2, vs2, d2, ds2, p2, q2, rfl, rfl, rfl, h2, r2⟩ := trodAll_cons r1
  obtain ⟨rfl, rfl, rfl⟩ := trodAll_nil r2
  obtain rfl : args = #[v0, v1, v2] := by cases args; simp_all
  obtain ⟨rfl, rfl⟩ := trodVars_none hV
  have k0 := h0
  have lt0 : ∀ x ∈ p0, x.block < W.heap.size := by obtain ⟨m, hm⟩ := k0; exact DataW.trod_lt m _ _ _ hm
  have k1 := h1
  have lt1 : ∀ x ∈ p1, x.block < W.heap.size := by obtain ⟨m, hm⟩ := k1; exact DataW.trod_lt m _ _ _ hm
  have k2 := h2
  have lt2 : ∀ x ∈ p2, x.block < W.heap.size := by obtain ⟨m, hm⟩ := k2; exact DataW.trod_lt m _ _ _ hm
  obtain ⟨yf, y0, y1, y2, y3, ys, ye, yt, yb, rfl, hiy, hpy, hby⟩ := open_parcel (hval 0 28 v0 rfl rfl) h0
  obtain ⟨z, rfl, _, _, hz⟩ := open_string Try.underlying9 (hval 1 9 v1 rfl rfl) h1
  obtain ⟨al, cl, ll, rfl, hll, hlc, hcl, hnl⟩ := open_parcels (hval 2 38 v2 rfl rfl) h2
  clear hA0 hval0
  refine (walk ⟨yf, y0, y1, y2, y3, ys, ye, yt, yb⟩ z al cl ll hlc hcl hnl W hll).mono fun e W' ⟨he, bel⟩ => ?_
  subst he
  exact ⟨_, rfl, _, _, _, [], _, [], hW', trodAll_mk1 (shut_bool Try.underlying4 _),
    (trodAll_cons_mk (Below.trod laidOut (by kernel_rfl) (of_decide_eq_true (by kernel_rfl)) k0 bel lt0)
    (trodAll_cons_mk (Below.trod laidOut (by kernel_rfl) (of_decide_eq_true (by kernel_rfl)) k1 bel lt1)
    (trodAll_cons_mk (Below.trod laidOut (by kernel_rfl) (of_decide_eq_true (by kernel_rfl)) k2 bel lt2)
    trodAll_mk0))), rfl, bel.frame _, fun h => by cases h⟩

theorem proved : Rows.ParcelCutsSaid :=
  OpenClaim.holds_of_wide 4 Try.f4 rfl rfl rfl rfl rfl rfl rfl ⟨rfl, rfl, rfl, rfl, rfl⟩ rfl rfl rfl rfl rfl (by kernel_rfl) Try.func4 (by kernel_rfl)
    (of_decide_eq_true (by kernel_rfl)) (by unfold Func.isWrapper; first | (rw [if_pos (by decide +kernel)]; kernel_rfl) | (rw [if_neg (by decide +kernel)]; exact ⟨rfl, rfl⟩))
    (fun os started H enc _ => lifted os started H enc)
end Go.Proofs.Ytdpcpjloacifpaa.parcelCuts
