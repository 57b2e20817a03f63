/- CostsSound: for every list of links that are set and cut CostsSound answers true and leaves its argument as it was; the three tables of Go's own packages strconv and bits that the row lists read as the program's text lays them (tied). No other condition. -/
import Derived.Test.YtnbbepelagdenaaDoorRows
import Derived.Test.YtnbbepelagdenaaDoorCosAw
import Derived.Test.YtnbbepelagdenaaDoorCosL
import Derived.Test.YtnbbepelagdenaaDoorOpOpen
import Derived.ProofKit
import Derived.OpenShut
import Derived.ShutString
import Derived.ChangeOld
import Derived.Carry
import Derived.Test.YtnbbepelagdenaaDoorCosLaid
import Derived.Test.YtnbbepelagdenaaDoorTie
import Derived.Test.YtnbbepelagdenaaDoorCards
import Derived.SevenTiedAt
import Derived.Stop.Joined
import Derived.LaidMore
namespace Go.Proofs.YtnbbepelagdenaaDoor.costsSound
open Go.ChangeShapes Go.WideShapes Go.ChangeAt Go.RowKit
open Go.ChangeMaps (open_string shut_string)

theorem own : ownKnob Tryd.prog.godebug = none := by kernel_rfl
theorem laidOut : laidOutB Tryd.prog = true := by kernel_rfl

attribute [local go_sem ↓] loadAt_cos loadAt_row storeAt_cos
open CosF Go.Sort

set_option maxRecDepth 100000 in
set_option maxHeartbeats 4000000 in
theorem walk (a : Option Addr) (m c : Nat) (L : List Opr) (w : World) (hL : opS.At w a m c L) :
    Calls Tryd.prog 4 #[.slice a m c] w fun e w' => e = .returned (.bool true) ∧ Below w.heap.size w w' := by
  have AW := Lib.hid awake_any
  have HL := Lib.hid hL
  have HLEN := Lib.hid hL.1
  clear hL
  by_cases hm : m ≤ 200
  · have d1 : decide (200 < (m : Int)) = false := decide_eq_false (by omega)
    have HM := Lib.hid hm
    have hm64 : m ≤ 200 := hm
    clear hm
    have hz : (wholeStore 25 (.pointer (some ⟨w.heap.size, 0, none⟩)) (.agg #[.int .i64 0, .int .u32 0, .int .u32 0, .int .u32 0, .int .u32 0, .int .u32 0, .int .u32 0, .int .u32 0, .int .u32 0, .int .u32 0, .int .u32 0, .int .u32 0, .int .u32 0, .int .u32 0, .int .u32 0, .int .u32 0, .int .u32 0])).run Tryd.prog (w.alloc (.cells #[.int .i64 0, .int .u32 0, .int .u32 0, .int .u32 0, .int .u32 0, .int .u32 0, .int .u32 0, .int .u32 0, .int .u32 0, .int .u32 0, .int .u32 0, .int .u32 0, .int .u32 0, .int .u32 0, .int .u32 0, .int .u32 0, .int .u32 0] 25)) = .ok () (w.alloc (.cells #[.int .i64 0, .int .u32 0, .int .u32 0, .int .u32 0, .int .u32 0, .int .u32 0, .int .u32 0, .int .u32 0, .int .u32 0, .int .u32 0, .int .u32 0, .int .u32 0, .int .u32 0, .int .u32 0, .int .u32 0, .int .u32 0, .int .u32 0] 25)) := new_store (d := none16) rfl Cos.zero
    go_enter Tryd.func4, Tryd.ntmps4
    go_upto_region 4 with fail
    clear hz
    have k0 := Blk.new w (cosP none16) 25
    have h0 := (Below.refl w.heap.size w).alloc (Nat.le_refl _) (.cells (cosP none16).toArray 25)
    obtain ⟨w1, hw1⟩ : ∃ v, w.alloc (.cells #[.int .i64 0, .int .u32 0, .int .u32 0, .int .u32 0, .int .u32 0, .int .u32 0, .int .u32 0, .int .u32 0, .int .u32 0, .int .u32 0, .int .u32 0, .int .u32 0, .int .u32 0, .int .u32 0, .int .u32 0, .int .u32 0, .int .u32 0] 25) = v := ⟨_, rfl⟩
    rw [show w.alloc (.cells (cosP none16).toArray 25) = w1 from hw1] at k0 h0
    rw [hw1]
    clear hw1
    have K0 := Lib.hid k0
    have H0 := Lib.hid h0
    clear k0 h0
    go_wp2_with fail
    go_loopw [15] (fun v wr => ∃ (k : Nat) (s : Pt), v = .int .i64 (k : Int) ∧ k ≤ m ∧ soundF s = true ∧ Cos s ∧ Blk wr w.heap.size (cosP s) ∧ Below w.heap.size w wr) (fun v _ => (m - intOf v).toNat)
    case atStart => exact ⟨0, none16, rfl, Nat.zero_le _, sound_zero, Cos.zero, K0.out, H0.out⟩
    case round =>
      obtain ⟨k, s, rfl, hk, hsd, hcs, kc, hbel⟩ := hrel
      have KC := Lib.hid kc
      have HB := Lib.hid hbel
      have HSD := Lib.hid hsd
      have HS := Lib.hid hcs
      clear kc hbel hsd hcs
      by_cases hkm : k < m
      · obtain ⟨x, hx⟩ : ∃ x, L[k]? = some x := ⟨_, List.getElem?_eq_getElem (by have := HLEN.out; omega)⟩
        obtain ⟨b, q, rfl, hq, a0, a1, a2⟩ := op_at (HL.out.on HB.out) hx
        have hkm' : (k : Int) < (m : Int) := by omega
        have HK := Lib.hid hkm
        have e1 : wrap64 ((k : Int) + 1) = (k : Int) + 1 := IntWalk.wrap64_in _ (by omega)
        clear hx hkm hk
        go_upto_region 7 with fail
        clear a0 a1 a2
        have KO := Lib.hid (Blk.new wr x.cells 39)
        have KC' := Lib.hid (KC.out.next (.cells x.cells.toArray 39))
        have HPB : Hid (w.heap.size < wr.heap.size) := Lib.hid KC.out.lt
        have HB' := Lib.hid (HB.out.alloc HB.out.size (.cells x.cells.toArray 39))
        obtain ⟨wx, hwx⟩ : ∃ v, wr.alloc (.cells #[.bool x.cut, .int .i64 x.n, .int .u32 (x.k : Int)] 39) = v := ⟨_, rfl⟩
        rw [show wr.alloc (.cells x.cells.toArray 39) = wx from hwx] at KO KC' HB'
        rw [hwx]
        clear hwx KC HB
        have KC := KC'
        have HB := HB'
        clear KC' HB'
        obtain ⟨pb, hpb⟩ : ∃ p, wr.heap.size = p := ⟨_, rfl⟩
        rw [hpb] at KO HPB ⊢
        clear hpb
        have o0 := KO.out.cell 0 rfl
        obtain ⟨ct, hct⟩ : ∃ t, x.cut = t := ⟨_, rfl⟩
        have o0' : wx.cell? ⟨pb, 0, none⟩ = some (.bool ct) := by rw [← hct]; exact o0
        clear hct o0
        cases ct with
        | true =>
          have HSN := Lib.hid (sound_cut s HS.out.1 x.n HSD.out)
          have CU := Lib.hid (ccut_any s x.n HS.out)
          have HS' := Lib.hid (HS.out.cut x.n)
          have OF := Lib.hid (cof_any (cutC s x.n) x.n HS'.out)
          have SO := Lib.hid (csound_any (cutC s x.n) HS'.out)
          rw [of_cut] at OF
          rw [HSN.out] at SO
          obtain ⟨s', hs'⟩ : ∃ s', cutC s x.n = s' := ⟨_, rfl⟩
          rw [hs'] at HSN CU HS' OF SO
          clear hs'
          have o0 := KO.out.cell 0 rfl
          have o1 := KO.out.cell 1 rfl
          have hl := cos_load KC.out HS.out
          go_wp2_with fail
          refine (CU.out _).mono ?_
          rintro e wn ⟨rfl, hb⟩
          clear hl o0 o1
          have KC' := Lib.hid (KC.out.on hb)
          have KO' := Lib.hid (KO.out.on hb)
          have HB' := Lib.hid (bel_on HB.out hb)
          clear KC KO HB hb
          have KC := KC'
          have KO := KO'
          have HB := HB'
          clear KC' KO' HB'
          have hs := cos_store KC.out HS.out HS'.out
          go_upto_region 9 with fail
          have KC' := Lib.hid (KC.out.put (cosP s'))
          have KO' := Lib.hid (KO.out.beside w.heap.size (by have := HPB.out; omega) (cosP s').toArray)
          have HB' := Lib.hid (below_setRow HB.out (Nat.le_refl _) (cosP s').toArray)
          obtain ⟨wz, hwz⟩ : ∃ v, wn.setRow w.heap.size (cosP s').toArray = v := ⟨_, rfl⟩
          rw [hwz] at KC' KO' HB' ⊢
          clear hwz hs KC KO HB
          have KC := KC'
          have KO := KO'
          have HB := HB'
          clear KC' KO' HB'
          have o1 := KO.out.cell 1 rfl
          have hl := cos_load KC.out HS'.out
          go_wp2_with fail
          refine (OF.out _).mono ?_
          rintro e wn ⟨rfl, hb⟩
          clear hl o1
          have KC' := Lib.hid (KC.out.on hb)
          have KO' := Lib.hid (KO.out.on hb)
          have HB' := Lib.hid (bel_on HB.out hb)
          clear KC KO HB hb
          have KC := KC'
          have KO := KO'
          have HB := HB'
          clear KC' KO' HB'
          have hl := cos_load KC.out HS'.out
          go_wp2_with fail
          refine (SO.out _).mono ?_
          rintro e wn ⟨rfl, hb⟩
          clear hl
          have KC' := Lib.hid (KC.out.on hb)
          have HB' := Lib.hid (bel_on HB.out hb)
          clear KC HB hb
          go_wp2_with fail
          go_roundw
          case rel => exact ⟨k + 1, s', by go_num, HK.out, HSN.out, HS'.out, KC'.out, HB'.out⟩
          case measure => exact meas_up m k _ rfl HK.out
        | false =>
          have HSN := Lib.hid (sound_set s HS.out.1 x.n x.k HSD.out)
          have SE := Lib.hid (cset_any s x.n x.k HS.out)
          have HS' := Lib.hid (HS.out.set x.n x.k)
          have SO := Lib.hid (csound_any (setC s x.n x.k) HS'.out)
          rw [HSN.out] at SO
          obtain ⟨s', hs'⟩ : ∃ s', setC s x.n x.k = s' := ⟨_, rfl⟩
          rw [hs'] at HSN SE HS' SO
          obtain ⟨r, hr⟩ : ∃ r, setE x.n x.k = r := ⟨_, rfl⟩
          rw [hr] at SE
          have HR := Lib.hid hr
          clear hr
          have o0 := KO.out.cell 0 rfl
          have o1 := KO.out.cell 1 rfl
          have o2 := KO.out.cell 2 rfl
          have hl := cos_load KC.out HS.out
          go_wp2_with fail
          refine (SE.out _).mono ?_
          rintro e wn ⟨rfl, hb⟩
          clear hl o0 o1 o2
          have KC' := Lib.hid (KC.out.on hb)
          have KO' := Lib.hid (KO.out.on hb)
          have HB' := Lib.hid (bel_on HB.out hb)
          clear KC KO HB hb
          have KC := KC'
          have KO := KO'
          have HB := HB'
          clear KC' KO' HB'
          have hst := new_store (w := wn) rfl HS'.out
          go_upto_region 12 with fail
          clear hst
          have KD := Lib.hid (Blk.new wn (cosP s') 25)
          have KC' := Lib.hid (KC.out.next (.cells (cosP s').toArray 25))
          have KO' := Lib.hid (KO.out.next (.cells (cosP s').toArray 25))
          have HB' := Lib.hid (HB.out.alloc HB.out.size (.cells (cosP s').toArray 25))
          obtain ⟨wz, hwz⟩ : ∃ v, wn.alloc (.cells (cosP s').toArray 25) = v := ⟨_, rfl⟩
          rw [hwz] at KD KC' KO' HB' ⊢
          clear hwz KC KO HB
          have KC := KC'
          have KO := KO'
          have HB := HB'
          clear KC' KO' HB'
          cases ho : okB x.n x.k with
          | true =>
            obtain rfl : r = 0 := by rw [← HR.out]; simp [setE, ho]
            have OF := Lib.hid (cof_any s' x.n HS'.out)
            have e1 : ofC s' x.n = x.k := by rw [← hs']; exact of_set s HS.out.1 x.n x.k ho
            rw [e1] at OF
            clear e1
            clear ho hs'
            have o1 := cell_regrown (KO.out.cell 1 rfl)
            have o2 := cell_regrown (KO.out.cell 2 rfl)
            have l3 := fun d os => cos_load (KC.out.on (below_regrown _ d os)) HS.out
            have l6 := fun d os => cos_load (KD.out.on (below_regrown _ d os)) HS'.out
            refine wp_region_quiet_below (by kernel_rfl) (by kernel_rfl) ?_
            repeat (first | go_big_quiet_step (first | with_reducible exact OF.out.at _ _ _) | quiet_step (first | with_reducible exact OF.out.at _ _ _))
            refine wpQuiet_nil ?_
            intro _ hw'
            obtain ⟨⟨dq, osq⟩, hw''⟩ := hw'
            subst hw''
            clear o1 o2 l3 l6
            have hb := below_regrown wz dq osq
            have KC' := Lib.hid (KC.out.on hb)
            have KO' := Lib.hid (KO.out.on hb)
            have KD' := Lib.hid (KD.out.on hb)
            have HB' := Lib.hid (bel_on HB.out hb)
            clear KC KO KD HB hb
            have KC := KC'
            have KO := KO'
            have KD := KD'
            have HB := HB'
            clear KC' KO' KD' HB'
            obtain ⟨wy, hwy⟩ : ∃ v, grow (redrawn wz dq) osq = v := ⟨_, rfl⟩
            rw [hwy] at KC KO KD HB ⊢
            clear hwy
            have l6 := cos_load KD.out HS'.out
            have hs := cos_store KC.out HS.out HS'.out
            go_upto_region 15 with fail
            have KC' := Lib.hid (KC.out.put (cosP s'))
            have HB' := Lib.hid (below_setRow HB.out (Nat.le_refl _) (cosP s').toArray)
            obtain ⟨wv, hwv⟩ : ∃ v, wy.setRow w.heap.size (cosP s').toArray = v := ⟨_, rfl⟩
            rw [hwv] at KC' HB' ⊢
            clear hwv hs l6 KC KO HB KD
            have KC := KC'
            have HB := HB'
            clear KC' HB'
            have hl := cos_load KC.out HS'.out
            go_wp2_with fail
            refine (SO.out _).mono ?_
            rintro e wn ⟨rfl, hb⟩
            clear hl
            have KC' := Lib.hid (KC.out.on hb)
            have HB' := Lib.hid (bel_on HB.out hb)
            clear KC HB hb
            go_wp2_with fail
            go_roundw
            case rel => exact ⟨k + 1, s', by go_num, HK.out, HSN.out, HS'.out, KC'.out, HB'.out⟩
            case measure => exact meas_up m k _ rfl HK.out
          | false =>
            obtain rfl : r = 1 := by rw [← HR.out]; simp [setE, ho]
            obtain rfl : s' = s := by rw [← hs']; exact set_no s x.n x.k ho

            have HNE : Hid (∀ w, (binOp .neq 25 (.agg (cosP s').toArray) (.agg (cosP s').toArray)).run Tryd.prog w = .ok (.bool false) w) := Lib.hid (fun w => by
              have h := cos_neq s' s' w HS.out.1 HS.out.1
              rw [decide_eq_true rfl] at h
              exact h)
            have hne := HNE.out
            clear ho hs'
            have o1 := cell_regrown (KO.out.cell 1 rfl)
            have o2 := cell_regrown (KO.out.cell 2 rfl)
            have l3 := fun d os => cos_load (KC.out.on (below_regrown _ d os)) HS.out
            have l6 := fun d os => cos_load (KD.out.on (below_regrown _ d os)) HS'.out
            refine wp_region_quiet_below (by kernel_rfl) (by kernel_rfl) ?_
            repeat (first | go_big_quiet_step (fail) | quiet_step (fail))
            refine wpQuiet_nil ?_
            intro _ hw'
            obtain ⟨⟨dq, osq⟩, hw''⟩ := hw'
            subst hw''
            clear o1 o2 l3 l6
            have hb := below_regrown wz dq osq
            have KC' := Lib.hid (KC.out.on hb)
            have KO' := Lib.hid (KO.out.on hb)
            have KD' := Lib.hid (KD.out.on hb)
            have HB' := Lib.hid (bel_on HB.out hb)
            clear KC KO KD HB hb
            have KC := KC'
            have KO := KO'
            have KD := KD'
            have HB := HB'
            clear KC' KO' KD' HB'
            obtain ⟨wy, hwy⟩ : ∃ v, grow (redrawn wz dq) osq = v := ⟨_, rfl⟩
            rw [hwy] at KC KO KD HB ⊢
            clear hwy
            have l6 := cos_load KD.out HS'.out
            have hs := cos_store KC.out HS.out HS'.out
            go_upto_region 15 with fail
            have KC' := Lib.hid (KC.out.put (cosP s'))
            have HB' := Lib.hid (below_setRow HB.out (Nat.le_refl _) (cosP s').toArray)
            obtain ⟨wv, hwv⟩ : ∃ v, wy.setRow w.heap.size (cosP s').toArray = v := ⟨_, rfl⟩
            rw [hwv] at KC' HB' ⊢
            clear hwv hs l6 KC KO HB KD
            have KC := KC'
            have HB := HB'
            clear KC' HB'
            have hl := cos_load KC.out HS'.out
            go_wp2_with fail
            refine (SO.out _).mono ?_
            rintro e wn ⟨rfl, hb⟩
            clear hl
            have KC' := Lib.hid (KC.out.on hb)
            have HB' := Lib.hid (bel_on HB.out hb)
            clear KC HB hb
            go_wp2_with fail
            go_roundw
            case rel => exact ⟨k + 1, s', by go_num, HK.out, HSN.out, HS'.out, KC'.out, HB'.out⟩
            case measure => exact meas_up m k _ rfl HK.out
      · obtain rfl : k = m := by omega
        clear hk
        go_wp2_with fail
        refine (AW.out _).mono ?_
        rintro e wn ⟨rfl, hb⟩
        have HB' := Lib.hid (bel_on HB.out hb)
        clear hb
        go_wp2_with fail
        go_ret
        exact ⟨rfl, HB'.out⟩
  · have d1 : decide (200 < (m : Int)) = true := decide_eq_true (by omega)
    clear hm
    go_enter Tryd.func4, Tryd.ntmps4
    go_wp2_with fail
    refine (AW.out _).mono ?_
    rintro e wn ⟨rfl, hb⟩
    have HB' := Lib.hid hb
    clear hb
    go_wp2_with fail
    go_ret
    exact ⟨rfl, HB'.out⟩


set_option maxRecDepth 100000 in
theorem lifted (os : Os) (started : os.Started) (H : Type) (enc : TypeId × Value → H) :
    ReturnsInHanded {} Tryd.checked os 4 .any (fun w args => (Rows.costsSoundSpec.pre enc Tryd.prog Tryd.f4 [] false w args ∧ laidMetH Tryd.prog laidThree w) ∧ sizedMet enc Tryd.prog Tryd.f4 (OpenSpec.ofChange Rows.costsSoundSpec) false w args) (Rows.costsSoundSpec.post enc Tryd.prog Tryd.f4 false true false false) := by
  refine returnsInHanded_of_change_and (C := Tryd.checked) (X := fun w _ => laidMetH Tryd.prog laidThree w) (fun _ _ _ hh h => h.of_heap hh) own started (by kernel_rfl) Tryd.func4
    (ChangeSpec.witness_shaped (enc := enc) (C := Tryd.checked) (os := os) (X := fun w _ => laidMetH Tryd.prog laidThree w) false (World.doorLaid Tryd.prog 257 os) #[.slice none 0 0] 8 rfl (World.shaped_of_RefB (by kernel_rfl) (by kernel_rfl)) (by kernel_rfl) (by kernel_rfl) (by kernel_rfl) (door_met os _)) ?_
  intro W base args ds gs before hval0 hW _ _ hL _

  have hval : ∀ (j : Nat) t v, Tryd.f4.params[j]? = some t → args[j]? = some v → Value.okWide Tryd.prog W .any base t v := hval0
  have hW' := hW
  obtain ⟨p, q, hA0, hV, rfl, hfz, hnd⟩ := hW
  have hA : DataW.TrodAll enc Tryd.prog W 0 (fun _ => true) true Tryd.f4.params.toList args.toList ds p := hA0
  rw [Tryd.params4] at hA hval
  obtain ⟨v0, vs0, d0, ds0, p0, q0, hargs, rfl, rfl, h0, r0⟩ := trodAll_cons hA
  obtain ⟨rfl, rfl, rfl⟩ := trodAll_nil r0
  obtain rfl : args = #[v0] := by cases args; simp_all
  obtain ⟨rfl, rfl⟩ := trodVars_none hV
  have k0 := h0
  have lt0 : ∀ x ∈ p0, x.block < W.heap.size := by obtain ⟨m, hm⟩ := k0; exact DataW.trod_lt m _ _ _ hm
  obtain ⟨al, nl, cl, ll, rfl, hll, _⟩ := open_ops (hval 0 37 v0 rfl rfl) h0
  clear hA0 hval0
  refine (walk al nl cl ll W hll).mono fun e W' ⟨he, bel⟩ => ?_
  subst he
  exact ⟨_, rfl, _, _, _, [], _, [], hW', trodAll_mk1 (shut_bool Tryd.underlying4 _),
    (trodAll_cons_mk (Below.trod laidOut (by kernel_rfl) (of_decide_eq_true (by kernel_rfl)) k0 bel lt0)
    trodAll_mk0), rfl, bel.frame _, fun h => by cases h⟩

theorem proved : Rows.CostsSoundSaid :=
  OpenClaim.holds_of_wide 4 Tryd.f4 rfl rfl rfl rfl rfl rfl rfl ⟨rfl, rfl, rfl, rfl, rfl⟩ rfl rfl rfl rfl rfl (by kernel_rfl) Tryd.func4 (by kernel_rfl)
    (of_decide_eq_true (by kernel_rfl)) (by unfold Func.isWrapper; first | (rw [if_pos (by decide +kernel)]; kernel_rfl) | (rw [if_neg (by decide +kernel)]; exact ⟨rfl, rfl⟩))
    (fun os started H enc _ => lifted os started H enc)

theorem card : Rows.CostsSoundCardSaid :=
  Claim7.holds_tied_plain_at .later [] [.data, .data, .data] true Rows.costsSoundCard.stood.harness Rows.costsSoundCard.stood.looks
    proved (fun _ h => by cases h) (by kernel_rfl) (fun _ h => by cases h) costsSound_row_tie rfl ⟨rfl, rfl⟩ (by kernel_rfl) rfl
    (fun f fn hf hfn => by
      obtain rfl : f = 4 := Option.some.inj ((show Tryd.prog.funcNamed "fingerpost/fingerpostlaw14.CostsSound" = some 4 by kernel_rfl).symm.trans hf) |>.symm
      obtain rfl : fn = Tryd.f4 := (Option.some.inj (Tryd.func4.symm.trans hfn)).symm
      exact ⟨by kernel_rfl, fun j t ht => by
        rw [Tryd.params4] at ht
        have hm : t ∈ [37] := by simpa using Array.mem_of_getElem? ht
        have hall : ([37].all fun u => !Tryd.prog.wantsStandIn u) = true := by kernel_rfl
        exact (show Tryd.prog.wantsStandIn t = false by simpa using List.all_eq_true.1 hall t hm)⟩)
    (by kernel_rfl)
end Go.Proofs.YtnbbepelagdenaaDoor.costsSound
