/- AcksBack: for every text, number and slice of numbers AcksBack answers true and leaves its arguments as they were; the table of bits that the package lists reads as the program's text lays it (tied). No other condition. -/
import Derived.Test.YtaamlmahhkoleaaDoorRows
import Derived.Test.YtaamlmahhkoleaaDoorAcksG
import Derived.Test.YtaamlmahhkoleaaDoorAcksAw
import Derived.Test.YtaamlmahhkoleaaDoorIntsOpen
import Derived.ProofKit
import Derived.OpenShut
import Derived.ShutString
import Derived.ChangeOld
import Derived.Carry
import Derived.Test.YtaamlmahhkoleaaDoorAcksLaid
import Derived.Test.YtaamlmahhkoleaaDoorTie
import Derived.Test.YtaamlmahhkoleaaDoorCards
import Derived.SevenTiedAt
import Derived.Stop.Joined
import Derived.LaidMore
namespace Go.Proofs.YtaamlmahhkoleaaDoor.acksBack
open Go.ChangeShapes Go.WideShapes Go.ChangeAt Go.RowKit
open Go.ChangeMaps (open_string shut_string)

theorem own : ownKnob Tryd.prog.godebug = none := by kernel_rfl
theorem laidOut : laidOutB Tryd.prog = true := by kernel_rfl

theorem mem_snoc (q x : Int) (l : List Int) : decide (q ∈ l ++ [x]) = (decide (q ∈ l) || (x == q)) := by
  rw [Bool.eq_iff_iff, decide_eq_true_iff, Bool.or_eq_true, decide_eq_true_iff, beq_iff_eq, List.mem_append, List.mem_singleton]
  exact ⟨Or.imp_right Eq.symm, Or.imp_right Eq.symm⟩
/-- The number that is next. -/
theorem next_in (k : Int) : ∃ j : Nat, wrap64 ((IntKind.u64.wrap k).tmod 60000) = (j : Int) ∧ j < 60000 := by
  have e := IntKind.wrap_u64 k
  obtain ⟨u, hu⟩ := Int.eq_ofNat_of_zero_le (show 0 ≤ IntKind.u64.wrap k by omega)
  refine ⟨u % 60000, ?_, Nat.mod_lt _ (by omega)⟩
  rw [hu, Int.tmod_eq_emod_of_nonneg (by omega), IntWalk.wrap64_in _ (by omega)]
  omega

set_option maxRecDepth 100000 in
set_option maxHeartbeats 4000000 in
theorem walk (s : ByteArray) (next : Int) (a : Option Addr) (c : Nat) (l : List Int) (hs : s.size ≤ maxLen) (w : World) (ht : Tab w) (hl : IntAt w a l) :
    Calls Tryd.prog 3 #[.string s, .int .i64 next, .slice a l.length c] w fun e w' => e = .returned (.bool true) ∧ Below w.heap.size w w' := by
  have T := Lib.hid ht
  have L := Lib.hid hl
  clear ht hl
  by_cases hbig : 300 < s.size
  · have hb : decide ((300 : Int) < (s.size : Int)) = true := decide_eq_true (by omega)
    clear hbig hs
    go_enter Tryd.func3, Tryd.ntmps3
    go_wp2_with fail
    refine (aawake_any _ T.out).mono ?_
    rintro e w1 ⟨rfl, h1⟩
    go_wp2_with fail
    go_ret
    exact ⟨rfl, h1⟩
  have hb : decide ((300 : Int) < (s.size : Int)) = false := decide_eq_false (by omega)
  obtain ⟨n, hn⟩ : ∃ n, l.length = n := ⟨_, rfl⟩
  rw [hn]
  by_cases hlong : 100 < n
  · have hd : decide ((100 : Int) < (n : Int)) = true := decide_eq_true (by omega)
    clear hbig hs hlong hn
    go_enter Tryd.func3, Tryd.ntmps3
    go_wp2_with fail
    refine (aawake_any _ T.out).mono ?_
    rintro e w1 ⟨rfl, h1⟩
    go_wp2_with fail
    go_ret
    exact ⟨rfl, h1⟩
  have hd : decide ((100 : Int) < (n : Int)) = false := decide_eq_false (by omega)
  obtain ⟨f0, a0, b0, c0, d0, n0, m0, x0, hr, hw⟩ := back_read s hs
  have R := Lib.hid hr
  have B := Lib.hid hw
  obtain ⟨j, hje, hj⟩ := next_in next
  have J := Lib.hid hje
  obtain ⟨m, hm⟩ : ∃ m, AcksF.ofN (j : Int) l = m := ⟨_, rfl⟩
  have hm8 := AcksF.ofN_lt (j : Int) l
  rw [hm] at hm8
  have hof := fun (w : World) (ht : Tab w) (hl : IntAt w a l) => of_any (j : Int) a c l w ht hl (by omega) (by omega)
  rw [hm, hn] at hof
  have OF := Lib.hid hof
  have HA : Hid (∀ q : Int, j ≤ q → q < j + 8 → AcksF.hasB (j : Int) (m : Int) q = decide (q ∈ l)) := Lib.hid fun q h1 h2 => by
    rw [← hm]; exact AcksF.hasB_of _ _ _ (by omega) h1 h2 (by omega)
  obtain ⟨t, hby, hrd⟩ := back_write j m (by omega) hm8
  have BY := Lib.hid hby
  have RD := Lib.hid hrd
  have N := Lib.hid hn
  clear hr hw hbig hs hje hm hof hby hrd hn
  go_enter Tryd.func3, Tryd.ntmps3
  go_wp2_with fail
  refine (R.out _).mono ?_
  rintro e w1 ⟨rfl, h1⟩
  go_upto_if 37 with fail
  go_cut [0] (fun s0 wx => s0 = .string s ∧ Below w.heap.size w wx)
  case first =>
    rcases B.out with hx | ⟨rfl, hB⟩
    · have hx' : (x0 == 0) = false := by simpa using hx
      clear hx
      go_wp2_with fail
      go_meet
      exact ⟨rfl, h1.alloc h1.size _⟩
    · have hBB := Lib.hid hB
      clear hB
      have k1 := Blk.new w1 [.int .i64 (f0 : Int), .int .u32 (a0 : Int), .int .u32 (b0 : Int), .int .u32 (c0 : Int), .int .u32 (d0 : Int), .int .i64 (n0 : Int), .int .i64 (m0 : Int)] 30
      have c0 := k1.cell 0 rfl
      have c1 := k1.cell 1 rfl
      have c2 := k1.cell 2 rfl
      have c3 := k1.cell 3 rfl
      have c4 := k1.cell 4 rfl
      have c5 := k1.cell 5 rfl
      have c6 := k1.cell 6 rfl
      clear k1
      go_wp2_with fail
      refine (hBB.out _).mono ?_
      rintro e w2 ⟨rfl, h2⟩
      go_wp2_with fail
      go_meet
      exact ⟨rfl, bel_on (h1.alloc h1.size _) h2⟩
  case rest =>
    obtain ⟨rfl, h2⟩ := hcut
    clear h1
    go_upto_region 8 with fail
    go_cut [1] (fun s1 wx => s1 = .int .i64 (j : Int) ∧ wx = wc)
    case first =>
      go_wp2
      go_meet
      exact ⟨congrArg _ J.out, rfl⟩
    case rest =>
      obtain ⟨rfl, rfl⟩ := hcut
      go_wp2_with fail
      refine (OF.out _ (T.out.on h2) (L.out.on h2)).mono ?_
      rintro e w3 ⟨rfl, rfl⟩
      go_wp2_with fail
      refine (BY.out _).mono ?_
      rintro e w4 ⟨rfl, hb4⟩
      have b4 := (Blk.new _ [.int .i64 1, .int .u32 0, .int .u32 0, .int .u32 0, .int .u32 0, .int .i64 (j : Int), .int .i64 (m : Int)] 30).on hb4
      have K4 := Lib.hid b4
      have H4 := Lib.hid (bel_on (h2.alloc h2.size _) hb4)
      clear h2 hb4 b4
      go_wp2_with fail
      refine (RD.out _).mono ?_
      rintro e w5 ⟨rfl, hb5⟩
      have k5 := K4.out.on hb5
      have h5 := bel_on H4.out hb5
      have k6 := k5.next (.cells #[.int .i64 1, .int .u32 0, .int .u32 0, .int .u32 0, .int .u32 0, .int .i64 (j : Int), .int .i64 (m : Int)] 30)
      have H6 := Lib.hid (h5.alloc h5.size (.cells #[.int .i64 1, .int .u32 0, .int .u32 0, .int .u32 0, .int .u32 0, .int .i64 (j : Int), .int .i64 (m : Int)] 30))
      have y6 := Blk.new w5 [.int .i64 1, .int .u32 0, .int .u32 0, .int .u32 0, .int .u32 0, .int .i64 (j : Int), .int .i64 (m : Int)] 30
      have K6 := Lib.hid k6
      have a0 := k6.cell 0 rfl
      have y0 := y6.cell 0 rfl
      have a1 := k6.cell 1 rfl
      have y1 := y6.cell 1 rfl
      have a2 := k6.cell 2 rfl
      have y2 := y6.cell 2 rfl
      have a3 := k6.cell 3 rfl
      have y3 := y6.cell 3 rfl
      have a4 := k6.cell 4 rfl
      have y4 := y6.cell 4 rfl
      have a5 := k6.cell 5 rfl
      have y5 := y6.cell 5 rfl
      have a6 := k6.cell 6 rfl
      have z6 := y6.cell 6 rfl
      clear hb5 k5 h5 k6 K4 H4 y6
      go_upto_region 16 with fail
      clear a0 a1 a2 a3 a4 a5 a6 y0 y1 y2 y3 y4 y5 z6
      go_loopw [18] (fun v wr => ∃ i : Nat, i ≤ 8 ∧ v = .int .i64 ((j : Int) + (i : Int)) ∧ Below w.heap.size w wr ∧ Blk wr wc.heap.size [.int .i64 1, .int .u32 0, .int .u32 0, .int .u32 0, .int .u32 0, .int .i64 (j : Int), .int .i64 (m : Int)]) (fun v _ => (j + 8 - intOf v).toNat)
      case atStart => exact ⟨0, by omega, by simp, H6.out, K6.out⟩
      case round =>
        clear H6 K6
        obtain ⟨i, hi, rfl, hbl, hbk⟩ := hrel
        have HB := Lib.hid hbl
        have HK := Lib.hid hbk
        clear hbl hbk
        have e1 : wrap64 ((j : Int) + 8) = (j : Int) + 8 := IntWalk.wrap64_in _ (by omega)
        by_cases h8 : i < 8
        · obtain ⟨q, hq⟩ : ∃ q, (j : Int) + (i : Int) = q := ⟨_, rfl⟩
          have hq1 : q < (j : Int) + 8 := by omega
          have hq0 : (j : Int) ≤ q := by omega
          have hq2 : wrap64 (q + 1) = q + 1 := IntWalk.wrap64_in _ (by omega)
          have HQ := Lib.hid hq
          have HH := Lib.hid (HA.out q hq0 hq1)
          have d1 : decide (q < (j : Int) + 8) = true := decide_eq_true hq1
          rw [hq]
          clear hq
          have HL := Lib.hid (L.out.on HB.out)
          obtain ⟨r, hr⟩ : ∃ r, decide (q ∈ l) = r := ⟨_, rfl⟩
          have HR := Lib.hid hr
          have HHR : Hid (AcksF.hasB (j : Int) (m : Int) q = r) := Lib.hid (by rw [HH.out, hr])
          have hrr : (r != r) = false := by cases r <;> rfl
          have hqb : -9223372036854775808 ≤ q ∧ q < 9223372036854775808 := by omega
          have HS := Lib.hid (ahas_any 1 0 0 0 0 (j : Int) (m : Int) q (by omega) hqb)
          rw [HHR.out] at HS
          clear hr HH HHR hqb hq0
          go_upto_region 19 with fail
          go_wp2
          go_loop [19, 93] (fun t v => ∃ z : Nat, z ≤ n ∧ v = .int .i64 (z : Int) ∧ t = .bool (decide (q ∈ l.take z))) (fun _ v => n - (intOf v).toNat)
          case atStart => exact ⟨0, by omega, rfl, by simp⟩
          case round =>
            obtain ⟨z, hz, rfl, rfl⟩ := hrel
            by_cases hzn : z < n
            · obtain ⟨x, hx⟩ : ∃ x, l[z]? = some x := ⟨_, List.getElem?_eq_getElem (by rw [N.out]; exact hzn)⟩
              obtain ⟨hxw, b, rfl, hc⟩ := HL.out z x hx
              obtain ⟨t, hte⟩ : ∃ t, decide (q ∈ l.take z) = t := ⟨_, rfl⟩
              obtain ⟨y, hye⟩ : ∃ y, (x == q) = y := ⟨_, rfl⟩
              have HT : Hid (decide (q ∈ l.take (z + 1)) = (t || y)) := Lib.hid (by
                have e : l.take (z + 1) = l.take z ++ [x] := by rw [List.take_add_one, hx]; rfl
                rw [e, ← hte, ← hye, mem_snoc])
              rw [hte]
              clear hx hte hxw
              rcases t with _ | _
              · go_wp2
                go_round
                case rel => exact ⟨z + 1, by omega, by go_num, by rw [HT.out]; rfl⟩
                case measure => simp [intOf]; omega
              · go_wp2
                go_round
                case rel => exact ⟨z + 1, by omega, by go_num, by rw [HT.out]; rfl⟩
                case measure => simp [intOf]; omega
            · obtain rfl : z = n := by omega
              have e : decide (q ∈ l.take z) = r := by rw [← N.out, List.take_length]; exact HR.out
              rw [e]
              have c0 := HK.out.cell 0 rfl
              have c1 := HK.out.cell 1 rfl
              have c2 := HK.out.cell 2 rfl
              have c3 := HK.out.cell 3 rfl
              have c4 := HK.out.cell 4 rfl
              have c5 := HK.out.cell 5 rfl
              have c6 := HK.out.cell 6 rfl
              clear e
              go_wp2_with fail
              refine (HS.out _ (T.out.on HB.out)).mono ?_
              rintro e w7 ⟨rfl, h7⟩
              have HB7 := Lib.hid (bel_on HB.out h7)
              have HK7 := Lib.hid (HK.out.on h7)
              clear c0 c1 c2 c3 c4 c5 c6 h7
              go_wp2_with fail
              go_roundw
              case rel => exact ⟨i + 1, by omega, by have e9 := IntWalk.wrap64_in ((j : Int) + (i : Int) + 1) (by omega); rw [← HQ.out]; go_num, HB7.out, HK7.out⟩
              case measure => have hq9 := HQ.out; simp [intOf]; omega
        · obtain rfl : i = 8 := by omega
          have d1 : decide ((j : Int) + 8 < (j : Int) + 8) = false := decide_eq_false (by omega)
          have c0 := HK.out.cell 0 rfl
          have c1 := HK.out.cell 1 rfl
          have c2 := HK.out.cell 2 rfl
          have c3 := HK.out.cell 3 rfl
          have c4 := HK.out.cell 4 rfl
          have c5 := HK.out.cell 5 rfl
          have c6 := HK.out.cell 6 rfl
          have hF : AcksF.hasB (j : Int) (m : Int) ((j : Int) + 8) = false := AcksF.hasB_off _ (by omega) (by omega)
          have HS := Lib.hid (ahas_any 1 0 0 0 0 (j : Int) (m : Int) ((j : Int) + 8) (by omega) (by omega))
          rw [hF] at HS
          have HG : Hid (0 < j → GivesT Tryd.prog 9 #[(.agg #[.int .i64 1, .int .u32 0, .int .u32 0, .int .u32 0, .int .u32 0, .int .i64 (j : Int), .int .i64 (m : Int)] : Value), .int .i64 ((j : Int) - 1)] (.bool true)) := Lib.hid (fun hj0 => by
            have e := ahas_any 1 0 0 0 0 (j : Int) (m : Int) ((j : Int) - 1) (by omega) (by omega)
            rw [AcksF.hasB_low _ (show (j : Int) - 1 < (j : Int) by omega)] at e
            exact e)
          have e2 : wrap64 ((j : Int) - 1) = (j : Int) - 1 := IntWalk.wrap64_in _ (by omega)
          clear hF h8
          go_wp2_with fail
          refine (HS.out _ (T.out.on HB.out)).mono ?_
          rintro e w7 ⟨rfl, h7⟩
          have HB7 := Lib.hid (bel_on HB.out h7)
          have HK7 := Lib.hid (HK.out.on h7)
          clear c0 c1 c2 c3 c4 c5 c6 h7
          by_cases hj0 : j = 0
          · subst hj0
            clear HG e2
            go_wp2_with fail
            refine (aawake_any _ (T.out.on HB7.out)).mono ?_
            rintro e w8 ⟨rfl, h8⟩
            have HB8 := Lib.hid (bel_on HB7.out h8)
            clear h8
            go_wp2_with fail
            go_ret
            exact ⟨rfl, HB8.out⟩
          · have HG' := Lib.hid (HG.out (by omega))
            have e3 : ((j : Int) == 0) = false := by simpa using hj0
            clear HG hj0
            have c0 := HK7.out.cell 0 rfl
            have c1 := HK7.out.cell 1 rfl
            have c2 := HK7.out.cell 2 rfl
            have c3 := HK7.out.cell 3 rfl
            have c4 := HK7.out.cell 4 rfl
            have c5 := HK7.out.cell 5 rfl
            have c6 := HK7.out.cell 6 rfl
            go_wp2_with fail
            refine (HG'.out _ (T.out.on HB7.out)).mono ?_
            rintro e w8 ⟨rfl, h8⟩
            have HB8 := Lib.hid (bel_on HB7.out h8)
            clear c0 c1 c2 c3 c4 c5 c6 h8
            go_wp2_with fail
            refine (aawake_any _ (T.out.on HB8.out)).mono ?_
            rintro e w9 ⟨rfl, h9⟩
            have HB9 := Lib.hid (bel_on HB8.out h9)
            clear h9
            go_wp2_with fail
            go_ret
            exact ⟨rfl, HB9.out⟩

set_option maxRecDepth 100000 in
theorem lifted (os : Os) (started : os.Started) (H : Type) (enc : TypeId × Value → H) :
    ReturnsInHanded {} Tryd.checked os 3 .any (fun w args => (Rows.acksBackSpec.pre enc Tryd.prog Tryd.f3 [] false w args ∧ laidMetH Tryd.prog laidOne w) ∧ sizedMet enc Tryd.prog Tryd.f3 (OpenSpec.ofChange Rows.acksBackSpec) false w args) (Rows.acksBackSpec.post enc Tryd.prog Tryd.f3 false true false false) := by
  refine returnsInHanded_of_change_and (C := Tryd.checked) (X := fun w _ => laidMetH Tryd.prog laidOne w) (fun _ _ _ hh h => h.of_heap hh) own started (by kernel_rfl) Tryd.func3
    (ChangeSpec.witness_shaped (enc := enc) (C := Tryd.checked) (os := os) (X := fun w _ => laidMetH Tryd.prog laidOne w) false (World.doorLaid Tryd.prog 14 os) #[.string ByteArray.empty, .int .i64 0, .slice none 0 0] 8 rfl (World.shaped_of_RefB (by kernel_rfl) (by kernel_rfl)) (by kernel_rfl) (by kernel_rfl) (by kernel_rfl) (door_met os _)) ?_
  intro W base args ds gs before hval0 hW _ _ hL _
  have tab := of_laid hL
  have hval : ∀ (j : Nat) t v, Tryd.f3.params[j]? = some t → args[j]? = some v → Value.okWide Tryd.prog W .any base t v := hval0
  have hW' := hW
  obtain ⟨p, q, hA0, hV, rfl, hfz, hnd⟩ := hW
  have hA : DataW.TrodAll enc Tryd.prog W 0 (fun _ => true) true Tryd.f3.params.toList args.toList ds p := hA0
  rw [Tryd.params3] at hA hval
  obtain ⟨v0, vs0, d0, ds0, p0, q0, hargs, rfl, rfl, h0, r0⟩ := trodAll_cons hA
  obtain ⟨v1, vs1, d1, ds1, p1, q1, rfl, rfl, rfl, h1, r1⟩ := trodAll_cons r0
  obtain ⟨v2, vs2, d2, ds2, p2, q2, rfl, rfl, rfl, h2, r2⟩ := trodAll_cons r1
  obtain ⟨rfl, rfl, rfl⟩ := trodAll_nil r2
  obtain rfl : args = #[v0, v1, v2] := by cases args; simp_all
  obtain ⟨rfl, rfl⟩ := trodVars_none hV
  have k0 := h0
  have lt0 : ∀ x ∈ p0, x.block < W.heap.size := by obtain ⟨m, hm⟩ := k0; exact DataW.trod_lt m _ _ _ hm
  have k1 := h1
  have lt1 : ∀ x ∈ p1, x.block < W.heap.size := by obtain ⟨m, hm⟩ := k1; exact DataW.trod_lt m _ _ _ hm
  have k2 := h2
  have lt2 : ∀ x ∈ p2, x.block < W.heap.size := by obtain ⟨m, hm⟩ := k2; exact DataW.trod_lt m _ _ _ hm
  obtain ⟨s, rfl, _, _, hs⟩ := open_string Tryd.underlying9 (hval 0 9 v0 rfl rfl) h0
  obtain ⟨next, rfl, _, _, hnext⟩ := open_int Tryd.underlying3 (hval 1 3 v1 rfl rfl) h1
  have hbnext := bounds_i64 hnext
  obtain ⟨acame, ccame, lcame, rfl, hlcame, hncame⟩ := open_ints Tryd.underlying22 Tryd.underlying3 (by kernel_rfl) (hval 2 22 v2 rfl rfl) h2
  clear hA0 hval0
  refine (walk s next acame ccame lcame (by have := hs; simpa using this) W tab hlcame).mono fun e W' ⟨he, bel⟩ => ?_
  subst he
  exact ⟨_, rfl, _, _, _, [], _, [], hW', trodAll_mk1 (shut_bool Tryd.underlying4 _),
    (trodAll_cons_mk (Below.trod laidOut (by kernel_rfl) (of_decide_eq_true (by kernel_rfl)) k0 bel lt0)
    (trodAll_cons_mk (Below.trod laidOut (by kernel_rfl) (of_decide_eq_true (by kernel_rfl)) k1 bel lt1)
    (trodAll_cons_mk (Below.trod laidOut (by kernel_rfl) (of_decide_eq_true (by kernel_rfl)) k2 bel lt2)
    trodAll_mk0))), rfl, bel.frame _, fun h => by cases h⟩

theorem proved : Rows.AcksBackSaid :=
  OpenClaim.holds_of_wide 3 Tryd.f3 rfl rfl rfl rfl rfl rfl rfl ⟨rfl, rfl, rfl, rfl, rfl⟩ rfl rfl rfl rfl rfl (by kernel_rfl) Tryd.func3 (by kernel_rfl)
    (of_decide_eq_true (by kernel_rfl)) (by unfold Func.isWrapper; first | (rw [if_pos (by decide +kernel)]; kernel_rfl) | (rw [if_neg (by decide +kernel)]; exact ⟨rfl, rfl⟩))
    (fun os started H enc _ => lifted os started H enc)

theorem card : Rows.AcksBackCardSaid :=
  Claim7.holds_tied_plain_at .later [] [.data] true Rows.acksBackCard.stood.harness Rows.acksBackCard.stood.looks
    proved (fun _ h => by cases h) (by kernel_rfl) (fun _ h => by cases h) acksBack_row_tie rfl ⟨rfl, rfl⟩ (by kernel_rfl) rfl
    (fun f fn hf hfn => by
      obtain rfl : f = 3 := Option.some.inj ((show Tryd.prog.funcNamed "fingerpost/fingerpostlaw09.AcksBack" = some 3 by kernel_rfl).symm.trans hf) |>.symm
      obtain rfl : fn = Tryd.f3 := (Option.some.inj (Tryd.func3.symm.trans hfn)).symm
      exact ⟨by kernel_rfl, fun j t ht => by
        rw [Tryd.params3] at ht
        have hm : t ∈ [9, 3, 22] := by simpa using Array.mem_of_getElem? ht
        have hall : ([9, 3, 22].all fun u => !Tryd.prog.wantsStandIn u) = true := by kernel_rfl
        exact (show Tryd.prog.wantsStandIn t = false by simpa using List.all_eq_true.1 hall t hm)⟩)
    (by kernel_rfl)
end Go.Proofs.YtaamlmahhkoleaaDoor.acksBack
