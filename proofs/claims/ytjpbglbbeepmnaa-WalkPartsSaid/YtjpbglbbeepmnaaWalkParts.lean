/- WalkParts: whatever tree and numbers come, the law returns true (Children, Below, Meet, Order and Leaves answer as the document's own; Order has all to which there is a way, each once, none ahead of its Pred), and its arguments read as before. No condition. -/
import Derived.Test.YtjpbglbbeepmnaaRows
import Derived.Test.YtjpbglbbeepmnaaWakD
import Derived.Test.YtjpbglbbeepmnaaWakJ
import Derived.Test.YtjpbglbbeepmnaaTreOpen
import Derived.Test.YtjpbglbbeepmnaaInt2Open
import Derived.Test.YtjpbglbbeepmnaaFrom
import Derived.Test.YtjpbglbbeepmnaaTail
import Derived.ProofKit
import Derived.OpenShut
import Derived.ShutString
import Derived.ChangeOld
import Derived.Carry
namespace Go.Proofs.Ytjpbglbbeepmnaa.walkParts
open Go.ChangeShapes Go.WideShapes Go.ChangeAt Go.RowKit
open Go.ChangeMaps (open_string shut_string)

theorem own : ownKnob Try.prog.godebug = none := by kernel_rfl
theorem laidOut : laidOutB Try.prog = true := by kernel_rfl

open Go.Sort TreF WakF
attribute [local go_sem ↓] loadAt_tre storeAt_tre loadAt_ent storeAt_ent
theorem same_from {w0 : World} {a b : Option Addr} {c d : Nat} {l : List Nat} (h : NatAt w0 a 0 l) (h2 : NatAt w0 b 0 l) (hl : l.length ≤ 16) :
    From w0 Try.prog 10 #[.slice a l.length c, .slice b l.length d] (.bool true) := fun w hb => by
  have := same_any a b c d l l w (h.on hb) (h2.on hb) hl hl
  rwa [decide_eq_true rfl] at this
theorem phas_list (l : List Nat) (n : Nat) (w : World) (h : n < 16) : Calls Try.prog 16 #[.int .i64 (setL l), .int .i64 (n : Int)] w fun e w' => e = .returned (.bool (l.contains n)) ∧ w = w' := by
  have h1 := has_in (setL l) n w h
  rwa [setL_has _ h] at h1
theorem take_no {l : List Nat} (h : l.Nodup) {k x : Nat} (hx : l[k]? = some x) : (l.take k).contains x = false := by
  have := nodup_in h hx
  simpa using this
/-- A box of a tree, and one of two numbers behind it. -/
theorem two_new (w : World) (t : Tr) (p q : Int) :
    Blk ((w.alloc (.cells (treC t).toArray 26)).alloc (.cells #[.int .i64 p, .int .i64 q] 38)) w.heap.size (treC t) ∧
    Blk ((w.alloc (.cells (treC t).toArray 26)).alloc (.cells #[.int .i64 p, .int .i64 q] 38)) (w.heap.size + 1) [.int .i64 p, .int .i64 q] ∧
    Below w.heap.size w ((w.alloc (.cells (treC t).toArray 26)).alloc (.cells #[.int .i64 p, .int .i64 q] 38)) :=
  ⟨(Blk.new w (treC t) _).next _, Blk.newAt (by simp only [World.size_alloc]) _ _, ((Below.refl _ w).alloc (Nat.le_refl _) _).alloc (by simp only [World.size_alloc]; omega) _⟩

set_option maxHeartbeats 4000000 in
set_option maxRecDepth 100000 in
theorem walk (t : Tr) (x p q : Int) (w : World) (ht : Tre t) :
    Calls Try.prog 5 #[.agg (treC t).toArray, .int .i64 x, (.agg #[.int .i64 p, .int .i64 q] : Value)] w fun e w' => e = .returned (.bool true) ∧ Below w.heap.size w w' := by
  have OA := Lib.hid (fun w => worder_any t x ht w)
  have RO := Lib.hid (fun w => rorder_any t x ht w)
  have CA := Lib.hid (wchildren_any t p ht)
  have RC := Lib.hid (rchildren_any t p ht)
  have BA := Lib.hid (wbelow_any t x p ht)
  have RB := Lib.hid (rbelow_any t x p ht)
  have MA := Lib.hid (wmeet_any t x p q ht)
  have RM := Lib.hid (rmeet_any t x p q ht)
  have LA := Lib.hid (wleaves_any t x ht)
  have RL := Lib.hid (rleaves_any t x ht)
  have HX := Lib.hid (whops_any t x x ht)
  have HJ := Lib.hid (fun j : Nat => whops_any t x (j : Int) ht)
  have BX := Lib.hid (wbelow_any t x x ht)
  have GE := Lib.hid (fun n => tget_any t n ht)
  have AW := Lib.hid awake_any
  have HT := Lib.hid ht
  have HS := Lib.hid (order_short t x)
  have HSM := Lib.hid (order_small t x)
  have HNO : Hid (hopsT t x x ≠ 0 → orderT t x = []) := Lib.hid order_no
  have HND : Hid (hopsT t x x = 0 → (orderT t x).Nodup) := Lib.hid (fun h => (order_ord h).nd)
  have HUP : Hid (hopsT t x x = 0 → ∀ k z : Nat, 0 < k → (orderT t x)[k]? = some z → ∃ y : Nat, upT t (z : Int) = (y : Int) ∧ y ∈ (orderT t x).take k) := Lib.hid (fun h k z hk hz => order_up h hk hz)
  have HHA : Hid (hopsT t x x = 0 → ∀ j : Nat, j < 16 → (orderT t x).contains j = decide (0 ≤ hopsT t x (j : Int))) := Lib.hid (fun h j hj => order_has h hj)
  have HBE : Hid (hopsT t x x = 0 → belT t x x = setL (orderT t x)) := Lib.hid order_below
  generalize belT t x x = bx at BX HBE
  generalize hopsT t x x = hx at HX HNO HND HUP HHA HBE
  generalize leavT t x = lv at LA RL
  generalize meetT t x p q = mt at MA RM
  generalize belT t x p = bl at BA RB
  generalize chilT t p = ch at CA RC
  generalize orderT t x = l at OA RO HS HSM HNO HND HUP HHA HBE
  have e1 : (ch != ch) = false := by simp
  have e2 : (bl != bl) = false := by simp
  have e3 : (mt != mt) = false := by simp
  have e4 : (lv != lv) = false := by simp
  obtain ⟨n, hn⟩ : ∃ n, l.length = n := ⟨_, rfl⟩
  have HN := Lib.hid hn
  have hn16 : n ≤ 16 := by have := HS.out; omega
  clear hn ht
  go_enter Try.func5, Try.ntmps5
  go_upto_region 1 with fail
  obtain ⟨B0, B1, BB⟩ := two_new w t p q
  obtain ⟨w1, hw1⟩ : ∃ v, ((w.alloc (.cells (treC t).toArray 26)).alloc (.cells #[.int .i64 p, .int .i64 q] 38)) = v := ⟨_, rfl⟩
  rw [hw1] at B0 B1 BB ⊢
  clear hw1
  have K := Lib.hid B0
  have KN := Lib.hid B1
  have HB := Lib.hid BB
  clear B0 B1 BB
  refine wp_region_tail (fun w' => (wholeLoad 26 (.pointer (some ⟨w.heap.size, 0, none⟩))).run Try.prog w' = .ok (.agg (treC t).toArray) w' ∧ Below w1.heap.size w1 w') (fun _ => false) (by kernel_rfl) ⟨tre_load K.out.drew HT.out, (Below.refl _ _).drew⟩ (fun hS => ?_)
  refine wpAnyT_take 0 rfl (by kernel_rfl) (by kernel_rfl) (by kernel_rfl) (by kernel_rfl) (fun _ _ _ h => h) (by rfl) (by intro w hSw; (try dsimp only at hSw); go_simp <;> with_reducible rfl) (by assumption) ?_
  try simp only [Act.put]
  try simp only [List.setIfInBounds_toArray]
  try simp only [List.set]
  refine wpAnyT_take 1 rfl (by kernel_rfl) (by kernel_rfl) (by kernel_rfl) (by kernel_rfl) (fun _ _ _ h => h) (by rfl) (by intro w hSw; (try dsimp only at hSw); go_simp <;> with_reducible rfl) (by assumption) ?_
  try simp only [Act.put]
  try simp only [List.setIfInBounds_toArray]
  try simp only [List.set]
  refine wpAnyT_take 3 rfl (by kernel_rfl) (by kernel_rfl) (by kernel_rfl) (by kernel_rfl) (fun _ _ _ h => h) (by rfl) (by intro w hSw; (try dsimp only at hSw); go_simp <;> with_reducible rfl) (by assumption) ?_
  try simp only [Act.put]
  try simp only [List.setIfInBounds_toArray]
  try simp only [List.set]
  refine wpAnyT_take 4 rfl (by kernel_rfl) (by kernel_rfl) (by kernel_rfl) (by kernel_rfl) (fun _ _ _ h => h) (by rfl) (by intro w hSw; (try dsimp only at hSw); go_simp <;> with_reducible rfl) (by assumption) ?_
  try simp only [Act.put]
  try simp only [List.setIfInBounds_toArray]
  try simp only [List.set]
  refine wpAnyT_one 2 rfl (by kernel_rfl) (fun KQ hK => ?_)
  go_simp
  refine (OA.out _).mono ?_
  rintro e w2 hl
  obtain ⟨a, c, rfl, hn2, hb2⟩ := nats_slice hl
  have q2 : Below w1.heap.size w1 w2 := bel_on ((Below.refl _ _).drew) hb2
  clear hb2 hl
  go_simp
  refine hK.out _ _ (fun _ => ⟨tre_load (K.out.on q2) HT.out, q2⟩) (fun hn => ?_)
  clear hK KQ hS
  have hS := hn rfl
  clear hn
  try simp only [Act.put]
  try simp only [List.setIfInBounds_toArray]
  try simp only [List.set]
  refine wpAnyT_one 5 rfl (by kernel_rfl) (fun KQ hK => ?_)
  go_simp
  refine (RO.out _).mono ?_
  rintro e w3 hl
  obtain ⟨a2, c2, rfl, hn3, hb3⟩ := nats_slice hl
  have q3 : Below w1.heap.size w1 w3 := bel_on q2 hb3
  have hn2' := hn2.on hb3
  clear hb3 hl
  go_simp
  refine hK.out _ _ (fun _ => ⟨tre_load (K.out.on q3) HT.out, q3⟩) (fun hn => ?_)
  clear hK KQ hS
  have hS := hn rfl
  clear hn
  try simp only [Act.put]
  try simp only [List.setIfInBounds_toArray]
  try simp only [List.set]
  refine wpAnyT_one 6 rfl (by kernel_rfl) (fun KQ hK => ?_)
  go_simp
  refine hK.out _ _ (fun _ => hS) (fun hn => ?_)
  clear hK KQ hS
  have hS := hn rfl
  clear hn
  try simp only [Act.put]
  try simp only [List.setIfInBounds_toArray]
  try simp only [List.set]
  refine wpAnyT_one 7 rfl (by kernel_rfl) (fun KQ hK => ?_)
  go_simp
  refine hK.out _ _ (fun _ => hS) (fun hn => ?_)
  clear hK KQ hS
  have hS := hn rfl
  clear hn
  try simp only [Act.put]
  try simp only [List.setIfInBounds_toArray]
  try simp only [List.set]
  refine wpAnyT_done (by kernel_rfl) ?_ _
  clear hS
  have NA := Lib.hid (hn2'.low (Nat.zero_le _))
  have NB := Lib.hid (hn3.low (Nat.zero_le _))
  have K3 := Lib.hid (K.out.on q3)
  have KN3 := Lib.hid (KN.out.on q3)
  have HB3 := Lib.hid (bel_on HB.out q3)
  clear hn2 hn2' hn3 q2 q3 K KN HB OA RO
  have SF := Lib.hid (same_from (c := c) (d := c2) NA.out NB.out HS.out)
  rw [HN.out] at SF
  rw [HN.out]
  go_upto_region 2 with fail
  have l0 := fun dd os => tre_load (K3.out.on (below_regrown _ dd os)) HT.out
  have c0 := cell_regrown (KN3.out.cell 0 rfl)
  have c1 := cell_regrown (KN3.out.cell 1 rfl)
  refine wp_region_quiet_below (by kernel_rfl) (by kernel_rfl) ?_
  repeat (first | go_big_quiet_step (first | with_reducible exact CA.out.at _ _ _ | with_reducible exact RC.out.at _ _ _ | with_reducible exact BA.out.at _ _ _ | with_reducible exact RB.out.at _ _ _ | with_reducible exact MA.out.at _ _ _ | with_reducible exact RM.out.at _ _ _ | with_reducible exact LA.out.at _ _ _ | with_reducible exact RL.out.at _ _ _ | with_reducible exact SF.out.at _ _) | quiet_step (first | with_reducible exact CA.out.at _ _ _ | with_reducible exact RC.out.at _ _ _ | with_reducible exact BA.out.at _ _ _ | with_reducible exact RB.out.at _ _ _ | with_reducible exact MA.out.at _ _ _ | with_reducible exact RM.out.at _ _ _ | with_reducible exact LA.out.at _ _ _ | with_reducible exact RL.out.at _ _ _ | with_reducible exact SF.out.at _ _))
  refine wpQuiet_nil ?_
  intro _ hw'
  obtain ⟨⟨dq, osq⟩, hw''⟩ := hw'
  subst hw''
  clear l0 c0 c1
  obtain ⟨w4, hw4⟩ : ∃ w4, Go.Sort.grow (redrawn w3 dq) osq = w4 := ⟨_, rfl⟩
  have q4 : Below w3.heap.size w3 w4 := by rw [← hw4]; exact below_regrown _ dq osq
  rw [hw4]
  have K4 := Lib.hid (K3.out.on q4)
  have HB4 := Lib.hid (bel_on HB3.out q4)
  have NA4 := Lib.hid (NA.out.on q4)
  clear hw4 q4 K3 KN3 HB3 NA NB SF CA RC BA RB MA RM LA RL e1 e2 e3 e4
  have l0 := tre_load K4.out HT.out
  go_wp2_with fail
  refine (HX.out _).mono ?_
  rintro e w5 ⟨rfl, hb⟩
  have K5 := Lib.hid (K4.out.on hb)
  have HB5 := Lib.hid (bel_on HB4.out hb)
  have NA5 := Lib.hid (NA4.out.on hb)
  clear l0 hb K4 HB4 NA4
  by_cases h0 : hx = 0
  · subst h0
    have HND' := Lib.hid (HND.out rfl)
    have HUP' := Lib.hid (HUP.out rfl)
    have HHA' := Lib.hid (HHA.out rfl)
    have HBE' := Lib.hid (HBE.out rfl)
    clear HND HUP HHA HBE HNO
    go_wp2_with fail
    go_loopw [86, 9] (fun v s wr => ∃ k : Nat, v = .int .i64 (k : Int) ∧ k ≤ n ∧ s = .int .i64 (setL (l.take k)) ∧ Hid (Below w5.heap.size w5 wr)) (fun v _ _ => (n - intOf v).toNat)
    case atStart => exact ⟨0, rfl, Nat.zero_le _, by rw [List.take_zero, setL_nil], Lib.hid (Below.refl _ _)⟩
    case round =>
      obtain ⟨k, rfl, hk, rfl, HW⟩ := hrel
      by_cases hkn : k < n
      · obtain ⟨z, hz⟩ : ∃ z, l[k]? = some z := ⟨_, List.getElem?_eq_getElem (by have := HN.out; omega)⟩
        obtain ⟨g, rfl, _, ck⟩ := (NA5.out.on HW.out).read hz
        have hz16 := HSM.out z (List.mem_of_getElem? hz)
        have HA := Lib.hid (fun w => phas_list (l.take k) z w hz16)
        rw [take_no HND'.out hz] at HA
        have WI := Lib.hid (fun w => pwith_list (l.take k) z w hz16)
        have TP : Hid (l.take k ++ [z] = l.take (k + 1)) := Lib.hid (by rw [List.take_add_one, hz]; rfl)
        rw [TP.out] at WI
        have HK := Lib.hid hkn
        by_cases hk0 : 0 < k
        · obtain ⟨y, hy, hym⟩ := HUP'.out k z hk0 hz
          have hy16 := HSM.out y (List.mem_of_mem_take hym)
          have HY := Lib.hid (fun w => phas_list (l.take k) y w hy16)
          rw [show (l.take k).contains y = true by simpa using hym] at HY
          have GZ : Hid (Gives Try.prog 18 #[.agg (treC t).toArray, .int .i64 (z : Int)] (.agg #[.int .u32 ((getT t (z : Int)).1 : Int), .int .i64 (y : Int)])) := Lib.hid (by
            have h := GE.out (z : Int)
            rwa [show (getT t (z : Int)).2 = (y : Int) from hy] at h)
          generalize ((getT t (z : Int)).1 : Int) = dd at GZ
          have fd := field_pred dd (y : Int)
          have kp : decide ((0 : Int) < (k : Int)) = true := decide_eq_true (by omega)
          have kp2 : decide (0 < k) = true := decide_eq_true hk0
          have l0 := tre_load (K5.out.on HW.out) HT.out
          generalize setL (l.take k) = s0 at HA WI HY
          clear hk hk0 hz hz16 hy hym hy16
          go_wp2_with fail
          refine (HA.out _).mono ?_
          rintro e w6 ⟨rfl, rfl⟩
          go_wp2_with fail
          refine (GZ.out _).mono ?_
          rintro e w6 ⟨rfl, hb⟩
          have HW6 := Lib.hid (bel_on HW.out hb)
          clear hb l0 HW ck
          go_wp2_with fail
          refine (HY.out _).mono ?_
          rintro e w7 ⟨rfl, rfl⟩
          go_wp2_with fail
          refine (WI.out _).mono ?_
          rintro e w7 ⟨rfl, rfl⟩
          go_wp2_with fail
          go_roundw
          case rel => exact ⟨k + 1, by go_num, HK.out, rfl, HW6⟩
          case measure => exact meas_up n k _ rfl HK.out
        · obtain rfl : k = 0 := by omega
          clear hk hk0 hz hz16
          go_wp2_with fail
          refine (HA.out _).mono ?_
          rintro e w6 ⟨rfl, rfl⟩
          go_wp2_with fail
          refine (WI.out _).mono ?_
          rintro e w6 ⟨rfl, rfl⟩
          go_wp2_with fail
          go_roundw
          case rel => exact ⟨1, by go_num, HK.out, rfl, HW⟩
          case measure => exact meas_up n 0 _ rfl HK.out
      · have el : l.take k = l := List.take_of_length_le (by have := HN.out; omega)
        obtain rfl : k = n := by omega
        rw [el]
        have K6 := Lib.hid (K5.out.on HW.out)
        have HB6 := Lib.hid (bel_on HB5.out HW.out)
        clear hk hkn el
        go_wp2_with fail
        go_loopw [111] (fun v wi => ∃ j : Nat, v = .int .i64 (j : Int) ∧ j ≤ 16 ∧ Hid (Below wr.heap.size wr wi)) (fun v _ => (16 - intOf v).toNat)
        case atStart => exact ⟨0, rfl, Nat.zero_le _, Lib.hid (Below.refl _ _)⟩
        case round =>
          clear HW
          obtain ⟨j, rfl, hj, HV⟩ := hrel
          by_cases hj16 : j < 16
          · have HA : Hid (Gives Try.prog 16 #[.int .i64 (setL l), .int .i64 (j : Int)] (.bool (l.contains j))) := Lib.hid (fun w => (phas_list l j w hj16).mono (fun _ _ ⟨p, q⟩ => ⟨p, q ▸ Below.refl _ _⟩))
            have HH := Lib.hid (HJ.out j)
            have HC := HHA'.out j hj16
            rw [HC] at HA
            obtain ⟨b, hb⟩ : ∃ b, decide (0 ≤ hopsT t x (j : Int)) = b := ⟨_, rfl⟩
            rw [hb] at HA
            generalize hopsT t x (j : Int) = hh at HH hb HC
            have eb : (b != b) = false := by simp
            generalize setL l = sl at HA HBE' ⊢
            have HJ16 := Lib.hid hj16
            have l0 := fun dd os => tre_load ((K6.out.on HV.out).on (below_regrown _ dd os)) HT.out
            clear HC hj
            go_upto_region 17 with fail
            refine wp_region_quiet_below (by kernel_rfl) (by kernel_rfl) ?_
            repeat (first | go_big_quiet_step (first | with_reducible exact HA.out.at _ _ _ | with_reducible exact HH.out.at _ _ _) | quiet_step (first | with_reducible exact HA.out.at _ _ _ | with_reducible exact HH.out.at _ _ _))
            refine wpQuiet_nil ?_
            intro _ hw'
            obtain ⟨⟨dq, osq⟩, hw''⟩ := hw'
            subst hw''
            clear l0
            go_wp2_with fail
            go_roundw
            case rel => exact ⟨j + 1, by go_num, HJ16.out, Lib.hid (bel_on HV.out (below_regrown _ dq osq))⟩
            case measure => exact meas_up 16 j _ rfl HJ16.out
          · obtain rfl : j = 16 := by omega
            have K7 := Lib.hid (K6.out.on HV.out)
            have HB7 := Lib.hid (bel_on HB6.out HV.out)
            have l0 := tre_load K7.out HT.out
            have BX' := BX
            rw [HBE'.out] at BX'
            clear hj hj16
            have es : (setL l == setL l) = true := by simp
            go_wp2_with fail
            refine (BX'.out _).mono ?_
            rintro e w8 ⟨rfl, hb⟩
            have HB8 := Lib.hid (bel_on HB7.out hb)
            clear hb l0
            go_wp2_with fail
            refine (AW.out _).mono ?_
            rintro e w9 ⟨rfl, hb⟩
            have HB9 := Lib.hid (bel_on HB8.out hb)
            clear hb
            go_wp2_with fail
            go_ret
            exact ⟨rfl, HB9.out⟩
  · have hz : (hx != 0) = true := by simpa using h0
    have hl0 : n = 0 := by rw [← HN.out, HNO.out h0]; rfl
    subst hl0
    clear h0
    go_wp2_with fail
    refine (AW.out _).mono ?_
    rintro e w6 ⟨rfl, hb⟩
    have HB6 := Lib.hid (bel_on HB5.out hb)
    clear hb
    go_wp2_with fail
    go_ret
    exact ⟨rfl, HB6.out⟩

set_option maxRecDepth 100000 in
theorem lifted (os : Os) (started : os.Started) (H : Type) (enc : TypeId × Value → H) :
    ReturnsInHanded {} Try.checked os 5 .any (Rows.walkPartsSpec.pre6 enc Try.prog Try.f5 Rows.walkPartsRow.domain false) (Rows.walkPartsSpec.post enc Try.prog Try.f5 false true false false) := by
  refine returnsInHanded_of_change (C := Try.checked) own started (by kernel_rfl) Try.func5
    (ChangeSpec.witness6 (enc := enc) (C := Try.checked) false ⟨#[], #[.agg #[.int .u32 0, .int .i64 0, .int .u32 0, .int .i64 0, .int .u32 0, .int .i64 0, .int .u32 0, .int .i64 0, .int .u32 0, .int .i64 0, .int .u32 0, .int .i64 0, .int .u32 0, .int .i64 0, .int .u32 0, .int .i64 0, .int .u32 0, .int .i64 0, .int .u32 0, .int .i64 0, .int .u32 0, .int .i64 0, .int .u32 0, .int .i64 0, .int .u32 0, .int .i64 0, .int .u32 0, .int .i64 0, .int .u32 0, .int .i64 0, .int .u32 0, .int .i64 0], .int .i64 0, .agg #[.int .i64 0, .int .i64 0]], []⟩ 8 (by kernel_rfl) (by kernel_rfl) (by kernel_rfl) (by kernel_rfl)) ?_
  intro W base args ds gs before hval0 hW hcnd _
  have hval : ∀ (j : Nat) t v, Try.f5.params[j]? = some t → args[j]? = some v → Value.okWide Try.prog W .any base t v := hval0
  have hW' := hW
  obtain ⟨p, q, hA0, hV, rfl, hfz, hnd⟩ := hW
  have hA : DataW.TrodAll enc Try.prog W 0 (fun _ => true) true Try.f5.params.toList args.toList ds p := hA0
  rw [Try.params5] at hA hval
  obtain ⟨v0, vs0, d0, ds0, p0, q0, hargs, rfl, rfl, h0, r0⟩ := trodAll_cons hA
  obtain ⟨v1, vs1, d1, ds1, p1, q1, rfl, rfl, rfl, h1, r1⟩ := trodAll_cons r0
  obtain ⟨v2, vs2, d2, ds2, p2, q2, rfl, rfl, rfl, h2, r2⟩ := trodAll_cons r1
  obtain ⟨rfl, rfl, rfl⟩ := trodAll_nil r2
  obtain rfl : args = #[v0, v1, v2] := by cases args; simp_all
  obtain ⟨rfl, rfl⟩ := trodVars_none hV
  have k0 := h0
  have lt0 : ∀ x ∈ p0, x.block < W.heap.size := by obtain ⟨m, hm⟩ := k0; exact DataW.trod_lt m _ _ _ hm
  have k1 := h1
  have lt1 : ∀ x ∈ p1, x.block < W.heap.size := by obtain ⟨m, hm⟩ := k1; exact DataW.trod_lt m _ _ _ hm
  have k2 := h2
  have lt2 : ∀ x ∈ p2, x.block < W.heap.size := by obtain ⟨m, hm⟩ := k2; exact DataW.trod_lt m _ _ _ hm
  obtain ⟨t, rfl, htt⟩ := open_tree (hval 0 26 v0 rfl rfl) h0
  obtain ⟨x, rfl, _, _, hx⟩ := open_int Try.underlying3 (hval 1 3 v1 rfl rfl) h1
  have hbx := bounds_i64 hx
  obtain ⟨ns0, ns1, rfl, hbns0, hbns1⟩ := open_int2 (hval 2 38 v2 rfl rfl) h2
  clear hA0 hval0
  refine (walk t x ns0 ns1 W htt).mono fun e W' ⟨he, bel⟩ => ?_
  subst he
  exact ⟨_, rfl, _, _, _, [], _, [], hW', trodAll_mk1 (shut_bool Try.underlying4 _),
    (trodAll_cons_mk (Below.trod laidOut (by kernel_rfl) (of_decide_eq_true (by kernel_rfl)) k0 bel lt0)
    (trodAll_cons_mk (Below.trod laidOut (by kernel_rfl) (of_decide_eq_true (by kernel_rfl)) k1 bel lt1)
    (trodAll_cons_mk (Below.trod laidOut (by kernel_rfl) (of_decide_eq_true (by kernel_rfl)) k2 bel lt2)
    trodAll_mk0))), rfl, bel.frame _, fun h => by cases h⟩

theorem proved : Rows.WalkPartsSaid :=
  OpenClaim.holds_of_wide 5 Try.f5 rfl rfl rfl rfl rfl rfl rfl ⟨rfl, rfl, rfl, rfl, rfl⟩ rfl rfl rfl rfl rfl (by kernel_rfl) Try.func5 (by kernel_rfl)
    (of_decide_eq_true (by kernel_rfl)) (by unfold Func.isWrapper; first | (rw [if_pos (by decide +kernel)]; kernel_rfl) | (rw [if_neg (by decide +kernel)]; exact ⟨rfl, rfl⟩))
    (fun os started H enc _ => lifted os started H enc)
end Go.Proofs.Ytjpbglbbeepmnaa.walkParts
