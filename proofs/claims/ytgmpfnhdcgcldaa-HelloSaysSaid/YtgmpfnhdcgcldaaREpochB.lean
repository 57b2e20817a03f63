/- Contracts of the document's own Bytes and Read of pairs of epochs. -/
import Derived.Test.YtgmpfnhdcgcldaaEpochB
import Derived.Test.YtgmpfnhdcgcldaaQuiet
import Derived.Test.YtgmpfnhdcgcldaaRNum
import Derived.Test.YtgmpfnhdcgcldaaRTake
namespace Go.Proofs.Ytgmpfnhdcgcldaa
open Go.RowKit Go.Sort

theorem rnum_four (n : Nat) (hn : n < 4294967296) : Gives Try.prog 20 #[.int .u64 (n : Int), .int .i64 4] (.string (str (PackF.numL n 4))) := fun w => rnum_any n 4 w (by omega)

set_option maxHeartbeats 1000000 in
theorem rbytes_any (a b c d : Nat) (ha : a < 4294967296) (hb : b < 4294967296) (hc : c < 4294967296) (hd : d < 4294967296) (w : World) :
    Calls Try.prog 21 #[(.agg #[.int .u32 (a : Int), .int .u32 (b : Int), .int .u32 (c : Int), .int .u32 (d : Int)] : Value)] w fun e w' => e = .returned (.string (str (pairL a b c d))) ∧ Below w.heap.size w w' := by
  have hz : ∀ n, (str (PackF.numL n 4)).size = 4 := fun n => by rw [str_size, PackF.numL_length]
  have HV : Hid (str (PackF.numL a 4) ++ str (PackF.numL b 4) ++ str (PackF.numL c 4) ++ str (PackF.numL d 4) = str (pairL a b c d)) := Lib.hid (by
    unfold pairL putL; rw [str_append, str_append, str_append, List.append_assoc])
  have ho1 : ¬ 9223372036854775807 < (str (PackF.numL a 4)).size + (str (PackF.numL b 4)).size := by rw [hz, hz]; omega
  have ho2 : ¬ 9223372036854775807 < (str (PackF.numL a 4)).size + (str (PackF.numL b 4)).size + (str (PackF.numL c 4)).size := by rw [hz, hz, hz]; omega
  have ho3 : ¬ 9223372036854775807 < (str (PackF.numL a 4)).size + (str (PackF.numL b 4)).size + (str (PackF.numL c 4)).size + (str (PackF.numL d 4)).size := by rw [hz, hz, hz, hz]; omega
  have N1 := Lib.hid (rnum_four a ha)
  have N2 := Lib.hid (rnum_four b hb)
  have N3 := Lib.hid (rnum_four c hc)
  have N4 := Lib.hid (rnum_four d hd)
  have w1 : IntKind.u64.wrap (a : Int) = (a : Int) := by rw [IntKind.wrap_u64]; omega
  have w2 : IntKind.u64.wrap (b : Int) = (b : Int) := by rw [IntKind.wrap_u64]; omega
  have w3 : IntKind.u64.wrap (c : Int) = (c : Int) := by rw [IntKind.wrap_u64]; omega
  have w4 : IntKind.u64.wrap (d : Int) = (d : Int) := by rw [IntKind.wrap_u64]; omega
  clear hz ha hb hc hd
  have HB : Hid (Below w.heap.size w (w.alloc (.cells #[.int .u32 (a : Int), .int .u32 (b : Int), .int .u32 (c : Int), .int .u32 (d : Int)] 26))) := Lib.hid ((Below.refl _ _).alloc (Nat.le_refl _) _)
  have p := Blk.new w [.int .u32 (a : Int), .int .u32 (b : Int), .int .u32 (c : Int), .int .u32 (d : Int)] 26
  have p0 := cell_regrown (p.cell 0 rfl)
  have p1 := cell_regrown (p.cell 1 rfl)
  have p2 := cell_regrown (p.cell 2 rfl)
  have p3 := cell_regrown (p.cell 3 rfl)
  clear p
  go_enter Try.func21, Try.ntmps21
  go_upto_region 1 with fail
  refine wp_region_quiet_below (by kernel_rfl) (by kernel_rfl) ?_
  repeat (first | go_big_quiet_step (first | with_reducible exact N1.out.at _ _ _ | with_reducible exact N2.out.at _ _ _ | with_reducible exact N3.out.at _ _ _ | with_reducible exact N4.out.at _ _ _) | quiet_step (first | with_reducible exact N1.out.at _ _ _ | with_reducible exact N2.out.at _ _ _ | with_reducible exact N3.out.at _ _ _ | with_reducible exact N4.out.at _ _ _))
  refine wpQuiet_nil ?_
  intro _ hw'
  obtain ⟨⟨dq, osq⟩, hw''⟩ := hw'
  subst hw''
  go_wp2
  go_ret
  exact ⟨by rw [← HV.out]; rfl, bel_on HB.out (below_regrown _ dq osq)⟩

theorem rread_short (l : List UInt8) (h : l.length < 16) (w : World) :
    Calls Try.prog 24 #[.string (str l)] w fun e w' => e = .returned (.tuple #[(.agg #[.int .u32 0, .int .u32 0, .int .u32 0, .int .u32 0] : Value), .string ⟨#[]⟩, .int .i64 2]) ∧ Below w.heap.size w w' := by
  have hz := str_size l
  have h16 : decide (((str l).size : Int) < 16) = true := decide_eq_true (by omega)
  clear hz h
  go_enter Try.func24, Try.ntmps24
  go_wp2
  refine bodyPost_ret (v := .tuple #[(.agg #[.int .u32 0, .int .u32 0, .int .u32 0, .int .u32 0] : Value), .string ⟨#[]⟩, .int .i64 2]) (by simp [results, Try.results24, go_sem]) rfl ⟨rfl, ?_⟩
  exact (Below.refl _ _).alloc (Nat.le_refl _) _

/-- The four numbers that the document's Read takes, behind so many rounds. -/
def fourV (l : List UInt8) (i j : Nat) : Value := .int .u64 (if j < i then (boot (l.drop (4 * j)) : Int) else 0)
def fourC (l : List UInt8) (i : Nat) : List Value := [fourV l i 0, fourV l i 1, fourV l i 2, fourV l i 3]
theorem fourV_old (l : List UInt8) (i j : Nat) (h : j ≠ i) : fourV l (i + 1) j = fourV l i j := by
  unfold fourV
  by_cases hj : j < i
  · rw [if_pos hj, if_pos (by omega)]
  · rw [if_neg hj, if_neg (by omega)]
theorem fourV_new (l : List UInt8) (i : Nat) : fourV l (i + 1) i = .int .u64 (boot (l.drop (4 * i)) : Int) := by
  unfold fourV; rw [if_pos (by omega)]
theorem fourC_step (l : List UInt8) (i : Nat) (h : i < 4) : (fourC l i).set i (.int .u64 (boot (l.drop (4 * i)) : Int)) = fourC l (i + 1) := by
  unfold fourC
  match i, h with
  | 0, _ => rw [fourV_new l 0, fourV_old l 0 1 (by decide), fourV_old l 0 2 (by decide), fourV_old l 0 3 (by decide)]; rfl
  | 1, _ => rw [fourV_new l 1, fourV_old l 1 0 (by decide), fourV_old l 1 2 (by decide), fourV_old l 1 3 (by decide)]; rfl
  | 2, _ => rw [fourV_new l 2, fourV_old l 2 0 (by decide), fourV_old l 2 1 (by decide), fourV_old l 2 3 (by decide)]; rfl
  | 3, _ => rw [fourV_new l 3, fourV_old l 3 0 (by decide), fourV_old l 3 1 (by decide), fourV_old l 3 2 (by decide)]; rfl
theorem fourC_end (l : List UInt8) : fourC l 4 = [.int .u64 (boot l : Int), .int .u64 (local' l : Int), .int .u64 (boot (l.drop 8) : Int), .int .u64 (local' (l.drop 8) : Int)] := by
  unfold fourC fourV local' boot
  simp [List.drop_drop]
theorem fourC_cell (l : List UInt8) (i : Nat) (h : i < 4) : (fourC l i)[i]? = some (fourV l i i) := by
  match i, h with
  | 0, _ => rfl
  | 1, _ => rfl
  | 2, _ => rfl
  | 3, _ => rfl

theorem rtake4_is (l : List UInt8) (hs : l.length ≤ maxLen) (h : 4 ≤ l.length) : Gives Try.prog 23 #[.string (str l), .int .i64 4] (.tuple #[.int .u64 (boot l : Nat), .string (str (l.drop 4)), .int .i64 0]) := fun w => by
  have e := take4 (str l) (by rw [str_size]; exact h)
  rw [str_list] at e
  rw [← e]
  refine (rtake_any (str l) 4 w (by rw [str_size]; exact hs)).mono ?_
  rintro x w1 ⟨rfl, n, rfl⟩
  exact ⟨by rw [str_list], below_drewN (Below.refl _ _) n⟩

set_option maxRecDepth 100000 in
set_option maxHeartbeats 1000000 in
theorem rread_ok (l : List UInt8) (h : 16 ≤ l.length) (hs : l.length ≤ maxLen) (w : World) :
    Calls Try.prog 24 #[.string (str l)] w fun e w' => e = .returned (.tuple #[(.agg #[.int .u32 (boot l : Int), .int .u32 (local' l : Int), .int .u32 (boot (l.drop 8) : Int), .int .u32 (local' (l.drop 8) : Int)] : Value), .string (str (l.drop 16)), .int .i64 0]) ∧ Below w.heap.size w w' := by
  have hz := str_size l
  have h16 : decide (((str l).size : Int) < 16) = false := decide_eq_false (by omega)
  have k0 : Blk ((w.alloc (.cells #[.int .u32 0, .int .u32 0, .int .u32 0, .int .u32 0] 26)).alloc (.cells #[.int .u64 0, .int .u64 0, .int .u64 0, .int .u64 0] 58)) w.heap.size [.int .u32 0, .int .u32 0, .int .u32 0, .int .u32 0] := (Blk.new w _ _).next _
  have k1 : Blk ((w.alloc (.cells #[.int .u32 0, .int .u32 0, .int .u32 0, .int .u32 0] 26)).alloc (.cells #[.int .u64 0, .int .u64 0, .int .u64 0, .int .u64 0] 58)) (w.heap.size + 1) (fourC l 0) := Blk.newAt (by simp only [World.size_alloc]) [.int .u64 0, .int .u64 0, .int .u64 0, .int .u64 0] _
  have hbel0 : Below w.heap.size w ((w.alloc (.cells #[.int .u32 0, .int .u32 0, .int .u32 0, .int .u32 0] 26)).alloc (.cells #[.int .u64 0, .int .u64 0, .int .u64 0, .int .u64 0] 58)) := ((Below.refl _ _).alloc (Nat.le_refl _) _).alloc (by simp) _
  have K0 := Lib.hid k0
  have K1 := Lib.hid k1
  have HB0 := Lib.hid hbel0
  have HT := Lib.hid (fun i (hi : i < 4) => rtake4_is (l.drop (4 * i)) (by rw [List.length_drop]; omega) (by rw [List.length_drop]; omega))
  have ha := boot_lt l
  have hb := local_lt l
  have hc := boot_lt (l.drop 8)
  have hd := local_lt (l.drop 8)
  obtain ⟨a, ea⟩ : ∃ a, boot l = a := ⟨_, rfl⟩
  obtain ⟨b, eb⟩ : ∃ a, local' l = a := ⟨_, rfl⟩
  obtain ⟨c, ec⟩ : ∃ a, boot (l.drop 8) = a := ⟨_, rfl⟩
  obtain ⟨d, ed⟩ : ∃ a, local' (l.drop 8) = a := ⟨_, rfl⟩
  rw [ea, eb, ec, ed]
  rw [ea] at ha
  rw [eb] at hb
  rw [ec] at hc
  rw [ed] at hd
  have EA := Lib.hid ea
  have EB := Lib.hid eb
  have EC := Lib.hid ec
  have ED := Lib.hid ed
  clear hz h hs k0 k1 hbel0 ea eb ec ed
  go_enter Try.func24, Try.ntmps24
  go_wp2
  go_loopw [0, 11] (fun s c wr => ∃ i : Nat, i ≤ 4 ∧ s = .string (str (l.drop (4 * i))) ∧ c = .int .i64 (i : Int) ∧ Blk wr w.heap.size [.int .u32 0, .int .u32 0, .int .u32 0, .int .u32 0] ∧ Blk wr (w.heap.size + 1) (fourC l i) ∧ Below w.heap.size w wr)
    (fun _ c _ => 4 - (intOf c).toNat)
  case atStart => exact ⟨0, by decide, by simp, rfl, K0.out, K1.out, HB0.out⟩
  case round =>
    obtain ⟨i, hi, rfl, rfl, k0, k1, hbel⟩ := hrel
    have K0 := Lib.hid k0
    have K1 := Lib.hid k1
    have HB := Lib.hid hbel
    clear HB0 k0 k1 hbel
    by_cases h4 : i < 4
    · go_wp2_with fail
      refine (HT.out i h4 _).mono ?_
      rintro e w1 ⟨rfl, hb1⟩
      have k0 := K0.out.on hb1
      have k1 := K1.out.on hb1
      have hb2 := bel_on HB.out hb1
      have c0 := k1.cell i (fourC_cell l i h4)
      have t0 := k1.thaw i
      have l0 := k1.lt
      have K1' := Lib.hid (k1.set i (.int .u64 (boot (l.drop (4 * i)) : Int)))
      have K0' := Lib.hid (k0.other ⟨w.heap.size + 1, i, none⟩ (.int .u64 (boot (l.drop (4 * i)) : Int)) (by simp))
      have HB' : Hid (Below w.heap.size w (w1.setCell ⟨w.heap.size + 1, i, none⟩ (.int .u64 (boot (l.drop (4 * i)) : Int)))) := Lib.hid (hb2.setCell (by simp) _)
      have HS := Lib.hid (fourC_step l i h4)
      clear k0 k1 hb1 hb2 K0 K1 HB
      go_wp2
      go_roundw
      case rel => exact ⟨i + 1, by omega, congrArg (fun z => Value.string (str (List.drop z l))) (by omega), by go_num, K0'.out, by rw [← HS.out]; exact K1'.out, HB'.out⟩
      case measure => simp [intOf]; omega
    · obtain rfl : i = 4 := by omega
      have k1 := K1.out
      rw [fourC_end, EA.out, EB.out, EC.out, ED.out] at k1
      have c0 := k1.cell 0 rfl
      have c1 := k1.cell 1 rfl
      have c2 := k1.cell 2 rfl
      have c3 := k1.cell 3 rfl
      have k0 := K0.out
      have q0 := k0.cell 0 rfl
      have q1 := k0.cell 1 rfl
      have q2 := k0.cell 2 rfl
      have q3 := k0.cell 3 rfl
      have t0 := k0.thaw 0
      have t1 := k0.thaw 1
      have t2 := k0.thaw 2
      have t3 := k0.thaw 3
      have w1 : IntKind.u32.wrap (a : Int) = (a : Int) := by rw [IntKind.wrap_u32]; omega
      have w2 : IntKind.u32.wrap (b : Int) = (b : Int) := by rw [IntKind.wrap_u32]; omega
      have w3 : IntKind.u32.wrap (c : Int) = (c : Int) := by rw [IntKind.wrap_u32]; omega
      have w4 : IntKind.u32.wrap (d : Int) = (d : Int) := by rw [IntKind.wrap_u32]; omega
      have K := Lib.hid ((((k0.set 0 (.int .u32 (a : Int))).set 1 (.int .u32 (b : Int))).set 2 (.int .u32 (c : Int))).set 3 (.int .u32 (d : Int)))
      clear k0 k1 K0 K1
      go_wp2_with fail
      have k := K.out
      have r0 := k.cell 0 rfl
      have r1 := k.cell 1 rfl
      have r2 := k.cell 2 rfl
      have r3 := k.cell 3 rfl
      refine bodyPost_ret (v := .tuple #[(.agg #[.int .u32 (a : Int), .int .u32 (b : Int), .int .u32 (c : Int), .int .u32 (d : Int)] : Value), .string (str (l.drop 16)), .int .i64 0]) (by simp [results, Try.results24, go_sem, r0, r1, r2, r3]) rfl ⟨rfl, ?_⟩
      exact (((HB.out.setCell (Nat.le_refl _) _).setCell (Nat.le_refl _) _).setCell (Nat.le_refl _) _).setCell (Nat.le_refl _) _
end Go.Proofs.Ytgmpfnhdcgcldaa
