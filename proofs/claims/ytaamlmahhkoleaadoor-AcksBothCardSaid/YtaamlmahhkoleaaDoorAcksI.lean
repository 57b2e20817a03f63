/- Contracts of package acks, part I: near, Told. -/
import Derived.Test.YtaamlmahhkoleaaDoorAcksH
namespace Go.Proofs.YtaamlmahhkoleaaDoor
open Go.RowKit Go.Sort

/-- What near asks of the acks that it is handed: of each number in range whether one of them has it. -/
def AnyOf (v : Value) (p : Int → Bool) (w : World) : Prop := ∀ q : Int, (-9223372036854775808 ≤ q ∧ q < 9223372036854775808) → ∀ w1, Below w.heap.size w w1 →
  Calls Tryd.prog 27 #[v, .int .i64 q] w1 fun e w' => e = .returned (.bool (p q)) ∧ Below w1.heap.size w1 w'

set_option maxRecDepth 100000 in
set_option maxHeartbeats 1000000 in
theorem near_any (next : Int) (v : Value) (p : Int → Bool) (w : World) (hv : AnyOf v p w) : Calls Tryd.prog 21 #[.int .i64 next, v] w (OwnInts (AcksF.nearL next p) w) := by
  obtain ⟨i0, hi, hz0, hz1, hz2⟩ := info_parts info_int
  obtain ⟨r, hr⟩ : ∃ r, AcksF.seqB next = r := ⟨_, rfl⟩
  have M := Lib.hid (isseq_any next)
  rw [hr] at M
  have V := Lib.hid hv
  clear hv
  cases r with
  | false =>
    have HN := Lib.hid (AcksF.nearL_out p hr)
    clear hr
    rw [HN.out]
    go_enter Tryd.func21, Tryd.ntmps21
    go_wp2_with fail
    refine (M.out _).mono ?_
    rintro e w1 ⟨rfl, rfl⟩
    go_wp2_with fail
    go_ret
    exact ⟨_, rfl, World.ownsRow_nil _ _ _ _, Below.refl _ _⟩
  | true =>
    have HN := Lib.hid (AcksF.nearL_in p hr)
    have hin := AcksF.seqB_in hr
    clear hr
    rw [HN.out]
    go_enter Tryd.func21, Tryd.ntmps21
    go_wp2_with fail
    refine (M.out _).mono ?_
    rintro e w1 ⟨rfl, rfl⟩
    go_wp2_with fail
    go_loopw [5, 10] (fun u c wr => ∃ k : Nat, c = .int .i64 (k : Int) ∧ k ≤ 8 ∧ wr.ownsRow w.heap.size 3 1 u (AcksF.nearK next p k).length (intV (AcksF.nearK next p k)) ∧ Below w.heap.size w wr)
      (fun _ c _ => (8 - intOf c).toNat)
    case atStart => exact ⟨0, rfl, by omega, World.ownsRow_nil _ _ _ _, Below.refl _ _⟩
    case round =>
      obtain ⟨k, rfl, hk, hown, hbel⟩ := hrel
      have hlen := AcksF.nearK_length next p k
      have HBL := Lib.hid hbel
      have hsz := hbel.size
      by_cases h : k < 8
      · have hw1 : wrap64 (next + (k : Int)) = next + (k : Int) := IntWalk.wrap64_in _ (by omega)
        have hw2 : IntKind.i64.wrap (next + (k : Int)) = next + (k : Int) := IntWalk.i64_in _ (by omega)
        have C := Lib.hid (V.out (next + (k : Int)) (by omega) wr hbel)
        obtain ⟨b, hb⟩ : ∃ b, p (next + (k : Int)) = b := ⟨_, rfl⟩
        rw [hb] at C
        have HB := Lib.hid hb
        have HO := Lib.hid hown
        clear hb hbel hown
        go_wp2_with fail
        refine C.out.mono ?_
        rintro e w2 ⟨rfl, hb2⟩
        have hown2 := row_below HO.out hb2
        have HB2 := Lib.hid (bel_on HBL.out hb2)
        have hsz2 := HB2.out.size
        clear hb2
        cases b with
        | true =>
          have HK := Lib.hid (AcksF.nearK_yes HB.out)
          go_wp2_with (at_builtin; refine wpList_append_own _ rfl (.tmp 18) (.tmp 22) 22 rfl w.heap.size 3 i0 (.int .i64 0) 1 8 Tryd.underlying22 hi hz0 hz1 hz2 rfl (by decide) _ _ _ rfl (hown2.alloc _) ⟨w2.heap.size, 0, none⟩ 1 1 [_] rfl rfl (cell_one_new _ _ _) (by simp [Value.oneCell']) (by unfold maxLen; omega) (by omega) (by simp; omega) ?_; intro v1 w3 hown1 hg1 _)
          go_roundw
          case rel =>
            exact ⟨k + 1, by go_num, by omega, by rw [HK.out, intV_snoc, List.length_append]; exact hown1, (HB2.out.alloc hsz2 _).grown hg1 (by simp; omega) (fun k hk => (hown2.lt k hk).1)⟩
          case measure => simp [intOf]; omega
        | false =>
          have HK := Lib.hid (AcksF.nearK_no HB.out)
          go_wp2
          go_roundw
          case rel => exact ⟨k + 1, by go_num, by omega, by rw [HK.out]; exact hown2, HB2.out⟩
          case measure => simp [intOf]; omega
      · obtain rfl : k = 8 := by omega
        go_wp2
        go_ret
        exact ⟨_, rfl, hown, HBL.out⟩
end Go.Proofs.YtaamlmahhkoleaaDoor
