/- Contracts of package acks, part H: anyHas of one ack and of two. -/
import Derived.Test.YtaamlmahhkoleaaDoorAcksC
namespace Go.Proofs.YtaamlmahhkoleaaDoor
open Go.RowKit Go.Sort

set_option maxHeartbeats 1000000 in
theorem any_one (f a b c d n s seq : Int) (g : Nat) (w : World) (ht : Tab w) (hk : Blk w g [.int .i64 f, .int .u32 a, .int .u32 b, .int .u32 c, .int .u32 d, .int .i64 n, .int .i64 s]) (hn : n < 9223372036854775808) (hq : -9223372036854775808 ≤ seq ∧ seq < 9223372036854775808) :
    Calls Tryd.prog 27 #[.slice (some ⟨g, 0, none⟩) 1 1, .int .i64 seq] w fun e w' => e = .returned (.bool (AcksF.hasB n s seq)) ∧ Below w.heap.size w w' := by
  have HS := Lib.hid (ahas_any f a b c d n s seq hn hq)
  have T := Lib.hid ht
  have K := Lib.hid hk
  have H := Lib.hid (Below.refl w.heap.size w)
  obtain ⟨r, hr⟩ : ∃ r, AcksF.hasB n s seq = r := ⟨_, rfl⟩
  rw [hr] at HS ⊢
  clear ht hk hn hq hr
  go_enter Tryd.func27, Tryd.ntmps27
  go_wp2
  go_loopw [9] (fun v wr => (v = .int .i64 0 ∨ (v = .int .i64 1 ∧ r = false)) ∧ Below w.heap.size w wr) (fun v _ => (1 - intOf v).toNat)
  case atStart => exact ⟨.inl rfl, H.out⟩
  case round =>
    obtain ⟨hv, hb⟩ := hrel
    have HB := Lib.hid hb
    clear hb
    rcases hv with rfl | ⟨rfl, hr0⟩
    · have k := K.out.on HB.out
      have c0 := k.cell 0 rfl
      have c1 := k.cell 1 rfl
      have c2 := k.cell 2 rfl
      have c3 := k.cell 3 rfl
      have c4 := k.cell 4 rfl
      have c5 := k.cell 5 rfl
      have c6 := k.cell 6 rfl
      clear k
      go_wp2_with fail
      refine (HS.out _ (T.out.on (HB.out.alloc HB.out.size _))).mono ?_
      rintro e w1 ⟨rfl, hb1⟩
      have HB1 := Lib.hid (bel_on (HB.out.alloc HB.out.size _) hb1)
      clear hb1 c0 c1 c2 c3 c4 c5 c6
      rcases r with _ | _
      · go_wp2_with fail
        go_roundw
        case rel => exact ⟨by simp, HB1.out⟩
        case measure => simp [intOf]
      · go_wp2_with fail
        go_ret
        exact ⟨rfl, HB1.out⟩
    · subst hr0
      go_wp2
      go_ret
      exact ⟨rfl, HB.out⟩

set_option maxHeartbeats 1000000 in
theorem any_two (f a b c d n s f' a' b' c' d' n' s' seq : Int) (g : Nat) (w : World) (ht : Tab w) (hk : Blk w g [.int .i64 f, .int .u32 a, .int .u32 b, .int .u32 c, .int .u32 d, .int .i64 n, .int .i64 s, .int .i64 f', .int .u32 a', .int .u32 b', .int .u32 c', .int .u32 d', .int .i64 n', .int .i64 s'])
    (hn : n < 9223372036854775808) (hn' : n' < 9223372036854775808) (hq : -9223372036854775808 ≤ seq ∧ seq < 9223372036854775808) :
    Calls Tryd.prog 27 #[.slice (some ⟨g, 0, none⟩) 2 2, .int .i64 seq] w fun e w' => e = .returned (.bool (AcksF.hasB n s seq || AcksF.hasB n' s' seq)) ∧ Below w.heap.size w w' := by
  have HS := Lib.hid (ahas_any f a b c d n s seq hn hq)
  have HS' := Lib.hid (ahas_any f' a' b' c' d' n' s' seq hn' hq)
  have T := Lib.hid ht
  have K := Lib.hid hk
  have H := Lib.hid (Below.refl w.heap.size w)
  obtain ⟨r, hr⟩ : ∃ r, AcksF.hasB n s seq = r := ⟨_, rfl⟩
  obtain ⟨r', hr'⟩ : ∃ r, AcksF.hasB n' s' seq = r := ⟨_, rfl⟩
  rw [hr] at HS ⊢
  rw [hr'] at HS' ⊢
  clear ht hk hn hn' hq hr hr'
  go_enter Tryd.func27, Tryd.ntmps27
  go_wp2
  go_loopw [9] (fun v wr => (v = .int .i64 0 ∨ (v = .int .i64 1 ∧ r = false) ∨ (v = .int .i64 2 ∧ r = false ∧ r' = false)) ∧ Below w.heap.size w wr) (fun v _ => (2 - intOf v).toNat)
  case atStart => exact ⟨.inl rfl, H.out⟩
  case round =>
    obtain ⟨hv, hb⟩ := hrel
    have HB := Lib.hid hb
    clear hb
    rcases hv with rfl | ⟨rfl, hr0⟩ | ⟨rfl, hr0, hr1⟩
    · have k := K.out.on HB.out
      have c0 := k.cell 0 rfl
      have c1 := k.cell 1 rfl
      have c2 := k.cell 2 rfl
      have c3 := k.cell 3 rfl
      have c4 := k.cell 4 rfl
      have c5 := k.cell 5 rfl
      have c6 := k.cell 6 rfl
      clear k
      go_wp2_with fail
      refine (HS.out _ (T.out.on (HB.out.alloc HB.out.size _))).mono ?_
      rintro e w1 ⟨rfl, hb1⟩
      have HB1 := Lib.hid (bel_on (HB.out.alloc HB.out.size _) hb1)
      clear hb1 c0 c1 c2 c3 c4 c5 c6
      rcases r with _ | _
      · go_wp2_with fail
        go_roundw
        case rel => exact ⟨by simp, HB1.out⟩
        case measure => simp [intOf]
      · go_wp2_with fail
        go_ret
        exact ⟨rfl, HB1.out⟩
    · subst hr0
      have k := K.out.on HB.out
      have c0 := k.cell 7 rfl
      have c1 := k.cell 8 rfl
      have c2 := k.cell 9 rfl
      have c3 := k.cell 10 rfl
      have c4 := k.cell 11 rfl
      have c5 := k.cell 12 rfl
      have c6 := k.cell 13 rfl
      clear k
      go_wp2_with fail
      refine (HS'.out _ (T.out.on (HB.out.alloc HB.out.size _))).mono ?_
      rintro e w1 ⟨rfl, hb1⟩
      have HB1 := Lib.hid (bel_on (HB.out.alloc HB.out.size _) hb1)
      clear hb1 c0 c1 c2 c3 c4 c5 c6
      rcases r' with _ | _
      · go_wp2_with fail
        go_roundw
        case rel => exact ⟨by simp, HB1.out⟩
        case measure => simp [intOf]
      · go_wp2_with fail
        go_ret
        exact ⟨by simp, HB1.out⟩
    · subst hr0 hr1
      go_wp2
      go_ret
      exact ⟨rfl, HB.out⟩
end Go.Proofs.YtaamlmahhkoleaaDoor
