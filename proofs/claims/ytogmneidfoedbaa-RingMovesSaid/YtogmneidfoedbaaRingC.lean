/- Contracts of package ring, part C: slices.Grow of nothing, slices.Concat of two. -/
import Derived.Test.YtogmneidfoedbaaRingB
import Derived.Lib.AppendZeros
namespace Go.Proofs.Ytogmneidfoedbaa
open Go.RowKit Go.Sort

theorem neg_dec (n : Nat) : decide ((n : Int) < 0) = false := decide_eq_false (by omega)

set_option maxHeartbeats 1000000 in
theorem grow_any (n : Nat) (w : World) (hn : n ≤ 100000000) :
    Calls Try.prog 30 #[.slice none 0 0, .int .i64 (n : Int)] w fun e w' => ∃ a c, e = .returned (.slice a 0 c) ∧ w'.ownsRow w.heap.size 9 1 (.slice a 0 c) 0 (strV []) ∧ Below w.heap.size w w' := by
  obtain ⟨i0, hi, hz0, hz1, hz2⟩ := info_parts info_string
  have d0 := neg_dec n
  have e1 : wrap64 (n : Int) = (n : Int) := IntWalk.wrap64_in _ (by omega)
  by_cases h : n = 0
  · subst h
    go_enter Try.func30, Try.ntmps30
    go_wp2
    go_ret
    exact ⟨_, _, rfl, World.ownsRow_nil _ _ _ _, Below.refl _ _⟩
  · have d1 : decide ((0 : Int) < (n : Int)) = true := decide_eq_true (by omega)
    have d2 : decide (0 < n) = true := decide_eq_true (by omega)
    have hrz := fun (w : World) => Lib.run_append_nil_zeros (P := Try.prog) w 25 3 25 9 i0 (.string ⟨#[]⟩) .i64 .i64 Try.underlying25 Try.underlying3 hi hz0 n (by omega) (by rw [hz1]; decide) (by omega) (by rw [hz2]; omega)
    have HR := Lib.hid hrz
    obtain ⟨k, hk⟩ : ∃ k, grownCap w n 0 9 = k := ⟨_, rfl⟩
    have hk1 := grownCap_ge w n 0 9
    have hk2 := grownCap_le_maxLen w n 0 9 (by unfold maxLen; omega)
    have HRW := hrz w
    rw [hk] at HRW hk1 hk2
    have HW := Lib.hid HRW
    have hown : (w.drew.alloc (.cells (Builtin.zeroCells (Value.cells (.string ⟨#[]⟩)) n ++ Builtin.zeroCells (Value.cells (.string ⟨#[]⟩)) (k - n)) 9)).ownsRow w.heap.size 9 1 (.slice (some ⟨w.heap.size, 0, none⟩) 0 k) 0 [] :=
      World.ownsRow_made w.drew _ k (Nat.le_refl _) hk2 (by simp only [Array.size_append, size_zeroCells]; show n * 1 + (k - n) * 1 = k * 1; omega)
    have HO := Lib.hid hown
    have HB : Hid (Below w.heap.size w (w.drew.alloc (.cells (Builtin.zeroCells (Value.cells (.string ⟨#[]⟩)) n ++ Builtin.zeroCells (Value.cells (.string ⟨#[]⟩)) (k - n)) 9))) := Lib.hid ((Below.refl _ _).drew.alloc (Nat.le_refl _) _)
    clear hrz HRW hown hk h HR hk1
    go_enter Try.func30, Try.ntmps30
    go_wp2_with (at_builtin; refine Lib.wpList_append_run _ rfl _ _ _ _ rfl _ _ rfl rfl _ _ HW.out ?_)
    go_ret
    exact ⟨_, _, rfl, HO.out, HB.out⟩

theorem meas2 (j : Nat) (v : Int) (h : v = (j : Int) + 1) (hj : j < 2) : (2 - intOf (.int .i64 v)).toNat < (2 - intOf (.int .i64 (j : Int))).toNat := by
  subst h
  simp [intOf]; omega

set_option maxHeartbeats 2000000 in
theorem concat_any (g : Nat) (a b : Option Addr) (n c m d : Nat) (L M : List ByteArray) (w : World) (hk : Blk w g [.slice a n c, .slice b m d]) (hL : Txts w a n c L) (hM : Txts w b m d M) (hn : n ≤ 1000000) (hm : m ≤ 1000000) :
    Calls Try.prog 24 #[.slice (some ⟨g, 0, none⟩) 2 2] w (GotTxts (L ++ M) w) := by
  have HL := Lib.hid hL
  have HM := Lib.hid hM
  have HK := Lib.hid hk
  have HN := Lib.hid hn
  have HN2 := Lib.hid hm
  obtain ⟨k, hkk⟩ : ∃ k, n + m = k := ⟨_, rfl⟩
  have e1 : wrap64 (n : Int) = (n : Int) := IntWalk.wrap64_in _ (by omega)
  have es : (n : Int) + (m : Int) = (k : Int) := by omega
  have e2 : wrap64 (k : Int) = (k : Int) := IntWalk.wrap64_in _ (by omega)
  have dn := neg_dec n
  have dk := neg_dec k
  have GR := Lib.hid (fun w => grow_any k w (by omega))
  have KK := Lib.hid hkk
  have c0 := hk.cell 0 rfl
  have c1 := hk.cell 1 rfl
  clear hL hM hn hm hk hkk
  go_enter Try.func24, Try.ntmps24
  go_upto_region 3 with fail
  go_loopw [3, 11] (fun s v wr => ((v = .int .i64 0 ∧ s = .int .i64 0) ∨ (v = .int .i64 1 ∧ s = .int .i64 (n : Int)) ∨ (v = .int .i64 2 ∧ s = .int .i64 (k : Int))) ∧ w = wr) (fun _ v _ => (2 - intOf v).toNat)
  case atStart => exact ⟨.inl ⟨rfl, rfl⟩, rfl⟩
  case round =>
    obtain ⟨hv, rfl⟩ := hrel
    rcases hv with ⟨rfl, rfl⟩ | ⟨rfl, rfl⟩ | ⟨rfl, rfl⟩
    · go_wp2
      go_roundw
      case rel => exact ⟨.inr (.inl ⟨rfl, by rw [e1]⟩), trivial⟩
      case measure => simp [intOf]
    · go_wp2
      go_roundw
      case rel => exact ⟨.inr (.inr ⟨rfl, by rw [e2]⟩), trivial⟩
      case measure => simp [intOf]
    · go_wp2_with fail
      refine (GR.out _).mono ?_
      rintro e w1 ⟨a0, q0, rfl, hown, hb⟩
      have HO := Lib.hid hown
      have HB := Lib.hid hb
      clear hown hb c0 c1
      go_upto_region 11 with fail
      go_loopw [6, 27] (fun u v wr => ((v = .int .i64 0 ∧ ∃ a0 q0, u = .slice a0 0 q0 ∧ wr.ownsRow w.heap.size 9 1 (.slice a0 0 q0) 0 (strV [])) ∨ (v = .int .i64 1 ∧ ∃ a0 q0, u = .slice a0 n q0 ∧ wr.ownsRow w.heap.size 9 1 (.slice a0 n q0) n (strV L)) ∨
        (v = .int .i64 2 ∧ ∃ a0 q0, u = .slice a0 k q0 ∧ wr.ownsRow w.heap.size 9 1 (.slice a0 k q0) k (strV (L ++ M)))) ∧ Below w.heap.size w wr) (fun _ v _ => (2 - intOf v).toNat)
      case atStart => exact ⟨.inl ⟨rfl, _, _, rfl, HO.out⟩, HB.out⟩
      case round =>
        obtain ⟨hv, hbr⟩ := hrel
        have HR := Lib.hid hbr
        clear hbr HO HB
        rcases hv with ⟨rfl, a1, q1, rfl, ho⟩ | ⟨rfl, a1, q1, rfl, ho⟩ | ⟨rfl, a1, q1, rfl, ho⟩
        · have HO := Lib.hid ho
          have k0 := (HK.out.on HR.out).cell 0 rfl
          clear ho
          go_wp2_with (at_builtin; refine app_own rfl (.tmp 31) (.tmp 32) rfl w.heap.size a1 a 0 q1 n c [] L rfl rfl HO.out rfl (HL.out.on HR.out) (by have := HN.out; omega) HR.out.size ?_; intro a2 q2 w2 hown2 hg)
          simp only [Nat.zero_add, List.nil_append] at hown2
          have HO2 := Lib.hid hown2
          have HB2 := Lib.hid (HR.out.grown hg HR.out.size (fun k hk => (HO.out.lt k hk).1))
          clear hown2 hg k0
          go_roundw
          case rel => exact ⟨.inr (.inl ⟨rfl, _, _, rfl, HO2.out⟩), HB2.out⟩
          case measure => simp [intOf]
        · have HO := Lib.hid ho
          have k0 := (HK.out.on HR.out).cell 1 rfl
          clear ho
          go_wp2_with (at_builtin; refine app_own rfl (.tmp 31) (.tmp 32) rfl w.heap.size a1 b n q1 m d L M rfl rfl HO.out HL.out.1 (HM.out.on HR.out) (by have := HN.out; have := HN2.out; omega) HR.out.size ?_; intro a2 q2 w2 hown2 hg)
          have HO2 := Lib.hid hown2
          have HB2 := Lib.hid (HR.out.grown hg HR.out.size (fun k hk => (HO.out.lt k hk).1))
          clear hown2 hg k0
          go_roundw
          case rel => exact ⟨.inr (.inr ⟨rfl, _, _, by rw [KK.out], by rw [← KK.out]; exact HO2.out⟩), HB2.out⟩
          case measure => simp [intOf]
        · have HO := Lib.hid ho
          clear ho
          go_wp2_with fail
          go_ret
          obtain ⟨a3, c3, he, ht, hoff⟩ := row_shape HO.out (by rw [List.length_append, HL.out.1, HM.out.1, KK.out])
          simp only [Value.slice.injEq, true_and] at he
          obtain ⟨rfl, rfl⟩ := he
          exact ⟨_, _, _, rfl, ht, hoff, HR.out⟩
end Go.Proofs.Ytogmneidfoedbaa
