/- Contracts of the laws' own Long: some answer; what they read stays. -/
import Derived.Test.YtepmlgpllnndlaaAliE
namespace Go.Proofs.Ytepmlgpllnndlaa
open Go.RowKit Go.Sort
theorem long08_any (x : Prc) : Gives Try.prog 15 #[(.agg #[.int .i64 x.f, .int .u32 x.a, .int .u32 x.b, .int .u32 x.c, .int .u32 x.d, .int .i64 x.q, .bool x.m, .slice x.ia x.n x.k] : Value)] (.bool (decide ((100 : Int) < (x.n : Int)))) := by
  intro w
  obtain ⟨b, hb⟩ : ∃ b, decide ((100 : Int) < (x.n : Int)) = b := ⟨_, rfl⟩
  rw [hb]
  go_enter Try.func15, Try.ntmps15
  go_upto_region 1 with fail
  have k0 : Blk (w.alloc (.cells #[.int .i64 x.f, .int .u32 x.a, .int .u32 x.b, .int .u32 x.c, .int .u32 x.d, .int .i64 x.q, .bool x.m, .slice x.ia x.n x.k] 51)) w.heap.size x.cells := Blk.new w x.cells 51
  have c7 := k0.cell 7 rfl
  clear k0
  go_wp2
  go_ret
  exact ⟨rfl, (Below.refl _ _).alloc (Nat.le_refl _) _⟩
set_option maxHeartbeats 1000000 in
theorem long16_any (a : Option Addr) (n c : Nat) (L : List Prc) (w : World) (h : Parts w a n c L) :
    Calls Try.prog 5 #[.slice a n c] w fun e w' => (∃ b, e = .returned (.bool b)) ∧ Below w.heap.size w w' := by
  have hc : n ≤ 9223372036854775807 := by have := h.1.2.1; have := h.1.2.2.1; unfold maxLen at this; omega
  have HL := Lib.hid h
  clear h
  go_enter Try.func5, Try.ntmps5
  go_upto_region 2 with fail
  go_loopw [7] (fun v wr => ∃ k : Nat, k ≤ n ∧ v = .int .i64 (k : Int) ∧ Below w.heap.size w wr) (fun v _ => (n - intOf v).toNat)
  case atStart => exact ⟨0, Nat.zero_le _, rfl, Below.refl _ _⟩
  case round =>
    obtain ⟨k, hk, rfl, hb⟩ := hrel
    have HW := Lib.hid hb
    clear hb
    by_cases hkn : k < n
    · obtain ⟨y, hy⟩ : ∃ y, L[k]? = some y := ⟨_, List.getElem?_eq_getElem (by have := HL.out.1.1; omega)⟩
      have LG := Lib.hid (long08_any y)
      obtain ⟨b, hb⟩ : ∃ b, decide ((100 : Int) < (y.n : Int)) = b := ⟨_, rfl⟩
      rw [hb] at LG
      obtain ⟨p, p1, rfl, hp, e0, e1, e2, e3, e4, e5, e6, e7⟩ := pa_at (HL.out.on HW.out).1 hy
      have l0 : (0 : Int) ≤ (k : Int) := by omega
      have l1 : (k : Int) < (n : Int) := by omega
      have ew : IntKind.i64.wrap ((k : Int) + 1) = (k : Int) + 1 := IntWalk.i64_in _ (by omega)
      have HK := Lib.hid hkn
      clear hy hk hc hb
      go_upto_region 4 with fail
      have N0 : Hid (Blk (wr.alloc (.cells #[.int .i64 y.f, .int .u32 y.a, .int .u32 y.b, .int .u32 y.c, .int .u32 y.d, .int .i64 y.q, .bool y.m, .slice y.ia y.n y.k] 51)) wr.heap.size y.cells) := Lib.hid (Blk.new wr y.cells 51)
      have BB : Hid (Below w.heap.size w (wr.alloc (.cells #[.int .i64 y.f, .int .u32 y.a, .int .u32 y.b, .int .u32 y.c, .int .u32 y.d, .int .i64 y.q, .bool y.m, .slice y.ia y.n y.k] 51))) := Lib.hid (HW.out.alloc HW.out.size _)
      obtain ⟨w1, hw1⟩ : ∃ v, wr.alloc (.cells #[.int .i64 y.f, .int .u32 y.a, .int .u32 y.b, .int .u32 y.c, .int .u32 y.d, .int .i64 y.q, .bool y.m, .slice y.ia y.n y.k] 51) = v := ⟨_, rfl⟩
      rw [hw1] at N0 BB ⊢
      clear hw1 e0 e1 e2 e3 e4 e5 e6 e7
      have e0 := N0.out.cell 0 rfl
      have e1 := N0.out.cell 1 rfl
      have e2 := N0.out.cell 2 rfl
      have e3 := N0.out.cell 3 rfl
      have e4 := N0.out.cell 4 rfl
      have e5 := N0.out.cell 5 rfl
      have e6 := N0.out.cell 6 rfl
      have e7 := N0.out.cell 7 rfl
      go_wp2_with fail
      refine (LG.out _).mono ?_
      rintro e w2 ⟨rfl, hb⟩
      have BB := Lib.hid (bel_on BB.out hb)
      clear hb e0 e1 e2 e3 e4 e5 e6 e7
      cases b with
      | true =>
        go_wp2_with fail
        go_ret
        exact ⟨⟨true, rfl⟩, BB.out⟩
      | false =>
        go_wp2_with fail
        go_roundw
        case rel => exact ⟨k + 1, HK.out, by go_num, BB.out⟩
        case measure => exact al_meas n k HK.out _ rfl
    · obtain ⟨b, hb⟩ : ∃ b, decide ((60 : Int) < (n : Int)) = b := ⟨_, rfl⟩
      go_wp2_with fail
      go_ret
      exact ⟨⟨_, rfl⟩, HW.out⟩
end Go.Proofs.Ytepmlgpllnndlaa
