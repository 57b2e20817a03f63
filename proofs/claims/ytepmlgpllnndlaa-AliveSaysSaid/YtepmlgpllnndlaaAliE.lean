/- Contracts of the document's Same, of equal arguments: what was sent, parts, windows, boxes, ends. -/
import Derived.Test.YtepmlgpllnndlaaAliS
import Derived.Test.YtepmlgpllnndlaaAliC
import Derived.Test.YtepmlgpllnndlaaFrom
namespace Go.Proofs.Ytepmlgpllnndlaa
open Go.RowKit Go.Sort
theorem al_meas (n k : Nat) (h : k < n) (v : Int) (hv : v = (k : Int) + 1) : (n - intOf (.int .i64 v)).toNat < (n - intOf (.int .i64 (k : Int))).toNat := by
  subst hv
  simp [intOf]; omega

set_option maxHeartbeats 1000000 in
theorem s17_any (a : Option Addr) (n c : Nat) (L : List Snd) (w : World) (h : sdS.At w a n c L) :
    Calls Try.prog 20 #[.slice a n c, .slice a n c] w fun e w' => e = .returned (.bool true) ∧ Below w.heap.size w w' := by
  have HL := Lib.hid h
  have hc : n ≤ 9223372036854775807 := by have := h.2.1; have := h.2.2.1; unfold maxLen at this; omega
  have t1 : ((n : Int) != (n : Int)) = false := by simp
  clear h
  go_enter Try.func20, Try.ntmps20
  go_upto_region 4 with fail
  go_loopw [13] (fun v wr => ∃ k : Nat, k ≤ n ∧ v = .int .i64 (k : Int) ∧ ∃ q, wr = w.drewN q) (fun v _ => (n - intOf v).toNat)
  case atStart => exact ⟨0, Nat.zero_le _, rfl, 0, rfl⟩
  case round =>
    obtain ⟨k, hk, rfl, q, hwr⟩ := hrel
    have HW := Lib.hid hwr
    by_cases hkn : k < n
    · obtain ⟨x, hx⟩ : ∃ x, L[k]? = some x := ⟨_, List.getElem?_eq_getElem (by have := HL.out.1; omega)⟩
      obtain ⟨p, p1, rfl, hp, c0, c1, c2, c3⟩ := sd_at (HL.out.drewN q) hx
      rw [← hwr] at c0 c1 c2 c3
      have l0 : (0 : Int) ≤ (k : Int) := by omega
      have l1 : (k : Int) < (n : Int) := by omega
      have ew : IntKind.i64.wrap ((k : Int) + 1) = (k : Int) + 1 := IntWalk.i64_in _ (by omega)
      have HK := Lib.hid hkn
      have NE := fun w => sd_ne x w
      clear hx hwr hk hc
      go_upto_region 6 with fail
      go_quiet (fail)
      go_wp2_with fail
      go_roundw
      case rel => exact ⟨k + 1, HK.out, by go_num, by rw [HW.out]; exact ⟨_, World.drewN_drewN _ _ _⟩⟩
      case measure => exact al_meas n k HK.out _ rfl
    · clear hwr
      go_wp2_with fail
      go_ret
      exact ⟨rfl, by rw [HW.out]; exact below_drewN (Below.refl _ _) _⟩

theorem two_parts (w : World) (x : Prc) :
    Blk ((w.alloc (.cells #[.int .i64 x.f, .int .u32 x.a, .int .u32 x.b, .int .u32 x.c, .int .u32 x.d, .int .i64 x.q, .bool x.m, .slice x.ia x.n x.k] 51)).alloc (.cells #[.int .i64 x.f, .int .u32 x.a, .int .u32 x.b, .int .u32 x.c, .int .u32 x.d, .int .i64 x.q, .bool x.m, .slice x.ia x.n x.k] 51)) w.heap.size x.cells ∧ Blk ((w.alloc (.cells #[.int .i64 x.f, .int .u32 x.a, .int .u32 x.b, .int .u32 x.c, .int .u32 x.d, .int .i64 x.q, .bool x.m, .slice x.ia x.n x.k] 51)).alloc (.cells #[.int .i64 x.f, .int .u32 x.a, .int .u32 x.b, .int .u32 x.c, .int .u32 x.d, .int .i64 x.q, .bool x.m, .slice x.ia x.n x.k] 51)) (w.heap.size + 1) x.cells ∧
    Below w.heap.size w ((w.alloc (.cells #[.int .i64 x.f, .int .u32 x.a, .int .u32 x.b, .int .u32 x.c, .int .u32 x.d, .int .i64 x.q, .bool x.m, .slice x.ia x.n x.k] 51)).alloc (.cells #[.int .i64 x.f, .int .u32 x.a, .int .u32 x.b, .int .u32 x.c, .int .u32 x.d, .int .i64 x.q, .bool x.m, .slice x.ia x.n x.k] 51)) :=
  ⟨(Blk.new w x.cells 51).next _, Blk.newAt (by simp only [World.size_alloc]) x.cells 51, ((Below.refl _ w).alloc (Nat.le_refl _) _).alloc (by simp only [World.size_alloc]; omega) _⟩
set_option maxHeartbeats 1000000 in
theorem s08_any (x : Prc) (w : World) (h : x.Has w) :
    Calls Try.prog 22 #[(.agg #[.int .i64 x.f, .int .u32 x.a, .int .u32 x.b, .int .u32 x.c, .int .u32 x.d, .int .i64 x.q, .bool x.m, .slice x.ia x.n x.k] : Value), (.agg #[.int .i64 x.f, .int .u32 x.a, .int .u32 x.b, .int .u32 x.c, .int .u32 x.d, .int .i64 x.q, .bool x.m, .slice x.ia x.n x.k] : Value)] w fun e w' => e = .returned (.bool true) ∧ Below w.heap.size w w' := by
  have hc : x.n ≤ 9223372036854775807 := by have := h.2.1; have := h.2.2.1; unfold maxLen at this; omega
  have t0 : (x.f != x.f) = false := by simp
  have t1 : (x.q != x.q) = false := by simp
  have t2 : (x.m != x.m) = false := by simp
  have t3 : ((x.n : Int) != (x.n : Int)) = false := by simp
  have NP := fun w => pair_ne x.a x.b x.c x.d w
  have HL := Lib.hid h
  clear h
  go_enter Try.func22, Try.ntmps22
  go_upto_region 1 with fail
  obtain ⟨B0, B1, BB⟩ := two_parts w x
  obtain ⟨w1, hw1⟩ : ∃ v, ((w.alloc (.cells #[.int .i64 x.f, .int .u32 x.a, .int .u32 x.b, .int .u32 x.c, .int .u32 x.d, .int .i64 x.q, .bool x.m, .slice x.ia x.n x.k] 51)).alloc (.cells #[.int .i64 x.f, .int .u32 x.a, .int .u32 x.b, .int .u32 x.c, .int .u32 x.d, .int .i64 x.q, .bool x.m, .slice x.ia x.n x.k] 51)) = v := ⟨_, rfl⟩
  rw [hw1] at B0 B1 BB ⊢
  clear hw1
  have HI := Lib.hid (HL.out.on BB)
  have B0 := Lib.hid B0
  have B1 := Lib.hid B1
  have BB := Lib.hid BB
  have c0 := B0.out.cell 0 rfl
  have d0 := B1.out.cell 0 rfl
  have c1 := B0.out.cell 1 rfl
  have d1 := B1.out.cell 1 rfl
  have c2 := B0.out.cell 2 rfl
  have d2 := B1.out.cell 2 rfl
  have c3 := B0.out.cell 3 rfl
  have d3 := B1.out.cell 3 rfl
  have c4 := B0.out.cell 4 rfl
  have d4 := B1.out.cell 4 rfl
  have c5 := B0.out.cell 5 rfl
  have d5 := B1.out.cell 5 rfl
  have c6 := B0.out.cell 6 rfl
  have d6 := B1.out.cell 6 rfl
  have c7 := B0.out.cell 7 rfl
  have d7 := B1.out.cell 7 rfl
  go_upto_region 4 with fail
  clear c0 d0 c1 d1 c2 d2 c3 d3 c4 d4 c5 d5 c6 d6 c7 d7 t0 t1 t2 t3 NP HL
  go_loopw [44] (fun v wr => ∃ k : Nat, k ≤ x.n ∧ v = .int .i64 (k : Int) ∧ ∃ q, wr = w1.drewN q) (fun v _ => (x.n - intOf v).toNat)
  case atStart => exact ⟨0, Nat.zero_le _, rfl, 0, rfl⟩
  case round =>
    obtain ⟨k, hk, rfl, q, hwr⟩ := hrel
    have HW := Lib.hid hwr
    by_cases hkn : k < x.n
    · obtain ⟨y, hy⟩ : ∃ y, x.items[k]? = some y := ⟨_, List.getElem?_eq_getElem (by have := HI.out.1; omega)⟩
      obtain ⟨p, p1, hia, hp, e0, e1, e2, e3⟩ := it_at (HI.out.drewN q) hy
      have c7 := (B0.out.drewN q).cell 7 rfl
      have d7 := (B1.out.drewN q).cell 7 rfl
      rw [hia] at c7 d7
      rw [← hwr] at e0 e1 e2 e3 c7 d7
      have l0 : (0 : Int) ≤ (k : Int) := by omega
      have l1 : (k : Int) < (x.n : Int) := by omega
      have ew : IntKind.i64.wrap ((k : Int) + 1) = (k : Int) + 1 := IntWalk.i64_in _ (by omega)
      have HK := Lib.hid hkn
      have NE := fun w => it_ne y w
      clear hy hwr hk hc hia
      go_upto_region 6 with fail
      go_quiet (fail)
      go_wp2_with fail
      go_roundw
      case rel => exact ⟨k + 1, HK.out, by go_num, by rw [HW.out]; exact ⟨_, World.drewN_drewN _ _ _⟩⟩
      case measure => exact al_meas x.n k HK.out _ rfl
    · clear hwr
      go_wp2_with fail
      go_ret
      exact ⟨rfl, by rw [HW.out]; exact below_drewN BB.out _⟩
end Go.Proofs.Ytepmlgpllnndlaa
