/- Contracts of the document's Same, of equal arguments: windows, boxes, ends; and which parts are long. -/
import Derived.Test.YtepmlgpllnndlaaAliE
namespace Go.Proofs.Ytepmlgpllnndlaa
open Go.RowKit Go.Sort
attribute [local go_sem ↓] loadAt_prt storeAt_prt
/-- An end's own slices read as some elements. -/
def Ends.Full (w : World) (x : Ends) : Prop := (∃ S, sdS.At w x.sa x.sn x.sc S) ∧ (∃ A, Parts w x.aa x.an x.ac A) ∧ ∃ G, itS.At w x.ga x.gn x.gc G
theorem Ends.Full.on {w w' : World} {x : Ends} (h : x.Full w) (hb : Below w.heap.size w w') : x.Full w' := by
  obtain ⟨⟨S, hS⟩, ⟨A, hA⟩, G, hG⟩ := h
  exact ⟨⟨S, hS.on hb⟩, ⟨A, hA.on hb⟩, G, hG.on hb⟩
theorem two_win (w : World) (x : Int) (a : Option Addr) (n c : Nat) :
    Blk ((w.alloc (.cells #[.int .i64 x, .slice a n c] 28)).alloc (.cells #[.int .i64 x, .slice a n c] 28)) w.heap.size [.int .i64 x, .slice a n c] ∧ Blk ((w.alloc (.cells #[.int .i64 x, .slice a n c] 28)).alloc (.cells #[.int .i64 x, .slice a n c] 28)) (w.heap.size + 1) [.int .i64 x, .slice a n c] ∧
    Below w.heap.size w ((w.alloc (.cells #[.int .i64 x, .slice a n c] 28)).alloc (.cells #[.int .i64 x, .slice a n c] 28)) :=
  ⟨(Blk.new w [.int .i64 x, .slice a n c] 28).next _, Blk.newAt (by simp only [World.size_alloc]) [.int .i64 x, .slice a n c] 28, ((Below.refl _ w).alloc (Nat.le_refl _) _).alloc (by simp only [World.size_alloc]; omega) _⟩
set_option maxHeartbeats 1000000 in
theorem s16_any (x : Int) (a : Option Addr) (n c : Nat) (L : List Prc) (w : World) (h : Parts w a n c L) :
    Calls Try.prog 21 #[(.agg #[.int .i64 x, .slice a n c] : Value), (.agg #[.int .i64 x, .slice a n c] : Value)] w fun e w' => e = .returned (.bool true) ∧ Below w.heap.size w w' := by
  have hc : n ≤ 9223372036854775807 := by have := h.1.2.1; have := h.1.2.2.1; unfold maxLen at this; omega
  have t0 : (x != x) = false := by simp
  have t1 : ((n : Int) != (n : Int)) = false := by simp
  have HL := Lib.hid h
  clear h
  go_enter Try.func21, Try.ntmps21
  go_upto_region 1 with fail
  obtain ⟨B0, B1, BB⟩ := two_win w x a n c
  obtain ⟨w1, hw1⟩ : ∃ v, ((w.alloc (.cells #[.int .i64 x, .slice a n c] 28)).alloc (.cells #[.int .i64 x, .slice a n c] 28)) = v := ⟨_, rfl⟩
  rw [hw1] at B0 B1 BB ⊢
  clear hw1
  have B0 := Lib.hid B0
  have B1 := Lib.hid B1
  have BB := Lib.hid BB
  have HI := Lib.hid (HL.out.on BB.out)
  have c0 := B0.out.cell 0 rfl
  have c1 := B0.out.cell 1 rfl
  have d0 := B1.out.cell 0 rfl
  have d1 := B1.out.cell 1 rfl
  go_upto_region 4 with fail
  clear c0 c1 d0 d1 t0 t1 HL
  go_loopw [23] (fun v wr => ∃ k : Nat, k ≤ n ∧ v = .int .i64 (k : Int) ∧ Below w1.heap.size w1 wr) (fun v _ => (n - intOf v).toNat)
  case atStart => exact ⟨0, Nat.zero_le _, rfl, Below.refl _ _⟩
  case round =>
    obtain ⟨k, hk, rfl, hb⟩ := hrel
    have HW := Lib.hid hb
    clear hb
    by_cases hkn : k < n
    · obtain ⟨y, hy⟩ : ∃ y, L[k]? = some y := ⟨_, List.getElem?_eq_getElem (by have := HI.out.1.1; omega)⟩
      have hI := HI.out.on HW.out
      have SM : Hid (From wr Try.prog 22 #[(.agg #[.int .i64 y.f, .int .u32 y.a, .int .u32 y.b, .int .u32 y.c, .int .u32 y.d, .int .i64 y.q, .bool y.m, .slice y.ia y.n y.k] : Value), (.agg #[.int .i64 y.f, .int .u32 y.a, .int .u32 y.b, .int .u32 y.c, .int .u32 y.d, .int .i64 y.q, .bool y.m, .slice y.ia y.n y.k] : Value)] (.bool true)) := Lib.hid (fun w' hb => s08_any y w' ((hI.2 y (List.mem_of_getElem? hy)).on hb))
      obtain ⟨p, p1, rfl, hp, e0, e1, e2, e3, e4, e5, e6, e7⟩ := pa_at hI.1 hy
      have c1 := (B0.out.on HW.out).cell 1 rfl
      have d1 := (B1.out.on HW.out).cell 1 rfl
      have l0 : (0 : Int) ≤ (k : Int) := by omega
      have l1 : (k : Int) < (n : Int) := by omega
      have ew : IntKind.i64.wrap ((k : Int) + 1) = (k : Int) + 1 := IntWalk.i64_in _ (by omega)
      have HK := Lib.hid hkn
      clear hy hk hc hI
      go_upto_region 6 with fail
      have e0 := cell_regrown e0
      have e1 := cell_regrown e1
      have e2 := cell_regrown e2
      have e3 := cell_regrown e3
      have e4 := cell_regrown e4
      have e5 := cell_regrown e5
      have e6 := cell_regrown e6
      have e7 := cell_regrown e7
      have c1 := cell_regrown c1
      have d1 := cell_regrown d1
      refine wp_region_quiet_below (by kernel_rfl) (by kernel_rfl) ?_
      repeat (first | go_big_quiet_step (first | with_reducible exact SM.out.at _ _) | quiet_step (first | with_reducible exact SM.out.at _ _))
      refine wpQuiet_nil ?_
      intro _ hw'
      obtain ⟨⟨dq, osq⟩, hw''⟩ := hw'
      subst hw''
      go_wp2_with fail
      go_roundw
      case rel => exact ⟨k + 1, HK.out, by go_num, HW.out.trans ((below_regrown _ dq osq).mono HW.out.size)⟩
      case measure => exact al_meas n k HK.out _ rfl
    · go_wp2_with fail
      go_ret
      exact ⟨rfl, bel_on BB.out HW.out⟩
theorem two_box (w : World) (x : Ends) :
    Blk ((w.alloc (.cells #[.int .i64 x.nx, .slice x.sa x.sn x.sc, .int .i64 x.ix, .slice x.aa x.an x.ac, .slice x.ga x.gn x.gc] 31)).alloc (.cells #[.int .i64 x.nx, .slice x.sa x.sn x.sc, .int .i64 x.ix, .slice x.aa x.an x.ac, .slice x.ga x.gn x.gc] 31)) w.heap.size [.int .i64 x.nx, .slice x.sa x.sn x.sc, .int .i64 x.ix, .slice x.aa x.an x.ac, .slice x.ga x.gn x.gc] ∧ Blk ((w.alloc (.cells #[.int .i64 x.nx, .slice x.sa x.sn x.sc, .int .i64 x.ix, .slice x.aa x.an x.ac, .slice x.ga x.gn x.gc] 31)).alloc (.cells #[.int .i64 x.nx, .slice x.sa x.sn x.sc, .int .i64 x.ix, .slice x.aa x.an x.ac, .slice x.ga x.gn x.gc] 31)) (w.heap.size + 1) [.int .i64 x.nx, .slice x.sa x.sn x.sc, .int .i64 x.ix, .slice x.aa x.an x.ac, .slice x.ga x.gn x.gc] ∧
    Below w.heap.size w ((w.alloc (.cells #[.int .i64 x.nx, .slice x.sa x.sn x.sc, .int .i64 x.ix, .slice x.aa x.an x.ac, .slice x.ga x.gn x.gc] 31)).alloc (.cells #[.int .i64 x.nx, .slice x.sa x.sn x.sc, .int .i64 x.ix, .slice x.aa x.an x.ac, .slice x.ga x.gn x.gc] 31)) :=
  ⟨(Blk.new w [.int .i64 x.nx, .slice x.sa x.sn x.sc, .int .i64 x.ix, .slice x.aa x.an x.ac, .slice x.ga x.gn x.gc] 31).next _, Blk.newAt (by simp only [World.size_alloc]) [.int .i64 x.nx, .slice x.sa x.sn x.sc, .int .i64 x.ix, .slice x.aa x.an x.ac, .slice x.ga x.gn x.gc] 31, ((Below.refl _ w).alloc (Nat.le_refl _) _).alloc (by simp only [World.size_alloc]; omega) _⟩
set_option maxHeartbeats 1000000 in
theorem s19_any (x : Ends) (w : World) (h : x.Full w) :
    Calls Try.prog 19 #[(.agg #[.int .i64 x.nx, .slice x.sa x.sn x.sc, .int .i64 x.ix, .slice x.aa x.an x.ac, .slice x.ga x.gn x.gc] : Value), (.agg #[.int .i64 x.nx, .slice x.sa x.sn x.sc, .int .i64 x.ix, .slice x.aa x.an x.ac, .slice x.ga x.gn x.gc] : Value)] w fun e w' => e = .returned (.bool true) ∧ Below w.heap.size w w' := by
  obtain ⟨⟨S, hS⟩, ⟨A, hA⟩, G, hG⟩ := h
  have hc : x.gn ≤ 9223372036854775807 := by have := hG.2.1; have := hG.2.2.1; unfold maxLen at this; omega
  have t0 : (x.nx != x.nx) = false := by simp
  have t1 : ((x.gn : Int) != (x.gn : Int)) = false := by simp
  have HS := Lib.hid hS
  have HA := Lib.hid hA
  have HG := Lib.hid hG
  clear hS hA hG
  go_enter Try.func19, Try.ntmps19
  go_upto_region 1 with fail
  obtain ⟨B0, B1, BB⟩ := two_box w x
  obtain ⟨w1, hw1⟩ : ∃ v, ((w.alloc (.cells #[.int .i64 x.nx, .slice x.sa x.sn x.sc, .int .i64 x.ix, .slice x.aa x.an x.ac, .slice x.ga x.gn x.gc] 31)).alloc (.cells #[.int .i64 x.nx, .slice x.sa x.sn x.sc, .int .i64 x.ix, .slice x.aa x.an x.ac, .slice x.ga x.gn x.gc] 31)) = v := ⟨_, rfl⟩
  rw [hw1] at B0 B1 BB ⊢
  clear hw1
  have B0 := Lib.hid B0
  have B1 := Lib.hid B1
  have BB := Lib.hid BB
  have S1 := Lib.hid (s17_any x.sa x.sn x.sc S w1 (HS.out.on BB.out))
  have c0 := B0.out.cell 0 rfl
  have d0 := B1.out.cell 0 rfl
  have c1 := B0.out.cell 1 rfl
  have d1 := B1.out.cell 1 rfl
  have c2 := B0.out.cell 2 rfl
  have d2 := B1.out.cell 2 rfl
  have c3 := B0.out.cell 3 rfl
  have d3 := B1.out.cell 3 rfl
  have c4 := B0.out.cell 4 rfl
  have d4 := B1.out.cell 4 rfl
  go_wp2_with fail
  refine S1.out.mono ?_
  rintro e w2 ⟨rfl, hb⟩
  clear c0 d0 c1 d1 c2 d2 c3 d3 c4 d4 S1
  have B0 := Lib.hid (B0.out.on hb)
  have B1 := Lib.hid (B1.out.on hb)
  have BB := Lib.hid (bel_on BB.out hb)
  clear hb
  have S2 := Lib.hid (s16_any x.ix x.aa x.an x.ac A w2 (HA.out.on BB.out))
  have c0 := B0.out.cell 0 rfl
  have d0 := B1.out.cell 0 rfl
  have c1 := B0.out.cell 1 rfl
  have d1 := B1.out.cell 1 rfl
  have c2 := B0.out.cell 2 rfl
  have d2 := B1.out.cell 2 rfl
  have c3 := B0.out.cell 3 rfl
  have d3 := B1.out.cell 3 rfl
  have c4 := B0.out.cell 4 rfl
  have d4 := B1.out.cell 4 rfl
  go_wp2_with fail
  refine S2.out.mono ?_
  rintro e w3 ⟨rfl, hb⟩
  clear c0 d0 c1 d1 c2 d2 c3 d3 c4 d4 S2
  have B0 := Lib.hid (B0.out.on hb)
  have B1 := Lib.hid (B1.out.on hb)
  have BB := Lib.hid (bel_on BB.out hb)
  clear hb
  have HI := Lib.hid (HG.out.on BB.out)
  have c4 := B0.out.cell 4 rfl
  have d4 := B1.out.cell 4 rfl
  go_upto_region 4 with fail
  clear c4 d4 t0 t1 HS HA HG
  go_loopw [39] (fun v wr => ∃ k : Nat, k ≤ x.gn ∧ v = .int .i64 (k : Int) ∧ ∃ q, wr = w3.drewN q) (fun v _ => (x.gn - intOf v).toNat)
  case atStart => exact ⟨0, Nat.zero_le _, rfl, 0, rfl⟩
  case round =>
    obtain ⟨k, hk, rfl, q, hwr⟩ := hrel
    have HW := Lib.hid hwr
    by_cases hkn : k < x.gn
    · obtain ⟨y, hy⟩ : ∃ y, G[k]? = some y := ⟨_, List.getElem?_eq_getElem (by have := HI.out.1; omega)⟩
      obtain ⟨p, p1, hia, hp, e0, e1, e2, e3⟩ := it_at (HI.out.drewN q) hy
      have c4 := (B0.out.drewN q).cell 4 rfl
      have d4 := (B1.out.drewN q).cell 4 rfl
      rw [hia] at c4 d4
      rw [← hwr] at e0 e1 e2 e3 c4 d4
      have l0 : (0 : Int) ≤ (k : Int) := by omega
      have l1 : (k : Int) < (x.gn : Int) := by omega
      have ew : IntKind.i64.wrap ((k : Int) + 1) = (k : Int) + 1 := IntWalk.i64_in _ (by omega)
      have HK := Lib.hid hkn
      have NE := fun w => it_ne y w
      clear hy hwr hk hc hia
      go_upto_region 6 with fail
      go_quiet (fail)
      go_wp2_with fail
      go_roundw
      case rel => exact ⟨k + 1, HK.out, by go_num, by rw [HW.out]; exact ⟨_, World.drewN_drewN _ _ _⟩⟩
      case measure => exact al_meas x.gn k HK.out _ rfl
    · clear hwr
      go_wp2_with fail
      go_ret
      exact ⟨rfl, by rw [HW.out]; exact below_drewN BB.out _⟩

theorem two_prt (w : World) (st q t : Int) (x : Ends) :
    Blk ((w.alloc (.cells (prt st q t x).toArray 33)).alloc (.cells (prt st q t x).toArray 33)) w.heap.size (prt st q t x) ∧ Blk ((w.alloc (.cells (prt st q t x).toArray 33)).alloc (.cells (prt st q t x).toArray 33)) (w.heap.size + 1) (prt st q t x) ∧
    Below w.heap.size w ((w.alloc (.cells (prt st q t x).toArray 33)).alloc (.cells (prt st q t x).toArray 33)) :=
  ⟨(Blk.new w (prt st q t x) 33).next _, Blk.newAt (by simp only [World.size_alloc]) (prt st q t x) 33, ((Below.refl _ w).alloc (Nat.le_refl _) _).alloc (by simp only [World.size_alloc]; omega) _⟩
set_option maxHeartbeats 1000000 in
theorem s20_any (st q t : Int) (x : Ends) (w : World) (h : x.Full w) :
    Calls Try.prog 9 #[.agg (prt st q t x).toArray, .agg (prt st q t x).toArray] w fun e w' => e = .returned (.bool true) ∧ Below w.heap.size w w' := by
  have t0 : (st == st) = true := by simp
  have t1 : (q == q) = true := by simp
  have t2 : (t == t) = true := by simp
  have E1 := fun w => epoch_eql x.m1 x.m2 w
  have E2 := fun w => epoch_eql x.t1 x.t2 w
  have HF := Lib.hid h
  clear h
  go_enter Try.func9, Try.ntmps9
  go_upto_region 1 with fail
  obtain ⟨B0, B1, BB⟩ := two_prt w st q t x
  obtain ⟨w1, hw1⟩ : ∃ v, ((w.alloc (.cells (prt st q t x).toArray 33)).alloc (.cells (prt st q t x).toArray 33)) = v := ⟨_, rfl⟩
  rw [hw1] at B0 B1 BB ⊢
  clear hw1
  have SM := Lib.hid (s19_any x w1 (HF.out.on BB))
  have BB := Lib.hid BB
  have c0 := B0.cell 0 rfl
  have d0 := B1.cell 0 rfl
  have c1 := B0.cell 1 rfl
  have d1 := B1.cell 1 rfl
  have c2 := B0.cell 2 rfl
  have d2 := B1.cell 2 rfl
  have c3 := B0.cell 3 rfl
  have d3 := B1.cell 3 rfl
  have c4 := B0.cell 4 rfl
  have d4 := B1.cell 4 rfl
  have c5 := B0.cell 5 rfl
  have d5 := B1.cell 5 rfl
  have c6 := B0.cell 6 rfl
  have d6 := B1.cell 6 rfl
  have c7 := B0.cell 7 rfl
  have d7 := B1.cell 7 rfl
  have c8 := B0.cell 8 rfl
  have d8 := B1.cell 8 rfl
  have c9 := B0.cell 9 rfl
  have d9 := B1.cell 9 rfl
  have c10 := B0.cell 10 rfl
  have d10 := B1.cell 10 rfl
  have c11 := B0.cell 11 rfl
  have d11 := B1.cell 11 rfl
  clear B0 B1
  go_wp2_with fail
  refine SM.out.mono ?_
  rintro e w2 ⟨rfl, hb⟩
  have BB := Lib.hid (bel_on BB.out hb)
  clear hb
  go_wp2_with fail
  go_ret
  exact ⟨rfl, BB.out⟩
end Go.Proofs.Ytepmlgpllnndlaa
