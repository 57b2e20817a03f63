/- The contracts of sort.Search as gauge.notAbove asks it, and of notAbove. -/
import Derived.Test.YtjoeeaagjcpdpaaGaugeN
namespace Go.Proofs.Ytjoeeaagjcpdpaa
open Go.RowKit

theorem above_is {i n c x y : Nat} {a : Addr} {b1 b2 : Nat} {g : Bool} (w : World) (h1 : w.cell? ⟨b1, 0, none⟩ = some (.slice (some a) n c)) (h2 : w.cell? ⟨b2, 0, none⟩ = some (.float .f64 x)) (hi : i < n) (hy : w.cell? (a.add i) = some (.float .f64 y))
    (hg : (FloatKind.f64.format.order y x == some .gt) = g) :
    Calls Try.prog 40 #[.int .i64 (i : Int), .pointer (some ⟨b1, 0, none⟩), .pointer (some ⟨b2, 0, none⟩)] w fun e w' => e = .returned (.bool g) ∧ ∃ q, w' = w.drewN q := by
  have i0 : (0 : Int) ≤ (i : Int) := by omega
  have i1 : (i : Int) < (n : Int) := by omega
  go_enter Try.func40, Try.ntmps40
  go_wp2_with fail
  go_quiet (fail)
  go_wp2_with fail
  go_ret
  exact ⟨rfl, _, rfl⟩

def Found (n : Nat) (gt : Nat → Bool) (w : World) (e : Ending) (w' : World) : Prop := ∃ k q, e = .returned (.int .i64 ((k : Nat) : Int)) ∧ k ≤ n ∧ (0 < k → gt (k - 1) = false) ∧ (k < n → gt k = true) ∧ w' = w.drewN q

set_option maxHeartbeats 400000 in
theorem search_is (n b1 b2 : Nat) (gt : Nat → Bool) (w : World) (hn : n ≤ 1000)
    (hf : ∀ q i, i < n → Calls Try.prog 40 #[.int .i64 (i : Int), .pointer (some ⟨b1, 0, none⟩), .pointer (some ⟨b2, 0, none⟩)] (w.drewN q) fun e w' => e = .returned (.bool (gt i)) ∧ ∃ q', w' = (w.drewN q).drewN q') :
    Calls Try.prog 39 #[.int .i64 (n : Int), .func (.func 40) #[] #[.pointer (some ⟨b1, 0, none⟩), .pointer (some ⟨b2, 0, none⟩)]] w (Found n gt w) := by
  have HF := Lib.hid hf
  clear hf
  go_enter Try.func39, Try.ntmps39
  go_wp2_with fail
  go_loopw [5, 6] (fun u v wr => ∃ (i j q : Nat), u = .int .i64 (i : Int) ∧ v = .int .i64 (j : Int) ∧ i ≤ j ∧ j ≤ n ∧ Hid (0 < i → gt (i - 1) = false) ∧ Hid (j < n → gt j = true) ∧ wr = w.drewN q)
    (fun u v _ => (intOf v - intOf u).toNat)
  case atStart => exact ⟨0, n, 0, rfl, rfl, by omega, by omega, Lib.hid fun _ => by omega, Lib.hid fun _ => by omega, rfl⟩
  case round =>
    obtain ⟨i, j, q, rfl, rfl, hij, hj, k1, k2, rfl⟩ := hrel
    by_cases hlt : i < j
    · obtain ⟨k, hk⟩ : ∃ k, (i + j) / 2 = k := ⟨_, rfl⟩
      have eq : ((i : Int) + (j : Int)) / 2 = (k : Int) := by omega
      have q1 : i ≤ k := by omega
      have q2 : k < j := by omega
      have HC := Lib.hid (HF.out q k (by omega))
      obtain ⟨g, hg⟩ : ∃ g, gt k = g := ⟨_, rfl⟩
      rw [hg] at HC
      have HG := Lib.hid hg
      clear hk hg
      cases g
      · go_wp2_with fail
        ((with_reducible refine HC.out.mono ?_); skip)
        rintro e w1 ⟨rfl, q', rfl⟩
        go_wp2_with fail
        go_roundw
        case rel => exact ⟨k + 1, j, q + q', by go_num, rfl, by omega, hj, Lib.hid fun _ => by rw [Nat.add_sub_cancel]; exact HG.out, k2, rfl⟩
        case measure => simp [intOf]; omega
      · go_wp2_with fail
        ((with_reducible refine HC.out.mono ?_); skip)
        rintro e w1 ⟨rfl, q', rfl⟩
        go_wp2_with fail
        go_roundw
        case rel => exact ⟨i, k, q + q', rfl, rfl, q1, by omega, k1, Lib.hid fun _ => HG.out, rfl⟩
        case measure => simp [intOf]; omega
    · obtain rfl : i = j := by omega
      go_wp2_with fail
      go_ret
      exact ⟨i, q, rfl, hj, k1.out, k2.out, rfl⟩

set_option maxHeartbeats 400000 in
theorem notabove_is (a : Option Addr) (c : Nat) (es : List Nat) (x : Nat) (w : World) (hl : FlAt w a es) (hsz : es.length ≤ 1000) (hr : Ris es) (hx : x < 18446744073709551616) (hnx : GaugeF.nanB x = false) :
    Calls Try.prog 35 #[.slice a es.length c, .float .f64 x] w fun e w' => e = .returned (.int .i64 ((atN es x : Nat) : Int)) ∧ Below w.heap.size w w' := by
  obtain ⟨n, hn⟩ : ∃ n, es.length = n := ⟨_, rfl⟩
  rw [hn] at hsz ⊢
  obtain ⟨w2, hw2⟩ : ∃ w2, (w.alloc (.cells #[.slice a n c] 37)).alloc (.cells #[.float .f64 x] 22) = w2 := ⟨_, rfl⟩
  have hb2 : Below w.heap.size w w2 := by
    rw [← hw2]
    exact ((Below.refl _ _).alloc (Nat.le_refl _) _).alloc (by simp) _
  have c1 : w2.cell? ⟨w.heap.size, 0, none⟩ = some (.slice a n c) := by rw [← hw2]; simp [go_sem]
  have c2 : w2.cell? ⟨w.heap.size + 1, 0, none⟩ = some (.float .f64 x) := by rw [← hw2]; simp [go_sem]
  have hl2 := flAt_later hl hb2
  have HS := Lib.hid (search_is n w.heap.size (w.heap.size + 1) (fun i => decide (i < atN es x) == false) w2 hsz (fun q i hi => by
    obtain ⟨y, hy⟩ : ∃ y, es[i]? = some y := ⟨_, List.getElem?_eq_getElem (by omega)⟩
    obtain ⟨hyw, b, rfl, hc⟩ := hl2 i y hy
    refine above_is (w2.drewN q) c1 c2 hi hc ?_
    have ny := (hr i y hy).1
    rw [GaugeF.gt_test hyw hx, ny, hnx]
    obtain ⟨g1, g2, g3⟩ := atN_is es x
    by_cases hia : i < atN es x
    · have := g2 i y hia hy
      rw [decide_eq_true hia, decide_eq_false (by omega)]; rfl
    · have hxy : GaugeF.val x < GaugeF.val y := by
        have : ¬ GaugeF.val y ≤ GaugeF.val x := fun hle => by
          have e : IsAt es x (atN es x) := atN_is es x
          by_cases e2 : i = atN es x
          · have := g3 y (by rw [← e2]; exact hy); omega
          · obtain ⟨z, hz⟩ : ∃ z, es[atN es x]? = some z := ⟨_, List.getElem?_eq_getElem (by omega)⟩
            have h3 := g3 z hz
            have h4 := isAt_of (es := es) (x := y) (k := i + 1) hr (by omega) (fun y' _ hy' => by rw [Nat.add_sub_cancel, hy] at hy'; cases hy'; omega) (fun z' hz' => by
              have := (hr (i + 1) z' hz').2 y (by omega) (by rw [Nat.add_sub_cancel]; exact hy); exact this)
            have := h4.2.1 (atN es x) z (by omega) hz
            omega
        omega
      rw [decide_eq_false hia, decide_eq_true hxy]; rfl))
  have HN := Lib.hid hn
  have HB := Lib.hid hb2
  have HW := Lib.hid hw2
  have HC1 := Lib.hid c1
  have hat := (atN_is es x).1
  rw [hn] at hat
  have HAT := Lib.hid hat
  clear hn hb2 hl hl2 c1 c2 hw2 hat
  go_enter Try.func35, Try.ntmps35
  go_upto_region 1 with fail
  rw [HW.out]
  have c1 := HC1.out
  go_wp2_with fail
  ((with_reducible refine HS.out.mono ?_); skip)
  rintro e w3 ⟨k, q, rfl, g1, g2, g3, rfl⟩
  have hk : k = atN es x := by
    have hat := HAT.out
    have h2 : 0 < k → k - 1 < atN es x := fun h => by
      have : (decide (k - 1 < atN es x) == false) = false := g2 h
      by_cases c : k - 1 < atN es x
      · exact c
      · rw [decide_eq_false c] at this; cases this
    have h3 : k < n → ¬ k < atN es x := fun h c => by
      have : (decide (k < atN es x) == false) = true := g3 h
      rw [decide_eq_true c] at this; cases this
    omega
  have HK := Lib.hid hk
  clear hk g2 g3
  go_wp2_with fail
  go_ret
  exact ⟨fl_int (by rw [HK.out]), below_drewN HB.out _⟩
end Go.Proofs.Ytjoeeaagjcpdpaa
