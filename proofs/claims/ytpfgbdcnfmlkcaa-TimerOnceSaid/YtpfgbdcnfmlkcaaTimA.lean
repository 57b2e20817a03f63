/- Contracts of package timer, part A: right, is, the closures of Stop and Of, order. -/
import Derived.Test.YtpfgbdcnfmlkcaaTimF
import Derived.Test.YtpfgbdcnfmlkcaaRecs
import Derived.Test.YtpfgbdcnfmlkcaaQuiet
import Derived.Test.YtpfgbdcnfmlkcaaTail
import Derived.Lib.MinMax
namespace Go.Proofs.Ytpfgbdcnfmlkcaa
open Go.RowKit Go.Sort

theorem alarm_info : (Try.prog.info? 23).map (fun i => (i.zero, i.size, i.bytes)) = some (some (.agg #[.int .i64 0, .int .i64 0, .int .i64 0] : Value), 3, 24) := by kernel_rfl
/-- How a timer lies in cells. -/
def alS : Shp Alm where
  K := 3
  T := 23
  S := 25
  Z := (.agg #[.int .i64 0, .int .i64 0, .int .i64 0] : Value)
  bytes := 24
  cells := Alm.cells
  pos := by decide
  zsz := rfl
  len := fun _ => rfl
  one := fun x u hu => by
    simp only [Alm.cells, List.mem_cons, List.not_mem_nil, or_false] at hu
    rcases hu with rfl | rfl | rfl <;> rfl
  und := Try.underlying25
  inf := alarm_info
  low := by decide
/-- A timer's cells, as the walk asks for them. -/
theorem al_at {w : World} {a : Option Addr} {n c i : Nat} {L : List Alm} {x : Alm} (h : alS.At w a n c L) (hx : L[i]? = some x) :
    ∃ b q, a = some b ∧ b.add (i * 3) = q ∧ w.cell? q = some (.int .i64 x.k) ∧ w.cell? ⟨q.block, q.off + 1, none⟩ = some (.int .i64 x.n) ∧ w.cell? ⟨q.block, q.off + 2, none⟩ = some (.int .i64 x.t) := by
  obtain ⟨b, hb, hf'⟩ := h.2.2.2.2 i x hx
  have hf : ∀ k v, x.cells[k]? = some v → w.cell? ((b.add (i * 3)).add k) = some v := hf'
  have h0 := hf 0 _ rfl
  have h1 := hf 1 _ rfl
  have h2 := hf 2 _ rfl
  refine ⟨b, _, hb, rfl, ?_, ?_, ?_⟩
  · simpa [Addr.add] using h0
  · simpa [Addr.add] using h1
  · simpa [Addr.add] using h2

theorem is_gives (x : Alm) (k n : Int) : Gives Try.prog 21 #[(.agg #[.int .i64 x.k, .int .i64 x.n, .int .i64 x.t] : Value), .int .i64 k, .int .i64 n] (.bool (x.is k n)) := by
  intro w
  obtain ⟨p, hp⟩ : ∃ p, (x.k == k) = p := ⟨_, rfl⟩
  obtain ⟨q, hq⟩ : ∃ q, (x.n == n) = q := ⟨_, rfl⟩
  have HR : Hid (x.is k n = (p && q)) := Lib.hid (by rw [← hp, ← hq]; rfl)
  rw [HR.out]
  cases p
  · go_enter Try.func21, Try.ntmps21
    go_wp2_with fail
    go_ret
    exact ⟨by rw [Bool.false_and]; rfl, (Below.refl _ _).alloc (Nat.le_refl _) _⟩
  · go_enter Try.func21, Try.ntmps21
    go_wp2_with fail
    go_ret
    exact ⟨by rw [Bool.true_and]; rfl, (Below.refl _ _).alloc (Nat.le_refl _) _⟩

theorem stopper_any (x : Alm) (k n : Int) (b1 b2 : Nat) (w : World) (h1 : Blk w b1 [.int .i64 k]) (h2 : Blk w b2 [.int .i64 n]) :
    Calls Try.prog 29 #[(.agg #[.int .i64 x.k, .int .i64 x.n, .int .i64 x.t] : Value), .pointer (some ⟨b1, 0, none⟩), .pointer (some ⟨b2, 0, none⟩)] w fun e w' => e = .returned (.bool (!x.is k n)) ∧ Below w.heap.size w w' := by
  have IS := Lib.hid (is_gives x k n)
  obtain ⟨r, hr⟩ : ∃ r, x.is k n = r := ⟨_, rfl⟩
  rw [hr] at IS ⊢
  have c1 := (h1.next (.cells #[.int .i64 x.k, .int .i64 x.n, .int .i64 x.t] 23)).cell 0 rfl
  have c2 := (h2.next (.cells #[.int .i64 x.k, .int .i64 x.n, .int .i64 x.t] 23)).cell 0 rfl
  clear h1 h2 hr
  go_enter Try.func29, Try.ntmps29
  go_wp2_with fail
  refine (IS.out _).mono ?_
  rintro e w1 ⟨rfl, hb⟩
  have HB := Lib.hid (bel_on ((Below.refl w.heap.size w).alloc (Nat.le_refl _) _) hb)
  clear hb c1 c2
  go_wp2_with fail
  go_ret
  exact ⟨rfl, HB.out⟩

theorem ofer_any (x : Alm) (n : Int) (b1 : Nat) (w : World) (h1 : Blk w b1 [.int .i64 n]) :
    Calls Try.prog 25 #[(.agg #[.int .i64 x.k, .int .i64 x.n, .int .i64 x.t] : Value), .pointer (some ⟨b1, 0, none⟩)] w fun e w' => e = .returned (.bool (x.n == n)) ∧ Below w.heap.size w w' := by
  have c1 := (h1.next (.cells #[.int .i64 x.k, .int .i64 x.n, .int .i64 x.t] 23)).cell 0 rfl
  clear h1
  go_enter Try.func25, Try.ntmps25
  go_wp2_with fail
  go_ret
  exact ⟨rfl, (Below.refl w.heap.size w).alloc (Nat.le_refl _) _⟩

set_option maxHeartbeats 400000 in
theorem right_gives (x : Alm) : Gives Try.prog 16 #[(.agg #[.int .i64 x.k, .int .i64 x.n, .int .i64 x.t] : Value)] (.bool x.right) := by
  intro w
  obtain ⟨p, hp⟩ : ∃ p, decide (0 ≤ x.k) = p := ⟨_, rfl⟩
  obtain ⟨q, hq⟩ : ∃ q, decide (x.k ≤ 3) = q := ⟨_, rfl⟩
  obtain ⟨r, hr⟩ : ∃ r, nodeF x.n = r := ⟨_, rfl⟩
  obtain ⟨s, hs⟩ : ∃ s, decide (1 ≤ x.t) = s := ⟨_, rfl⟩
  obtain ⟨t, ht⟩ : ∃ t, decide (x.t ≤ 1073741824) = t := ⟨_, rfl⟩
  have HR : Hid (x.right = (p && q && r && s && t)) := Lib.hid (by rw [← hp, ← hq, ← hr, ← hs, ← ht]; rfl)
  have HN : Hid (∀ w, Calls Try.prog 26 #[.int .i64 x.n] w fun e w' => e = .returned (.bool r) ∧ w = w') := Lib.hid (fun w => by
    cases hrr : r with
    | true =>
      rw [hrr] at hr
      obtain ⟨h0, h1⟩ := nodeF_in hr
      obtain ⟨m, hm⟩ := Int.eq_ofNat_of_zero_le h0
      rw [hm] at h1 ⊢
      exact right_in m w (by omega)
    | false =>
      rw [hrr] at hr
      exact right_out _ w (nodeF_out hr))
  have HB : Hid (Below w.heap.size w (w.alloc (.cells #[.int .i64 x.k, .int .i64 x.n, .int .i64 x.t] 23))) := Lib.hid ((Below.refl _ _).alloc (Nat.le_refl _) _)
  rw [HR.out]
  clear hr HR
  cases p
  · go_enter Try.func16, Try.ntmps16
    go_wp2_with fail
    go_ret
    exact ⟨rfl, HB.out⟩
  cases q
  · go_enter Try.func16, Try.ntmps16
    go_wp2_with fail
    go_ret
    exact ⟨rfl, HB.out⟩
  cases r
  · go_enter Try.func16, Try.ntmps16
    go_wp2_with fail
    refine (HN.out _).mono ?_
    rintro e w1 ⟨rfl, rfl⟩
    go_wp2_with fail
    go_ret
    exact ⟨rfl, HB.out⟩
  cases s
  · go_enter Try.func16, Try.ntmps16
    go_wp2_with fail
    refine (HN.out _).mono ?_
    rintro e w1 ⟨rfl, rfl⟩
    go_wp2_with fail
    go_ret
    exact ⟨rfl, HB.out⟩
  cases t
  · go_enter Try.func16, Try.ntmps16
    go_wp2_with fail
    refine (HN.out _).mono ?_
    rintro e w1 ⟨rfl, rfl⟩
    go_wp2_with fail
    go_ret
    exact ⟨rfl, HB.out⟩
  · go_enter Try.func16, Try.ntmps16
    go_wp2_with fail
    refine (HN.out _).mono ?_
    rintro e w1 ⟨rfl, rfl⟩
    go_wp2_with fail
    go_ret
    exact ⟨rfl, HB.out⟩

theorem nan_any (x : Int) (w : World) : Calls Try.prog 33 #[.int .i64 x] w fun e w' => e = .returned (.bool false) ∧ w = w' := by
  have h : (x != x) = false := by simp
  go_enter Try.func33, Try.ntmps33
  go_wp2_with fail
  go_ret
  exact ⟨rfl, rfl⟩

set_option maxHeartbeats 400000 in
theorem compare_any (x y : Int) (w : World) : Calls Try.prog 32 #[.int .i64 x, .int .i64 y] w fun e w' => e = .returned (.int .i64 (cmpI x y)) ∧ w = w' := by
  have N := Lib.hid nan_any
  rcases Int.lt_trichotomy x y with h | h | h
  · have HC := Lib.hid (cmpI_lt h)
    rw [HC.out]
    have d1 : decide (x < y) = true := decide_eq_true h
    clear h
    go_enter Try.func32, Try.ntmps32
    go_wp2_with fail
    refine (N.out _ _).mono ?_
    rintro e w1 ⟨rfl, rfl⟩
    go_wp2_with fail
    refine (N.out _ _).mono ?_
    rintro e w1 ⟨rfl, rfl⟩
    go_wp2_with fail
    go_ret
    exact ⟨rfl, rfl⟩
  · subst h
    have HC := Lib.hid (cmpI_eq x)
    rw [HC.out]
    have d1 : decide (x < x) = false := decide_eq_false (by omega)
    go_enter Try.func32, Try.ntmps32
    go_wp2_with fail
    refine (N.out _ _).mono ?_
    rintro e w1 ⟨rfl, rfl⟩
    go_wp2_with fail
    refine (N.out _ _).mono ?_
    rintro e w1 ⟨rfl, rfl⟩
    go_wp2_with fail
    go_ret
    exact ⟨rfl, rfl⟩
  · have HC := Lib.hid (cmpI_gt h)
    rw [HC.out]
    have d1 : decide (x < y) = false := decide_eq_false (by omega)
    have d2 : decide (y < x) = true := decide_eq_true h
    clear h
    go_enter Try.func32, Try.ntmps32
    go_wp2_with fail
    refine (N.out _ _).mono ?_
    rintro e w1 ⟨rfl, rfl⟩
    go_wp2_with fail
    refine (N.out _ _).mono ?_
    rintro e w1 ⟨rfl, rfl⟩
    go_wp2_with fail
    go_ret
    exact ⟨rfl, rfl⟩

theorem or_meas (j : Nat) (v : Int) (h : v = (j : Int) + 1) (hj : j < 2) : (2 - intOf (.int .i64 v)).toNat < (2 - intOf (.int .i64 (j : Int))).toNat := by
  subst h
  simp [intOf]; omega
set_option maxHeartbeats 400000 in
theorem or_any (g : Nat) (x y : Int) (w : World) (h : Blk w g [.int .i64 x, .int .i64 y]) :
    Calls Try.prog 31 #[.slice (some ⟨g, 0, none⟩) 2 2] w fun e w' => e = .returned (.int .i64 (orI x y)) ∧ w = w' := by
  have c0 := h.cell 0 rfl
  have c1 := h.cell 1 rfl
  clear h
  by_cases hx : x = 0
  · have HO : Hid (orI x y = y) := Lib.hid (by simp [orI, hx])
    rw [HO.out]
    subst hx
    by_cases hy : y = 0
    · subst hy
      go_enter Try.func31, Try.ntmps31
      go_upto_region 3 with fail
      go_loopw [8] (fun v wr => (v = .int .i64 0 ∨ v = .int .i64 1 ∨ v = .int .i64 2) ∧ w = wr) (fun v _ => (2 - intOf v).toNat)
      case atStart => exact ⟨.inl rfl, rfl⟩
      case round =>
        obtain ⟨hv, rfl⟩ := hrel
        rcases hv with rfl | rfl | rfl
        · go_wp2
          go_roundw
          case rel => exact ⟨.inr (.inl rfl), trivial⟩
          case measure => simp [intOf]
        · go_wp2
          go_roundw
          case rel => exact ⟨.inr (.inr rfl), trivial⟩
          case measure => simp [intOf]
        · go_wp2
          go_ret
          exact ⟨rfl, rfl⟩
    · have hy' : (y != 0) = true := by simpa using hy
      clear hy
      go_enter Try.func31, Try.ntmps31
      go_upto_region 3 with fail
      go_loopw [8] (fun v wr => (v = .int .i64 0 ∨ v = .int .i64 1) ∧ w = wr) (fun v _ => (2 - intOf v).toNat)
      case atStart => exact ⟨.inl rfl, rfl⟩
      case round =>
        obtain ⟨hv, rfl⟩ := hrel
        rcases hv with rfl | rfl
        · go_wp2
          go_roundw
          case rel => exact ⟨.inr rfl, trivial⟩
          case measure => simp [intOf]
        · go_wp2
          go_ret
          exact ⟨rfl, rfl⟩
  · have HO : Hid (orI x y = x) := Lib.hid (by simp [orI, hx])
    rw [HO.out]
    have hx' : (x != 0) = true := by simpa using hx
    clear hx
    go_enter Try.func31, Try.ntmps31
    go_upto_region 3 with fail
    go_loopw [8] (fun v wr => v = .int .i64 0 ∧ w = wr) (fun v _ => (2 - intOf v).toNat)
    case atStart => exact ⟨rfl, rfl⟩
    case round =>
      obtain ⟨rfl, rfl⟩ := hrel
      go_wp2
      go_ret
      exact ⟨rfl, rfl⟩
end Go.Proofs.Ytpfgbdcnfmlkcaa
