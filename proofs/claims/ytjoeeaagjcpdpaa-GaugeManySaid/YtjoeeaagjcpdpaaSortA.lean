/- Sorting in place, part A: a new row of floats as an array; slices.swapRangeCmpFunc. -/
import Derived.Test.YtjoeeaagjcpdpaaGaugeD
import Derived.Sort.LotA
import Derived.Sort.Row
namespace Go.Proofs.Ytjoeeaagjcpdpaa
open Go.RowKit

theorem store_fl (a : Addr) (x : Nat) (m : Mode) (w : World) : (store a (.float .f64 x) m).run Try.prog w = stored Try.prog w a (.float .f64 x) m := run_store Try.prog w a _ m rfl

def OwnA (w : World) (B g c : Nat) (d : Array Nat) : Prop := w.ownsRow B 22 1 (.slice (some ⟨g, 0, none⟩) d.size c) d.size (flV d.toList) ∧ ∀ k : Nat, d[k]! < 18446744073709551616
theorem OwnA.base {w : World} {B g c : Nat} {d : Array Nat} (h : OwnA w B g c d) : B ≤ g := (h.1.lt g rfl).1
theorem OwnA.cell {w : World} {B g c : Nat} {d : Array Nat} (h : OwnA w B g c d) {i : Nat} (hi : i < d.size) : w.cell? ⟨g, i, none⟩ = some (.float .f64 d[i]!) := by
  rw [h.1.cellAt i (by omega)]
  refine flV_at ?_
  rw [Array.getElem?_toList, Array.getElem?_eq_getElem hi, getElem!_pos d i hi]
theorem OwnA.frozen {w : World} {B g c : Nat} {d : Array Nat} (h : OwnA w B g c d) (i : Nat) : w.frozen? ⟨g, i, none⟩ = false := h.1.frozenAt i
theorem OwnA.drewN {w : World} {B g c : Nat} {d : Array Nat} (h : OwnA w B g c d) (q : Nat) : OwnA (w.drewN q) B g c d := h
theorem OwnA.store {w : World} {B g c : Nat} {d : Array Nat} (h : OwnA w B g c d) (i x : Nat) (hx : x < 18446744073709551616) : OwnA (w.setCell ⟨g, i, none⟩ (.float .f64 x)) B g c (d.setIfInBounds i x) := by
  refine ⟨?_, fun k => ?_⟩
  · have := (h.1.stored i (.float .f64 x)).1
    have e : (flV d.toList).set i (.float .f64 x) = flV (d.setIfInBounds i x).toList := by
      rw [Array.toList_setIfInBounds]; simp [flV, List.map_set]
    rw [e] at this
    rw [Array.size_setIfInBounds]; exact this
  · by_cases hk : k = i
    · subst hk
      by_cases hs : k < d.size
      · rw [Sort.getElem!_set_same d k x hs]; exact hx
      · rw [getElem!_neg _ _ (by simpa using hs)]; decide
    · rw [Sort.getElem!_set_other d i k x hk]; exact h.2 k
theorem OwnA.swp {w : World} {B g c : Nat} {d : Array Nat} (h : OwnA w B g c d) (i j : Nat) : OwnA ((w.setCell ⟨g, i, none⟩ (.float .f64 d[j]!)).setCell ⟨g, j, none⟩ (.float .f64 d[i]!)) B g c (Sort.swp d i j) :=
  (h.store i _ (h.2 j)).store j _ (h.2 i)

/-- A call that permutes the row. -/
def Turns (B g c : Nat) (R : Array Nat → Prop) (w : World) (e : Ending) (w' : World) : Prop := ∃ d', e = .returned (.tuple #[]) ∧ R d' ∧ OwnA w' B g c d' ∧ Below B w w'

def swF (f : Nat → Nat) (A B n k : Nat) : Nat := if A ≤ k ∧ k < A + n then f (k - A + B) else if B ≤ k ∧ k < B + n then f (k - B + A) else f k
def fn (d : Array Nat) (k : Nat) : Nat := d[k]!

theorem swp_fn {d : Array Nat} {p q : Nat} (hp : p < d.size) (hq : q < d.size) (hne : p ≠ q) (k : Nat) : fn (Sort.swp d p q) k = if k = p then fn d q else if k = q then fn d p else fn d k := by
  unfold fn
  by_cases h1 : k = p
  · subst h1; rw [if_pos rfl, Sort.swp_left d k q hp hne]
  · rw [if_neg h1]
    by_cases h2 : k = q
    · subst h2; rw [if_pos rfl, Sort.swp_right d p k hq]
    · rw [if_neg h2, Sort.swp_other d p q k h1 h2]
theorem swp_step {d e : Array Nat} {a b i m : Nat} (hs : e.size = m) (hab : a + i < b) (hb : b + i < m) (hf : ∀ k, fn e k = swF (fn d) a b i k) (k : Nat) : fn (Sort.swp e (a + i) (b + i)) k = swF (fn d) a b (i + 1) k := by
  rw [swp_fn (by omega) (by omega) (by omega)]
  simp only [hf]
  unfold swF
  by_cases h1 : k = a + i
  · subst h1
    rw [if_pos rfl, if_neg (by omega), if_neg (by omega), if_pos (by omega)]
    exact congrArg (fn d) (by omega)
  · rw [if_neg h1]
    by_cases h2 : k = b + i
    · subst h2
      rw [if_pos rfl, if_neg (by omega), if_neg (by omega), if_neg (by omega), if_pos (by omega)]
      exact congrArg (fn d) (by omega)
    · rw [if_neg h2]
      by_cases h3 : a ≤ k ∧ k < a + i
      · rw [if_pos h3, if_pos (by omega)]
      · rw [if_neg h3, if_neg (c := a ≤ k ∧ k < a + (i + 1)) (by omega)]
        by_cases h4 : b ≤ k ∧ k < b + i
        · rw [if_pos h4, if_pos (by omega)]
        · rw [if_neg h4, if_neg (by omega)]

set_option maxRecDepth 100000 in
set_option maxHeartbeats 400000 in
theorem swaprange_any (B g c a b n : Nat) (d : Array Nat) (fv : Value) (w : World) (h : OwnA w B g c d) (hab : a + n ≤ b) (hb : b + n ≤ d.size) (hsz : d.size ≤ 1000) :
    Calls Try.prog 44 #[.slice (some ⟨g, 0, none⟩) d.size c, .int .i64 (a : Int), .int .i64 (b : Int), .int .i64 (n : Int), fv] w
      (Turns B g c (fun d' => d'.size = d.size ∧ (∀ x y, x ≤ a → b + n ≤ y → y ≤ d.size → Sort.PermIn x y d d') ∧ ∀ k, fn d' k = swF (fn d) a b n k) w) := by
  have hB := h.base
  have H := Lib.hid h
  clear h
  have hst := store_fl
  obtain ⟨m, hm⟩ : ∃ m, d.size = m := ⟨_, rfl⟩
  rw [hm] at hb hsz ⊢
  have HM := Lib.hid hm
  clear hm
  go_enter Try.func44, Try.ntmps44
  go_wp2
  go_loopw [10] (fun v wr => ∃ (i : Nat) (dk : Array Nat), v = .int .i64 (i : Int) ∧ i ≤ n ∧ Hid (dk.size = m) ∧ Hid (∀ x y, x ≤ a → b + n ≤ y → y ≤ m → Sort.PermIn x y d dk) ∧ Hid (∀ k, fn dk k = swF (fn d) a b i k) ∧ Hid (OwnA wr B g c dk) ∧ Below B w wr)
    (fun v _ => (n - intOf v).toNat)
  case atStart => exact ⟨0, d, rfl, by omega, HM, Lib.hid fun _ _ _ _ _ => Sort.permIn_refl _ _ _, Lib.hid fun k => by unfold swF; rw [if_neg (by omega), if_neg (by omega)], H, Below.refl _ _⟩
  case round =>
    obtain ⟨i, dk, rfl, hi, hs, hp, hf, hO, hbl⟩ := hrel
    have HBL := Lib.hid hbl
    clear hbl
    by_cases hlt : i < n
    · have c1 := hO.out.cell (i := a + i) (by rw [hs.out]; omega)
      have c2 := hO.out.cell (i := b + i) (by rw [hs.out]; omega)
      have f1 := hO.out.frozen (a + i)
      have f2 := hO.out.frozen (b + i)
      obtain ⟨p, hpp⟩ : ∃ p, a + i = p := ⟨_, rfl⟩
      obtain ⟨q, hq⟩ : ∃ q, b + i = q := ⟨_, rfl⟩
      have w1 : IntKind.i64.wrap ((a : Int) + (i : Int)) = (p : Int) := by rw [IntKind.wrap_i64]; omega
      have w2 : IntKind.i64.wrap ((b : Int) + (i : Int)) = (q : Int) := by rw [IntKind.wrap_i64]; omega
      have p0 : (0 : Int) ≤ (p : Int) := by omega
      have p1 : (p : Int) < (m : Int) := by omega
      have q0 : (0 : Int) ≤ (q : Int) := by omega
      have q1 : (q : Int) < (m : Int) := by omega
      rw [hpp] at c1 f1
      rw [hq] at c2 f2
      have hne : ¬ p = q := by omega
      have hne' : ¬ q = p := by omega
      have HP := Lib.hid hpp
      have HQ := Lib.hid hq
      clear hpp hq
      go_wp2
      go_region
      go_wp2
      go_roundw
      case rel =>
        obtain rfl := HP.out
        obtain rfl := HQ.out
        have hs' := hs.out
        refine ⟨i + 1, Sort.swp dk (a + i) (b + i), by go_num, by omega, Lib.hid (by rw [Sort.size_swp]; exact hs'), Lib.hid fun x y hx hy hy2 => Sort.permIn_trans _ _ _ _ _ (hp.out x y hx hy hy2) (Sort.swp_permIn _ _ _ _ _ (by omega) (by omega) (by omega) (by omega) (by omega)), Lib.hid (swp_step hs' (by omega) (by omega) hf.out), Lib.hid (hO.out.swp _ _), ?_⟩
        exact ((HBL.out.setCell hB _).setCell hB _).drew
      case measure => simp [intOf]; omega
    · obtain rfl : i = n := by omega
      go_wp2
      go_end0
      exact ⟨dk, rfl, ⟨hs.out, hp.out, hf.out⟩, hO.out, HBL.out⟩

def ltK (x y : Nat) : Bool := decide (GaugeF.key x < GaugeF.key y)
theorem swoK : Sort.SWO ltK :=
  ⟨fun x => decide_eq_false (by omega), fun x y z h1 h2 => by
    have h1 := of_decide_eq_true h1
    have h2 := of_decide_eq_true h2
    exact decide_eq_true (by omega), fun x y z h1 h2 => by
    have h1 := of_decide_eq_false h1
    have h2 := of_decide_eq_false h2
    exact decide_eq_false (by omega)⟩
theorem ordV_lt {x y : Nat} (h : ltK x y = true) : GaugeF.ordV x y = -1 := by unfold GaugeF.ordV; rw [if_pos (of_decide_eq_true h)]
theorem ordV_ge {x y : Nat} (h : ltK x y = false) : ∃ v, GaugeF.ordV x y = v ∧ 0 ≤ v := by
  unfold GaugeF.ordV; rw [if_neg (of_decide_eq_false h)]; split
  · exact ⟨1, rfl, by decide⟩
  · exact ⟨0, rfl, by decide⟩
theorem ins_stop (a : Nat) (d : Array Nat) : ∀ j, (j ≤ a ∨ ltK d[j]! d[j - 1]! = false) → Sort.insInner ltK a j d = d
  | 0, _ => rfl
  | j + 1, h => by
    unfold Sort.insInner
    rw [if_neg]
    rcases h with h | h
    · simp; omega
    · rw [Nat.add_sub_cancel] at h; simp [h]
theorem insOut_go (a b i : Nat) (d : Array Nat) (h : i < b) : Sort.insOuter ltK a b i d = Sort.insOuter ltK a b (i + 1) (Sort.insInner ltK a i d) := by rw [Sort.insOuter, if_pos h]
theorem insOut_stop (a b i : Nat) (d : Array Nat) (h : ¬ i < b) : Sort.insOuter ltK a b i d = d := by rw [Sort.insOuter, if_neg h]
theorem ins_go (a j : Nat) (d : Array Nat) (h : a < j + 1) (hl : ltK d[j + 1]! d[j]! = true) : Sort.insInner ltK a (j + 1) d = Sort.insInner ltK a j (Sort.swp d (j + 1) j) := by
  rw [Sort.insInner, if_pos]; simp [hl]; omega

/-- The order's value as what the sort calls. -/
def cmpV : Value := .func (.func 7) #[] #[]

set_option maxRecDepth 100000 in
set_option maxHeartbeats 1000000 in
theorem insertion_any (B g c a b : Nat) (d : Array Nat) (w : World) (h : OwnA w B g c d) (hab : a ≤ b) (hb : b ≤ d.size) (hsz : d.size ≤ 1000) :
    Calls Try.prog 41 #[.slice (some ⟨g, 0, none⟩) d.size c, .int .i64 (a : Int), .int .i64 (b : Int), cmpV] w
      (Turns B g c (fun d' => Sort.PermIn a b d d' ∧ Sort.SortedIn ltK a b d') w) := by
  have hB := h.base
  have H := Lib.hid h
  have HS := Lib.hid (Sort.insertionSort_holds swoK d a b hab hb)
  clear h
  have hst := store_fl
  obtain ⟨m, hm⟩ : ∃ m, d.size = m := ⟨_, rfl⟩
  rw [hm] at hb hsz ⊢
  have HM := Lib.hid hm
  clear hm
  unfold cmpV
  go_enter Try.func41, Try.ntmps41
  go_wp2
  go_loopw [8] (fun v wr => ∃ (i : Nat) (dk : Array Nat), v = .int .i64 (i : Int) ∧ a < i ∧ i ≤ b + 1 ∧ Hid (dk.size = m) ∧ Hid (Sort.insOuter ltK a b i dk = Sort.insertionSort ltK d a b) ∧ Hid (OwnA wr B g c dk) ∧ Below B w wr)
    (fun v _ => (b + 1 - intOf v).toNat)
  case atStart => exact ⟨a + 1, d, by go_num, by omega, by omega, HM, Lib.hid rfl, H, Below.refl _ _⟩
  case round =>
    obtain ⟨i, dk, rfl, hai, hi, hs, hf, hO, hbl⟩ := hrel
    have HBL := Lib.hid hbl
    clear hbl
    by_cases hlt : i < b
    · go_wp2_with fail
      go_loopw [9] (fun v wq => ∃ (j : Nat) (dj : Array Nat), v = .int .i64 (j : Int) ∧ a ≤ j ∧ j ≤ i ∧ Hid (dj.size = m) ∧ Hid (Sort.insInner ltK a j dj = Sort.insInner ltK a i dk) ∧ Hid (OwnA wq B g c dj) ∧ Hid (Below B w wq))
        (fun v _ => (intOf v).toNat)
      case atStart => exact ⟨i, dk, rfl, by omega, by omega, hs, Lib.hid rfl, hO, HBL⟩
      case round =>
        obtain ⟨j, dj, rfl, haj, hji, hsj, hfj, hOj, hblj⟩ := hrel
        have out : (j ≤ a ∨ ltK dj[j]! dj[j - 1]! = false) → Sort.insOuter ltK a b (i + 1) dj = Sort.insertionSort ltK d a b := fun hq => by
          rw [← hf.out, insOut_go a b i dk hlt, ← hfj.out, ins_stop a dj j hq]
        by_cases hja : a < j
        · obtain ⟨p, rfl⟩ : ∃ p, j = p + 1 := ⟨j - 1, by omega⟩
          rw [Nat.add_sub_cancel] at out
          have c1 := hOj.out.cell (i := p + 1) (by rw [hsj.out]; omega)
          have c2 := hOj.out.cell (i := p) (by rw [hsj.out]; omega)
          have f1 := hOj.out.frozen (p + 1)
          have f2 := hOj.out.frozen p
          have l1 := hOj.out.2 (p + 1)
          have l2 := hOj.out.2 p
          obtain ⟨x, hx⟩ : ∃ x, dj[p + 1]! = x := ⟨_, rfl⟩
          obtain ⟨y, hy⟩ : ∃ y, dj[p]! = y := ⟨_, rfl⟩
          rw [hx] at c1 l1 out
          rw [hy] at c2 l2 out
          have hwp : IntKind.i64.wrap (p : Int) = (p : Int) := by rw [IntKind.wrap_i64]; omega
          have jz : (p : Int) + 1 < (m : Int) := by omega
          have jz1 : (p : Int) < (m : Int) := by omega
          have hja' : (a : Int) < (p : Int) + 1 := by omega
          have p0 : (0 : Int) ≤ (p : Int) + 1 := by omega
          have e0 : ((p : Int) + 1).toNat = p + 1 := by omega
          have OUT := Lib.hid out
          have HX := Lib.hid hx
          have HY := Lib.hid hy
          clear out hx hy
          cases hl : ltK x y
          · have HL := Lib.hid hl
            obtain ⟨v, hv, hv0⟩ := ordV_ge hl
            have HV := Lib.hid hv
            clear hl hv
            have hv1 : decide (v < 0) = false := decide_eq_false (by omega)
            go_wp2_with fail
            go_quiet ((go_at_call 7; exact Calls.quiet_of_same ((order_is _ l1 l2 HV.out).mono fun _ _ ⟨a, b⟩ => ⟨a, b.symm⟩)))
            go_wp2_with fail
            go_roundw
            case rel => exact ⟨i + 1, dj, by go_num, by omega, by omega, hsj, Lib.hid (OUT.out (.inr HL.out)), Lib.hid (hOj.out.drewN _), below_drewN hblj.out _⟩
            case measure => simp [intOf]; omega
          · have HL := Lib.hid hl
            have HV := Lib.hid (ordV_lt hl)
            clear hl
            go_wp2_with fail
            go_quiet ((go_at_call 7; exact Calls.quiet_of_same ((order_is _ l1 l2 HV.out).mono fun _ _ ⟨a, b⟩ => ⟨a, b.symm⟩)))
            go_wp2_with fail
            have c1' : (wr.drewN nq).cell? ⟨g, p + 1, none⟩ = some (.float .f64 x) := c1
            have c2' : (wr.drewN nq).cell? ⟨g, p, none⟩ = some (.float .f64 y) := c2
            have f1' : (wr.drewN nq).frozen? ⟨g, p + 1, none⟩ = false := f1
            have f2' : (wr.drewN nq).frozen? ⟨g, p, none⟩ = false := f2
            have hO2 : Hid (OwnA (wr.drewN nq) B g c dj) := Lib.hid (hOj.out.drewN _)
            have hB2 : Hid (Below B w (wr.drewN nq)) := Lib.hid (below_drewN hblj.out _)
            clear c1 c2 f1 f2
            generalize wr.drewN nq = wz at c1' c2' f1' f2' hO2 hB2 ⊢
            obtain ⟨q, hq⟩ : ∃ q, p + 1 = q := ⟨_, rfl⟩
            rw [hq] at c1' f1' e0
            have hne : ¬ p = q := by omega
            have hne' : ¬ q = p := by omega
            have HQ := Lib.hid hq
            clear hq
            go_region
            go_wp2
            go_roundw
            case rel =>
              obtain rfl := HQ.out
              refine ⟨p, Sort.swp dj (p + 1) p, by first | rfl | go_num | (congr 1; omega), by omega, by omega, Lib.hid (by rw [Sort.size_swp]; exact hsj.out), Lib.hid ?_, Lib.hid ?_, Lib.hid ?_⟩
              · rw [← hfj.out, ins_go a p dj (by omega) (by rw [HX.out, HY.out]; exact HL.out)]
              · have := hO2.out.swp (p + 1) p
                rw [HX.out, HY.out] at this
                exact this.drewN 1
              · exact ((hB2.out.setCell hB _).setCell hB _).drew
            case measure => simp [intOf]
        · obtain rfl : j = a := by omega
          have OUT := Lib.hid out
          clear out
          have hz : decide ((j : Int) < (j : Int)) = false := decide_eq_false (by omega)
          go_wp2_with fail
          go_quiet (fail)
          go_wp2_with fail
          go_roundw
          case rel => exact ⟨i + 1, dj, by go_num, by omega, by omega, hsj, Lib.hid (OUT.out (.inl (by omega))), Lib.hid (hOj.out.drewN _), below_drewN hblj.out _⟩
          case measure => simp [intOf]; omega
    · go_wp2
      go_end0
      have e : dk = Sort.insertionSort ltK d a b := by rw [← hf.out, insOut_stop a b i dk hlt]
      have hS := HS.out
      rw [← e] at hS
      obtain rfl := hs.out
      exact ⟨dk, rfl, hS, hO.out, HBL.out⟩
end Go.Proofs.Ytjoeeaagjcpdpaa
