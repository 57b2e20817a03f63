/- The contracts of Middle and Mean, gauge's and the reference's. -/
import Derived.Test.YtjoeeaagjcpdpaaGaugeK
import Derived.Test.YtjoeeaagjcpdpaaGaugeH
namespace Go.Proofs.Ytjoeeaagjcpdpaa
open Go.RowKit

theorem sort_keys {l s s' : List Nat} (h : IsSort l s) (h' : IsSort l s') : s.map GaugeF.key = s'.map GaugeF.key := by
  refine List.Perm.eq_of_pairwise (le := fun (a b : Int) => a ≤ b) (fun a b _ _ h1 h2 => by omega) h.2 h'.2 ?_
  exact (h.1.trans h'.1.symm).map _

def FineL (l : List Nat) : List Nat := l.filter GaugeF.fineB
theorem fineL_lt (l : List Nat) : ∀ x ∈ FineL l, x < 18446744073709551616 := fun x hx => by
  have := of_decide_eq_true (List.mem_filter.1 hx).2
  omega
/-- What a Middle answers. -/
def MidOf (l : List Nat) (x : Nat) (b : Bool) : Prop := (FineL l = [] ∧ x = 0 ∧ b = false) ∨ (FineL l ≠ [] ∧ b = true ∧ x < 18446744073709551616 ∧ ∃ s, IsSort (FineL l) s ∧ s[(s.length - 1) / 2]? = some x)
def MidTo (l : List Nat) (w : World) (e : Ending) (w' : World) : Prop := ∃ x b, e = .returned (.tuple #[.float .f64 x, .bool b]) ∧ MidOf l x b ∧ Below w.heap.size w w'
theorem mid_same {l : List Nat} {x y : Nat} {b b' : Bool} (h : MidOf l x b) (h' : MidOf l y b') : GaugeF.sameB x y = true ∧ b = b' := by
  rcases h with ⟨h1, rfl, rfl⟩ | ⟨h1, rfl, _, s, h2, h3⟩
  · rcases h' with ⟨_, rfl, rfl⟩ | ⟨h4, _⟩
    · exact ⟨by decide +kernel, rfl⟩
    · exact absurd h1 h4
  · rcases h' with ⟨h4, _⟩ | ⟨_, rfl, _, s', h5, h6⟩
    · exact absurd h4 h1
    · refine ⟨decide_eq_true ?_, rfl⟩
      have hk := sort_keys h2 h5
      have hl : s.length = s'.length := (h2.1.trans h5.1.symm).length_eq
      have e1 : (s.map GaugeF.key)[(s.length - 1) / 2]? = some (GaugeF.key x) := by rw [List.getElem?_map, h3]; rfl
      have e2 : (s'.map GaugeF.key)[(s.length - 1) / 2]? = some (GaugeF.key y) := by rw [List.getElem?_map, hl, h6]; rfl
      rw [hk, e2] at e1
      exact (Option.some.inj e1).symm
theorem mid_lt {l : List Nat} {x : Nat} {b : Bool} (h : MidOf l x b) : x < 18446744073709551616 := by
  rcases h with ⟨_, rfl, _⟩ | ⟨_, _, h, _⟩
  · decide
  · exact h

theorem sorted_own {l : List Nat} {w : World} {B : Nat} {v : Value} (h : w.ownsRow B 22 1 v l.length (flV l)) (hl : ∀ x ∈ l, x < 18446744073709551616) (hsz : l.length ≤ 1000) :
    Calls Try.prog 15 #[v] w (SortedTo l w) := by
  rcases h.2 with ⟨rfl, h0⟩ | ⟨g, cap, cur, rfl, _⟩
  · obtain rfl := List.eq_nil_of_length_eq_zero h0
    exact sorted_none w
  · exact sorted_some _ cap l w (flAt_own h hl) hsz
theorem refsorted_own {l : List Nat} {w : World} {B : Nat} {v : Value} (h : w.ownsRow B 22 1 v l.length (flV l)) (hl : ∀ x ∈ l, x < 18446744073709551616) (hsz : l.length ≤ 1000) :
    Calls Try.prog 16 #[v] w (SortedTo l w) := by
  obtain ⟨a, c, rfl⟩ := own_slice h
  exact refsorted_any a c l w (flAt_own h hl) hsz

set_option maxHeartbeats 400000 in
theorem middle_any (a : Option Addr) (c : Nat) (l : List Nat) (w : World) (hl : FlAt w a l) (hsz : l.length ≤ 1000) :
    Calls Try.prog 17 #[.slice a l.length c] w (MidTo l w) := by
  have HA := Lib.hid (allfine_any a c l w hl hsz)
  have hfl : (FineL l).length ≤ 1000 := Nat.le_trans (List.length_filter_le _ _) hsz
  obtain ⟨n, hn⟩ : ∃ n, l.length = n := ⟨_, rfl⟩
  rw [hn] at HA ⊢
  clear hn hl hsz
  obtain ⟨F, hF⟩ : ∃ F, FineL l = F := ⟨_, rfl⟩
  have hlt := fineL_lt l
  rw [hF] at hfl hlt
  have HF := Lib.hid hF
  have HLT := Lib.hid hlt
  have HA2 : Hid (Calls Try.prog 32 #[.slice a n c] w (OwnFls F w)) := Lib.hid (by rw [← hF]; exact HA.out)
  clear hF hlt HA
  obtain ⟨m, hm⟩ : ∃ m, F.length = m := ⟨_, rfl⟩
  rw [hm] at hfl
  have HM := Lib.hid hm
  clear hm
  go_enter Try.func17, Try.ntmps17
  go_wp2_with fail
  ((with_reducible refine HA2.out.mono ?_); skip)
  rintro e w1 ⟨v1, rfl, o1, b1⟩
  have O1 := Lib.hid o1
  have B1 := Lib.hid b1
  clear o1 b1
  go_wp2_with fail
  ((with_reducible refine (sorted_own O1.out HLT.out (by rw [HM.out]; exact hfl)).mono ?_); skip)
  rintro e w2 ⟨v2, s, rfl, hs, o2, b2⟩
  obtain ⟨a2, c2, rfl⟩ := own_slice o2
  have hsl : s.length = m := hs.1.length_eq.trans HM.out
  rw [hsl] at o2 ⊢
  have HSL := Lib.hid hsl
  have HS := Lib.hid hs
  have O2 := Lib.hid o2
  have B2 := Lib.hid (bel_on B1.out b2)
  clear hsl hs o2 b2
  by_cases h0 : m = 0
  · have hz : ((m : Int) == 0) = true := by subst h0; rfl
    have H0 := Lib.hid h0
    clear h0
    go_wp2_with fail
    go_ret2
    exact ⟨0, false, rfl, .inl ⟨HF.out.trans (List.eq_nil_of_length_eq_zero (HM.out.trans H0.out)), rfl, rfl⟩, B2.out⟩
  · have hz : ((m : Int) == 0) = false := beq_eq_false_iff_ne.2 (by omega)
    obtain ⟨k, rfl⟩ : ∃ k, m = k + 1 := ⟨m - 1, by omega⟩
    obtain ⟨q, hq⟩ : ∃ q, k / 2 = q := ⟨_, rfl⟩
    have eq : (k : Int) / 2 = (q : Int) := by omega
    have q1 : q < k + 1 := by omega
    obtain ⟨x, hx⟩ : ∃ x, s[q]? = some x := ⟨_, List.getElem?_eq_getElem (by rw [HSL.out]; exact q1)⟩
    have hsw : ∀ y ∈ s, y < 18446744073709551616 := fun y hy => HLT.out y (HS.out.1.mem_iff.1 hy)
    obtain ⟨hxl, b0, rfl, hc⟩ := flAt_own (l := s) (a := a2) (c := c2) (B := w1.heap.size) (by rw [HSL.out]; exact O2.out) hsw q x hx
    have q2 : (q : Int) < (k : Int) + 1 := by omega
    have q0 : (0 : Int) ≤ (q : Int) := by omega
    have kw : IntKind.i64.wrap (k : Int) = (k : Int) := by rw [IntWalk.i64_in _ (by omega)]
    have HX := Lib.hid hx
    have HQ := Lib.hid hq
    clear hx hq hsw h0
    go_wp2_with fail
    go_ret2
    refine ⟨x, true, rfl, .inr ⟨fun e => ?_, rfl, hxl, s, ?_, ?_⟩, B2.out⟩
    · have := HM.out
      rw [← HF.out, e] at this
      cases this
    · rw [HF.out]; exact HS.out
    · rw [HSL.out, Nat.add_sub_cancel, HQ.out]; exact HX.out

set_option maxRecDepth 100000 in
set_option maxHeartbeats 400000 in
theorem refmiddle_any (a : Option Addr) (c : Nat) (l : List Nat) (w : World) (hl : FlAt w a l) (hsz : l.length ≤ 1000) :
    Calls Try.prog 18 #[.slice a l.length c] w (MidTo l w) := by
  obtain ⟨i0, hi, hz0, hz1, hz2⟩ := info_parts Try.info22
  have hlt := fineL_lt l
  obtain ⟨n, hn⟩ : ∃ n, l.length = n := ⟨_, rfl⟩
  rw [hn] at hsz ⊢
  have HN := Lib.hid hn
  have HL := Lib.hid hl
  have HLT := Lib.hid hlt
  clear hn hl hlt
  go_enter Try.func18, Try.ntmps18
  go_wp2
  go_loopw [4, 9] (fun v c wr => ∃ (pre : List Nat) (k p : Nat), c = .int .i64 (k : Int) ∧ k ≤ n ∧ Hid (pre.length = p) ∧ p ≤ k ∧ Hid (pre = FineL (l.take k)) ∧
      wr.ownsRow w.heap.size 22 1 v p (flV pre) ∧ Below w.heap.size w wr)
    (fun _ c _ => (n - intOf c).toNat)
  case atStart => exact ⟨[], 0, 0, rfl, by omega, Lib.hid rfl, by omega, Lib.hid rfl, World.ownsRow_nil _ _ _ _, Below.refl _ _⟩
  case round =>
    obtain ⟨pre, k, p, rfl, hk, hp, hpk, HEQ, hown, hbel⟩ := hrel
    have hsz2 := hbel.size
    have HBL := Lib.hid hbel
    clear hbel
    by_cases h : k < n
    · obtain ⟨x, hx⟩ : ∃ x, l[k]? = some x := ⟨_, List.getElem?_eq_getElem (by rw [HN.out]; exact h)⟩
      obtain ⟨hw, b, rfl, hc⟩ := flAt_later HL.out HBL.out k x hx
      have HT : Hid (l.take (k + 1) = l.take k ++ [x]) := Lib.hid (by rw [List.take_add_one, hx]; rfl)
      clear hx
      cases hb : GaugeF.fineB x
      · have HB := Lib.hid hb
        clear hb
        go_wp2_with fail
        ((with_reducible refine (reffine_is _ hw HB.out).mono ?_); skip)
        rintro e w1 ⟨rfl, rfl⟩
        go_wp2_with fail
        go_roundw
        case rel => exact ⟨pre, k + 1, p, by go_num, by omega, hp, by omega, Lib.hid (by rw [HT.out, FineL, List.filter_append, HEQ.out]; simp [HB.out, FineL]), hown, HBL.out⟩
        case measure => simp [intOf]; omega
      · have HB := Lib.hid hb
        clear hb
        go_wp2_with fail
        ((with_reducible refine (reffine_is _ hw HB.out).mono ?_); skip)
        rintro e w1 ⟨rfl, rfl⟩
        go_wp2_with (at_builtin; refine wpList_append_own _ rfl (.tmp 15) (.tmp 17) 37 rfl w.heap.size 22 i0 (.float .f64 0) 1 8 Try.underlying37 hi hz0 hz1 hz2 rfl (by decide) _ _ _ rfl (hown.alloc _) ⟨wr.heap.size, 0, none⟩ 1 1 [_] rfl rfl (cell_one_new _ _ _) (by simp [Value.oneCell']) (by unfold maxLen; omega) (by omega) (by simp; omega) ?_; intro v1 w1 hown1 hg1 _)
        go_roundw
        case rel =>
          exact ⟨pre ++ [x], k + 1, p + 1, by go_num, by omega, Lib.hid (by have := hp.out; simp; omega), by omega, Lib.hid (by rw [HT.out, FineL, List.filter_append, HEQ.out]; simp [HB.out, FineL]), by rw [flV_snoc]; exact hown1,
            (HBL.out.alloc hsz2 _).grown hg1 (by simp; omega) (fun k hk => (hown.lt k hk).1)⟩
        case measure => simp [intOf]; omega
    · obtain rfl : k = n := by omega
      have hE : pre = FineL l := by rw [HEQ.out, ← HN.out, List.take_length]
      have HE := Lib.hid hE
      have hwf : ∀ y ∈ pre, y < 18446744073709551616 := by rw [hE]; exact HLT.out
      have HWF := Lib.hid hwf
      have HO := Lib.hid hown
      obtain ⟨a1, c1, rfl⟩ := own_slice hown
      clear hE hwf hown
      by_cases h0 : p = 0
      · have hz : ((p : Int) == 0) = true := by subst h0; rfl
        have H0 := Lib.hid h0
        clear h0
        go_wp2_with fail
        go_ret2
        exact ⟨0, false, rfl, .inl ⟨HE.out.symm.trans (List.eq_nil_of_length_eq_zero (hp.out.trans H0.out)), rfl, rfl⟩, HBL.out⟩
      · have hz : ((p : Int) == 0) = false := beq_eq_false_iff_ne.2 (by omega)
        clear hz0 hz1 hz2 hi
        go_wp2_with fail
        ((with_reducible refine (refsorted_own (l := pre) (by rw [hp.out]; exact HO.out) HWF.out (by rw [hp.out]; omega)).mono ?_); skip)
        rintro e w2 ⟨v2, s, rfl, hs, o2, b2⟩
        obtain ⟨a2, c2, rfl⟩ := own_slice o2
        have hsl : s.length = p := hs.1.length_eq.trans hp.out
        rw [hsl] at o2 ⊢
        have HSL := Lib.hid hsl
        have HS := Lib.hid hs
        have O2 := Lib.hid o2
        have B2 := Lib.hid (bel_on HBL.out b2)
        clear hsl hs o2 b2
        obtain ⟨k', rfl⟩ : ∃ k', p = k' + 1 := ⟨p - 1, by omega⟩
        obtain ⟨q, hq⟩ : ∃ q, k' / 2 = q := ⟨_, rfl⟩
        have eq : (k' : Int) / 2 = (q : Int) := by omega
        have q1 : q < k' + 1 := by omega
        obtain ⟨x, hx⟩ : ∃ x, s[q]? = some x := ⟨_, List.getElem?_eq_getElem (by rw [HSL.out]; exact q1)⟩
        have hsw : ∀ y ∈ s, y < 18446744073709551616 := fun y hy => HWF.out y (HS.out.1.mem_iff.1 hy)
        obtain ⟨hxl, b0, rfl, hc⟩ := flAt_own (l := s) (a := a2) (c := c2) (B := wr.heap.size) (by rw [HSL.out]; exact O2.out) hsw q x hx
        have q2 : (q : Int) < (k' : Int) + 1 := by omega
        have q0 : (0 : Int) ≤ (q : Int) := by omega
        have kw : IntKind.i64.wrap (k' : Int) = (k' : Int) := by rw [IntWalk.i64_in _ (by omega)]
        have HX := Lib.hid hx
        have HQ := Lib.hid hq
        clear hx hq hsw h0
        go_wp2_with fail
        go_ret2
        refine ⟨x, true, rfl, .inr ⟨fun e => ?_, rfl, hxl, s, ?_, ?_⟩, B2.out⟩
        · have := hp.out
          rw [HE.out, e] at this
          cases this
        · rw [← HE.out]; exact HS.out
        · rw [HSL.out, Nat.add_sub_cancel, HQ.out]; exact HX.out
end Go.Proofs.Ytjoeeaagjcpdpaa
