/- The contracts of Mean, gauge's and the reference's. -/
import Derived.Test.YtjoeeaagjcpdpaaGaugeL
import Derived.Test.YtjoeeaagjcpdpaaGaugeE
namespace Go.Proofs.Ytjoeeaagjcpdpaa
open Go.RowKit

def addF (s x : Nat) : Option Nat := floatBits .add .f64 s x

theorem near_le (mg : Nat) (pl : Int) : Ieee.double.nearest false mg pl ≤ 9218868437227405312 := by
  by_cases h : mg = 0
  · subst h; rw [GaugeF.nearest_zero]; omega
  · unfold Ieee.Format.nearest
    rw [if_neg h]
    simp only [GaugeF.ir]
    rw [GaugeF.word_pos]
    exact Nat.min_le_right _ _
theorem read_good {s : Nat} (h : s < 9218868437227405312) : Ieee.double.read s = .number false (GaugeF.mag s) (-1074 + (GaugeF.ex s : Int)) := by
  have hr := GaugeF.rung_pos (b := s) (by omega)
  rw [GaugeF.read_num (by omega) (by omega), hr, GaugeF.negB, decide_eq_false (by omega)]
theorem read_top : Ieee.double.read 9218868437227405312 = .infinity false := by
  rw [GaugeF.read_inf (by omega) (by decide +kernel)]
  unfold GaugeF.negB; rw [decide_eq_false (by omega)]
theorem add_good {s x : Nat} (hs : s ≤ 9218868437227405312) (hx : x < 9218868437227405312) : ∃ r, addF s x = some r ∧ r ≤ 9218868437227405312 := by
  show ∃ r, ((Ieee.double.read s).sum (Ieee.double.read x)).map Ieee.double.write = some r ∧ _
  rw [read_good hx]
  by_cases h : s < 9218868437227405312
  · rw [read_good h]
    unfold Ieee.Datum.sum
    simp only [GaugeF.signed_pos]
    have hs : ∀ a b : Nat, ((a : Nat) : Int) + (b : Int) = ((a + b : Nat) : Int) := fun a b => by omega
    rw [hs]
    generalize GaugeF.mag s * 2 ^ _ + GaugeF.mag x * 2 ^ _ = T
    refine ⟨_, rfl, ?_⟩
    show Ieee.double.nearest (if (T : Int) = 0 then false && false else decide ((T : Int) < 0)) _ _ ≤ _
    have hn : (if (T : Int) = 0 then false && false else decide ((T : Int) < 0)) = false := by
      split
      · rfl
      · exact decide_eq_false (by omega)
    rw [hn]
    exact near_le _ _
  · obtain rfl : s = 9218868437227405312 := by omega
    rw [read_top]
    exact ⟨9218868437227405312, rfl, Nat.le_refl _⟩
theorem sum_good : ∀ (l : List Nat) (s : Nat), s ≤ 9218868437227405312 → (∀ x ∈ l, x < 9218868437227405312) → ∃ r, l.foldlM addF s = some r ∧ r ≤ 9218868437227405312
  | [], s, hs, _ => ⟨s, rfl, hs⟩
  | x :: l, s, hs, hl => by
    obtain ⟨r, h1, h2⟩ := add_good hs (hl x (List.mem_cons_self ..))
    obtain ⟨r', h3, h4⟩ := sum_good l r h2 (fun y hy => hl y (List.mem_cons_of_mem _ hy))
    exact ⟨r', by rw [List.foldlM_cons, h1]; exact h3, h4⟩
theorem quo_good {s n : Nat} (hs : s ≤ 9218868437227405312) (h0 : n ≠ 0) (hn : n ≤ 1000) : ∃ r, floatBits .quo .f64 s (floatOfInt .f64 (n : Int)) = some r := by
  rw [GaugeF.of_int n (by omega)]
  show ∃ r, ((Ieee.double.read s).quotient _ (Ieee.double.read (GaugeF.w8 (8 * n)))).map Ieee.double.write = some r
  rw [GaugeF.read8 (by omega)]
  by_cases h : s < 9218868437227405312
  · rw [read_good h]
    have hm : GaugeF.mag (GaugeF.w8 (8 * n)) ≠ 0 := fun e => by
      have h1 := (GaugeF.low_zero (GaugeF.w8 (8 * n)) 0).1 (by rw [e, Nat.zero_mul])
      have := GaugeF.w8_inj (n := 8 * n) (m := 0) (by omega) (by omega) h1
      omega
    unfold Ieee.Datum.quotient
    simp only [if_neg hm]
    exact ⟨_, rfl⟩
  · obtain rfl : s = 9218868437227405312 := by omega
    rw [read_top]
    exact ⟨_, rfl⟩

/-- The sum, and what a Mean answers. -/
def sumN (l : List Nat) : Nat := ((FineL l).foldlM addF 0).getD 0
def meanN (l : List Nat) : Nat := (floatBits .quo .f64 (sumN l) (floatOfInt .f64 ((FineL l).length : Int))).getD 0
theorem sum_is (l : List Nat) : (FineL l).foldlM addF 0 = some (sumN l) ∧ sumN l ≤ 9218868437227405312 := by
  obtain ⟨r, h1, h2⟩ := sum_good (FineL l) 0 (by omega) (fun x hx => by have := of_decide_eq_true (List.mem_filter.1 hx).2; omega)
  unfold sumN; rw [h1]; exact ⟨rfl, h2⟩
theorem mean_is {l : List Nat} (h0 : FineL l ≠ []) (hn : (FineL l).length ≤ 1000) : floatBits .quo .f64 (sumN l) (floatOfInt .f64 ((FineL l).length : Int)) = some (meanN l) ∧ meanN l < 18446744073709551616 := by
  obtain ⟨r, h⟩ := quo_good (n := (FineL l).length) (sum_is l).2 (fun e => h0 (List.eq_nil_of_length_eq_zero e)) hn
  have hw := floatBits_wf h
  unfold meanN; rw [h]
  exact ⟨rfl, by simpa [Lit.wf] using hw⟩
def MeanOf (l : List Nat) (u : Nat) (b : Bool) : Prop := (FineL l = [] ∧ u = 0 ∧ b = false) ∨ (FineL l ≠ [] ∧ u = meanN l ∧ b = true ∧ u < 18446744073709551616)
def MeanTo (l : List Nat) (w : World) (e : Ending) (w' : World) : Prop := ∃ u b, e = .returned (.tuple #[.float .f64 u, .bool b]) ∧ MeanOf l u b ∧ Below w.heap.size w w'
theorem mean_same {l : List Nat} {x y : Nat} {b b' : Bool} (h : MeanOf l x b) (h' : MeanOf l y b') : x = y ∧ b = b' := by
  rcases h with ⟨h1, rfl, rfl⟩ | ⟨h1, rfl, rfl, _⟩
  · rcases h' with ⟨_, rfl, rfl⟩ | ⟨h4, _⟩
    · exact ⟨rfl, rfl⟩
    · exact absurd h1 h4
  · rcases h' with ⟨h4, _⟩ | ⟨_, rfl, rfl, _⟩
    · exact absurd h4 h1
    · exact ⟨rfl, rfl⟩
theorem mean_lt {l : List Nat} {u : Nat} {b : Bool} (h : MeanOf l u b) : u < 18446744073709551616 := by
  rcases h with ⟨_, rfl, _⟩ | ⟨_, _, _, h⟩
  · decide
  · exact h

set_option maxRecDepth 100000 in
set_option maxHeartbeats 400000 in
theorem mean_any (a : Option Addr) (c : Nat) (l : List Nat) (w : World) (hl : FlAt w a l) (hsz : l.length ≤ 1000) :
    Calls Try.prog 19 #[.slice a l.length c] w (MeanTo l w) := by
  have HA := Lib.hid (allfine_any a c l w hl hsz)
  have hfl : (FineL l).length ≤ 1000 := Nat.le_trans (List.length_filter_le _ _) hsz
  have SI := Lib.hid (sum_is l)
  have MI := Lib.hid (fun h0 : FineL l ≠ [] => mean_is h0 hfl)
  obtain ⟨n, hn⟩ : ∃ n, l.length = n := ⟨_, rfl⟩
  rw [hn] at HA ⊢
  clear hn hl hsz
  obtain ⟨F, hF⟩ : ∃ F, FineL l = F := ⟨_, rfl⟩
  have hlt := fineL_lt l
  rw [hF] at hfl hlt SI MI
  have HF := Lib.hid hF
  have HLT := Lib.hid hlt
  have HA2 : Hid (Calls Try.prog 32 #[.slice a n c] w (OwnFls F w)) := Lib.hid (by rw [← hF]; exact HA.out)
  clear hF hlt HA
  obtain ⟨m, hm⟩ : ∃ m, F.length = m := ⟨_, rfl⟩
  rw [hm] at hfl MI
  have HM := Lib.hid hm
  clear hm
  go_enter Try.func19, Try.ntmps19
  go_wp2_with fail
  ((with_reducible refine HA2.out.mono ?_); skip)
  rintro e w1 ⟨v1, rfl, o1, b1⟩
  rw [HM.out] at o1
  obtain ⟨a1, c1, rfl⟩ := own_slice o1
  have O1 := Lib.hid o1
  have B1 := Lib.hid b1
  clear o1 b1
  by_cases h0 : m = 0
  · have hz : ((m : Int) == 0) = true := by subst h0; rfl
    have H0 := Lib.hid h0
    clear h0
    go_wp2_with fail
    go_ret2
    exact ⟨0, false, rfl, .inl ⟨HF.out.trans (List.eq_nil_of_length_eq_zero (HM.out.trans H0.out)), rfl, rfl⟩, B1.out⟩
  · have hz : ((m : Int) == 0) = false := beq_eq_false_iff_ne.2 (by omega)
    have hne : F ≠ [] := fun e => h0 (by rw [← HM.out, e]; rfl)
    obtain ⟨hq, hql⟩ := MI.out hne
    have hop : ∀ t w, (binOp .quo t (.float .f64 (sumN l)) (.float .f64 (floatOfInt .f64 (m : Int)))).run Try.prog w = .ok (.float .f64 (meanN l)) w := fun t w => run_float_arith w .quo t .f64 _ _ _ hq
    have HOP := Lib.hid hop
    have HNE := Lib.hid hne
    have HQL := Lib.hid hql
    have F1 := Lib.hid (flAt_own (l := F) (a := a1) (c := c1) (B := w.heap.size) (by rw [HM.out]; exact O1.out) HLT.out)
    clear hq hql hop hne
    go_wp2_with fail
    go_loop [5, 15] (fun s i => ∃ (k u : Nat), i = .int .i64 (k : Int) ∧ k ≤ m ∧ s = .float .f64 u ∧ Hid ((F.take k).foldlM addF 0 = some u)) (fun _ i => (m - intOf i).toNat)
    case atStart => exact ⟨0, 0, rfl, by omega, rfl, Lib.hid rfl⟩
    case round =>
      obtain ⟨k, u, rfl, hk, rfl, hu⟩ := hrel
      by_cases h : k < m
      · obtain ⟨x, hx⟩ : ∃ x, F[k]? = some x := ⟨_, List.getElem?_eq_getElem (by rw [HM.out]; exact h)⟩
        obtain ⟨hw, b, rfl, hc⟩ := F1.out k x hx
        obtain ⟨u1, hu1, hu2⟩ := fold_next SI.out.1 hx hu.out
        have hadd : ∀ t w, (binOp .add t (.float .f64 u) (.float .f64 x)).run Try.prog w = .ok (.float .f64 u1) w := fun t w => run_float_arith w .add t .f64 _ _ _ hu1
        have HADD := Lib.hid hadd
        have HU2 := Lib.hid hu2
        clear hx hu1 hu2 hadd hu
        go_wp2_with (simp only [HADD.out])
        go_round
        case rel => exact ⟨k + 1, u1, by go_num, by omega, rfl, HU2⟩
        case measure => simp [intOf]; omega
      · obtain rfl : k = m := by omega
        have hu := hu.out
        rw [List.take_of_length_le (by rw [HM.out]; exact Nat.le_refl _), SI.out.1] at hu
        obtain rfl : sumN l = u := Option.some.inj hu
        clear hu
        go_wp2_with (simp only [HOP.out])
        go_ret2
        exact ⟨meanN l, true, rfl, .inr ⟨by rw [HF.out]; exact HNE.out, rfl, rfl, HQL.out⟩, B1.out⟩

theorem fine_step {l : List Nat} {k x : Nat} (hx : l[k]? = some x) : FineL (l.take (k + 1)) = if GaugeF.fineB x = true then FineL (l.take k) ++ [x] else FineL (l.take k) := by
  have ht : l.take (k + 1) = l.take k ++ [x] := by rw [List.take_add_one, hx]; rfl
  unfold FineL
  rw [ht, List.filter_append]
  cases hb : GaugeF.fineB x <;> simp [hb]
theorem fine_pre (l : List Nat) (k : Nat) : FineL l = FineL (l.take k) ++ FineL (l.drop k) := by
  unfold FineL; rw [← List.filter_append, List.take_append_drop]
theorem sum_step {l : List Nat} {k x u : Nat} (hx : l[k]? = some x) (hf : GaugeF.fineB x = true) (hu : (FineL (l.take k)).foldlM addF 0 = some u) : ∃ v, addF u x = some v ∧ (FineL (l.take (k + 1))).foldlM addF 0 = some v := by
  have h := (sum_is l).1
  rw [fine_pre l (k + 1), List.foldlM_append] at h
  rw [fine_step hx, if_pos hf] at h ⊢
  rw [List.foldlM_append, hu] at h ⊢
  cases e : addF u x with
  | none => simp [e] at h
  | some v => exact ⟨v, rfl, by simp [e]⟩

set_option maxRecDepth 100000 in
set_option maxHeartbeats 400000 in
theorem refmean_any (a : Option Addr) (c : Nat) (l : List Nat) (w : World) (hl : FlAt w a l) (hsz : l.length ≤ 1000) :
    Calls Try.prog 20 #[.slice a l.length c] w (MeanTo l w) := by
  have hfl : (FineL l).length ≤ 1000 := Nat.le_trans (List.length_filter_le _ _) hsz
  have MI := Lib.hid (fun h0 : FineL l ≠ [] => mean_is h0 hfl)
  obtain ⟨n, hn⟩ : ∃ n, l.length = n := ⟨_, rfl⟩
  rw [hn] at hsz ⊢
  have HN := Lib.hid hn
  have HL := Lib.hid hl
  have HFL := Lib.hid hfl
  clear hn hl hfl
  go_enter Try.func20, Try.ntmps20
  go_wp2
  go_loop [4, 5, 10] (fun s q i => ∃ (k u p : Nat), i = .int .i64 (k : Int) ∧ k ≤ n ∧ s = .float .f64 u ∧ q = .int .i64 (p : Int) ∧ p ≤ k ∧ Hid ((FineL (l.take k)).length = p) ∧ Hid ((FineL (l.take k)).foldlM addF 0 = some u)) (fun _ _ i => (n - intOf i).toNat)
  case atStart => exact ⟨0, 0, 0, rfl, by omega, rfl, rfl, by omega, Lib.hid rfl, Lib.hid rfl⟩
  case round =>
    obtain ⟨k, u, p, rfl, hk, rfl, rfl, hpk, hp, hu⟩ := hrel
    by_cases h : k < n
    · obtain ⟨x, hx⟩ : ∃ x, l[k]? = some x := ⟨_, List.getElem?_eq_getElem (by rw [HN.out]; exact h)⟩
      obtain ⟨hw, b, rfl, hc⟩ := HL.out k x hx
      have FS := Lib.hid (fine_step hx)
      cases hb : GaugeF.fineB x
      · have HB := Lib.hid hb
        clear hb hx
        go_wp2_with fail
        ((with_reducible refine (reffine_is _ hw HB.out).mono ?_); skip)
        rintro e w1 ⟨rfl, rfl⟩
        go_wp2_with fail
        go_round
        case rel => exact ⟨k + 1, u, p, by go_num, by omega, rfl, rfl, by omega, Lib.hid (by rw [FS.out, HB.out]; exact hp.out), Lib.hid (by rw [FS.out, HB.out]; exact hu.out)⟩
        case measure => simp [intOf]; omega
      · have HB := Lib.hid hb
        obtain ⟨u1, hu1, hu2⟩ := sum_step hx hb hu.out
        have hadd : ∀ t w, (binOp .add t (.float .f64 u) (.float .f64 x)).run Try.prog w = .ok (.float .f64 u1) w := fun t w => run_float_arith w .add t .f64 _ _ _ hu1
        have HADD := Lib.hid hadd
        have HU2 := Lib.hid hu2
        clear hb hx hu1 hu2 hadd hu
        go_wp2_with fail
        ((with_reducible refine (reffine_is _ hw HB.out).mono ?_); skip)
        rintro e w1 ⟨rfl, rfl⟩
        go_wp2_with (simp only [HADD.out])
        go_round
        case rel => exact ⟨k + 1, u1, p + 1, by go_num, by omega, rfl, by go_num, by omega, Lib.hid (by rw [FS.out, HB.out, if_pos rfl, List.length_append, hp.out]; rfl), HU2⟩
        case measure => simp [intOf]; omega
    · obtain rfl : k = n := by omega
      have hp := hp.out
      have hu := hu.out
      rw [← HN.out, List.take_length] at hp hu
      rw [(sum_is l).1] at hu
      obtain rfl : sumN l = u := Option.some.inj hu
      have HP := Lib.hid hp
      clear hu hp
      by_cases h0 : p = 0
      · have hz : ((p : Int) == 0) = true := by subst h0; rfl
        have H0 := Lib.hid h0
        clear h0
        go_wp2_with fail
        go_ret2
        exact ⟨0, false, rfl, .inl ⟨List.eq_nil_of_length_eq_zero (HP.out.trans H0.out), rfl, rfl⟩, Below.refl _ _⟩
      · have hz : ((p : Int) == 0) = false := beq_eq_false_iff_ne.2 (by omega)
        have hne : FineL l ≠ [] := fun e => h0 (by rw [← HP.out, e]; rfl)
        obtain ⟨hq, hql⟩ := MI.out hne
        rw [HP.out] at hq
        have hop : ∀ t w, (binOp .quo t (.float .f64 (sumN l)) (.float .f64 (floatOfInt .f64 (p : Int)))).run Try.prog w = .ok (.float .f64 (meanN l)) w := fun t w => run_float_arith w .quo t .f64 _ _ _ hq
        have HOP := Lib.hid hop
        have HNE := Lib.hid hne
        have HQL := Lib.hid hql
        clear hq hql hop hne h0
        go_wp2_with (simp only [HOP.out])
        go_ret2
        exact ⟨meanN l, true, rfl, .inr ⟨HNE.out, rfl, rfl, HQL.out⟩, Below.refl _ _⟩
end Go.Proofs.Ytjoeeaagjcpdpaa
