/- The contract of fingerpostref04.Sorted. -/
import Derived.Test.YtjoeeaagjcpdpaaGaugeJ
namespace Go.Proofs.Ytjoeeaagjcpdpaa
open Go.RowKit

theorem ins_sort {l o : List Nat} {x k : Nat} (h : IsSort l o) (hk : k ≤ o.length) (h1 : ∀ t y, k ≤ t → o[t]? = some y → GaugeF.key x ≤ GaugeF.key y) (h2 : ∀ y, 0 < k → o[k - 1]? = some y → GaugeF.key y ≤ GaugeF.key x) : IsSort (l ++ [x]) (o.take k ++ [x] ++ o.drop k) := by
  refine ⟨?_, ?_⟩
  · have e : (o.take k ++ [x] ++ o.drop k).Perm (o.take k ++ o.drop k ++ [x]) := by
      rw [List.append_assoc, List.append_assoc]
      exact List.Perm.append_left _ List.perm_append_comm
    rw [List.take_append_drop] at e
    exact e.trans (List.Perm.append_right _ h.1)
  · have hp := h.2
    rw [List.pairwise_iff_getElem] at hp
    have hp2 : ∀ i j (hi : i < o.length) (hj : j < o.length), i < j → GaugeF.key o[i] ≤ GaugeF.key o[j] := fun i j hi hj hij => by
      have := hp i j (by simpa using hi) (by simpa using hj) hij
      simpa using this
    have hlo : ∀ i (hi : i < o.length), i < k → GaugeF.key o[i] ≤ GaugeF.key x := fun i hi hik => by
      have := h2 o[k - 1] (by omega) (List.getElem?_eq_getElem (by omega))
      by_cases e : i = k - 1
      · subst e; exact this
      · exact Int.le_trans (hp2 i (k - 1) hi (by omega) (by omega)) this
    have hhi : ∀ i (hi : i < o.length), k ≤ i → GaugeF.key x ≤ GaugeF.key o[i] := fun i hi hik => h1 i _ hik (List.getElem?_eq_getElem hi)
    rw [List.map_append, List.map_append, List.pairwise_append, List.pairwise_append]
    refine ⟨⟨?_, by simp, ?_⟩, ?_, ?_⟩
    · exact h.2.sublist ((List.take_sublist k o).map GaugeF.key)
    · intro a ha b hb
      obtain ⟨y, hy, rfl⟩ := List.mem_map.1 ha
      obtain ⟨i, hi, rfl⟩ := List.mem_iff_getElem.1 hy
      simp only [List.map_cons, List.map_nil, List.mem_singleton] at hb
      subst hb
      simp only [List.length_take] at hi
      rw [List.getElem_take]
      exact hlo i (by omega) (by omega)
    · exact h.2.sublist ((List.drop_sublist k o).map GaugeF.key)
    · intro a ha b hb
      obtain ⟨z, hz, rfl⟩ := List.mem_map.1 hb
      obtain ⟨j, hj, rfl⟩ := List.mem_iff_getElem.1 hz
      simp only [List.length_drop] at hj
      rw [List.getElem_drop]
      rcases List.mem_append.1 ha with ha | ha
      · obtain ⟨y, hy, rfl⟩ := List.mem_map.1 ha
        obtain ⟨i, hi, rfl⟩ := List.mem_iff_getElem.1 hy
        simp only [List.length_take] at hi
        rw [List.getElem_take]
        exact hp2 i (k + j) (by omega) (by omega) (by omega)
      · simp only [List.map_cons, List.map_nil, List.mem_singleton] at ha
        subst ha
        exact hhi (k + j) (by omega) (by omega)

theorem own_lower {w : World} {B B' e size n : Nat} {v : Value} {xs : List Value} (h : w.ownsRow B' e size v n xs) (hb : B ≤ B') : w.ownsRow B e size v n xs :=
  ⟨h.1, h.2.imp id fun ⟨g, cap, cur, h1, h2, h3⟩ => ⟨g, cap, cur, h1, Nat.le_trans hb h2, h3⟩⟩
theorem own_cap {w : World} {B e size n c : Nat} {a : Option Addr} {xs : List Value} (h : w.ownsRow B e size (.slice a n c) n xs) : n ≤ c := by
  rcases h.2 with ⟨h1, h2⟩ | ⟨g, cap, cur, h1, _, _, h3, _⟩
  · subst h2; exact Nat.zero_le _
  · simp only [Value.slice.injEq] at h1
    obtain ⟨_, _, rfl⟩ := h1
    exact h3
theorem fl_one (l : List Nat) : ∀ u ∈ flV l, u.oneCell' = true := fun u hu => by
  unfold flV at hu
  obtain ⟨x, _, rfl⟩ := List.mem_map.1 hu
  rfl
theorem flV_take (l : List Nat) (k : Nat) : (flV l).take k = flV (l.take k) := by simp [flV, List.map_take]
theorem flV_drop (l : List Nat) (k : Nat) : (flV l).drop k = flV (l.drop k) := by simp [flV, List.map_drop]
theorem flV_app (l r : List Nat) : flV (l ++ r) = flV l ++ flV r := by simp [flV]
/-- The cells of a part of a new row. -/
theorem own_part {w : World} {B g n c : Nat} {l : List Nat} (h : w.ownsRow B 22 1 (.slice (some ⟨g, 0, none⟩) n c) n (flV l)) (k j : Nat) {u : Value} (hu : (flV (l.drop k))[j]? = some u) : w.cell? ((⟨g, k, none⟩ : Addr).add j) = some u := by
  have hl : l.length = n := by have := h.1; rw [flV_length] at this; omega
  rw [← flV_drop, List.getElem?_drop] at hu
  have hlt := (List.getElem?_eq_some_iff.1 hu).1
  rw [flV_length] at hlt
  have := (h.cellAt (k + j) (by omega)).trans hu
  unfold Addr.add
  split
  · rename_i e; subst e; exact this
  · exact this

theorem own_head {w : World} {B g n c : Nat} {l : List Nat} (h : w.ownsRow B 22 1 (.slice (some ⟨g, 0, none⟩) n c) n (flV l)) (k j : Nat) {u : Value} (hu : (flV (l.take k))[j]? = some u) : w.cell? ((⟨g, 0, none⟩ : Addr).add j) = some u := by
  rw [← flV_take, List.getElem?_take] at hu
  split at hu
  · exact own_part h 0 j (by rw [List.drop_zero]; exact hu)
  · cases hu

set_option maxRecDepth 100000 in
set_option maxHeartbeats 1000000 in
theorem refsorted_any (a : Option Addr) (c : Nat) (l : List Nat) (w : World) (hl : FlAt w a l) (hsz : l.length ≤ 1000) :
    Calls Try.prog 16 #[.slice a l.length c] w (SortedTo l w) := by
  obtain ⟨i0, hi, hz0, hz1, hz2⟩ := info_parts Try.info22
  obtain ⟨n, hn⟩ : ∃ n, l.length = n := ⟨_, rfl⟩
  rw [hn] at hsz ⊢
  have HN := Lib.hid hn
  have HL := Lib.hid hl
  clear hn hl
  go_enter Try.func16, Try.ntmps16
  go_wp2
  go_loopw [3, 10] (fun v c wr => ∃ (o : List Nat) (i : Nat), c = .int .i64 (i : Int) ∧ i ≤ n ∧ Hid (o.length = i) ∧ Hid (IsSort (l.take i) o) ∧ wr.ownsRow w.heap.size 22 1 v i (flV o) ∧ Below w.heap.size w wr)
    (fun _ c _ => (n - intOf c).toNat)
  case atStart => exact ⟨[], 0, rfl, by omega, Lib.hid rfl, Lib.hid (by simpa using isSort_nil), World.ownsRow_nil _ _ _ _, Below.refl _ _⟩
  case round =>
    obtain ⟨o, i, rfl, hk, ho, hs, hown, hbel⟩ := hrel
    have hsz := hbel.size
    have HBL := Lib.hid hbel
    clear hbel
    by_cases h : i < n
    · obtain ⟨x, hx⟩ : ∃ x, l[i]? = some x := ⟨_, List.getElem?_eq_getElem (by rw [HN.out]; exact h)⟩
      obtain ⟨hw, b, rfl, hc⟩ := flAt_later HL.out HBL.out i x hx
      have HT : Hid (l.take (i + 1) = l.take i ++ [x]) := Lib.hid (by rw [List.take_add_one, hx]; rfl)
      clear hx
      have hv := hown.2
      rcases hv with ⟨rfl, rfl⟩ | ⟨g, c1, cur, rfl, _⟩
      · have ho' : o = [] := List.eq_nil_of_length_eq_zero ho.out
        subst ho'
        have hc0 : wr.cell? b = some (.float .f64 x) := hc
        have HL8 := Lib.hid (World.ownsRow_lit (base := wr.heap.size) (e := 22) (size := 1) wr #[] 0 (Nat.le_refl _) (by decide) rfl)
        go_wp2_with fail
        go_loop [6] (fun u => u = .int .i64 0) (fun _ => 0)
        case atStart => rfl
        case round =>
          obtain rfl := hrel
          go_upto_region 8 with fail
          go_upto_region 9 with (at_builtin; refine wpList_append_own_none rfl (.tmp 30) (.tmp 33) 37 rfl wr.heap.size 22 i0 1 Try.underlying37 hi _ 0 [] rfl HL8.out rfl ?_)
          have HB1 := Lib.hid (HBL.out.alloc hsz (.cells #[] 22))
          have HX1 : Hid (wr.heap.size + 1 ≤ (wr.alloc (.cells #[] 22)).heap.size) := Lib.hid (by simp)
          generalize wr.alloc (.cells #[] 22) = wz at HL8 HB1 HX1 ⊢
          go_upto_region 10 with (at_builtin; refine wpList_append_own _ rfl (.tmp 35) (.tmp 37) 37 rfl wr.heap.size 22 i0 (.float .f64 0) 1 8 Try.underlying37 hi hz0 hz1 hz2 rfl (by decide) _ _ _ rfl (HL8.out.alloc _) ⟨wz.heap.size, 0, none⟩ 1 1 [_] rfl rfl (cell_one_new _ _ _) (by simp [Value.oneCell']) (by decide) (by decide) (by have := HX1.out; simp; omega) ?_; intro v2 w2 hown2 hg2 hn2)
          have HB2 := Lib.hid ((HB1.out.alloc (by have := HX1.out; omega) _).grown hg2 (by have := HX1.out; simp; omega) (fun k hk => Nat.le_trans hsz (HL8.out.lt k hk).1))
          have HW2 := Lib.hid hown2
          clear hown2 hg2 hn2
          go_wp2_with (at_builtin; refine wpList_append_own_none rfl (.tmp 39) (.tmp 42) 37 rfl wr.heap.size 22 i0 1 Try.underlying37 hi _ _ _ rfl HW2.out rfl ?_)
          go_roundw
          case rel => exact ⟨[x], 1, by go_num, by omega, Lib.hid rfl, Lib.hid (by rw [HT.out]; simpa using ins_sort (k := 0) hs.out (Nat.le_refl _) (fun t y _ hy => by simp at hy) (fun y h3 _ => by omega)), own_lower HW2.out hsz, HB2.out⟩
          case measure => simp [intOf]; omega
      · have HOO := hown
        have hcap := own_cap hown
        have HO := Lib.hid hown
        have hwo : ∀ t y, o[t]? = some y → y < 18446744073709551616 ∧ wr.cell? ⟨g, t, none⟩ = some (.float .f64 y) := fun t y hy => by
          have hm : y ∈ l.take i := hs.out.1.mem_iff.1 (List.mem_of_getElem? hy)
          obtain ⟨j, hj⟩ := List.mem_iff_getElem?.1 (List.mem_of_mem_take hm)
          refine ⟨(HL.out j y hj).1, ?_⟩
          have hlt := (List.getElem?_eq_some_iff.1 hy).1
          exact (HO.out.cellAt t (by have := ho.out; omega)).trans (flV_at hy)
        have HW := Lib.hid hwo
        clear hwo hown
        go_wp2_with fail
        go_loop [6] (fun u => ∃ k : Nat, u = .int .i64 (k : Int) ∧ k ≤ i ∧ Hid (∀ t y, k ≤ t → o[t]? = some y → GaugeF.key x ≤ GaugeF.key y)) (fun u => (intOf u).toNat)
        case atStart => exact ⟨i, rfl, by omega, Lib.hid fun t y ht hy => by
          have := (List.getElem?_eq_some_iff.1 hy).1
          have := ho.out
          omega⟩
        case round =>
          obtain ⟨k, rfl, hki, K⟩ := hrel
          by_cases hk0 : k = 0
          · have hzi : decide ((0 : Int) < (k : Int)) = false := decide_eq_false (by omega)
            have K1 : Hid (∀ y, 0 < k → o[k - 1]? = some y → GaugeF.key y ≤ GaugeF.key x) := Lib.hid fun _ h3 _ => by omega
            have hzk : decide (0 < k) = false := decide_eq_false (by omega)
            clear hk0
            have k0 : (0 : Int) ≤ (k : Int) := by omega
            have k1 : (k : Int) ≤ (c1 : Int) := by omega
            have k2 : (k : Int) ≤ (i : Int) := by omega
            have HG := Lib.hid (HO.out.lt g rfl).2
            have HO8 := Lib.hid (HO.out.alloc (.cells #[] 22))
            have HL8 := Lib.hid (World.ownsRow_lit (base := wr.heap.size) (e := 22) (size := 1) wr #[] 0 (Nat.le_refl _) (by decide) rfl)
            go_upto_region 8 with fail
            go_upto_region 9 with (at_builtin; refine wpList_append_own _ rfl (.tmp 30) (.tmp 33) 37 rfl wr.heap.size 22 i0 (.float .f64 0) 1 8 Try.underlying37 hi hz0 hz1 hz2 rfl (by decide) _ 0 [] rfl HL8.out ⟨g, 0, none⟩ k c1 (flV (o.take k)) rfl (by rw [flV_length, List.length_take, Nat.mul_one, ho.out]; omega) (fun j u hu => own_head HO8.out k j hu) (fl_one _) (by unfold maxLen; omega) (by omega) (by simp) ?_; intro v1 w1 hown1 hg1 hn1)
            have HB1 := Lib.hid ((HBL.out.alloc hsz _).grown hg1 (by simp; omega) (fun k hk => Nat.le_trans hsz (HL8.out.lt k hk).1))
            have HO9 := Lib.hid (HO8.out.kept hg1 (.inr (by have := HG.out; simp [Value.ownBlock, Act.eval]; omega)))
            have HZ1 := Lib.hid hg1.size
            rw [Nat.zero_add, List.nil_append] at hown1
            have HW1 := Lib.hid hown1
            clear hown1 hg1 hn1
            have HX1 : Hid (wr.heap.size + 1 ≤ w1.heap.size) := Lib.hid (by have := HZ1.out; simp at this; omega)
            go_upto_region 10 with (at_builtin; refine wpList_append_own _ rfl (.tmp 35) (.tmp 37) 37 rfl wr.heap.size 22 i0 (.float .f64 0) 1 8 Try.underlying37 hi hz0 hz1 hz2 rfl (by decide) _ _ _ rfl (HW1.out.alloc _) ⟨w1.heap.size, 0, none⟩ 1 1 [_] rfl rfl (cell_one_new _ _ _) (by simp [Value.oneCell']) (by unfold maxLen; omega) (by omega) (by have := HX1.out; simp; omega) ?_; intro v2 w2 hown2 hg2 hn2)
            have HB2 := Lib.hid ((HB1.out.alloc (by have := HX1.out; omega) _).grown hg2 (by have := HX1.out; simp; omega) (fun k hk => Nat.le_trans hsz (HW1.out.lt k hk).1))
            have HO10 := Lib.hid ((HO9.out.alloc (.cells #[.float .f64 x] 22)).kept hg2 (.inr (fun e => by have := (HW1.out.lt g e.symm).1; have := HG.out; omega)))
            have HX2 : Hid (wr.heap.size + 1 ≤ w2.heap.size) := Lib.hid (by have := hg2.size; have := HX1.out; simp at *; omega)
            have HW2 : Hid (w2.ownsRow wr.heap.size 22 1 v2 (k + 1) (flV (o.take k ++ [x]))) := Lib.hid (by rw [flV_snoc]; exact hown2)
            clear hown2 hg2 hn2
            have k3 : (0 : Int) ≤ (i : Int) := by omega
            obtain ⟨ad, had1, had2⟩ : ∃ ad, (if c1 = k then some (⟨g, 0, none⟩ : Addr) else some ⟨g, k, none⟩) = some ad ∧ ∀ j u, (flV (o.drop k))[j]? = some u → w2.cell? (ad.add j) = some u := by
              by_cases hkc : c1 = k
              · refine ⟨_, if_pos hkc, fun j u hu => ?_⟩
                have hlt := (List.getElem?_eq_some_iff.1 hu).1
                rw [flV_length, List.length_drop, ho.out] at hlt
                exfalso; omega
              · exact ⟨_, if_neg hkc, fun j u hu => own_part HO10.out k j hu⟩
            have HAD := Lib.hid had2
            clear had2
            go_wp2_with (at_builtin; refine wpList_append_own _ rfl (.tmp 39) (.tmp 42) 37 rfl wr.heap.size 22 i0 (.float .f64 0) 1 8 Try.underlying37 hi hz0 hz1 hz2 rfl (by decide) _ _ _ rfl HW2.out ad (i - k) (c1 - k) (flV (o.drop k)) rfl (by rw [flV_length, List.length_drop, Nat.mul_one, ho.out]) HAD.out (fl_one _) (by unfold maxLen; omega) (by omega) (by have := HX2.out; omega) ?_; intro v3 w3 hown3 hg3 hn3)
            go_roundw
            case rel =>
              refine ⟨o.take k ++ [x] ++ o.drop k, i + 1, by go_num, by omega, Lib.hid ?_, Lib.hid ?_, ?_, HB2.out.grown hg3 (by have := HX2.out; omega) (fun k hk => Nat.le_trans hsz (HW2.out.lt k hk).1)⟩
              · have := ho.out
                simp; omega
              · rw [HT.out]; exact ins_sort hs.out (by have := ho.out; omega) K.out K1.out
              · rw [flV_app]
                have e : k + 1 + (i - k) = i + 1 := by omega
                rw [e] at hown3
                exact own_lower hown3 hsz
            case measure => simp [intOf]; omega
          · obtain ⟨q, rfl⟩ : ∃ q, k = q + 1 := ⟨k - 1, by omega⟩
            obtain ⟨y, hy⟩ : ∃ y, o[q]? = some y := ⟨_, List.getElem?_eq_getElem (by have := ho.out; omega)⟩
            obtain ⟨l1, c2⟩ := HW.out q y hy
            have q1 : (q : Int) < (i : Int) := by omega
            have q0 : (0 : Int) ≤ (q : Int) := by omega
            have HY := Lib.hid hy
            clear hy
            cases hlt : ltK x y
            · have HT2 := Lib.hid hlt
              obtain ⟨v, hv, hv0⟩ := ordV_ge hlt
              have HV := Lib.hid hv
              clear hlt hv
              have hv1 : decide (v < 0) = false := decide_eq_false (by omega)
              go_wp2_with fail
              ((with_reducible refine (reforder_is _ hw l1 HV.out).mono ?_); skip)
              rintro e w1 ⟨rfl, rfl⟩
              have K1 : Hid (∀ y', 0 < q + 1 → o[q + 1 - 1]? = some y' → GaugeF.key y' ≤ GaugeF.key x) := Lib.hid fun y' _ hy' => by
                have e2 := HY.out
                rw [Nat.add_sub_cancel] at hy'
                rw [hy'] at e2
                cases e2
                exact Int.not_lt.1 (of_decide_eq_false HT2.out)
              obtain ⟨k, hqk⟩ : ∃ k, q + 1 = k := ⟨_, rfl⟩
              have HQK := Lib.hid hqk
              have ek : (q : Int) + 1 = (k : Int) := by omega
              rw [hqk] at K K1 hki
              clear hqk
              have k0 : (0 : Int) ≤ (k : Int) := by omega
              have k1 : (k : Int) ≤ (c1 : Int) := by omega
              have k2 : (k : Int) ≤ (i : Int) := by omega
              have HG := Lib.hid (HO.out.lt g rfl).2
              have HO8 := Lib.hid (HO.out.alloc (.cells #[] 22))
              have HL8 := Lib.hid (World.ownsRow_lit (base := wr.heap.size) (e := 22) (size := 1) wr #[] 0 (Nat.le_refl _) (by decide) rfl)
              go_upto_region 8 with fail
              go_upto_region 9 with (at_builtin; refine wpList_append_own _ rfl (.tmp 30) (.tmp 33) 37 rfl wr.heap.size 22 i0 (.float .f64 0) 1 8 Try.underlying37 hi hz0 hz1 hz2 rfl (by decide) _ 0 [] rfl HL8.out ⟨g, 0, none⟩ k c1 (flV (o.take k)) rfl (by rw [flV_length, List.length_take, Nat.mul_one, ho.out]; omega) (fun j u hu => own_head HO8.out k j hu) (fl_one _) (by unfold maxLen; omega) (by omega) (by simp) ?_; intro v1 w1 hown1 hg1 hn1)
              have HB1 := Lib.hid ((HBL.out.alloc hsz _).grown hg1 (by simp; omega) (fun k hk => Nat.le_trans hsz (HL8.out.lt k hk).1))
              have HO9 := Lib.hid (HO8.out.kept hg1 (.inr (by have := HG.out; simp [Value.ownBlock, Act.eval]; omega)))
              have HZ1 := Lib.hid hg1.size
              rw [Nat.zero_add, List.nil_append] at hown1
              have HW1 := Lib.hid hown1
              clear hown1 hg1 hn1
              have HX1 : Hid (wr.heap.size + 1 ≤ w1.heap.size) := Lib.hid (by have := HZ1.out; simp at this; omega)
              go_upto_region 10 with (at_builtin; refine wpList_append_own _ rfl (.tmp 35) (.tmp 37) 37 rfl wr.heap.size 22 i0 (.float .f64 0) 1 8 Try.underlying37 hi hz0 hz1 hz2 rfl (by decide) _ _ _ rfl (HW1.out.alloc _) ⟨w1.heap.size, 0, none⟩ 1 1 [_] rfl rfl (cell_one_new _ _ _) (by simp [Value.oneCell']) (by unfold maxLen; omega) (by omega) (by have := HX1.out; simp; omega) ?_; intro v2 w2 hown2 hg2 hn2)
              have HB2 := Lib.hid ((HB1.out.alloc (by have := HX1.out; omega) _).grown hg2 (by have := HX1.out; simp; omega) (fun k hk => Nat.le_trans hsz (HW1.out.lt k hk).1))
              have HO10 := Lib.hid ((HO9.out.alloc (.cells #[.float .f64 x] 22)).kept hg2 (.inr (fun e => by have := (HW1.out.lt g e.symm).1; have := HG.out; omega)))
              have HX2 : Hid (wr.heap.size + 1 ≤ w2.heap.size) := Lib.hid (by have := hg2.size; have := HX1.out; simp at *; omega)
              have HW2 : Hid (w2.ownsRow wr.heap.size 22 1 v2 (k + 1) (flV (o.take k ++ [x]))) := Lib.hid (by rw [flV_snoc]; exact hown2)
              clear hown2 hg2 hn2
              have k3 : (0 : Int) ≤ (i : Int) := by omega
              obtain ⟨ad, had1, had2⟩ : ∃ ad, (if c1 = k then some (⟨g, 0, none⟩ : Addr) else some ⟨g, k, none⟩) = some ad ∧ ∀ j u, (flV (o.drop k))[j]? = some u → w2.cell? (ad.add j) = some u := by
                by_cases hkc : c1 = k
                · refine ⟨_, if_pos hkc, fun j u hu => ?_⟩
                  have hlt := (List.getElem?_eq_some_iff.1 hu).1
                  rw [flV_length, List.length_drop, ho.out] at hlt
                  exfalso; omega
                · exact ⟨_, if_neg hkc, fun j u hu => own_part HO10.out k j hu⟩
              have HAD := Lib.hid had2
              clear had2
              go_wp2_with (at_builtin; refine wpList_append_own _ rfl (.tmp 39) (.tmp 42) 37 rfl wr.heap.size 22 i0 (.float .f64 0) 1 8 Try.underlying37 hi hz0 hz1 hz2 rfl (by decide) _ _ _ rfl HW2.out ad (i - k) (c1 - k) (flV (o.drop k)) rfl (by rw [flV_length, List.length_drop, Nat.mul_one, ho.out]) HAD.out (fl_one _) (by unfold maxLen; omega) (by omega) (by have := HX2.out; omega) ?_; intro v3 w3 hown3 hg3 hn3)
              go_roundw
              case rel =>
                refine ⟨o.take k ++ [x] ++ o.drop k, i + 1, by go_num, by omega, Lib.hid ?_, Lib.hid ?_, ?_, HB2.out.grown hg3 (by have := HX2.out; omega) (fun k hk => Nat.le_trans hsz (HW2.out.lt k hk).1)⟩
                · have := ho.out
                  simp; omega
                · rw [HT.out]; exact ins_sort hs.out (by have := ho.out; omega) K.out K1.out
                · rw [flV_app]
                  have e : k + 1 + (i - k) = i + 1 := by omega
                  rw [e] at hown3
                  exact own_lower hown3 hsz
              case measure => simp [intOf]; omega
            · have HT2 := Lib.hid hlt
              have HV := Lib.hid (ordV_lt hlt)
              clear hlt
              go_wp2_with fail
              ((with_reducible refine (reforder_is _ hw l1 HV.out).mono ?_); skip)
              rintro e w1 ⟨rfl, rfl⟩
              go_wp2_with fail
              go_round
              case rel => exact ⟨q, by first | rfl | go_num, by omega, Lib.hid fun t y' ht hy' => by
                by_cases e : t = q
                · subst e
                  have := of_decide_eq_true HT2.out
                  have e2 := HY.out
                  rw [hy'] at e2
                  cases e2
                  omega
                · exact K.out t y' (by omega) hy'⟩
              case measure => simp [intOf]
    · obtain rfl : i = n := by omega
      go_wp2
      go_ret
      have hS := hs.out
      rw [← HN.out, List.take_length] at hS
      refine ⟨_, o, rfl, hS, ?_, HBL.out⟩
      rw [ho.out]; exact hown
end Go.Proofs.Ytjoeeaagjcpdpaa
