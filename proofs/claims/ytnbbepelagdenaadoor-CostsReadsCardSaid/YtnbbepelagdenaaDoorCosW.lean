/- Contracts of package costs, part W: Parse. -/
import Derived.Test.YtnbbepelagdenaaDoorCosV
import Derived.Test.YtnbbepelagdenaaDoorCosJ
namespace Go.Proofs.YtnbbepelagdenaaDoor
open Go.RowKit Go.Sort CosF Go.Joins
attribute [local go_sem ↓] loadAt_cos loadAt_row storeAt_cos

/-- The tables of blanks read as the program's text lays them. -/
def TabSp (w : World) : Prop := Lib.TabIs Tryd.prog w "strings.asciiSpace" .u8 Lib.asciiSpaceTab ∧ Lib.WhiteTab 1 w
theorem TabSp.on {w w' : World} (h : TabSp w) (hb : Below w.heap.size w w') : TabSp w' := ⟨Lib.tabBelow_of_tabIs h.1 w' hb, WhiteTab_below h.2 hb⟩
/-- All that is listed. -/
def Tabs (w : World) : Prop := Tab10 w ∧ Errs w ∧ TabSp w
theorem Tabs.on {w w' : World} (h : Tabs w) (hb : Below w.heap.size w w') : Tabs w' := ⟨h.1.on hb, h.2.1.on hb, h.2.2.on hb⟩
/-- The slice that begins there reads as these texts; it lies in no block below B. -/
def StrAt (w : World) (a : Option Addr) (B : Nat) (L : List (List UInt8)) : Prop := ∀ (i : Nat) (x : List UInt8), L[i]? = some x → ∃ g cur, a = some ⟨g, 0, none⟩ ∧ B ≤ g ∧ w.heap[g]? = some (.cells cur 9 (0, 0)) ∧ cur[i]? = some (.string (str x))
theorem StrAt.on {w w' : World} {a : Option Addr} {B : Nat} {L : List (List UInt8)} (h : StrAt w a B L) (hb : Below w.heap.size w w') : StrAt w' a B L := fun i x hi => by
  obtain ⟨g, cur, h1, h2, h3, h4⟩ := h i x hi
  exact ⟨g, cur, h1, h2, (hb.block g (Array.getElem?_eq_some_iff.1 h3).1).trans h3, h4⟩
theorem StrAt.beside {w : World} {a : Option Addr} {B : Nat} {L : List (List UInt8)} (h : StrAt w a B L) (b : Nat) (hb : b < B) (ds : Array Value) : StrAt (w.setRow b ds) a B L := fun i x hi => by
  obtain ⟨g, cur, h1, h2, h3, h4⟩ := h i x hi
  exact ⟨g, cur, h1, h2, by rw [setRow_other w b g ds (by omega)]; exact h3, h4⟩
theorem StrAt.read {w : World} {a : Option Addr} {B : Nat} {L : List (List UInt8)} (h : StrAt w a B L) {i : Nat} {x : List UInt8} (hi : L[i]? = some x) : ∃ g, a = some ⟨g, 0, none⟩ ∧ B ≤ g ∧ w.cell? ⟨g, i, none⟩ = some (.string (str x)) := by
  obtain ⟨g, cur, h1, h2, h3, h4⟩ := h i x hi
  exact ⟨g, h1, h2, by simp [World.cell?, h3, h4]⟩
/-- strings.Fields: a new slice of the words. -/
theorem fields_any (s : ByteArray) (w : World) (hs : s.size ≤ 1000) (ht : TabSp w) : Calls Tryd.prog 45 #[.string s] w fun e w' =>
    ∃ a n, e = .returned (.slice a n n) ∧ (Lib.fieldsD s.data.toList).length = n ∧ n ≤ maxLen ∧ StrAt w' a w.heap.size (Lib.fieldsD s.data.toList) ∧ Below w.heap.size w w' := by
  refine (Any.strings_Fields_any lays157 (by kernel_rfl) (by kernel_rfl) (by kernel_rfl) s w (by omega) ht.1 ht.2).mono ?_
  rintro e w' ⟨A, rfl, hA, hown, hb⟩
  rcases hown.2 with ⟨hv, _⟩ | ⟨g, cap, cur, hv, hB, hc, h1, h2, h3, h4⟩
  · cases hv
  · simp only [Value.slice.injEq, Option.some.injEq, Addr.mk.injEq, true_and] at hv
    obtain ⟨⟨rfl, _⟩, rfl⟩ := hv
    refine ⟨_, _, rfl, rfl, h2, fun i x hi => ?_, hb⟩
    have hlt := (List.getElem?_eq_some_iff.1 hi).1
    refine ⟨A, cur, rfl, hB, hc, ?_⟩
    have e : ((Lib.fieldsD s.data.toList).map fun x => Value.string ⟨x.toArray⟩)[i]? = some (.string (str x)) := by rw [List.getElem?_map, hi]; rfl
    rw [← h4, List.getElem?_take_of_lt (by omega)] at e
    simpa using e
theorem word_lens : ∀ (f : Nat) (cur l : List UInt8), ∀ x ∈ Lib.fieldsGoD f cur l, x ≠ [] ∧ x.length ≤ cur.length + l.length
  | 0, cur, l, x, hx => by
    simp only [Lib.fieldsGoD] at hx
    split at hx
    · cases hx
    · rename_i h
      obtain rfl : x = cur := by simpa using hx
      exact ⟨h, by omega⟩
  | f + 1, cur, l, x, hx => by
    simp only [Lib.fieldsGoD] at hx
    split at hx
    · split at hx
      · cases hx
      · rename_i h
        obtain rfl : x = cur := by simpa using hx
        exact ⟨h, by omega⟩
    · split at hx
      · rcases List.mem_append.1 hx with hx | hx
        · split at hx
          · cases hx
          · rename_i h
            obtain rfl : x = cur := by simpa using hx
            exact ⟨h, by omega⟩
        · have h := word_lens f [] _ x hx
          exact ⟨h.1, by have := h.2; simp only [List.length_nil, List.length_drop] at this; omega⟩
      · have h := word_lens f _ _ x hx
        exact ⟨h.1, by have := h.2; simp only [List.length_append, List.length_take, List.length_drop] at this; omega⟩
theorem word_len (l : List UInt8) : ∀ x ∈ Lib.fieldsD l, x ≠ [] ∧ x.length ≤ l.length := fun x hx => by
  have h := word_lens _ _ _ x hx
  exact ⟨h.1, by have := h.2; simp at this; omega⟩
theorem one_new (w : World) : Blk (w.alloc (.cells #[.int .i64 0, .int .u32 0, .int .u32 0, .int .u32 0, .int .u32 0, .int .u32 0, .int .u32 0, .int .u32 0, .int .u32 0, .int .u32 0, .int .u32 0, .int .u32 0, .int .u32 0, .int .u32 0, .int .u32 0, .int .u32 0, .int .u32 0] 25)) w.heap.size (cosP none16) := Blk.new w (cosP none16) 25

set_option maxRecDepth 100000 in
set_option maxHeartbeats 1000000 in
theorem cparse_long (s : ByteArray) (w : World) (hl : 300 < s.size) : Calls Tryd.prog 19 #[.string s] w fun e w' => e = .returned (.tuple #[.agg (cosP (parseP s.data.toList).1).toArray, .int .i64 (parseP s.data.toList).2]) ∧ Below w.heap.size w w' := by
  have HV : Hid (parseP s.data.toList = (none16, 4)) := Lib.hid (by unfold parseP; rw [if_pos (by rw [size_list]; exact hl)])
  have d1 : decide ((300 : Int) < (s.size : Int)) = true := decide_eq_true (by omega)
  rw [HV.out]
  clear hl
  have k0 := one_new w
  have h0 := (Below.refl w.heap.size w).alloc (Nat.le_refl _) (.cells #[.int .i64 0, .int .u32 0, .int .u32 0, .int .u32 0, .int .u32 0, .int .u32 0, .int .u32 0, .int .u32 0, .int .u32 0, .int .u32 0, .int .u32 0, .int .u32 0, .int .u32 0, .int .u32 0, .int .u32 0, .int .u32 0, .int .u32 0] 25)
  go_enter Tryd.func19, Tryd.ntmps19
  go_upto_region 1 with fail
  obtain ⟨wa, hwa⟩ : ∃ v, w.alloc (.cells #[.int .i64 0, .int .u32 0, .int .u32 0, .int .u32 0, .int .u32 0, .int .u32 0, .int .u32 0, .int .u32 0, .int .u32 0, .int .u32 0, .int .u32 0, .int .u32 0, .int .u32 0, .int .u32 0, .int .u32 0, .int .u32 0, .int .u32 0] 25) = v := ⟨_, rfl⟩
  rw [hwa] at k0 h0 ⊢
  clear hwa
  have hst := zero_store k0 Cos.zero
  have hv := cos_var (zero_var k0) Cos.zero
  have hb := below_setRow h0 (Nat.le_refl _) #[.int .i64 0, .int .u32 0, .int .u32 0, .int .u32 0, .int .u32 0, .int .u32 0, .int .u32 0, .int .u32 0, .int .u32 0, .int .u32 0, .int .u32 0, .int .u32 0, .int .u32 0, .int .u32 0, .int .u32 0, .int .u32 0, .int .u32 0]
  go_wp2_with fail
  exact bodyPost_ret (v := .tuple #[.agg (cosP none16).toArray, .int .i64 4]) (by simp [results, Tryd.results19, asAddr, hv]) rfl ⟨rfl, hb⟩

set_option maxRecDepth 100000 in
set_option maxHeartbeats 4000000 in
theorem cparse_short (s : ByteArray) (w : World) (hl : s.size ≤ 300) (ht : Tabs w) : Calls Tryd.prog 19 #[.string s] w fun e w' => e = .returned (.tuple #[.agg (cosP (parseP s.data.toList).1).toArray, .int .i64 (parseP s.data.toList).2]) ∧ Below w.heap.size w w' := by
  have HV : Hid (parseP s.data.toList = doneV s.data.toList (readsF (Lib.fieldsD s.data.toList) none16)) := Lib.hid (by unfold parseP; rw [if_neg (by rw [size_list]; omega)])
  have d1 : decide ((300 : Int) < (s.size : Int)) = false := decide_eq_false (by omega)
  have TB := Lib.hid ht
  have FD := Lib.hid (fun w ht => fields_any s w (by omega) ht)
  have WL : Hid (∀ x ∈ Lib.fieldsD s.data.toList, x ≠ [] ∧ x.length ≤ 300) := Lib.hid (fun x hx => by
    have h := word_len s.data.toList x hx
    rw [size_list] at h
    exact ⟨h.1, by omega⟩)
  have HSS : Hid (str s.data.toList = s) := Lib.hid (str_of s)
  obtain ⟨sl, hsl⟩ : ∃ sl, s.data.toList = sl := ⟨_, rfl⟩
  have HSL := Lib.hid hsl
  rw [hsl] at HV FD WL
  rw [hsl]
  obtain ⟨L, hL⟩ : ∃ L, Lib.fieldsD sl = L := ⟨_, rfl⟩
  rw [hL] at HV FD WL
  obtain ⟨pv, hpv⟩ : ∃ pv, parseP sl = pv := ⟨_, rfl⟩
  rw [hpv] at HV ⊢
  clear hl ht hsl hL hpv
  have k2 := (one_new w).next (.cells #[.int .i64 0, .int .u32 0, .int .u32 0, .int .u32 0, .int .u32 0, .int .u32 0, .int .u32 0, .int .u32 0, .int .u32 0, .int .u32 0, .int .u32 0, .int .u32 0, .int .u32 0, .int .u32 0, .int .u32 0, .int .u32 0, .int .u32 0] 25)
  have k4 : Blk ((w.alloc (.cells #[.int .i64 0, .int .u32 0, .int .u32 0, .int .u32 0, .int .u32 0, .int .u32 0, .int .u32 0, .int .u32 0, .int .u32 0, .int .u32 0, .int .u32 0, .int .u32 0, .int .u32 0, .int .u32 0, .int .u32 0, .int .u32 0, .int .u32 0] 25)).alloc (.cells #[.int .i64 0, .int .u32 0, .int .u32 0, .int .u32 0, .int .u32 0, .int .u32 0, .int .u32 0, .int .u32 0, .int .u32 0, .int .u32 0, .int .u32 0, .int .u32 0, .int .u32 0, .int .u32 0, .int .u32 0, .int .u32 0, .int .u32 0] 25)) (w.heap.size + 1) (cosP none16) := by
    have h := one_new (w.alloc (.cells #[.int .i64 0, .int .u32 0, .int .u32 0, .int .u32 0, .int .u32 0, .int .u32 0, .int .u32 0, .int .u32 0, .int .u32 0, .int .u32 0, .int .u32 0, .int .u32 0, .int .u32 0, .int .u32 0, .int .u32 0, .int .u32 0, .int .u32 0] 25))
    rw [World.size_alloc] at h
    exact h
  have h0 := ((Below.refl w.heap.size w).alloc (Nat.le_refl _) (.cells #[.int .i64 0, .int .u32 0, .int .u32 0, .int .u32 0, .int .u32 0, .int .u32 0, .int .u32 0, .int .u32 0, .int .u32 0, .int .u32 0, .int .u32 0, .int .u32 0, .int .u32 0, .int .u32 0, .int .u32 0, .int .u32 0, .int .u32 0] 25)).alloc (by simp only [World.size_alloc]; omega) (.cells #[.int .i64 0, .int .u32 0, .int .u32 0, .int .u32 0, .int .u32 0, .int .u32 0, .int .u32 0, .int .u32 0, .int .u32 0, .int .u32 0, .int .u32 0, .int .u32 0, .int .u32 0, .int .u32 0, .int .u32 0, .int .u32 0, .int .u32 0] 25)
  go_enter Tryd.func19, Tryd.ntmps19
  go_upto_region 4 with fail
  obtain ⟨wa, hwa⟩ : ∃ v, (w.alloc (.cells #[.int .i64 0, .int .u32 0, .int .u32 0, .int .u32 0, .int .u32 0, .int .u32 0, .int .u32 0, .int .u32 0, .int .u32 0, .int .u32 0, .int .u32 0, .int .u32 0, .int .u32 0, .int .u32 0, .int .u32 0, .int .u32 0, .int .u32 0] 25)).alloc (.cells #[.int .i64 0, .int .u32 0, .int .u32 0, .int .u32 0, .int .u32 0, .int .u32 0, .int .u32 0, .int .u32 0, .int .u32 0, .int .u32 0, .int .u32 0, .int .u32 0, .int .u32 0, .int .u32 0, .int .u32 0, .int .u32 0, .int .u32 0] 25) = v := ⟨_, rfl⟩
  rw [hwa] at k2 k4 h0 ⊢
  have HW : Hid (w.heap.size + 2 ≤ wa.heap.size) := Lib.hid (by rw [← hwa]; simp only [World.size_alloc]; omega)
  clear hwa
  have K2 := Lib.hid k2
  have K4 := Lib.hid k4
  have HB := Lib.hid h0
  clear k2 k4 h0
  go_wp2_with fail
  refine (FD.out _ (TB.out.on HB.out).2.2).mono ?_
  rintro e w1 ⟨a, n, rfl, hn, hmax, hst, hb⟩
  have HNL := Lib.hid hn
  have SA := Lib.hid hst
  have K2' := Lib.hid (K2.out.on hb)
  have K4' := Lib.hid (K4.out.on hb)
  have HB' := Lib.hid (bel_on HB.out hb)
  have hn64 : n ≤ 9223372036854775807 := by unfold maxLen at hmax; omega
  clear K2 K4 HB hb hn hst hmax
  go_wp2_with fail
  go_loopw [15] (fun v wr => ∃ (k : Nat) (c : Pt), v = .int .i64 (k : Int) ∧ k ≤ n ∧ readsF (L.drop k) c = readsF L none16 ∧ Cos c ∧ Blk wr w.heap.size (cosP none16) ∧ Blk wr (w.heap.size + 1) (cosP c) ∧ StrAt wr a wa.heap.size L ∧ Below w.heap.size w wr) (fun v _ => (n - intOf v).toNat)
  case atStart => exact ⟨0, none16, rfl, Nat.zero_le _, rfl, Cos.zero, K2'.out, K4'.out, SA.out, HB'.out⟩
  case round =>
    obtain ⟨k, c, rfl, hk, hrd, hcc, k2, k4, sa, kb⟩ := hrel
    have HB := Lib.hid kb
    have SB := Lib.hid sa
    have K2 := Lib.hid k2
    have K4 := Lib.hid k4
    have HC := Lib.hid hcc
    clear kb sa k2 k4 hcc
    by_cases hkn : k < n
    · obtain ⟨x, hx⟩ : ∃ x, L[k]? = some x := ⟨_, List.getElem?_eq_getElem (by have := HNL.out; omega)⟩
      obtain ⟨g, rfl, hg, hcell⟩ := SB.out.read hx
      obtain ⟨hx0, hx300⟩ := WL.out x (List.mem_of_getElem? hx)
      have hdrop : L.drop k = x :: L.drop (k + 1) := by
        have hlt := (List.getElem?_eq_some_iff.1 hx).1
        rw [List.drop_eq_getElem_cons hlt, (List.getElem?_eq_some_iff.1 hx).2]
      rw [hdrop, readsF] at hrd
      have RD : Hid (∀ w, Errs w → Calls Tryd.prog 46 #[.agg (cosP c).toArray, .string (str x)] w fun e w' => e = .returned (.tuple #[.agg (cosP (readV c x).1).toArray, .int .i64 (readV c x).2]) ∧ Below w.heap.size w w') := Lib.hid (fun w hE => by
        have h1 : 1 ≤ (str x).size := by
          rw [str_size]
          cases x with
          | nil => exact absurd rfl hx0
          | cons _ _ => simp
        have h := read_any c HC.out (str x) w h1 (by rw [str_size]; omega) hE
        rw [str_list] at h
        exact h)
      have HRC : Hid (Cos (readV c x).1) := Lib.hid (by
        unfold readV
        cases numO (x.drop 1) with
        | none => exact HC.out
        | some u => exact HC.out.set _ _)
      obtain ⟨rv, hrv⟩ : ∃ rv, readV c x = rv := ⟨_, rfl⟩
      rw [hrv] at RD HRC hrd
      obtain ⟨d, r⟩ := rv
      have hkn' : (k : Int) < (n : Int) := by omega
      have HK := Lib.hid hkn
      have e1 : wrap64 ((k : Int) + 1) = (k : Int) + 1 := IntWalk.wrap64_in _ (by omega)
      obtain ⟨b, hbq⟩ : ∃ b, (r == 0) = b := ⟨_, rfl⟩
      have HRD := Lib.hid hrd
      clear hx hg hdrop hkn hk hx0 hx300 hrv hrd
      have hld := cos_load K4.out HC.out
      go_wp2_with fail
      refine (RD.out _ (TB.out.on HB.out).2.1).mono ?_
      rintro e wn ⟨rfl, hb⟩
      clear hcell hld
      have hst := cos_store (K4.out.on hb) HC.out HRC.out
      have K4' := Lib.hid ((K4.out.on hb).put (cosP d))
      have K2' := Lib.hid ((K2.out.on hb).beside (w.heap.size + 1) (by omega) (cosP d).toArray)
      have SB' := Lib.hid ((SB.out.on hb).beside (w.heap.size + 1) (by have := HW.out; omega) (cosP d).toArray)
      have HB' := Lib.hid (below_setRow (bel_on HB.out hb) (show w.heap.size ≤ w.heap.size + 1 by omega) (cosP d).toArray)
      clear hb
      go_upto_region 9 with fail
      obtain ⟨wz, hwz⟩ : ∃ v, wn.setRow (w.heap.size + 1) (cosP d).toArray = v := ⟨_, rfl⟩
      rw [show wn.setRow (w.heap.size + 1) (cosP (d, r).1).toArray = wz from hwz]
      rw [hwz] at K4' K2' SB' HB'
      clear hst hwz
      cases b with
      | true =>
        have HN : Hid (readsF (L.drop (k + 1)) d = readsF L none16) := Lib.hid (by rw [← HRD.out, if_pos (show r = 0 by simpa using hbq)])
        go_wp2_with fail
        go_roundw
        case rel => exact ⟨k + 1, d, by go_num, HK.out, HN.out, HRC.out, K2'.out, K4'.out, SB'.out, HB'.out⟩
        case measure => exact meas_up n k _ rfl HK.out
      | false =>
        have HN : Hid (pv = (none16, 3)) := Lib.hid (by rw [HV.out, ← HRD.out, if_neg (show ¬ r = 0 by simpa using hbq)]; rfl)
        have hst := zero_store K2'.out Cos.zero
        have hv := cos_var (zero_var K2'.out) Cos.zero
        have hb := below_setRow HB'.out (Nat.le_refl _) #[.int .i64 0, .int .u32 0, .int .u32 0, .int .u32 0, .int .u32 0, .int .u32 0, .int .u32 0, .int .u32 0, .int .u32 0, .int .u32 0, .int .u32 0, .int .u32 0, .int .u32 0, .int .u32 0, .int .u32 0, .int .u32 0, .int .u32 0]
        go_wp2_with fail
        rw [HN.out]
        exact bodyPost_ret (v := .tuple #[.agg (cosP none16).toArray, .int .i64 3]) (by simp [results, Tryd.results19, asAddr, hv]) rfl ⟨rfl, hb⟩
    · obtain rfl : k = n := by omega
      have hnil : L.drop k = [] := List.drop_eq_nil_of_le (by rw [HNL.out]; exact Nat.le_refl _)
      rw [hnil] at hrd
      have HRD : Hid (pv = doneV sl (some c)) := Lib.hid (by rw [HV.out, ← hrd]; rfl)
      have TX := Lib.hid (fun w ht => ctext_any c HC.out w (fun _ _ _ => ht))
      have HTL : Hid ((str (textC c)).toList = textC c ∧ s.toList = sl) := Lib.hid ⟨by rw [Lib.toList_data, str_list], by rw [Lib.toList_data, HSL.out]⟩
      obtain ⟨t, ht⟩ : ∃ t, str (textC c) = t := ⟨_, rfl⟩
      rw [ht] at TX HTL
      obtain ⟨b, hbq⟩ : ∃ b, (t.toList == s.toList) = b := ⟨_, rfl⟩
      have hld := cos_load K4.out HC.out
      clear hnil hk hrd ht SA K2' K4' HB'
      go_wp2_with fail
      refine (TX.out _ (TB.out.on HB.out).1).mono ?_
      rintro e wn ⟨rfl, hb⟩
      clear hld
      have K2' := Lib.hid (K2.out.on hb)
      have K4' := Lib.hid (K4.out.on hb)
      have HB' := Lib.hid (bel_on HB.out hb)
      clear hb
      cases b with
      | true =>
        have HN : Hid (pv = (c, 0)) := Lib.hid (by
          have h := eq_of_beq hbq
          rw [HTL.out.1, HTL.out.2] at h
          rw [HRD.out, done_yes h])
        have hl := cos_load K4'.out HC.out
        have hst := cos_store K2'.out Cos.zero HC.out
        have hv := cos_var (K2'.out.put (cosP c)) HC.out
        have hb := below_setRow HB'.out (Nat.le_refl _) (cosP c).toArray
        go_wp2_with fail
        rw [HN.out]
        exact bodyPost_ret (v := .tuple #[.agg (cosP c).toArray, .int .i64 0]) (by simp [results, Tryd.results19, asAddr, hv]) rfl ⟨rfl, hb⟩
      | false =>
        have HN : Hid (pv = (none16, 3)) := Lib.hid (by
          have h := ne_of_beq_false hbq
          rw [HTL.out.1, HTL.out.2] at h
          rw [HRD.out, done_no h])
        have hst := zero_store K2'.out Cos.zero
        have hv := cos_var (zero_var K2'.out) Cos.zero
        have hb := below_setRow HB'.out (Nat.le_refl _) #[.int .i64 0, .int .u32 0, .int .u32 0, .int .u32 0, .int .u32 0, .int .u32 0, .int .u32 0, .int .u32 0, .int .u32 0, .int .u32 0, .int .u32 0, .int .u32 0, .int .u32 0, .int .u32 0, .int .u32 0, .int .u32 0, .int .u32 0]
        go_wp2_with fail
        rw [HN.out]
        exact bodyPost_ret (v := .tuple #[.agg (cosP none16).toArray, .int .i64 3]) (by simp [results, Tryd.results19, asAddr, hv]) rfl ⟨rfl, hb⟩
theorem cparse_any (s : ByteArray) (w : World) (ht : Tabs w) : Calls Tryd.prog 19 #[.string s] w fun e w' => e = .returned (.tuple #[.agg (cosP (parseP s.data.toList).1).toArray, .int .i64 (parseP s.data.toList).2]) ∧ Below w.heap.size w w' := by
  by_cases h : s.size ≤ 300
  · exact cparse_short s w h ht
  · exact cparse_long s w (by omega)
end Go.Proofs.YtnbbepelagdenaaDoor
