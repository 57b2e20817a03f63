/- The contracts of Bins, gauge's and the reference's. -/
import Derived.Test.YtjoeeaagjcpdpaaGaugeO
namespace Go.Proofs.Ytjoeeaagjcpdpaa
open Go.RowKit

theorem Try.info3 : (Try.prog.info? 3).map (fun i => (i.zero, i.size, i.bytes)) = some (some (.int .i64 0), 1, 8) := by kernel_rfl
/-- Whole numbers as cells. -/
def inV (l : List Nat) : List Value := l.map fun (n : Nat) => .int .i64 (n : Int)
theorem inV_length (l : List Nat) : (inV l).length = l.length := by simp [inV]
theorem inV_at {l : List Nat} {i x : Nat} (h : l[i]? = some x) : (inV l)[i]? = some (.int .i64 (x : Int)) := by simp [inV, h]
theorem inV_set (l : List Nat) (i x : Nat) : (inV l).set i (.int .i64 (x : Int)) = inV (l.set i x) := by simp [inV, List.map_set]
theorem own_below {w w' : World} {B e size n : Nat} {v : Value} {xs : List Value} (h : w.ownsRow B e size v n xs) (hb : Below w.heap.size w w') : w'.ownsRow B e size v n xs := by
  refine ⟨h.1, ?_⟩
  rcases h.2 with h0 | ⟨g, cap, cur, hv, hB, hg, rest⟩
  · exact .inl h0
  · refine .inr ⟨g, cap, cur, hv, hB, ?_, rest⟩
    rw [hb.block g (Array.getElem?_eq_some_iff.1 hg).1]; exact hg

/-- How many of l stand between the edges. -/
def binN (l es : List Nat) (j : Nat) : Nat := l.countP fun x => !GaugeF.nanB x && (atN es x == j)
def binsL (l es : List Nat) : List Nat := (List.range (es.length + 1)).map (binN l es)
theorem binsL_length (l es : List Nat) : (binsL l es).length = es.length + 1 := by simp [binsL]
theorem binsL_at (l es : List Nat) (j : Nat) (hj : j < es.length + 1) : (binsL l es)[j]? = some (binN l es j) := by
  unfold binsL; rw [List.getElem?_map, List.getElem?_range hj]; rfl
theorem binN_le (l es : List Nat) (j : Nat) : binN l es j ≤ l.length := List.countP_le_length
theorem binsL_nan {l es : List Nat} {k x : Nat} (hx : l[k]? = some x) (hn : GaugeF.nanB x = true) : binsL (l.take (k + 1)) es = binsL (l.take k) es := by
  have ht : l.take (k + 1) = l.take k ++ [x] := by rw [List.take_add_one, hx]; rfl
  unfold binsL
  refine List.map_congr_left fun j _ => ?_
  unfold binN
  rw [ht, List.countP_append]
  simp [hn]
theorem binsL_set {l es : List Nat} {k x : Nat} (hx : l[k]? = some x) (hn : GaugeF.nanB x = false) : binsL (l.take (k + 1)) es = (binsL (l.take k) es).set (atN es x) (binN (l.take k) es (atN es x) + 1) := by
  have ht : l.take (k + 1) = l.take k ++ [x] := by rw [List.take_add_one, hx]; rfl
  refine List.ext_getElem? fun j => ?_
  rw [List.getElem?_set, binsL_length]
  by_cases hj : j < es.length + 1
  · rw [binsL_at _ _ j hj, binsL_at _ _ j hj]
    have hb : binN (l.take (k + 1)) es j = binN (l.take k) es j + if atN es x == j then 1 else 0 := by
      unfold binN
      rw [ht, List.countP_append]
      simp [hn, List.countP_cons]
    rw [hb]
    by_cases e : atN es x = j
    · subst e
      rw [if_pos rfl, if_pos hj]; simp
    · rw [if_neg e, if_neg (by simpa using e)]; rfl
  · have h1 : (binsL (l.take (k + 1)) es)[j]? = none := List.getElem?_eq_none (by rw [binsL_length]; omega)
    have h2 : (binsL (l.take k) es)[j]? = none := List.getElem?_eq_none (by rw [binsL_length]; omega)
    rw [h1, h2]
    split
    · rw [if_neg (by omega)]
    · rfl
theorem binsL_nil (es : List Nat) : binsL [] es = List.replicate (es.length + 1) 0 := by
  refine List.ext_getElem? fun j => ?_
  by_cases hj : j < es.length + 1
  · rw [binsL_at _ _ j hj, List.getElem?_replicate, if_pos hj]; rfl
  · rw [List.getElem?_eq_none (by rw [binsL_length]; omega), List.getElem?_eq_none (by simp; omega)]
theorem made_inV (n : Nat) : (madeCells #[.int .i64 0] n).toList = inV (List.replicate n 0) := by
  rw [toList_madeCells_one]; simp [inV]

def BinsTo (l es : List Nat) (w : World) (e : Ending) (w' : World) : Prop :=
  Below w.heap.size w w' ∧ ((¬ Ris es ∧ e = .returned (.slice none 0 0)) ∨ (Ris es ∧ ∃ v, e = .returned v ∧ w'.ownsRow w.heap.size 3 1 v (es.length + 1) (inV (binsL l es))))

set_option maxRecDepth 100000 in
set_option maxHeartbeats 400000 in
theorem bins_no (a a2 : Option Addr) (c c2 n : Nat) (es : List Nat) (w : World) (hl2 : FlAt w a2 es) (hsz2 : es.length ≤ 1000) (hr : ¬ Ris es) :
    Calls Try.prog 21 #[.slice a n c, .slice a2 es.length c2] w fun e w' => e = .returned (.slice none 0 0) ∧ w = w' := by
  have H := Lib.hid (rising_is a2 c2 es false w hl2 hsz2 ⟨(fun h => by cases h), fun h => absurd h hr⟩)
  go_enter Try.func21, Try.ntmps21
  go_wp2_with fail
  ((with_reducible refine H.out.mono ?_); skip)
  rintro e w1 ⟨rfl, rfl⟩
  go_wp2_with fail
  go_ret
  exact ⟨rfl, rfl⟩

set_option maxRecDepth 100000 in
set_option maxHeartbeats 1000000 in
theorem bins_yes (a a2 : Option Addr) (c c2 : Nat) (l es : List Nat) (w : World) (hl : FlAt w a l) (hl2 : FlAt w a2 es) (hsz : l.length ≤ 1000) (hsz2 : es.length ≤ 1000) (hr : Ris es) :
    Calls Try.prog 21 #[.slice a l.length c, .slice a2 es.length c2] w (BinsTo l es w) := by
  obtain ⟨i0, hi, hz0, hz1, hz2⟩ := info_parts Try.info3
  have H := Lib.hid (rising_is a2 c2 es true w hl2 hsz2 ⟨fun _ => hr, fun _ => rfl⟩)
  have NA := Lib.hid (fun w0 x (h0 : FlAt w0 a2 es) hx hn => notabove_is a2 c2 es x w0 h0 hsz2 hr hx hn)
  have AT := Lib.hid (fun x => (atN_is es x).1)
  obtain ⟨n, hn⟩ : ∃ n, l.length = n := ⟨_, rfl⟩
  obtain ⟨m, hm⟩ : ∃ m, es.length = m := ⟨_, rfl⟩
  rw [hn] at hsz ⊢
  rw [hm] at hsz2 H NA AT ⊢
  obtain ⟨M, hM⟩ : ∃ M, m + 1 = M := ⟨_, rfl⟩
  have eM : (m : Int) + 1 = (M : Int) := by omega
  have M1 : M ≤ 1001 := by omega
  have M2 : m < M := by omega
  have HN := Lib.hid hn
  have HM := Lib.hid hm
  have HMM := Lib.hid hM
  have HL := Lib.hid hl
  have HL2 := Lib.hid hl2
  have HR := Lib.hid hr
  have hmk := run_make_row (P := Try.prog) 41 3 i0 (.int .i64 0) Try.underlying41 hi hz0 hz1 rfl .i64 .i64 M (by rw [hz2]; omega) (by omega)
  have HMK := Lib.hid hmk
  clear hn hm hM hl hl2 hr hmk
  go_enter Try.func21, Try.ntmps21
  go_wp2_with fail
  ((with_reducible refine H.out.mono ?_); skip)
  rintro e w1 ⟨rfl, rfl⟩
  have HO := Lib.hid (World.ownsRow_lit (base := w.heap.size) (e := 3) (size := 1) w (madeCells #[.int .i64 0] M) M (Nat.le_refl _) (by unfold maxLen; omega) (by rw [size_madeCells, Nat.mul_one]))
  have HB0 := Lib.hid ((Below.refl w.heap.size w).alloc (Nat.le_refl _) (.cells (madeCells #[.int .i64 0] M) 3))
  go_upto_region 4 with (simp only [HMK.out])
  generalize w.alloc (.cells (madeCells #[.int .i64 0] M) 3) = wm at HO HB0 ⊢
  obtain ⟨g, hg⟩ : ∃ g, w.heap.size = g := ⟨_, rfl⟩
  rw [hg] at HO HB0 ⊢
  have HG := Lib.hid hg
  clear hg
  go_wp2_with fail
  go_loopw [17] (fun v wr => ∃ (k : Nat) (L : List Nat), v = .int .i64 (k : Int) ∧ k ≤ n ∧ Hid (L = binsL (l.take k) es) ∧ Hid (wr.ownsRow g 3 1 (.slice (some ⟨g, 0, none⟩) M M) M (inV L)) ∧ Hid (Below g w wr))
    (fun v _ => (n - intOf v).toNat)
  case atStart =>
    refine ⟨0, binsL [] es, rfl, by omega, Lib.hid (by simp), Lib.hid ?_, HB0⟩
    have := HO.out
    rw [made_inV] at this
    rw [binsL_nil, HM.out, HMM.out]
    exact this
  case round =>
    obtain ⟨k, L, rfl, hk, HLL, HOW, HBL⟩ := hrel
    by_cases h : k < n
    · obtain ⟨x, hx⟩ : ∃ x, l[k]? = some x := ⟨_, List.getElem?_eq_getElem (by rw [HN.out]; exact h)⟩
      have HBW : Hid (Below w.heap.size w wr) := Lib.hid (by rw [HG.out]; exact HBL.out)
      obtain ⟨hw, b, rfl, hc⟩ := flAt_later HL.out HBW.out k x hx
      have hF2 := flAt_later HL2.out HBW.out
      have HF2 := Lib.hid hF2
      cases hnan : GaugeF.nanB x
      · have H1 := Lib.hid hnan
        have HS := Lib.hid (binsL_set (es := es) hx hnan)
        obtain ⟨j, hj⟩ : ∃ j, atN es x = j := ⟨_, rfl⟩
        have hjm := AT.out x
        have hna := NA.out wr x hF2 hw hnan
        rw [hj] at hjm hna HS
        have HNA := Lib.hid hna
        obtain ⟨old, hold⟩ : ∃ old, binN (l.take k) es j = old := ⟨_, rfl⟩
        have hol : old ≤ 1000 := by
          have := binN_le (l.take k) es j
          rw [List.length_take] at this
          omega
        rw [hold] at HS
        have HOLD := Lib.hid hold
        have HJ := Lib.hid hj
        clear hx hnan hj hna hold hF2
        go_wp2_with fail
        ((with_reducible refine (isnan_is _ hw H1.out).mono ?_); skip)
        rintro e w1 ⟨rfl, rfl⟩
        go_wp2_with fail
        ((with_reducible refine HNA.out.mono ?_); skip)
        rintro e w2 ⟨rfl, hb2⟩
        have HO2 := Lib.hid (own_below HOW.out hb2)
        have HB2 := Lib.hid (HBL.out.trans (hb2.mono (by have := HBW.out.size; have := HG.out; omega)))
        have hcj : w2.cell? ⟨g, j, none⟩ = some (.int .i64 (old : Int)) := by
          rw [HO2.out.cellAt j (by omega)]
          refine inV_at ?_
          rw [HLL.out, binsL_at _ _ j (by rw [HM.out]; omega), HOLD.out]
        have hfj : w2.frozen? ⟨g, j, none⟩ = false := HO2.out.frozenAt j
        have j0 : (0 : Int) ≤ (j : Int) := by omega
        have j1 : (j : Int) < (M : Int) := by omega
        clear hb2
        go_wp2_with fail
        go_roundw
        case rel =>
          refine ⟨k + 1, L.set j (old + 1), by go_num, by omega, Lib.hid (by rw [HS.out, HLL.out]), Lib.hid ?_, Lib.hid (HB2.out.setCell (Nat.le_refl _) _)⟩
          rw [← inV_set]
          exact (HO2.out.stored j _).1
        case measure => simp [intOf]; omega
      · have H1 := Lib.hid hnan
        have HS := Lib.hid (binsL_nan (es := es) hx hnan)
        clear hx hnan hF2
        go_wp2_with fail
        ((with_reducible refine (isnan_is _ hw H1.out).mono ?_); skip)
        rintro e w1 ⟨rfl, rfl⟩
        go_wp2_with fail
        go_roundw
        case rel => exact ⟨k + 1, L, by go_num, by omega, Lib.hid (by rw [HS.out]; exact HLL.out), HOW, HBL⟩
        case measure => simp [intOf]; omega
    · obtain rfl : k = n := by omega
      go_wp2_with fail
      go_ret
      refine ⟨by rw [HG.out]; exact HBL.out, .inr ⟨HR.out, _, rfl, ?_⟩⟩
      have hl2 : L = binsL l es := by rw [HLL.out, ← HN.out, List.take_length]
      rw [← hl2, HM.out, HMM.out, HG.out]
      exact HOW.out
end Go.Proofs.Ytjoeeaagjcpdpaa
