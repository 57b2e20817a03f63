/- Contracts of package ring, part I: Only. -/
import Derived.Test.YtogmneidfoedbaaRingH
import Derived.Maps.AppendAt
namespace Go.Proofs.Ytogmneidfoedbaa
open Go.RowKit Go.Sort Go.Maps

theorem keyS : Keyed Try.prog 9 := string_keyed Try.underlying9
theorem zeroU (w : World) : (zeroValue 51).run Try.prog w = .ok (.agg #[]) w := by kernel_rfl
/-- What lies ahead of base is not the row's own block. -/
theorem ahead_of_row {w : World} {base : Nat} {e : TypeId} {size : Nat} {v : Value} {n : Nat} {xs : List Value} (hrow : w.ownsRow base e size v n xs) {g : Nat} (hg : g < base) : some g ≠ v.ownBlock := by
  intro hbad
  exact absurd (hrow.lt g hbad.symm).1 (Nat.not_le_of_lt hg)
/-- Texts without doubles, and how many these were. -/
def GotOnly (r : Int) (L : List ByteArray) (n : Nat) (w : World) (e : Ending) (w' : World) : Prop := ∃ a m c, e = .returned (.tuple #[(.agg #[.int .i64 r, .slice a m c] : Value), .int .i64 ((n : Int) - (m : Int))]) ∧ Txts w' a m c (ones L n) ∧ Off a m 0 w.heap.size ∧ Below w.heap.size w w'

set_option maxRecDepth 100000 in
set_option maxHeartbeats 2000000 in
theorem only_any (r : Int) (a : Option Addr) (n c : Nat) (L : List ByteArray) (w : World) (hL : Txts w a n c L) (hn : n ≤ 1000000) (hz : ∀ x ∈ L, x.size ≤ maxLen) :
    Calls Try.prog 12 #[(.agg #[.int .i64 r, .slice a n c] : Value)] w (GotOnly r L n w) := by
  have hmm := @run_makeMap Try.prog
  have HL := Lib.hid hL
  have HN := Lib.hid hn
  have HZ := Lib.hid hz
  have BX := Lib.hid (two_boxes w r a n c)
  clear hL hn hz
  go_enter Try.func12, Try.ntmps12
  go_upto_region 4 with fail
  clear hmm
  go_loopw [4, 15] (fun v i wr => ∃ (k m : Nat) (a' : Option Addr) (c' : Nat), k ≤ n ∧ i = .int .i64 (k : Int) ∧ v = .slice a' m c' ∧ (ones L k).length = m ∧ wr.ownsRow (w.heap.size + 3) 9 1 (.slice a' m c') m (strV (ones L k)) ∧ wr.ownsMap Try.prog 9 unitElem (w.heap.size + 2) k (setL (H := Unit) (ones L k)) ∧
      Blk wr w.heap.size [.int .i64 r, .slice a n c] ∧ Blk wr (w.heap.size + 1) [.int .i64 0, .slice none 0 0] ∧ Below w.heap.size w wr) (fun _ i _ => (n - intOf i).toNat)
  case atStart =>
    refine ⟨0, 0, none, 0, Nat.zero_le _, rfl, rfl, by rw [ones_zero]; rfl, by rw [ones_zero]; exact World.ownsRow_nil _ _ _ _, ?_, BX.out.1.next _, BX.out.2.1.next _, BX.out.2.2.alloc BX.out.2.2.size _⟩
    rw [ones_zero, setL_nil]
    have hm := World.ownsMap_made (H := Unit) ((w.alloc (.cells #[.int .i64 r, .slice a n c] 27)).alloc (.cells #[.int .i64 0, .slice none 0 0] 27)) Try.prog 9 unitElem
    simpa only [World.size_alloc] using hm
  case round =>
    obtain ⟨k, m, a', c', hk, rfl, rfl, hm, hrow, hmap, hb0, hb1, hbel⟩ := hrel
    have HR := Lib.hid hrow
    have HM := Lib.hid hmap
    have H0 := Lib.hid hb0
    have H1 := Lib.hid hb1
    have HB := Lib.hid hbel
    have HLN := Lib.hid hm
    have HSZ : Hid (w.heap.size + 3 ≤ wr.heap.size) := Lib.hid (by
      obtain ⟨es, clock, hbk, _⟩ := HM.out
      exact (Array.getElem?_eq_some_iff.1 hbk).1)
    clear hrow hmap hb0 hb1 hbel hm
    by_cases hkn : k < n
    · have hx : L[k]? = some (L[k]'(by have := HL.out.1; omega)) := List.getElem?_eq_getElem _
      obtain ⟨x, hxe⟩ : ∃ x, (L[k]'(by have := HL.out.1; omega)) = x := ⟨_, rfl⟩
      rw [hxe] at hx
      obtain ⟨p, rfl, hpc⟩ := (HL.out.on HB.out).2.2.2.2 k x hx
      have HX := Lib.hid hx
      have hkey : keyOf Try.prog 9 (.string x) = some (.string x.data.toList) := WideMaps.keyOf_string_mk Try.underlying9 (HZ.out x (List.mem_of_getElem? hx))
      have HKEY := Lib.hid hkey
      have HK := Lib.hid hkn
      have hkn' : (k : Int) < (n : Int) := by omega
      have hn6 := HN.out
      have hh := has_setL (H := Unit) (ones L k) x
      have hmk : m ≤ k := by have := (ones_all L k).1; have := HLN.out; omega
      have HMK := Lib.hid hmk
      clear hx hxe hkey hk hkn hmk
      cases hin : inL (ones L k) x
      case true =>
        rw [hin] at hh
        have HO := Lib.hid (ones_old HX.out hin)
        clear hin
        go_wp2_with (at_lookup; refine wpList_lookup_own_unit _ rfl _ _ 50 rfl 9 51 keyS Try.underlying50 (zeroU _) (w.heap.size + 2) k _ rfl HM.out _ _ rfl HKEY.out ?_)
        go_roundw
        case rel =>
          refine ⟨k + 1, m, a', c', HK.out, by go_num, rfl, by rw [HO.out]; exact HLN.out, ?_, ?_, H0.out.next _, H1.out.next _, HB.out.alloc HB.out.size _⟩
          · rw [HO.out]; exact HR.out.alloc _
          · rw [HO.out]; exact (HM.out.alloc _).mono (Nat.le_succ _)
        case measure => exact meas_k n k _ rfl HK.out
      case false =>
        rw [hin] at hh
        have HO := Lib.hid (ones_new HX.out hin)
        have HRR := Lib.hid (fun (w1 : World) (hg : (wr.alloc (.cells #[] 51)).grownBy w1 (some (w.heap.size + 2))) => ((HR.out.alloc (.cells #[] 51)).kept hg (Or.inr (ahead_of_row HR.out (Nat.lt_succ_self _)).symm)))
        have HBB := Lib.hid (HB.out.alloc HB.out.size (.cells #[] 51))
        have H00 := Lib.hid (H0.out.next (.cells #[] 51))
        have H11 := Lib.hid (H1.out.next (.cells #[] 51))
        clear hin
        go_wp2_with (first
          | (at_lookup; refine wpList_lookup_own_unit _ rfl _ _ 50 rfl 9 51 keyS Try.underlying50 (zeroU _) (w.heap.size + 2) k _ rfl HM.out _ _ rfl HKEY.out ?_)
          | (at_mapUpdate; refine wpList_mapUpdate_own _ rfl _ _ _ 50 rfl 9 51 keyS Try.underlying50 (unitElem (H := Unit)) (w.heap.size + 2) k _ rfl (HM.out.alloc _) (by have := HK.out; have := HN.out; unfold maxLen; omega) _ _ _ rfl rfl HKEY.out _ [] unitElem_mk ?_; intro w1 hown1 hgrow1; have HO1 := Lib.hid hown1; have HG1 := Lib.hid hgrow1; clear hown1 hgrow1)
          | (at_builtin; refine app_own rfl _ _ rfl (w.heap.size + 3) a' (some ⟨w1.heap.size, 0, none⟩) m c' 1 1 (ones L k) [x] rfl rfl ((HRR.out _ HG1.out).alloc _) HLN.out (one_txts (Blk.new w1 [.string x] 9)) (by have := HMK.out; have := HK.out; have := HN.out; omega) (by have h1 := HG1.out.size; have h2 := HSZ.out; simp only [World.size_alloc] at h1 ⊢; omega) ?_; intro a2 c2 w2 hown2 hg2))
        have HR2 := Lib.hid ((HRR.out _ HG1.out).alloc (.cells #[.string x] 9))
        have HG2 := Lib.hid hg2
        have HOW2 := Lib.hid hown2
        have HS1 : Hid (w.heap.size + 3 ≤ w1.heap.size) := Lib.hid (by have h1 := HG1.out.size; have h2 := HSZ.out; simp only [World.size_alloc] at h1; omega)
        have HB1 : Hid (Below w.heap.size w w1) := Lib.hid (HBB.out.grown HG1.out HBB.out.size (fun j hj => by cases hj; omega))
        have HB2 : Hid (Below w.heap.size w w2) := Lib.hid ((HB1.out.alloc HB1.out.size (.cells #[.string x] 9)).grown HG2.out (by have := HS1.out; simp only [World.size_alloc]; omega) (fun j hj => by have := (HR2.out.lt j hj).1; omega))
        have H02 := Lib.hid (blk_grown ((blk_grown H00.out HG1.out (fun j hj => by cases hj; omega)).next (.cells #[.string x] 9)) HG2.out (fun j hj => by have := (HR2.out.lt j hj).1; omega))
        have H12 := Lib.hid (blk_grown ((blk_grown H11.out HG1.out (fun j hj => by cases hj; omega)).next (.cells #[.string x] 9)) HG2.out (fun j hj => by have := (HR2.out.lt j hj).1; omega))
        have HM2 := Lib.hid ((HO1.out.alloc (.cells #[.string x] 9)).kept HG2.out (ahead_of_row HR2.out (Nat.lt_succ_self _)))
        clear hg2 hown2
        go_roundw
        case rel =>
          refine ⟨k + 1, m + 1, a2, c2, HK.out, by go_num, rfl, by rw [HO.out, List.length_append, HLN.out]; rfl, ?_, ?_, H02.out, H12.out, HB2.out⟩
          · rw [HO.out]; exact HOW2.out
          · rw [HO.out, setL_snoc]; exact HM2.out
        case measure => exact meas_k n k _ rfl HK.out
    · obtain rfl : k = n := by omega
      have hc0 : decide (k < k) = false := decide_eq_false (by omega)
      obtain ⟨a3, c3, he, ht, ho⟩ := row_shape HR.out HLN.out
      simp only [Value.slice.injEq, true_and] at he
      obtain ⟨rfl, rfl⟩ := he
      have hmk : m ≤ k := by have := (ones_all L k).1; have := HLN.out; omega
      have RT := Lib.hid (ring_tail (r := r) H1.out ht ho (by omega) HB.out)
      have hk6 := HN.out
      have e9 : wrap64 ((k : Int) - (m : Int)) = (k : Int) - (m : Int) := IntWalk.wrap64_in _ (by omega)
      have b0 := H0.out.cell 0 rfl
      have b1 := H0.out.cell 1 rfl
      have f1 := H0.out.thaw 1
      have d0 := H1.out.cell 0 rfl
      have d1 := H1.out.cell 1 rfl
      have g0 := H1.out.thaw 0
      have g1 := H1.out.thaw 1
      have hz := H1.out.lt
      clear ht ho hk hkn
      go_wp2_with fail
      have e0 := RT.out.1.cell 0 rfl
      have e1 := RT.out.1.cell 1 rfl
      refine bodyPost_ret (v := .tuple #[(.agg #[.int .i64 r, .slice a' m c'] : Value), .int .i64 ((k : Int) - (m : Int))]) (by simp [results, Try.results12, go_sem, e0, e1]) rfl ⟨a', m, c', rfl, RT.out.2⟩
end Go.Proofs.Ytogmneidfoedbaa
