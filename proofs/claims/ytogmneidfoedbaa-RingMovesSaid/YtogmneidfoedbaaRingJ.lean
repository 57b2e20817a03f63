/- Contracts of package ring, part J: the document's own Only. -/
import Derived.Test.YtogmneidfoedbaaRingI
namespace Go.Proofs.Ytogmneidfoedbaa
open Go.RowKit Go.Sort

theorem inL_take {M : List ByteArray} {j : Nat} {x y : ByteArray} (hy : M[j]? = some y) : inL (M.take (j + 1)) x = (inL (M.take j) x || decide (y = x)) := by
  rw [List.take_add_one, hy]
  unfold inL
  rw [List.any_append]
  simp
theorem inL_all {M : List ByteArray} {m : Nat} (h : M.length = m) (x : ByteArray) : inL (M.take m) x = inL M x := by rw [List.take_of_length_le (by omega)]

set_option maxRecDepth 100000 in
set_option maxHeartbeats 2000000 in
theorem ronly_any (r : Int) (a : Option Addr) (n c : Nat) (L : List ByteArray) (w : World) (hL : Txts w a n c L) (hn : n ≤ 1000000) :
    Calls Try.prog 13 #[(.agg #[.int .i64 r, .slice a n c] : Value)] w (GotOnly r L n w) := by
  have HL := Lib.hid hL
  have HN := Lib.hid hn
  have BX := Lib.hid (two_boxes w r a n c)
  clear hL hn
  go_enter Try.func13, Try.ntmps13
  go_upto_region 3 with fail
  go_loopw [4, 14] (fun v i wr => ∃ (k m : Nat) (a' : Option Addr) (c' : Nat), k ≤ n ∧ i = .int .i64 (k : Int) ∧ v = .slice a' m c' ∧ (ones L k).length = m ∧ wr.ownsRow (w.heap.size + 2) 9 1 (.slice a' m c') m (strV (ones L k)) ∧
      Blk wr w.heap.size [.int .i64 r, .slice a n c] ∧ Blk wr (w.heap.size + 1) [.int .i64 0, .slice none 0 0] ∧ Below w.heap.size w wr) (fun _ i _ => (n - intOf i).toNat)
  case atStart => exact ⟨0, 0, none, 0, Nat.zero_le _, rfl, rfl, by rw [ones_zero]; rfl, by rw [ones_zero]; exact World.ownsRow_nil _ _ _ _, BX.out.1, BX.out.2.1, BX.out.2.2⟩
  case round =>
    obtain ⟨k, m, a', c', hk, rfl, rfl, hm, hrow, hb0, hb1, hbel⟩ := hrel
    have HR := Lib.hid hrow
    have H0 := Lib.hid hb0
    have H1 := Lib.hid hb1
    have HB := Lib.hid hbel
    have HLN := Lib.hid hm
    clear hrow hb0 hb1 hbel hm
    by_cases hkn : k < n
    · have hx : L[k]? = some (L[k]'(by have := HL.out.1; omega)) := List.getElem?_eq_getElem _
      obtain ⟨x, hxe⟩ : ∃ x, (L[k]'(by have := HL.out.1; omega)) = x := ⟨_, rfl⟩
      rw [hxe] at hx
      obtain ⟨p, rfl, hpc⟩ := (HL.out.on HB.out).2.2.2.2 k x hx
      have HX := Lib.hid hx
      have HK := Lib.hid hkn
      have hkn' : (k : Int) < (n : Int) := by omega
      have hn6 := HN.out
      have hmk : m ≤ k := by have := (ones_all L k).1; have := HLN.out; omega
      have HMK := Lib.hid hmk
      have hk6 : k ≤ 1000000 := by omega
      have HT := Lib.hid (row_txts HR.out HLN.out)
      clear hx hxe hk hkn
      go_upto_region 7 with fail
      clear hpc hkn'
      obtain ⟨wo, hwo⟩ : ∃ wo : World, wo = wr := ⟨_, rfl⟩
      rw [← hwo]
      rw [← hwo] at HR H0 H1 HB HT
      clear hwo
      go_loopw [7, 20] (fun t i wi => ∃ j : Nat, j ≤ m ∧ i = .int .i64 (j : Int) ∧ t = .bool (inL ((ones L k).take j) x) ∧ wo = wi) (fun _ i _ => (m - intOf i).toNat)
      case atStart => exact ⟨0, Nat.zero_le _, rfl, rfl, rfl⟩
      case round =>
        obtain ⟨j, hj, rfl, rfl, rfl⟩ := hrel
        by_cases hjm : j < m
        · have hy : (ones L k)[j]? = some ((ones L k)[j]'(by have := HLN.out; omega)) := List.getElem?_eq_getElem _
          obtain ⟨y, hye⟩ : ∃ y, ((ones L k)[j]'(by have := HLN.out; omega)) = y := ⟨_, rfl⟩
          rw [hye] at hy
          obtain ⟨q, rfl, hqc⟩ := HT.out.2.2.2.2 j y hy
          have HY := Lib.hid (inL_take (x := x) hy)
          have HJ := Lib.hid hjm
          have te := text_eq x y
          clear hy hye
          obtain ⟨t0, ht0⟩ : ∃ t, inL ((ones L k).take j) x = t := ⟨_, rfl⟩
          rw [ht0] at HY ⊢
          clear ht0
          cases t0
          case true =>
            go_wp2_with fail
            go_roundw
            case rel => exact ⟨j + 1, HJ.out, by go_num, by rw [HY.out]; rfl, trivial⟩
            case measure => exact meas_k m j _ rfl HJ.out
          case false =>
            by_cases hxy : x = y
            · have t1 : (x.toList == y.toList) = true := by rw [te]; exact decide_eq_true hxy
              have HE : Hid (inL ((ones L k).take (j + 1)) x = true) := Lib.hid (by rw [HY.out, decide_eq_true hxy.symm]; rfl)
              clear te hxy
              go_wp2_with fail
              go_roundw
              case rel => exact ⟨j + 1, HJ.out, by go_num, by rw [HE.out], trivial⟩
              case measure => exact meas_k m j _ rfl HJ.out
            · have t1 : (x.toList == y.toList) = false := by rw [te]; exact decide_eq_false hxy
              have HE : Hid (inL ((ones L k).take (j + 1)) x = false) := Lib.hid (by rw [HY.out, decide_eq_false (fun e => hxy e.symm)]; rfl)
              clear te hxy
              go_wp2_with fail
              go_roundw
              case rel => exact ⟨j + 1, HJ.out, by go_num, by rw [HE.out], trivial⟩
              case measure => exact meas_k m j _ rfl HJ.out
        · obtain rfl : j = m := by omega
          rw [inL_all HLN.out x]
          have hjj : decide (j < j) = false := decide_eq_false (by omega)
          clear hj hjm
          cases hin : inL (ones L k) x
          case true =>
            have HO := Lib.hid (ones_old HX.out hin)
            clear hin
            go_wp2_with fail
            go_roundw
            case rel => exact ⟨k + 1, j, a', c', HK.out, by go_num, rfl, by rw [HO.out]; exact HLN.out, by rw [HO.out]; exact HR.out, H0.out, H1.out, HB.out⟩
            case measure => exact meas_k n k _ rfl HK.out
          case false =>
            have HO := Lib.hid (ones_new HX.out hin)
            clear hin
            have HR2 := Lib.hid (HR.out.alloc (.cells #[.string x] 9))
            go_wp2_with (at_builtin; refine app_own rfl _ _ rfl (w.heap.size + 2) a' (some ⟨wo.heap.size, 0, none⟩) j c' 1 1 (ones L k) [x] rfl rfl HR2.out HLN.out (one_txts (Blk.new wo [.string x] 9)) (by have := HMK.out; have := HK.out; have := HN.out; omega) (by have := H1.out.lt; simp only [World.size_alloc]; omega) ?_; intro a2 c2 w2 hown2 hg2)
            have HG2 := Lib.hid hg2
            have HOW2 := Lib.hid hown2
            have HB2 : Hid (Below w.heap.size w w2) := Lib.hid ((HB.out.alloc HB.out.size (.cells #[.string x] 9)).grown HG2.out (by have := HB.out.size; simp only [World.size_alloc]; omega) (fun j hj => by have := (HR2.out.lt j hj).1; omega))
            have H02 := Lib.hid (blk_grown (H0.out.next (.cells #[.string x] 9)) HG2.out (fun j hj => by have := (HR2.out.lt j hj).1; omega))
            have H12 := Lib.hid (blk_grown (H1.out.next (.cells #[.string x] 9)) HG2.out (fun j hj => by have := (HR2.out.lt j hj).1; omega))
            clear hg2 hown2
            go_roundw
            case rel => exact ⟨k + 1, j + 1, a2, c2, HK.out, by go_num, rfl, by rw [HO.out, List.length_append, HLN.out]; rfl, by rw [HO.out]; exact HOW2.out, H02.out, H12.out, HB2.out⟩
            case measure => exact meas_k n k _ rfl HK.out
    · obtain rfl : k = n := by omega
      have hc0 : decide (k < k) = false := decide_eq_false (by omega)
      obtain ⟨a3, c3, he, ht, ho⟩ := row_shape HR.out HLN.out
      simp only [Value.slice.injEq, true_and] at he
      obtain ⟨rfl, rfl⟩ := he
      have hmk : m ≤ k := by have := (ones_all L k).1; have := HLN.out; omega
      have RT := Lib.hid (ring_tail (r := r) H1.out ht ho (by omega) HB.out)
      have hk6 := HN.out
      have e9 : wrap64 ((k : Int) - (m : Int)) = (k : Int) - (m : Int) := IntWalk.wrap64_in _ (by omega)
      have b0 := H0.out.cell 0 rfl
      have b1 := H0.out.cell 1 rfl
      have f1 := H0.out.thaw 1
      have d0 := H1.out.cell 0 rfl
      have d1 := H1.out.cell 1 rfl
      have g0 := H1.out.thaw 0
      have g1 := H1.out.thaw 1
      have hz := H1.out.lt
      clear ht ho hk hkn
      go_wp2_with fail
      have e0 := RT.out.1.cell 0 rfl
      have e1 := RT.out.1.cell 1 rfl
      refine bodyPost_ret (v := .tuple #[(.agg #[.int .i64 r, .slice a' m c'] : Value), .int .i64 ((k : Int) - (m : Int))]) (by simp [results, Try.results13, go_sem, e0, e1]) rfl ⟨a', m, c', rfl, RT.out.2⟩
end Go.Proofs.Ytogmneidfoedbaa
