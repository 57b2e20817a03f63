/- Contracts of package parcel, part K: the document's own Join. -/
import Derived.Test.YtdpcpjloacifpaaParcJ
namespace Go.Proofs.Ytdpcpjloacifpaa
open Go.RowKit Go.Sort

theorem take_min_in {α : Type} (L : List α) (i : Nat) (h : i < 64) : L.take (min i 64) = L.take i ∧ L.take (min (i + 1) 64) = L.take (i + 1) := by
  rw [show min i 64 = i by omega, show min (i + 1) 64 = i + 1 by omega]; exact ⟨rfl, rfl⟩
theorem take_min_out {α : Type} (L : List α) (i : Nat) (h : ¬ i < 64) : L.take (min (i + 1) 64) = L.take (min i 64) := by
  rw [show min (i + 1) 64 = min i 64 by omega]

set_option maxHeartbeats 2000000 in
theorem rjoin_any (a : Option Addr) (c n : Nat) (L : List Par) (src : Int) (w : World) (hL : ParAt w a L) (hn : L.length = n) (hx : ∀ p ∈ L, p.x.size ≤ 4096) (hn63 : n ≤ 1000000000) :
    Calls Try.prog 12 #[.slice a n c, .int .i64 src] w fun e w' => e = .returned (.string (str (joinL (L.take 64) src))) ∧ Below w.heap.size w w' := by
  have LL := Lib.hid hL
  have HX := Lib.hid hx
  have HN := Lib.hid hn
  clear hL hx hn
  go_enter Try.func12, Try.ntmps12
  go_upto_region 3 with fail
  go_loopw [5, 10] (fun u v wr => ∃ i : Nat, i ≤ n ∧ v = .int .i64 (i : Int) ∧ u = .string (str (joinL (L.take (min i 64)) src)) ∧ Below w.heap.size w wr) (fun _ v _ => (n - intOf v).toNat)
  case atStart => exact ⟨0, by omega, rfl, rfl, Below.refl _ _⟩
  case round =>
    obtain ⟨i, hi, rfl, rfl, hbel⟩ := hrel
    have HH := Lib.hid hbel
    clear hbel
    by_cases him : i < n
    · obtain ⟨p, hp⟩ : ∃ p, L[i]? = some p := ⟨_, List.getElem?_eq_getElem (by have := HN.out; omega)⟩
      obtain ⟨b, rfl, hf⟩ := LL.out.on HH.out i p hp
      obtain ⟨q, hq⟩ : ∃ q, b.add (i * 9) = q := ⟨_, rfl⟩
      rw [hq] at hf
      have c0 := hf 0 _ rfl
      rw [add_zero] at c0
      have c1 := hf 1 _ rfl
      rw [add_succ] at c1
      have c2 := hf 2 _ rfl
      rw [add_succ] at c2
      have c3 := hf 3 _ rfl
      rw [add_succ] at c3
      have c4 := hf 4 _ rfl
      rw [add_succ] at c4
      have c5 := hf 5 _ rfl
      rw [add_succ] at c5
      have c6 := hf 6 _ rfl
      rw [add_succ] at c6
      have c7 := hf 7 _ rfl
      rw [add_succ] at c7
      have c8 := hf 8 _ rfl
      rw [add_succ] at c8
      clear hf
      have him' : (i : Int) < (n : Int) := by omega
      have e1 : wrap64 ((i : Int) + 1) = (i : Int) + 1 := IntWalk.wrap64_in _ (by omega)
      have HJ := Lib.hid (joinL_take hp src)
      have HI : Hid (i < n) := Lib.hid him
      by_cases h64 : i < 64
      · have d64 : decide ((i : Int) < 64) = true := decide_eq_true (by omega)
        obtain ⟨k1, k2⟩ := take_min_in L i h64
        rw [k1]
        have HS : ¬ 9223372036854775807 < (str (joinL (L.take i) src)).size + p.x.size := by
          have h1 := joinL_length (L.take i) src fun q hq => HX.out q (List.mem_of_mem_take hq)
          have h2 := HX.out p (List.mem_of_getElem? hp)
          rw [List.length_take] at h1
          rw [str_size]
          omega
        rw [← k2] at HJ
        clear hp him hi h64 k1 k2
        obtain ⟨J, hJ⟩ : ∃ J, joinL (L.take i) src = J := ⟨_, rfl⟩
        rw [hJ] at HJ HS ⊢
        clear hJ
        obtain ⟨r, hr⟩ : ∃ r, (p.s == src) = r := ⟨_, rfl⟩
        rw [hr] at HJ
        cases r with
        | false =>
          go_wp2_with fail
          go_roundw
          case rel => exact ⟨i + 1, HI.out, by go_num, by rw [HJ.out]; simp, HH.out.alloc HH.out.size _⟩
          case measure => exact meas_up n i HI.out _ rfl
        | true =>
          go_wp2_with fail
          go_roundw
          case rel => exact ⟨i + 1, HI.out, by go_num, by
            rw [HJ.out, if_pos rfl, ← str_append, str_of], HH.out.alloc HH.out.size _⟩
          case measure => exact meas_up n i HI.out _ rfl
      · have d64 : decide ((i : Int) < 64) = false := decide_eq_false (by omega)
        have HK := Lib.hid (take_min_out L i h64)
        clear hp him hi h64
        obtain ⟨r, hr⟩ : ∃ r, (p.s == src) = r := ⟨_, rfl⟩
        cases r with
        | false =>
          go_wp2_with fail
          go_roundw
          case rel => exact ⟨i + 1, HI.out, by go_num, by rw [HK.out], HH.out.alloc HH.out.size _⟩
          case measure => exact meas_up n i HI.out _ rfl
        | true =>
          go_wp2_with fail
          go_roundw
          case rel => exact ⟨i + 1, HI.out, by go_num, by rw [HK.out], HH.out.alloc HH.out.size _⟩
          case measure => exact meas_up n i HI.out _ rfl
    · obtain rfl : i = n := by omega
      have HE : Hid (L.take (min i 64) = L.take 64) := Lib.hid (by
        have h3 := HN.out
        by_cases h4 : i < 64
        · rw [List.take_of_length_le (by omega), List.take_of_length_le (by omega)]
        · rw [show min i 64 = 64 by omega])
      go_wp2_with fail
      go_ret
      exact ⟨by rw [HE.out]; rfl, HH.out⟩
end Go.Proofs.Ytdpcpjloacifpaa
