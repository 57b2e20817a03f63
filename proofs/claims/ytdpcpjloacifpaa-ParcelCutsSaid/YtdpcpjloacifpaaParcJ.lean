/- Contracts of package parcel, part J: slices of parcels; Join. -/
import Derived.Test.YtdpcpjloacifpaaParcA
import Derived.Test.YtdpcpjloacifpaaBuild
import Derived.Deep.Slices
namespace Go.Proofs.Ytdpcpjloacifpaa
open Go.RowKit Go.Sort

/-- A parcel, of whatever numbers. -/
structure Par where
  f : Int
  a : Int
  b : Int
  c : Int
  d : Int
  s : Int
  e : Int
  t : Int
  x : ByteArray
def Par.cells (p : Par) : List Value := [.int .i64 p.f, .int .u32 p.a, .int .u32 p.b, .int .u32 p.c, .int .u32 p.d, .int .i64 p.s, .int .i64 p.e, .int .i64 p.t, .string p.x]
/-- A slice reads as these parcels. -/
def ParAt (w : World) (ad : Option Addr) (L : List Par) : Prop := ∀ i p, L[i]? = some p → ∃ b, ad = some b ∧ ∀ k v, p.cells[k]? = some v → w.cell? ((b.add (i * 9)).add k) = some v
theorem add_zero (q : Addr) : q.add 0 = q := by simp [Addr.add]
theorem add_succ (q : Addr) (k : Nat) : q.add (k + 1) = ⟨q.block, q.off + (k + 1), none⟩ := by simp [Addr.add]
theorem ParAt.on {w w' : World} {a : Option Addr} {L : List Par} (h : ParAt w a L) (hb : Below w.heap.size w w') : ParAt w' a L := fun i p hi => by
  obtain ⟨b, h1, h2⟩ := h i p hi
  exact ⟨b, h1, fun k v hk => cell_later hb (h2 k v hk)⟩
/-- The bodies of those that began at src, one behind the other. -/
def joinL (L : List Par) (src : Int) : List UInt8 := L.flatMap fun p => if (p.s == src) = true then p.x.data.toList else []
theorem joinL_snoc (L : List Par) (p : Par) (src : Int) : joinL (L ++ [p]) src = joinL L src ++ (if (p.s == src) = true then p.x.data.toList else []) := by simp [joinL]
theorem joinL_take {L : List Par} {i : Nat} {p : Par} (h : L[i]? = some p) (src : Int) : joinL (L.take (i + 1)) src = joinL (L.take i) src ++ (if (p.s == src) = true then p.x.data.toList else []) := by
  rw [List.take_add_one, h]; exact joinL_snoc _ _ _
theorem joinL_length (L : List Par) (src : Int) (h : ∀ p ∈ L, p.x.size ≤ 4096) : (joinL L src).length ≤ L.length * 4096 := by
  induction L with
  | nil => simp [joinL]
  | cons p L ih =>
    have h1 := ih fun q hq => h q (List.mem_cons_of_mem _ hq)
    have h2 := h p List.mem_cons_self
    have e : joinL (p :: L) src = (if (p.s == src) = true then p.x.data.toList else []) ++ joinL L src := by simp [joinL]
    rw [e, List.length_append, List.length_cons]
    split
    · have := size_list p.x
      omega
    · have : ([] : List UInt8).length = 0 := rfl
      omega
theorem Build.alloc {b : Nat} {l : List UInt8} {w : World} (h : Build b l w) (o : Obj) : Build b l (w.alloc o) := by
  have hl := h.lt
  rcases h with ⟨hB, v, hb, hown, hne⟩ | ⟨hB, v, hb, hown, hne⟩
  · exact .inl ⟨hB, v, (Lib.alloc_old w o b hl).trans hb, hown.alloc o, hne⟩
  · exact .inr ⟨hB, v, (Lib.alloc_old w o b hl).trans hb, hown.alloc o, hne⟩

theorem meas_up (m i : Nat) (h : i < m) (v : Int) (hv : v = (i : Int) + 1) : (m - intOf (.int .i64 v)).toNat < (m - intOf (.int .i64 (i : Int))).toNat := by
  subst hv
  simp [intOf]; omega

set_option maxHeartbeats 2000000 in
theorem join_any (a : Option Addr) (c n : Nat) (L : List Par) (src : Int) (w : World) (hL : ParAt w a L) (hn : L.length = n) (hx : ∀ p ∈ L, p.x.size ≤ 4096) (hc : n ≤ c) (hc63 : c ≤ maxLen) (h0 : a = none → c = 0) :
    Calls Try.prog 11 #[.slice a n c, .int .i64 src] w fun e w' => e = .returned (.string (str (joinL (L.take 64) src))) ∧ Below w.heap.size w w' := by
  unfold maxLen at hc63
  obtain ⟨m, hm⟩ : ∃ m : Nat, min n 64 = m := ⟨_, rfl⟩
  have hm' : min (n : Int) 64 = (m : Int) := by omega
  have hmn : (m : Int) ≤ (n : Int) := by omega
  have hmc : (m : Int) ≤ (c : Int) := by omega
  have LL := Lib.hid hL
  have HX := Lib.hid hx
  have HN := Lib.hid hn
  have HM := Lib.hid hm
  clear hL hx hn hm
  go_enter Try.func11, Try.ntmps11
  go_upto_region 3 with fail
  go_loopw [14] (fun v wr => ∃ i : Nat, i ≤ m ∧ v = .int .i64 (i : Int) ∧ Build w.heap.size (joinL (L.take i) src) wr ∧ Below w.heap.size w wr) (fun v _ => (m - intOf v).toNat)
  case atStart => exact ⟨0, by omega, rfl, build_fresh w, (Below.refl _ _).alloc (Nat.le_refl _) _⟩
  case round =>
    obtain ⟨i, hi, rfl, hB, hbel⟩ := hrel
    have HB := Lib.hid hB
    have HH := Lib.hid hbel
    clear hB hbel
    by_cases him : i < m
    · obtain ⟨p, hp⟩ : ∃ p, L[i]? = some p := ⟨_, List.getElem?_eq_getElem (by have := HN.out; omega)⟩
      obtain ⟨b, rfl, hf⟩ := LL.out.on HH.out i p hp
      obtain ⟨q, hq⟩ : ∃ q, b.add (i * 9) = q := ⟨_, rfl⟩
      rw [hq] at hf
      have c0 := hf 0 _ rfl
      rw [add_zero] at c0
      have c1 := hf 1 _ rfl
      rw [add_succ] at c1
      have c2 := hf 2 _ rfl
      rw [add_succ] at c2
      have c3 := hf 3 _ rfl
      rw [add_succ] at c3
      have c4 := hf 4 _ rfl
      rw [add_succ] at c4
      have c5 := hf 5 _ rfl
      rw [add_succ] at c5
      have c6 := hf 6 _ rfl
      rw [add_succ] at c6
      have c7 := hf 7 _ rfl
      rw [add_succ] at c7
      have c8 := hf 8 _ rfl
      rw [add_succ] at c8
      clear hf
      have him' : (i : Int) < (m : Int) := by omega
      have e1 : wrap64 ((i : Int) + 1) = (i : Int) + 1 := IntWalk.wrap64_in _ (by omega)
      have HJ := Lib.hid (joinL_take hp src)
      have HS : Hid ((joinL (L.take i) src).length + p.x.size ≤ 140737488355328) := Lib.hid (by
        have h1 := joinL_length (L.take i) src fun q hq => HX.out q (List.mem_of_mem_take hq)
        have h2 := HX.out p (List.mem_of_getElem? hp)
        rw [List.length_take] at h1
        omega)
      have HI : Hid (i < m) := Lib.hid him
      clear hp him hi
      obtain ⟨r, hr⟩ : ∃ r, (p.s == src) = r := ⟨_, rfl⟩
      rw [hr] at HJ
      cases r with
      | false =>
        go_wp2_with fail
        go_roundw
        case rel => exact ⟨i + 1, HI.out, by go_num, by rw [HJ.out]; simpa using HB.out.alloc _, HH.out.alloc HH.out.size _⟩
        case measure => exact meas_up m i HI.out _ rfl
      | true =>
        have HW := Lib.hid (bwrite_any w.heap.size (joinL (L.take i) src) p.x (wr.alloc (.cells p.cells.toArray 28)) (HB.out.alloc _) HS.out)
        have HA := Lib.hid (HH.out.alloc HH.out.size (.cells p.cells.toArray 28))
        go_wp2_with fail
        refine HW.out.mono ?_
        rintro e w1 ⟨rfl, h1, h2⟩
        have HB1 := Lib.hid h1
        have HH1 := Lib.hid (HA.out.trans h2)
        clear h1 h2 HW HA
        go_wp2_with fail
        go_roundw
        case rel => exact ⟨i + 1, HI.out, by go_num, by rw [HJ.out]; exact HB1.out, HH1.out⟩
        case measure => exact meas_up m i HI.out _ rfl
    · obtain rfl : i = m := by omega
      go_wp2_with fail
      refine (bstring_any _ _ _ HB.out).mono ?_
      rintro e w1 ⟨rfl, h1⟩
      go_wp2_with fail
      go_ret
      exact ⟨by
        have e1 : L.take 64 = L.take i := by
          have h2 := HM.out
          have h3 := HN.out
          by_cases h4 : n < 64
          · rw [List.take_of_length_le (by omega), List.take_of_length_le (by omega)]
          · rw [show i = 64 by omega]
        rw [e1]; rfl, HH.out.trans (h1.mono (Nat.le_refl _))⟩
end Go.Proofs.Ytdpcpjloacifpaa
