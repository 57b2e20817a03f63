/- Contracts of package costs, part J: Text. -/
import Derived.Test.YtnbbepelagdenaaDoorCosI
import Derived.Test.YtnbbepelagdenaaDoorCosK
import Derived.Test.YtnbbepelagdenaaDoorFmt
import Derived.Test.YtnbbepelagdenaaDoorBuildK
import Derived.Test.YtnbbepelagdenaaDoorNodesD
namespace Go.Proofs.YtnbbepelagdenaaDoor
open Go.RowKit Go.Sort CosF
attribute [local go_sem ↓] loadAt_cos loadAt_row storeAt_cos

theorem Build.on {b : Nat} {l : List UInt8} {w w' : World} (h : Build b l w) (hb : Below w.heap.size w w') : Build b l w' := by
  have hlt := h.lt
  rcases h with ⟨h1, v, h2, h3, h4⟩ | ⟨h1, v, h2, h3, h4⟩
  · exact .inl ⟨h1, v, (hb.block b hlt).trans h2, row_below h3 hb, h4⟩
  · exact .inr ⟨h1, v, (hb.block b hlt).trans h2, row_below h3 hb, h4⟩
theorem Blk.low {w w' : World} {b B : Nat} {cs : List Value} (h : Blk w b cs) (hlt : b < B) (hb : Below B w w') : Blk w' b cs := by
  obtain ⟨t, h⟩ := h
  exact ⟨t, (hb.block b hlt).trans h⟩

set_option maxHeartbeats 2000000 in
theorem ctext_any (c : Pt) (hc : Cos c) (w : World) (ht : ∀ n ∈ upC c, 100 ≤ ofC c (n : Int) → Tab10 w) :
    Calls Tryd.prog 16 #[.agg (cosP c).toArray] w fun e w' => e = .returned (.string (str (textC c))) ∧ Below w.heap.size w w' := by
  have HC := Lib.hid hc
  have UP := Lib.hid (fun w => cup_any c w)
  have HX : Hid (textC c = textF c (upC c)) := Lib.hid rfl
  have HM : Hid ((upC c).length ≤ 16) := Lib.hid (NodesF.nodes_len _ _)
  have HN : Hid (∀ x ∈ upC c, x < 16) := Lib.hid (fun x hx => (NodesF.nodes_mem _ 16 (Nat.le_refl _) x hx).2.1)
  have HT := Lib.hid ht
  obtain ⟨l, hl⟩ : ∃ l, upC c = l := ⟨_, rfl⟩
  rw [hl] at UP HX HM HN HT
  clear hl hc ht
  go_enter Tryd.func16, Tryd.ntmps16
  go_upto_region 2 with fail
  have B0 := Blk.new w (cosP c) 25
  have BB := (Below.refl w.heap.size w).alloc (Nat.le_refl _) (.cells (cosP c).toArray 25)
  obtain ⟨wa, hwa⟩ : ∃ wa, (w.alloc (.cells (cosP c).toArray 25)) = wa := ⟨_, rfl⟩
  have hsz : wa.heap.size = w.heap.size + 1 := by rw [← hwa]; simp only [World.size_alloc]
  rw [hwa] at B0 BB ⊢
  clear hwa
  have D0 := build_fresh wa
  have B1 := B0.next (.cells #[.pointer none, .slice none 0 0] 56)
  have BB1 := BB.alloc (by omega) (.cells #[.pointer none, .slice none 0 0] 56)
  obtain ⟨wb, hwb⟩ : ∃ wb, wa.alloc (.cells #[.pointer none, .slice none 0 0] 56) = wb := ⟨_, rfl⟩
  have hsb : wb.heap.size = w.heap.size + 2 := by rw [← hwb]; simp only [World.size_alloc]; omega
  rw [hwb] at D0 B1 BB1 ⊢
  rw [hsz] at D0
  clear hwb B0 BB
  have hq := cos_load B1 HC.out
  go_wp2_with fail
  refine (UP.out _).mono ?_
  rintro e w1 hown
  obtain ⟨a, cp, rfl, hna, hb⟩ := nats_slice hown
  have K1 := Lib.hid (B1.on hb)
  have KD := Lib.hid (D0.on hb)
  have KB := Lib.hid (bel_on BB1 hb)
  have KN := Lib.hid hna
  have HW : Hid (w.heap.size + 2 ≤ wb.heap.size) := Lib.hid (by omega)
  obtain ⟨n, hn⟩ : ∃ n, l.length = n := ⟨_, rfl⟩
  rw [hn] at HM ⊢
  have HNL := Lib.hid hn
  have hn64 : n ≤ 16 := HM.out
  clear hown hna hb B1 D0 BB1 hq hn hsz hsb
  go_wp2_with fail
  go_loopw [9] (fun v wr => ∃ k : Nat, v = .int .i64 (k : Int) ∧ k ≤ n ∧ Blk wr w.heap.size (cosP c) ∧ Build (w.heap.size + 1) (textF c (l.take k)) wr ∧ NatAt wr a wb.heap.size l ∧ Below w.heap.size w wr) (fun v _ => (n - intOf v).toNat)
  case atStart => exact ⟨0, rfl, Nat.zero_le _, K1.out, KD.out, KN.out, KB.out⟩
  case round =>
    obtain ⟨k, rfl, hk, k1, kd, na, kb⟩ := hrel
    have HB := Lib.hid kb
    have NA := Lib.hid na
    have B1 := Lib.hid k1
    have BD := Lib.hid kd
    clear kb na k1 kd
    by_cases hkn : k < n
    · obtain ⟨x, hx⟩ : ∃ x, l[k]? = some x := ⟨_, List.getElem?_eq_getElem (by have := HNL.out; omega)⟩
      obtain ⟨g, rfl, hg, hcell⟩ := NA.out.read hx
      have hx16 : x < 16 := HN.out x (List.mem_of_getElem? hx)
      have HL16 : Hid ((textF c (l.take k)).length ≤ 352) := Lib.hid (by
        have h1 := textF_length HC.out (l.take k)
        have h2 : (l.take k).length ≤ 16 := by rw [List.length_take]; omega
        omega)
      obtain ⟨p, hp⟩ : ∃ p, textF c (l.take k) = p := ⟨_, rfl⟩
      have HS : Hid (textF c (l.take (k + 1)) = p ++ [NodesF.letF x] ++ Lib.decDigits (ofC c (x : Int)) ++ [32]) := Lib.hid (by rw [textF_take c hx, hp]; simp [pieceF])
      rw [hp] at BD HL16
      have OF := Lib.hid (cof_any c (x : Int) HC.out)
      have HQ := Lib.hid (HT.out x (List.mem_of_getElem? hx))
      have HQ32 := Lib.hid (HC.out.of (x : Int))
      obtain ⟨q, hq⟩ : ∃ q, ofC c (x : Int) = q := ⟨_, rfl⟩
      rw [hq] at OF HS HQ HQ32
      have HD20 : Hid ((Lib.decDigits q).length ≤ 20) := Lib.hid (by rw [Lib.decDigits_length]; exact Lib.nDigits_le20 q (by have := HQ32.out; omega))
      have WI := Lib.hid (fun w => with_in 0 x w hx16 (by decide) (by decide))
      have TX : Hid (∀ w, Calls Tryd.prog 40 #[.int .i64 (NodesF.withN 0 x)] w fun e w' => e = .returned (.string (str [NodesF.letF x])) ∧ Below w.heap.size w w') := Lib.hid (fun w => by
        have h := text_any (NodesF.withN 0 x) w
        rw [one_text x hx16] at h
        exact h)
      obtain ⟨m, hm⟩ : ∃ m, NodesF.withN 0 x = m := ⟨_, rfl⟩
      rw [hm] at WI TX
      have hkn' : (k : Int) < (n : Int) := by omega
      have HK := Lib.hid hkn
      have e1 : wrap64 ((k : Int) + 1) = (k : Int) + 1 := IntWalk.wrap64_in _ (by omega)
      have e2 : IntKind.u64.wrap (q : Int) = (q : Int) := by have := HQ32.out; rw [IntKind.wrap_u64]; omega
      clear hx hp hq hg hkn hx16 hm hk
      go_wp2_with fail
      refine (WI.out _).mono ?_
      rintro e wn ⟨rfl, rfl⟩
      go_wp2_with fail
      refine (TX.out _).mono ?_
      rintro e wn ⟨rfl, hb⟩
      clear hcell
      have B1' := Lib.hid (B1.out.on hb)
      have BD' := Lib.hid (BD.out.on hb)
      have NA' := Lib.hid (NA.out.on hb)
      have HB' := Lib.hid (bel_on HB.out hb)
      clear B1 BD NA HB hb
      have B1 := B1'
      have BD := BD'
      have NA := NA'
      have HB := HB'
      clear B1' BD' NA' HB'
      go_wp2_with fail
      refine (bwrite_k _ _ _ _ BD.out (by rw [str_size]; have := HL16.out; simp; omega)).mono ?_
      rintro e wn ⟨rfl, hbd, hb, hk⟩
      have B1' := Lib.hid (B1.out.low (Nat.lt_succ_self _) hb)
      have NA' := Lib.hid (NA.out.kept (by have := HW.out; omega) hk)
      have HB' := Lib.hid (HB.out.trans (hb.mono (Nat.le_succ _)))
      have BD' := Lib.hid hbd
      clear B1 BD NA HB hb hk hbd
      have B1 := B1'
      have BD := BD'
      have NA := NA'
      have HB := HB'
      clear B1' BD' NA' HB'
      rw [str_list] at BD
      have hq := cos_load B1.out HC.out
      go_wp2_with fail
      refine (OF.out _).mono ?_
      rintro e wn ⟨rfl, hb⟩
      clear hq
      have B1' := Lib.hid (B1.out.on hb)
      have BD' := Lib.hid (BD.out.on hb)
      have NA' := Lib.hid (NA.out.on hb)
      have HB' := Lib.hid (bel_on HB.out hb)
      clear B1 BD NA HB hb
      have B1 := B1'
      have BD := BD'
      have NA := NA'
      have HB := HB'
      clear B1' BD' NA' HB'
      go_wp2_with fail
      refine (fmt_any q _ (by have := HQ32.out; omega) (fun h => (HQ.out h).on HB.out)).mono ?_
      rintro e wn ⟨rfl, hb⟩
      have B1' := Lib.hid (B1.out.on hb)
      have BD' := Lib.hid (BD.out.on hb)
      have NA' := Lib.hid (NA.out.on hb)
      have HB' := Lib.hid (bel_on HB.out hb)
      clear B1 BD NA HB hb
      have B1 := B1'
      have BD := BD'
      have NA := NA'
      have HB := HB'
      clear B1' BD' NA' HB'
      go_wp2_with fail
      refine (bwrite_k _ _ _ _ BD.out (by rw [str_size]; have := HL16.out; have := HD20.out; simp; omega)).mono ?_
      rintro e wn ⟨rfl, hbd, hb, hk⟩
      have B1' := Lib.hid (B1.out.low (Nat.lt_succ_self _) hb)
      have NA' := Lib.hid (NA.out.kept (by have := HW.out; omega) hk)
      have HB' := Lib.hid (HB.out.trans (hb.mono (Nat.le_succ _)))
      have BD' := Lib.hid hbd
      clear B1 BD NA HB hb hk hbd
      have B1 := B1'
      have BD := BD'
      have NA := NA'
      have HB := HB'
      clear B1' BD' NA' HB'
      rw [str_list] at BD
      go_wp2_with fail
      refine (bwrite_k _ _ _ _ BD.out (by have := HL16.out; have := HD20.out; have h3 : (ByteArray.mk #[32]).size = 1 := rfl; simp only [List.length_append, List.length_cons, List.length_nil, h3]; omega)).mono ?_
      rintro e wn ⟨rfl, hbd, hb, hk⟩
      have B1' := Lib.hid (B1.out.low (Nat.lt_succ_self _) hb)
      have NA' := Lib.hid (NA.out.kept (by have := HW.out; omega) hk)
      have HB' := Lib.hid (HB.out.trans (hb.mono (Nat.le_succ _)))
      have BD' := Lib.hid hbd
      clear B1 BD NA HB hb hk hbd
      have B1 := B1'
      have BD := BD'
      have NA := NA'
      have HB := HB'
      clear B1' BD' NA' HB'
      go_wp2_with fail
      go_roundw
      case rel => exact ⟨k + 1, by go_num, HK.out, B1.out, by rw [HS.out]; exact BD.out, NA.out, HB.out⟩
      case measure => exact meas_up n k _ rfl HK.out
    · obtain rfl : k = n := by omega
      have hlt : l.take k = l := List.take_of_length_le (by rw [HNL.out]; exact Nat.le_refl _)
      rw [hlt] at BD
      clear hlt hk
      go_wp2_with fail
      refine (bstring_any _ _ _ BD.out).mono ?_
      rintro e wn ⟨rfl, hb⟩
      have HB' := Lib.hid (HB.out.trans (hb.mono (Nat.le_succ _)))
      clear hb
      go_wp2_with fail
      go_ret
      exact ⟨by rw [HX.out]; rfl, HB'.out⟩
end Go.Proofs.YtnbbepelagdenaaDoor
