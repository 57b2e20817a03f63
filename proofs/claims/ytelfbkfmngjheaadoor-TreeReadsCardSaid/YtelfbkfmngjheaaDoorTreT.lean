/- Contracts of package tree, part T: letter, Text. -/
import Derived.Test.YtelfbkfmngjheaaDoorTreD
import Derived.Test.YtelfbkfmngjheaaDoorTreF
import Derived.Test.YtelfbkfmngjheaaDoorFmt
import Derived.Test.YtelfbkfmngjheaaDoorBuildK
import Derived.Test.YtelfbkfmngjheaaDoorNodesD
import Derived.Test.YtelfbkfmngjheaaDoorNatAt
namespace Go.Proofs.YtelfbkfmngjheaaDoor
open Go.RowKit Go.Sort TreF
attribute [local go_sem ↓] loadAt_tre storeAt_tre loadAt_ent storeAt_ent

theorem letter_any (p : Int) : Gives Tryd.prog 35 #[.int .i64 p] (.string (str [letP p])) := fun w => by
  cases hb : nodeB p with
  | true =>
    obtain ⟨m, rfl, hm⟩ := node_in hb
    have HL : Hid (letP (m : Int) = NodesF.letF m) := Lib.hid (by simp [letP, hb])
    have WI := Lib.hid (fun w => with_in 0 m w hm (by decide) (by decide))
    have TX : Hid (∀ w, Calls Tryd.prog 47 #[.int .i64 (NodesF.withN 0 m)] w fun e w' => e = .returned (.string (str [NodesF.letF m])) ∧ Below w.heap.size w w') := Lib.hid (fun w => by
      have h := text_any (NodesF.withN 0 m) w
      rw [one_text m hm] at h
      exact h)
    obtain ⟨s, hs⟩ : ∃ s, NodesF.withN 0 m = s := ⟨_, rfl⟩
    rw [hs] at WI TX
    clear hs hm hb
    go_enter Tryd.func35, Tryd.ntmps35
    go_wp2_with fail
    refine (WI.out _).mono ?_
    rintro e wn ⟨rfl, rfl⟩
    go_wp2_with fail
    refine (TX.out _).mono ?_
    rintro e wn ⟨rfl, hb⟩
    go_wp2_with fail
    go_ret
    exact ⟨by rw [HL.out]; rfl, hb⟩
  | false =>
    have HL : Hid (letP p = 46) := Lib.hid (by simp [letP, hb])
    have WI := Lib.hid (fun w => with_out 0 p w (node_out hb))
    have TX : Hid (∀ w, Calls Tryd.prog 47 #[.int .i64 0] w fun e w' => e = .returned (.string (str [46])) ∧ Below w.heap.size w w') := Lib.hid (fun w => by
      have h := text_any 0 w
      rw [no_text] at h
      exact h)
    clear hb
    go_enter Tryd.func35, Tryd.ntmps35
    go_wp2_with fail
    refine (WI.out _).mono ?_
    rintro e wn ⟨rfl, rfl⟩
    go_wp2_with fail
    refine (TX.out _).mono ?_
    rintro e wn ⟨rfl, hb⟩
    go_wp2_with fail
    go_ret
    exact ⟨by rw [HL.out]; rfl, hb⟩

set_option maxHeartbeats 2000000 in
theorem ttext_any (t : Tr) (ht : Tre t) (w : World) (hT : ∀ n ∈ lisR t, 100 ≤ distN t n → Tab10 w) :
    Calls Tryd.prog 16 #[.agg (treC t).toArray] w fun e w' => e = .returned (.string (str (textT t))) ∧ Below w.heap.size w w' := by
  have HC := Lib.hid ht
  have RE := Lib.hid (treached_any t ht)
  have UP : Hid (∀ w, Calls Tryd.prog 33 #[.int .i64 (setR t)] w (OwnNats (lisR t) w)) := Lib.hid (fun w => by
    have h := list_any (setR t) w
    rw [lis_nodes] at h
    exact h)
  have HX : Hid (textT t = textF t (lisR t)) := Lib.hid rfl
  have HM : Hid ((lisR t).length ≤ 16) := Lib.hid (lis_length t)
  have HN : Hid (∀ x ∈ lisR t, x < 16) := Lib.hid (lis_small t)
  have HT := Lib.hid hT
  obtain ⟨l, hl⟩ : ∃ l, lisR t = l := ⟨_, rfl⟩
  rw [hl] at UP HX HM HN HT
  clear hl ht hT
  go_enter Tryd.func16, Tryd.ntmps16
  go_upto_region 2 with fail
  have B0 := Blk.new w (treC t) 26
  have BB := (Below.refl w.heap.size w).alloc (Nat.le_refl _) (.cells (treC t).toArray 26)
  obtain ⟨wa, hwa⟩ : ∃ wa, (w.alloc (.cells (treC t).toArray 26)) = wa := ⟨_, rfl⟩
  have hsz : wa.heap.size = w.heap.size + 1 := by rw [← hwa]; simp only [World.size_alloc]
  rw [hwa] at B0 BB ⊢
  clear hwa
  have D0 := build_fresh wa
  have B1 := B0.next (.cells #[.pointer none, .slice none 0 0] 49)
  have BB1 := BB.alloc (by omega) (.cells #[.pointer none, .slice none 0 0] 49)
  obtain ⟨wb, hwb⟩ : ∃ wb, wa.alloc (.cells #[.pointer none, .slice none 0 0] 49) = wb := ⟨_, rfl⟩
  have hsb : wb.heap.size = w.heap.size + 2 := by rw [← hwb]; simp only [World.size_alloc]; omega
  rw [hwb] at D0 B1 BB1 ⊢
  rw [hsz] at D0
  clear hwb B0 BB
  have hq := tre_load B1 HC.out
  go_wp2_with fail
  refine (RE.out _).mono ?_
  rintro e w0 ⟨rfl, hb⟩
  have B1' := B1.on hb
  have D0' := D0.on hb
  have hsb' : w.heap.size + 2 ≤ w0.heap.size := by have := hb.size; omega
  have BB1' := bel_on BB1 hb
  clear hq B1 D0 BB1 hb hsb
  have B1 := B1'
  have D0 := D0'
  have BB1 := BB1'
  clear B1' D0' BB1'
  go_wp2_with fail
  refine (UP.out _).mono ?_
  rintro e w1 hown
  obtain ⟨a, cp, rfl, hna, hb⟩ := nats_slice hown
  have K1 := Lib.hid (B1.on hb)
  have KD := Lib.hid (D0.on hb)
  have KB := Lib.hid (bel_on BB1 hb)
  have KN := Lib.hid hna
  have HW : Hid (w.heap.size + 2 ≤ w0.heap.size) := Lib.hid hsb'
  obtain ⟨n, hn⟩ : ∃ n, l.length = n := ⟨_, rfl⟩
  rw [hn] at HM ⊢
  have HNL := Lib.hid hn
  have hn64 : n ≤ 16 := HM.out
  clear hown hna hb B1 D0 BB1 hn hsz hsb'
  go_wp2_with fail
  go_loopw [10] (fun v wr => ∃ k : Nat, v = .int .i64 (k : Int) ∧ k ≤ n ∧ Blk wr w.heap.size (treC t) ∧ Build (w.heap.size + 1) (textF t (l.take k)) wr ∧ NatAt wr a w0.heap.size l ∧ Below w.heap.size w wr) (fun v _ => (n - intOf v).toNat)
  case atStart => exact ⟨0, rfl, Nat.zero_le _, K1.out, KD.out, KN.out, KB.out⟩
  case round =>
    obtain ⟨k, rfl, hk, k1, kd, na, kb⟩ := hrel
    have HB := Lib.hid kb
    have NA := Lib.hid na
    have B1 := Lib.hid k1
    have BD := Lib.hid kd
    clear kb na k1 kd
    by_cases hkn : k < n
    · obtain ⟨x, hx⟩ : ∃ x, l[k]? = some x := ⟨_, List.getElem?_eq_getElem (by have := HNL.out; omega)⟩
      obtain ⟨g, rfl, hg, hcell⟩ := NA.out.read hx
      have hx16 : x < 16 := HN.out x (List.mem_of_getElem? hx)
      have HL16 : Hid ((textF t (l.take k)).length ≤ 208) := Lib.hid (by
        have h1 := textF_length HC.out (l.take k) (fun y hy => HN.out y (List.mem_of_mem_take hy))
        have h2 : (l.take k).length ≤ 16 := by rw [List.length_take]; omega
        omega)
      obtain ⟨⟨d, p⟩, hxt, hok⟩ := HC.out.at hx16
      obtain ⟨m, hm⟩ : ∃ m, textF t (l.take k) = m := ⟨_, rfl⟩
      have HS : Hid (textF t (l.take (k + 1)) = m ++ [NodesF.letF x] ++ Lib.decDigits d ++ [letP p] ++ [32]) := Lib.hid (by rw [textF_take t hx, hm, getD_at hxt]; simp [pieceE])
      rw [hm] at BD HL16
      have HQ : Hid (100 ≤ d → Tab10 w) := Lib.hid (fun h => HT.out x (List.mem_of_getElem? hx) (by rw [dist_at hxt]; exact h))
      have hd32 : d < 4294967296 := hok.1
      have HD10 : Hid ((Lib.decDigits d).length ≤ 10) := Lib.hid (digits10 d hd32)
      have L1 : Hid (Gives Tryd.prog 35 #[.int .i64 (x : Int)] (.string (str [NodesF.letF x]))) := Lib.hid (by
        have h := letter_any (x : Int)
        rw [show letP (x : Int) = NodesF.letF x by simp [letP, node_nat hx16]] at h
        exact h)
      have L2 := Lib.hid (letter_any p)
      obtain ⟨q1, hq1⟩ : ∃ q, NodesF.letF x = q := ⟨_, rfl⟩
      obtain ⟨q2, hq2⟩ : ∃ q, letP p = q := ⟨_, rfl⟩
      rw [hq1] at L1 HS
      rw [hq2] at L2 HS
      have HD32 := Lib.hid hd32
      have hkn' : (k : Int) < (n : Int) := by omega
      have HK := Lib.hid hkn
      have HXT := Lib.hid hxt
      have x0 : (0 : Int) ≤ (x : Int) := by omega
      have x1 : (x : Int) < 16 := by omega
      have e1 : wrap64 ((k : Int) + 1) = (k : Int) + 1 := IntWalk.wrap64_in _ (by omega)
      have e2 : IntKind.u64.wrap (d : Int) = (d : Int) := by rw [IntKind.wrap_u64]; omega
      clear hx hm hg hkn hx16 hk hok hxt hd32 hq1 hq2
      go_wp2_with fail
      refine (L1.out _).mono ?_
      rintro e wn ⟨rfl, hb⟩
      clear hcell
      have B1' := Lib.hid (B1.out.on hb)
      have BD' := Lib.hid (BD.out.on hb)
      have NA' := Lib.hid (NA.out.on hb)
      have HB' := Lib.hid (bel_on HB.out hb)
      clear B1 BD NA HB hb
      have B1 := B1'
      have BD := BD'
      have NA := NA'
      have HB := HB'
      clear B1' BD' NA' HB'
      go_wp2_with fail
      refine (bwrite_k _ _ _ _ BD.out (by rw [str_size]; have := HL16.out; simp; omega)).mono ?_
      rintro e wn ⟨rfl, hbd, hb, hk⟩
      have B1' := Lib.hid (B1.out.low (Nat.lt_succ_self _) hb)
      have NA' := Lib.hid (NA.out.kept (by have := HW.out; omega) hk)
      have HB' := Lib.hid (HB.out.trans (hb.mono (Nat.le_succ _)))
      have BD' := Lib.hid hbd
      clear B1 BD NA HB hb hk hbd
      have B1 := B1'
      have BD := BD'
      have NA := NA'
      have HB := HB'
      clear B1' BD' NA' HB'
      rw [str_list] at BD
      have cd := B1.out.cell (x * 2) (treC_dist HXT.out)
      go_wp2_with fail
      refine (fmt_any d _ (by have := HD32.out; omega) (fun h => (HQ.out h).on HB.out)).mono ?_
      rintro e wn ⟨rfl, hb⟩
      clear cd
      have B1' := Lib.hid (B1.out.on hb)
      have BD' := Lib.hid (BD.out.on hb)
      have NA' := Lib.hid (NA.out.on hb)
      have HB' := Lib.hid (bel_on HB.out hb)
      clear B1 BD NA HB hb
      have B1 := B1'
      have BD := BD'
      have NA := NA'
      have HB := HB'
      clear B1' BD' NA' HB'
      go_wp2_with fail
      refine (bwrite_k _ _ _ _ BD.out (by rw [str_size]; have := HL16.out; have := HD10.out; simp; omega)).mono ?_
      rintro e wn ⟨rfl, hbd, hb, hk⟩
      have B1' := Lib.hid (B1.out.low (Nat.lt_succ_self _) hb)
      have NA' := Lib.hid (NA.out.kept (by have := HW.out; omega) hk)
      have HB' := Lib.hid (HB.out.trans (hb.mono (Nat.le_succ _)))
      have BD' := Lib.hid hbd
      clear B1 BD NA HB hb hk hbd
      have B1 := B1'
      have BD := BD'
      have NA := NA'
      have HB := HB'
      clear B1' BD' NA' HB'
      rw [str_list] at BD
      have cp := B1.out.cell (x * 2 + 1) (treC_pred HXT.out)
      go_wp2_with fail
      refine (L2.out _).mono ?_
      rintro e wn ⟨rfl, hb⟩
      clear cp
      have B1' := Lib.hid (B1.out.on hb)
      have BD' := Lib.hid (BD.out.on hb)
      have NA' := Lib.hid (NA.out.on hb)
      have HB' := Lib.hid (bel_on HB.out hb)
      clear B1 BD NA HB hb
      have B1 := B1'
      have BD := BD'
      have NA := NA'
      have HB := HB'
      clear B1' BD' NA' HB'
      go_wp2_with fail
      refine (bwrite_k _ _ _ _ BD.out (by rw [str_size]; have := HL16.out; have := HD10.out; simp; omega)).mono ?_
      rintro e wn ⟨rfl, hbd, hb, hk⟩
      have B1' := Lib.hid (B1.out.low (Nat.lt_succ_self _) hb)
      have NA' := Lib.hid (NA.out.kept (by have := HW.out; omega) hk)
      have HB' := Lib.hid (HB.out.trans (hb.mono (Nat.le_succ _)))
      have BD' := Lib.hid hbd
      clear B1 BD NA HB hb hk hbd
      have B1 := B1'
      have BD := BD'
      have NA := NA'
      have HB := HB'
      clear B1' BD' NA' HB'
      rw [str_list] at BD
      go_wp2_with fail
      refine (bwrite_k _ _ _ _ BD.out (by have := HL16.out; have := HD10.out; have h3 : (ByteArray.mk #[32]).size = 1 := rfl; simp only [List.length_append, List.length_cons, List.length_nil, h3]; omega)).mono ?_
      rintro e wn ⟨rfl, hbd, hb, hk⟩
      have B1' := Lib.hid (B1.out.low (Nat.lt_succ_self _) hb)
      have NA' := Lib.hid (NA.out.kept (by have := HW.out; omega) hk)
      have HB' := Lib.hid (HB.out.trans (hb.mono (Nat.le_succ _)))
      have BD' := Lib.hid hbd
      clear B1 BD NA HB hb hk hbd
      have B1 := B1'
      have BD := BD'
      have NA := NA'
      have HB := HB'
      clear B1' BD' NA' HB'
      go_wp2_with fail
      go_roundw
      case rel => exact ⟨k + 1, by go_num, HK.out, B1.out, by rw [HS.out]; exact BD.out, NA.out, HB.out⟩
      case measure => exact meas_up n k _ rfl HK.out
    · obtain rfl : k = n := by omega
      have hlt : l.take k = l := List.take_of_length_le (by rw [HNL.out]; exact Nat.le_refl _)
      rw [hlt] at BD
      clear hlt hk
      go_wp2_with fail
      refine (bstring_any _ _ _ BD.out).mono ?_
      rintro e wn ⟨rfl, hb⟩
      have HB' := Lib.hid (HB.out.trans (hb.mono (Nat.le_succ _)))
      clear hb
      go_wp2_with fail
      go_ret
      exact ⟨by rw [HX.out]; rfl, HB'.out⟩
end Go.Proofs.YtelfbkfmngjheaaDoor
