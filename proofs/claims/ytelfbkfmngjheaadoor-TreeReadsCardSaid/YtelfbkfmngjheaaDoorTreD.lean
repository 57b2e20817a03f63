/- Contracts of package tree, part D: Reached, Root, Count, and the document's own. Contracts of package tree, part N: Count, and the document's own. -/
import Derived.Test.YtelfbkfmngjheaaDoorTreB
import Derived.Test.YtelfbkfmngjheaaDoorRList
import Derived.Test.YtelfbkfmngjheaaDoorNatAt
namespace Go.Proofs.YtelfbkfmngjheaaDoor
section
open Go.RowKit Go.Sort TreF
attribute [local go_sem ↓] loadAt_tre storeAt_tre loadAt_ent storeAt_ent

theorem isR_of {t : Tr} {k d : Nat} {p : Int} {b : Bool} (hx : t[k]? = some (d, p)) (hb : ((d : Int) != 4294967295) = b) : isR t k = b := by
  unfold isR
  rw [dist_at hx, ← hb, ← far_int]
  show decide (d ≠ farN) = !((d : Int) == (farN : Int))
  rw [Bool.eq_iff_iff]
  simp [Int.ofNat_inj]
theorem isZ_of {t : Tr} {k d : Nat} {p : Int} {b : Bool} (hx : t[k]? = some (d, p)) (hb : ((d : Int) == 0) = b) : isZ t k = b := by
  unfold isZ
  rw [dist_at hx, ← hb]
  show decide (d = 0) = decide ((d : Int) = 0)
  exact decide_eq_decide.2 (by omega)

theorem treached_any (t : Tr) (ht : Tre t) : Gives Tryd.prog 14 #[.agg (treC t).toArray] (.int .i64 (setR t)) := fun w => by
  have HT := Lib.hid ht
  clear ht
  go_enter Tryd.func14, Tryd.ntmps14
  go_upto_region 2 with fail
  obtain ⟨B0, BB⟩ := tbox_new w t
  obtain ⟨w1, hw1⟩ : ∃ v, w.alloc (.cells (treC t).toArray 26) = v := ⟨_, rfl⟩
  rw [hw1] at B0 BB ⊢
  clear hw1
  have l0 := tre_load B0 HT.out
  have KB := Lib.hid BB
  clear BB B0
  go_wp2_with fail
  clear l0
  go_loopw [7, 3] (fun v s wr => ∃ k : Nat, v = .int .i64 (k : Int) ∧ k ≤ 16 ∧ s = .int .i64 (setF (isR t) k) ∧ Below w.heap.size w wr) (fun v _ _ => (16 - intOf v).toNat)
  case atStart => exact ⟨0, rfl, Nat.zero_le _, rfl, KB.out⟩
  case round =>
    obtain ⟨k, rfl, hk, rfl, kb⟩ := hrel
    have KB := Lib.hid kb
    clear kb
    by_cases hkn : k < 16
    · obtain ⟨⟨d, p⟩, hx, _⟩ := HT.out.at hkn
      have hix := ent_index (w := wr) hx hkn
      have hst := new_ent (w := wr) (d := (d : Int)) (p := p) rfl
      obtain ⟨b, hb⟩ : ∃ b, ((d : Int) != 4294967295) = b := ⟨_, rfl⟩
      have n0 : (0 : Int) ≤ (k : Int) := by omega
      have n1 : (k : Int) < 16 := by omega
      have HK := Lib.hid hkn
      have HX := Lib.hid hx
      clear hk hx hkn
      go_upto_region 5 with fail
      clear hst hix
      have B1 := Blk.new wr [.int .u32 (d : Int), .int .i64 p] 24
      have HB := Lib.hid (KB.out.alloc KB.out.size (.cells #[.int .u32 (d : Int), .int .i64 p] 24))
      obtain ⟨w2, hw2⟩ : ∃ v, wr.alloc (.cells #[.int .u32 (d : Int), .int .i64 p] 24) = v := ⟨_, rfl⟩
      rw [hw2] at B1 HB ⊢
      obtain ⟨g, hg⟩ : ∃ g, wr.heap.size = g := ⟨_, rfl⟩
      rw [hg] at B1 ⊢
      clear hw2 hg KB
      have c0 := B1.cell 0 rfl
      clear B1
      have HS := Lib.hid (set_step (isR t) k)
      rw [isR_of HX.out hb] at HS
      have W := Lib.hid (fun w => with_in (setF (isR t) k) k w HK.out (set_i64 _ _ (by have := HK.out; omega)).1 (set_i64 _ _ (by have := HK.out; omega)).2)
      cases b with
      | true =>
        go_wp2_with fail
        refine (W.out _).mono ?_
        rintro e w3 ⟨rfl, rfl⟩
        go_wp2_with fail
        go_roundw
        case rel => exact ⟨k + 1, by go_num, HK.out, by rw [HS.out]; rfl, HB.out⟩
        case measure => exact meas_up 16 k _ rfl HK.out
      | false =>
        go_wp2_with fail
        go_roundw
        case rel => exact ⟨k + 1, by go_num, HK.out, by rw [HS.out]; rfl, HB.out⟩
        case measure => exact meas_up 16 k _ rfl HK.out
    · obtain rfl : k = 16 := by omega
      clear hk hkn
      go_wp2_with fail
      go_ret
      exact ⟨rfl, KB.out⟩

theorem rreached_any (t : Tr) (ht : Tre t) : Gives Tryd.prog 15 #[.agg (treC t).toArray] (.int .i64 (setR t)) := fun w => by
  have HT := Lib.hid ht
  clear ht
  go_enter Tryd.func15, Tryd.ntmps15
  go_upto_region 2 with fail
  obtain ⟨B0, BB⟩ := tbox_new w t
  obtain ⟨w1, hw1⟩ : ∃ v, w.alloc (.cells (treC t).toArray 26) = v := ⟨_, rfl⟩
  rw [hw1] at B0 BB ⊢
  clear hw1
  have l0 := tre_load B0 HT.out
  have KB := Lib.hid BB
  clear BB B0
  go_wp2_with fail
  clear l0
  go_loopw [7, 3] (fun v s wr => ∃ k : Nat, v = .int .i64 (k : Int) ∧ k ≤ 16 ∧ s = .int .i64 (setF (isR t) k) ∧ Below w.heap.size w wr) (fun v _ _ => (16 - intOf v).toNat)
  case atStart => exact ⟨0, rfl, Nat.zero_le _, rfl, KB.out⟩
  case round =>
    obtain ⟨k, rfl, hk, rfl, kb⟩ := hrel
    have KB := Lib.hid kb
    clear kb
    by_cases hkn : k < 16
    · obtain ⟨⟨d, p⟩, hx, _⟩ := HT.out.at hkn
      have hix := ent_index (w := wr) hx hkn
      have hst := new_ent (w := wr) (d := (d : Int)) (p := p) rfl
      obtain ⟨b, hb⟩ : ∃ b, ((d : Int) != 4294967295) = b := ⟨_, rfl⟩
      have n0 : (0 : Int) ≤ (k : Int) := by omega
      have n1 : (k : Int) < 16 := by omega
      have HK := Lib.hid hkn
      have HX := Lib.hid hx
      clear hk hx hkn
      go_upto_region 5 with fail
      clear hst hix
      have B1 := Blk.new wr [.int .u32 (d : Int), .int .i64 p] 24
      have HB := Lib.hid (KB.out.alloc KB.out.size (.cells #[.int .u32 (d : Int), .int .i64 p] 24))
      obtain ⟨w2, hw2⟩ : ∃ v, wr.alloc (.cells #[.int .u32 (d : Int), .int .i64 p] 24) = v := ⟨_, rfl⟩
      rw [hw2] at B1 HB ⊢
      obtain ⟨g, hg⟩ : ∃ g, wr.heap.size = g := ⟨_, rfl⟩
      rw [hg] at B1 ⊢
      clear hw2 hg KB
      have c0 := B1.cell 0 rfl
      clear B1
      have HS := Lib.hid (set_step (isR t) k)
      rw [isR_of HX.out hb] at HS
      have W := Lib.hid (fun w => rwith_in (setF (isR t) k) k w HK.out (set_i64 _ _ (by have := HK.out; omega)).1 (set_i64 _ _ (by have := HK.out; omega)).2)
      cases b with
      | true =>
        go_wp2_with fail
        refine (W.out _).mono ?_
        rintro e w3 ⟨rfl, rfl⟩
        go_wp2_with fail
        go_roundw
        case rel => exact ⟨k + 1, by go_num, HK.out, by rw [HS.out]; rfl, HB.out⟩
        case measure => exact meas_up 16 k _ rfl HK.out
      | false =>
        go_wp2_with fail
        go_roundw
        case rel => exact ⟨k + 1, by go_num, HK.out, by rw [HS.out]; rfl, HB.out⟩
        case measure => exact meas_up 16 k _ rfl HK.out
    · obtain rfl : k = 16 := by omega
      clear hk hkn
      go_wp2_with fail
      go_ret
      exact ⟨rfl, KB.out⟩

theorem troot_any (t : Tr) (ht : Tre t) : Gives Tryd.prog 12 #[.agg (treC t).toArray] (.int .i64 (rootT t)) := fun w => by
  have HT := Lib.hid ht
  clear ht
  go_enter Tryd.func12, Tryd.ntmps12
  go_upto_region 2 with fail
  obtain ⟨B0, BB⟩ := tbox_new w t
  obtain ⟨w1, hw1⟩ : ∃ v, w.alloc (.cells (treC t).toArray 26) = v := ⟨_, rfl⟩
  rw [hw1] at B0 BB ⊢
  clear hw1
  have l0 := tre_load B0 HT.out
  have KB := Lib.hid BB
  clear BB B0
  go_wp2_with fail
  clear l0
  go_loopw [7, 3] (fun v s wr => ∃ k : Nat, v = .int .i64 (k : Int) ∧ k ≤ 16 ∧ s = .int .i64 (setF (isZ t) k) ∧ Below w.heap.size w wr) (fun v _ _ => (16 - intOf v).toNat)
  case atStart => exact ⟨0, rfl, Nat.zero_le _, rfl, KB.out⟩
  case round =>
    obtain ⟨k, rfl, hk, rfl, kb⟩ := hrel
    have KB := Lib.hid kb
    clear kb
    by_cases hkn : k < 16
    · obtain ⟨⟨d, p⟩, hx, _⟩ := HT.out.at hkn
      have hix := ent_index (w := wr) hx hkn
      have hst := new_ent (w := wr) (d := (d : Int)) (p := p) rfl
      obtain ⟨b, hb⟩ : ∃ b, ((d : Int) == 0) = b := ⟨_, rfl⟩
      have n0 : (0 : Int) ≤ (k : Int) := by omega
      have n1 : (k : Int) < 16 := by omega
      have HK := Lib.hid hkn
      have HX := Lib.hid hx
      clear hk hx hkn
      go_upto_region 5 with fail
      clear hst hix
      have B1 := Blk.new wr [.int .u32 (d : Int), .int .i64 p] 24
      have HB := Lib.hid (KB.out.alloc KB.out.size (.cells #[.int .u32 (d : Int), .int .i64 p] 24))
      obtain ⟨w2, hw2⟩ : ∃ v, wr.alloc (.cells #[.int .u32 (d : Int), .int .i64 p] 24) = v := ⟨_, rfl⟩
      rw [hw2] at B1 HB ⊢
      obtain ⟨g, hg⟩ : ∃ g, wr.heap.size = g := ⟨_, rfl⟩
      rw [hg] at B1 ⊢
      clear hw2 hg KB
      have c0 := B1.cell 0 rfl
      clear B1
      have HS := Lib.hid (set_step (isZ t) k)
      rw [isZ_of HX.out hb] at HS
      have W := Lib.hid (fun w => with_in (setF (isZ t) k) k w HK.out (set_i64 _ _ (by have := HK.out; omega)).1 (set_i64 _ _ (by have := HK.out; omega)).2)
      cases b with
      | true =>
        go_wp2_with fail
        refine (W.out _).mono ?_
        rintro e w3 ⟨rfl, rfl⟩
        go_wp2_with fail
        go_roundw
        case rel => exact ⟨k + 1, by go_num, HK.out, by rw [HS.out]; rfl, HB.out⟩
        case measure => exact meas_up 16 k _ rfl HK.out
      | false =>
        go_wp2_with fail
        go_roundw
        case rel => exact ⟨k + 1, by go_num, HK.out, by rw [HS.out]; rfl, HB.out⟩
        case measure => exact meas_up 16 k _ rfl HK.out
    · obtain rfl : k = 16 := by omega
      clear hk hkn
      have CO := Lib.hid (fun w => count_any (setF (isZ t) 16) w)
      have LO : Hid (∀ w, Calls Tryd.prog 31 #[.int .i64 (setF (isZ t) 16)] w fun e w' => e = .returned (.int .i64 (NodesF.nextG (NodesF.lowN (setF (isZ t) 16)) 15 16)) ∧ w = w') := Lib.hid (fun w => low_any _ w)
      obtain ⟨b, hb⟩ : ∃ b, ((NodesF.countN (setF (isZ t) 16) : Int) != 1) = b := ⟨_, rfl⟩
      have HR : Hid (b = true ∧ rootT t = -1 ∨ b = false ∧ rootT t = NodesF.nextG (NodesF.lowN (setF (isZ t) 16)) 15 16) := Lib.hid (by
        by_cases h1 : NodesF.countN (setF (isZ t) 16) = 1
        · refine .inr ⟨?_, root_one t h1⟩
          rw [← hb, h1]; rfl
        · refine .inl ⟨?_, root_many t h1⟩
          rw [← hb]; simp; omega)
      obtain ⟨n, hn⟩ : ∃ n, NodesF.countN (setF (isZ t) 16) = n := ⟨_, rfl⟩
      obtain ⟨z, hz⟩ : ∃ z, NodesF.nextG (NodesF.lowN (setF (isZ t) 16)) 15 16 = z := ⟨_, rfl⟩
      obtain ⟨s, hs⟩ : ∃ s, setF (isZ t) 16 = s := ⟨_, rfl⟩
      rw [hn] at CO hb
      rw [hz] at LO HR
      rw [hs] at CO LO ⊢
      clear hn hz hs
      go_wp2_with fail
      refine (CO.out _).mono ?_
      rintro e w3 ⟨rfl, m, rfl⟩
      rcases HR.out with ⟨rfl, h2⟩ | ⟨rfl, h2⟩
      · have H2 := Lib.hid h2
        clear h2
        go_wp2_with fail
        go_ret
        exact ⟨by rw [H2.out]; rfl, below_drewN KB.out m⟩
      · have H2 := Lib.hid h2
        clear h2
        go_wp2_with fail
        refine (LO.out _).mono ?_
        rintro e w4 ⟨rfl, rfl⟩
        go_wp2_with fail
        go_ret
        exact ⟨by rw [H2.out]; rfl, below_drewN KB.out m⟩

theorem rroot_any (t : Tr) (ht : Tre t) : Gives Tryd.prog 13 #[.agg (treC t).toArray] (.int .i64 (rootT t)) := fun w => by
  have HT := Lib.hid ht
  clear ht
  go_enter Tryd.func13, Tryd.ntmps13
  go_upto_region 2 with fail
  obtain ⟨B0, BB⟩ := tbox_new w t
  obtain ⟨w1, hw1⟩ : ∃ v, w.alloc (.cells (treC t).toArray 26) = v := ⟨_, rfl⟩
  rw [hw1] at B0 BB ⊢
  clear hw1
  have l0 := tre_load B0 HT.out
  have KB := Lib.hid BB
  clear BB B0
  go_wp2_with fail
  clear l0
  go_loopw [7, 3] (fun v s wr => ∃ k : Nat, v = .int .i64 (k : Int) ∧ k ≤ 16 ∧ s = .int .i64 (atF (zerosT t k)) ∧ (zerosT t k).length ≤ 1 ∧ Below w.heap.size w wr) (fun v _ _ => (16 - intOf v).toNat)
  case atStart => exact ⟨0, rfl, Nat.zero_le _, rfl, by unfold zerosT; simp, KB.out⟩
  case round =>
    obtain ⟨k, rfl, hk, rfl, hz1, kb⟩ := hrel
    have KB := Lib.hid kb
    have HZ1 := Lib.hid hz1
    clear hz1
    clear kb
    by_cases hkn : k < 16
    · obtain ⟨⟨d, p⟩, hx, _⟩ := HT.out.at hkn
      have hix := ent_index (w := wr) hx hkn
      have hst := new_ent (w := wr) (d := (d : Int)) (p := p) rfl
      obtain ⟨b, hb⟩ : ∃ b, ((d : Int) == 0) = b := ⟨_, rfl⟩
      have n0 : (0 : Int) ≤ (k : Int) := by omega
      have n1 : (k : Int) < 16 := by omega
      have HK := Lib.hid hkn
      have HX := Lib.hid hx
      clear hk hx hkn
      go_upto_region 5 with fail
      clear hst hix
      have B1 := Blk.new wr [.int .u32 (d : Int), .int .i64 p] 24
      have HB := Lib.hid (KB.out.alloc KB.out.size (.cells #[.int .u32 (d : Int), .int .i64 p] 24))
      obtain ⟨w2, hw2⟩ : ∃ v, wr.alloc (.cells #[.int .u32 (d : Int), .int .i64 p] 24) = v := ⟨_, rfl⟩
      rw [hw2] at B1 HB ⊢
      obtain ⟨g, hg⟩ : ∃ g, wr.heap.size = g := ⟨_, rfl⟩
      rw [hg] at B1 ⊢
      clear hw2 hg KB
      have c0 := B1.cell 0 rfl
      clear B1
      have HS := Lib.hid (zeros_step t k)
      have HZ := Lib.hid (isZ_of HX.out hb)
      rw [HZ.out] at HS
      cases b with
      | true =>
        obtain ⟨q, hq⟩ : ∃ q, decide ((0 : Int) ≤ atF (zerosT t k)) = q := ⟨_, rfl⟩
        cases q with
        | true =>
          have HR := Lib.hid (root_two t HK.out HZ.out (at_nat.1 (of_decide_eq_true hq)))
          obtain ⟨a, ha⟩ : ∃ a, atF (zerosT t k) = a := ⟨_, rfl⟩
          rw [ha] at hq ⊢
          clear ha
          go_wp2_with fail
          go_ret
          exact ⟨by rw [HR.out]; rfl, HB.out⟩
        | false =>
          have HN : Hid (zerosT t k = []) := Lib.hid (by
            have h1 : ¬ 1 ≤ (zerosT t k).length := fun h => of_decide_eq_false hq (at_nat.2 h)
            exact List.length_eq_zero_iff.1 (by omega))
          rw [HN.out, if_pos rfl, List.nil_append] at HS
          obtain ⟨a, ha⟩ : ∃ a, atF (zerosT t k) = a := ⟨_, rfl⟩
          rw [ha] at hq ⊢
          clear ha
          go_wp2_with fail
          go_roundw
          case rel => exact ⟨k + 1, by go_num, HK.out, by rw [HS.out]; rfl, by rw [HS.out]; exact Nat.le_refl _, HB.out⟩
          case measure => exact meas_up 16 k _ rfl HK.out
      | false =>
        rw [if_neg (by decide)] at HS
        obtain ⟨a, ha⟩ : ∃ a, atF (zerosT t k) = a := ⟨_, rfl⟩
        have HA := Lib.hid ha
        rw [ha]
        clear ha
        go_wp2_with fail
        go_roundw
        case rel => exact ⟨k + 1, by go_num, HK.out, by rw [HS.out, HA.out], by rw [HS.out]; exact HZ1.out, HB.out⟩
        case measure => exact meas_up 16 k _ rfl HK.out
    · obtain rfl : k = 16 := by omega
      have HR := Lib.hid (root_end t HZ1.out)
      clear hk hkn
      go_wp2_with fail
      go_ret
      exact ⟨by rw [HR.out]; rfl, KB.out⟩
end
section
open Go.RowKit Go.Sort TreF
attribute [local go_sem ↓] loadAt_tre storeAt_tre loadAt_ent storeAt_ent

theorem tcount_any (t : Tr) (ht : Tre t) : Gives Tryd.prog 24 #[.agg (treC t).toArray] (.int .i64 ((lisR t).length : Nat)) := fun w => by
  have RE := Lib.hid (treached_any t ht)
  have CO : Hid (∀ w, Calls Tryd.prog 30 #[.int .i64 (setR t)] w fun e w' => e = .returned (.int .i64 ((lisR t).length : Nat)) ∧ ∃ n, w' = w.drewN n) := Lib.hid (fun w => by
    have h := count_any (setR t) w
    rw [show NodesF.countN (setR t) = (lisR t).length from set_count _] at h
    exact h)
  obtain ⟨n, hn⟩ : ∃ n, (lisR t).length = n := ⟨_, rfl⟩
  rw [hn] at CO ⊢
  have HT := Lib.hid ht
  clear hn ht
  go_enter Tryd.func24, Tryd.ntmps24
  go_upto_region 1 with fail
  obtain ⟨B0, BB⟩ := tbox_new w t
  obtain ⟨w1, hw1⟩ : ∃ v, w.alloc (.cells (treC t).toArray 26) = v := ⟨_, rfl⟩
  rw [hw1] at B0 BB ⊢
  clear hw1
  have l0 := tre_load B0 HT.out
  go_wp2_with fail
  refine (RE.out _).mono ?_
  rintro e w2 ⟨rfl, hb⟩
  have HB := Lib.hid (bel_on BB hb)
  clear l0 B0 BB hb
  go_wp2_with fail
  refine (CO.out _).mono ?_
  rintro e w3 ⟨rfl, m, rfl⟩
  go_wp2_with fail
  go_ret
  exact ⟨rfl, below_drewN HB.out m⟩
theorem rncount_any (s : Int) (w : World) : Calls Tryd.prog 43 #[.int .i64 s] w fun e w' => e = .returned (.int .i64 ((NodesF.nodesN (NodesF.lowN s) 16).length : Nat)) ∧ Below w.heap.size w w' := by
  have LI := Lib.hid (fun w => rlist_any s w)
  obtain ⟨l, hl⟩ : ∃ l, NodesF.nodesN (NodesF.lowN s) 16 = l := ⟨_, rfl⟩
  rw [hl] at LI ⊢
  clear hl
  go_enter Tryd.func43, Tryd.ntmps43
  go_wp2_with fail
  refine (LI.out _).mono ?_
  rintro e w1 hown
  obtain ⟨a, cp, rfl, _, hb⟩ := nats_slice hown
  have HB := Lib.hid hb
  clear hb hown
  go_wp2_with fail
  go_ret
  exact ⟨rfl, HB.out⟩
theorem rcount_any (t : Tr) (ht : Tre t) : Gives Tryd.prog 25 #[.agg (treC t).toArray] (.int .i64 ((lisR t).length : Nat)) := fun w => by
  have RE := Lib.hid (rreached_any t ht)
  have CO : Hid (∀ w, Calls Tryd.prog 43 #[.int .i64 (setR t)] w fun e w' => e = .returned (.int .i64 ((lisR t).length : Nat)) ∧ Below w.heap.size w w') := Lib.hid (fun w => by
    have h := rncount_any (setR t) w
    rw [lis_nodes] at h
    exact h)
  obtain ⟨n, hn⟩ : ∃ n, (lisR t).length = n := ⟨_, rfl⟩
  rw [hn] at CO ⊢
  have HT := Lib.hid ht
  clear hn ht
  go_enter Tryd.func25, Tryd.ntmps25
  go_upto_region 1 with fail
  obtain ⟨B0, BB⟩ := tbox_new w t
  obtain ⟨w1, hw1⟩ : ∃ v, w.alloc (.cells (treC t).toArray 26) = v := ⟨_, rfl⟩
  rw [hw1] at B0 BB ⊢
  clear hw1
  have l0 := tre_load B0 HT.out
  go_wp2_with fail
  refine (RE.out _).mono ?_
  rintro e w2 ⟨rfl, hb⟩
  have HB := Lib.hid (bel_on BB hb)
  clear l0 B0 BB hb
  go_wp2_with fail
  refine (CO.out _).mono ?_
  rintro e w3 ⟨rfl, hb⟩
  have HB' := Lib.hid (bel_on HB.out hb)
  clear hb
  go_wp2_with fail
  go_ret
  exact ⟨rfl, HB'.out⟩
end
end Go.Proofs.YtelfbkfmngjheaaDoor
