/- Contracts of package costs, part I: Sound, and the document's own. -/
import Derived.Test.YtnbbepelagdenaaDoorCosH
namespace Go.Proofs.YtnbbepelagdenaaDoor
open Go.RowKit Go.Sort CosF
attribute [local go_sem ↓] loadAt_cos loadAt_row storeAt_cos

theorem again_cos (c : Pt) : ∀ (l : List Nat) (s s' : Pt), Cos s → againF c l s = some s' → Cos s'
  | [], s, s', hs, h => by cases h; exact hs
  | n :: r, s, s', hs, h => by
    rw [againF] at h
    split at h
    · exact again_cos c r _ s' (hs.set _ _) h
    · cases h
theorem againV_cos (c : Pt) : Cos (againV c).1 := by
  unfold againV
  cases h : againF c (upC c) none16 with
  | none => exact Cos.zero
  | some s => exact again_cos c _ _ s Cos.zero h
theorem sound_again (c : Pt) : soundP c = ((againV c).2 == 0 && (((againV c).1.1 == c.1) && decide ((againV c).1.2 = c.2))) := by
  unfold soundP againV
  cases againF c (upC c) none16 with
  | none => rfl
  | some s =>
    show (decide (s.1 = c.1) && decide (s.2 = c.2)) = (true && ((s.1 == c.1) && decide (s.2 = c.2)))
    rw [Bool.true_and, show (s.1 == c.1) = decide (s.1 = c.1) from rfl]
theorem again_err (c : Pt) : (againV c).2 = 0 ∨ (againV c).2 = 1 := by
  unfold againV
  split
  · exact .inl rfl
  · exact .inr rfl

theorem csound_any (c : Pt) (hc : Cos c) : Gives Tryd.prog 14 #[.agg (cosP c).toArray] (.bool (soundF c)) := fun w => by
  rw [← sound_same c hc.1, sound_again]
  have AG := Lib.hid (again_any c hc)
  have HC := Lib.hid hc
  have HA := Lib.hid (againV_cos c)
  have hE := again_err c
  obtain ⟨v, hv⟩ : ∃ v, againV c = v := ⟨_, rfl⟩
  rw [hv] at AG HA hE ⊢
  obtain ⟨s, er⟩ := v
  have row := row_eql s.2 c.2
  have HROW := Lib.hid (fun w => row w HA.out.1 HC.out.1)
  clear row hv hc
  obtain ⟨q1, hq1⟩ : ∃ q1, (s.1 == c.1) = q1 := ⟨_, rfl⟩
  obtain ⟨q2, hq2⟩ : ∃ q2, decide (s.2 = c.2) = q2 := ⟨_, rfl⟩
  rw [hq2] at HROW
  have hrow := HROW.out
  show Calls _ _ _ _ fun e w' => e = .returned (.bool (er == 0 && ((s.1 == c.1) && decide (s.2 = c.2)))) ∧ _
  rw [hq1, hq2]
  clear hq2 HROW
  go_enter Tryd.func14, Tryd.ntmps14
  go_upto_region 1 with fail
  obtain ⟨B1, BB⟩ := one_cos w c
  obtain ⟨w1, hw1⟩ : ∃ w1, (w.alloc (.cells (cosP c).toArray 25)) = w1 := ⟨_, rfl⟩
  rw [hw1] at B1 BB ⊢
  clear hw1
  have hl := cos_load B1 HC.out
  go_wp2_with fail
  refine (AG.out _).mono ?_
  rintro e w2 ⟨rfl, hb⟩
  have HB := Lib.hid (bel_on BB hb)
  have K1 := Lib.hid (B1.on hb)
  have hst := new_store (w := w2) rfl HA.out
  clear hl B1 BB hb
  go_upto_region 2 with fail
  clear hst
  have B3 := Blk.new w2 (cosP s) 25
  have B1 := K1.out.next (.cells (cosP s).toArray 25)
  have BB := HB.out.alloc HB.out.size (.cells (cosP s).toArray 25)
  obtain ⟨w3, hw3⟩ : ∃ w3, (w2.alloc (.cells (cosP s).toArray 25)) = w3 := ⟨_, rfl⟩
  rw [hw3] at B1 B3 BB ⊢
  clear hw3
  have c3 := B3.cell 0 rfl
  have c1 := B1.cell 0 rfl
  have r3 := row_load B3 HA.out
  have r1 := row_load B1 HC.out
  clear B1 B3
  rcases hE with hE | hE
  · obtain rfl : er = 0 := hE
    cases q1 <;>
      (go_wp2_with fail
       go_ret
       exact ⟨rfl, BB⟩)
  · obtain rfl : er = 1 := hE
    go_wp2_with fail
    go_ret
    exact ⟨rfl, BB⟩

theorem row_index {L : List Nat} {n x : Nat} {w : World} (hx : L[n]? = some x) (hn : n < 16) :
    (Instr.index 23 (.agg (cosC L).toArray) (.int .i64 (n : Int))).run Tryd.prog w = .ok (.int .u32 (x : Int)) w := by
  have h1 : (0 : Int) ≤ (n : Int) ∧ (n : Int) < ((16 : Nat) : Int) := ⟨by omega, by omega⟩
  have hu := run_underlying (P := Tryd.prog) Tryd.underlying23 w
  have hp : (part 22 (cosC L).toArray (n * 1)).run Tryd.prog w = .ok (.int .u32 (x : Int)) w := run_part_plain (P := Tryd.prog) w (by kernel_rfl) (by simp [cosC, hx])
  simp only [Instr.index, asIntOf, Sem.run_bind, Sem.run_pure, Result.andThen_ok, hu, if_pos h1, Tryd.sizeOf22, Int.toNat_natCast, hp]
theorem good_of {c : Pt} {i x : Nat} (hx : c.2[i]? = some x) {h q1 q2 q3 : Bool} (hh : NodesF.hasN c.1 i = h) (h1 : decide ((1 : Int) ≤ (x : Int)) = q1) (h2 : decide ((x : Int) ≤ 65536) = q2) (h3 : ((x : Int) == 0) = q3) :
    goodN c i = ((h == (q1 && q2)) && (h || q3)) := by
  have e : costN c i = x := by simp [costN, List.getD_eq_getElem?_getD, hx]
  unfold goodN
  rw [hh, e, show rightN x = (q1 && q2) from by
    unfold rightN
    rw [← h1, ← h2]
    congr 1
    · rw [Bool.eq_iff_iff]; simp; omega
    · rw [Bool.eq_iff_iff]; simp; omega, show (x == 0) = q3 from by
    rw [← h3, Bool.eq_iff_iff]; simp]
set_option maxRecDepth 100000 in
theorem rsound_any (c : Pt) (hc : Cos c) : Gives Tryd.prog 15 #[.agg (cosP c).toArray] (.bool (soundF c)) := fun w => by
  have HC := Lib.hid hc
  clear hc
  go_enter Tryd.func15, Tryd.ntmps15
  go_upto_region 1 with fail
  obtain ⟨B1, BB⟩ := one_cos w c
  obtain ⟨w1, hw1⟩ : ∃ w1, (w.alloc (.cells (cosP c).toArray 25)) = w1 := ⟨_, rfl⟩
  rw [hw1] at B1 BB ⊢
  clear hw1
  have r1 := row_load B1 HC.out
  have c1 := B1.cell 0 rfl
  have HB := Lib.hid BB
  clear BB B1
  go_wp2_with fail
  go_loopw [7] (fun v wr => ∃ k : Nat, v = .int .i64 (k : Int) ∧ k ≤ 16 ∧ goodsN c 16 0 = goodsN c (16 - k) k ∧ w1 = wr) (fun v _ => (16 - intOf v).toNat)
  case atStart => exact ⟨0, rfl, Nat.zero_le _, rfl, rfl⟩
  case round =>
    obtain ⟨k, rfl, hk, hg, rfl⟩ := hrel
    have HG := Lib.hid hg
    clear hg
    by_cases hkn : k < 16
    · obtain ⟨x, hx⟩ : ∃ x, c.2[k]? = some x := ⟨_, List.getElem?_eq_getElem (by have := HC.out.1; omega)⟩
      have H := Lib.hid (fun w => rhas_in c.1 k w hkn)
      have hix := row_index (w := w1) hx hkn
      have HST : Hid (goodsN c 16 0 = (goodN c k && goodsN c (16 - (k + 1)) (k + 1))) := Lib.hid (by rw [HG.out, show 16 - k = (16 - (k + 1)) + 1 by omega]; rfl)
      obtain ⟨h, hh⟩ : ∃ h, NodesF.hasN c.1 k = h := ⟨_, rfl⟩
      obtain ⟨q1, hq1⟩ : ∃ q, decide ((1 : Int) ≤ (x : Int)) = q := ⟨_, rfl⟩
      obtain ⟨q2, hq2⟩ : ∃ q, decide ((x : Int) ≤ 65536) = q := ⟨_, rfl⟩
      obtain ⟨q3, hq3⟩ : ∃ q, ((x : Int) == 0) = q := ⟨_, rfl⟩
      have HGD := Lib.hid (good_of hx hh hq1 hq2 hq3)
      rw [HGD.out] at HST
      rw [hh] at H
      have HK := Lib.hid hkn
      have n0 : (0 : Int) ≤ (k : Int) := by omega
      have n1 : (k : Int) < 16 := by omega
      clear hh HGD HG hk hkn hx
      cases h <;> cases q1 <;> cases q2 <;> cases q3 <;>
        (go_wp2_with (go_at_call 37; refine (H.out _).mono ?_; rintro e w2 ⟨rfl, rfl⟩)
         first
         | (go_ret
            exact ⟨by unfold soundF; rw [HST.out]; rfl, HB.out⟩)
         | (go_roundw
            case rel => exact ⟨k + 1, by go_num, HK.out, HST.out, trivial⟩
            case measure => exact meas_up 16 k _ rfl HK.out))
    · obtain rfl : k = 16 := by omega
      have HSF : Hid (soundF c = (decide (0 ≤ c.1) && decide (c.1 ≤ 65535))) := Lib.hid (by unfold soundF; rw [HG.out]; rfl)
      obtain ⟨q1, hq1⟩ : ∃ q, decide (0 ≤ c.1) = q := ⟨_, rfl⟩
      obtain ⟨q2, hq2⟩ : ∃ q, decide (c.1 ≤ 65535) = q := ⟨_, rfl⟩
      rw [hq1, hq2] at HSF
      clear HG hk
      cases q1 <;>
        (go_wp2_with fail
         go_ret
         exact ⟨by rw [HSF.out]; rfl, HB.out⟩)
end Go.Proofs.YtnbbepelagdenaaDoor
