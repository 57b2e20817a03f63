/- Contracts of package walk, part B: Back. -/
import Derived.Test.YtjpbglbbeepmnaaWakA
namespace Go.Proofs.Ytjpbglbbeepmnaa
open Go.RowKit Go.Sort TreF WakF
attribute [local go_sem ↓] loadAt_tre storeAt_tre loadAt_ent storeAt_ent

/-- A way, or none. -/
def BackP (l : List Nat) (w : World) (e : Ending) (w' : World) : Prop := ∃ v, e = .returned (.tuple #[v, .bool (!l.isEmpty)]) ∧ w'.ownsRow w.heap.size 3 1 v l.length (natV l) ∧ Below w.heap.size w w'
def sLen : Value → Nat
  | .slice _ n _ => n
  | _ => 0
theorem own_len {w : World} {B e size n : Nat} {v : Value} {xs : List Value} (h : w.ownsRow B e size v n xs) : sLen v = n := by
  obtain ⟨a, c, rfl⟩ := own_slice h
  rfl
theorem meas_len {w w' : World} {B e size n m : Nat} {v v' : Value} {xs ys : List Value} (h : w.ownsRow B e size v n xs) (h' : w'.ownsRow B e size v' m ys) (hm : m = n + 1) (hn : n < 16) : 17 - sLen v' < 17 - sLen v := by
  rw [own_len h, own_len h']; omega
theorem up_at {t : Tr} {m d : Nat} {p : Int} (hm : m < 16) (h : t[m]? = some (d, p)) : upT t (m : Int) = p := by unfold upT; rw [get_ok hm h]
theorem take_all {l : List Nat} {n : Int} (h : inL (l.take l.length) n = false) : inL l n = false := by rwa [List.take_length] at h

set_option maxRecDepth 100000 in
theorem wback_any (t : Tr) (r j : Int) (ht : Tre t) (w : World) : Calls Try.prog 6 #[.agg (treC t).toArray, .int .i64 r, .int .i64 j] w (BackP (backT t r j) w) := by
  obtain ⟨i0, hi, hz0, hz1, hz2⟩ := info_parts Try.info3
  have RE := Lib.hid (fun n => reached_any t n ht)
  have HT := Lib.hid ht
  clear ht
  go_enter Try.func6, Try.ntmps6
  go_wp2_with fail
  go_step3
  go_wp2_with fail
  go_step3
  go_wp2_with fail
  obtain ⟨B0, BB⟩ := tbox_new w t
  obtain ⟨w1, hw1⟩ : ∃ v, w.alloc (.cells (treC t).toArray 26) = v := ⟨_, rfl⟩
  rw [hw1] at B0 BB ⊢
  clear hw1
  go_loopw [8, 9] (fun v u wr => ∃ (acc : List Nat) (n : Int), u = .int .i64 n ∧ Hid (Gone t r j acc n) ∧ Hid (Blk wr w.heap.size (treC t)) ∧ Hid (wr.ownsRow (w.heap.size + 1) 3 1 v acc.length (natV acc)) ∧ Hid (Below w.heap.size w wr)) (fun v _ _ => 17 - sLen v)
  case atStart => exact ⟨[], j, rfl, Lib.hid (Gone.start t r j), Lib.hid B0, Lib.hid (World.ownsRow_nil _ _ _ _), Lib.hid BB⟩
  case round =>
    obtain ⟨acc, n, rfl, HG, HB, HO, HBL⟩ := hrel
    clear B0 BB
    obtain ⟨b, hb⟩ : ∃ b, okT t n = b := ⟨_, rfl⟩
    have HOK := Lib.hid hb
    have l0 := tre_load HB.out HT.out
    clear hb
    go_wp2_with fail
    refine (RE.out n _).mono ?_
    rintro e w2 ⟨rfl, hb2⟩
    rw [HOK.out]
    have HB2 := Lib.hid (HB.out.on hb2)
    have HO2 := Lib.hid (row_below HO.out hb2)
    have HBL2 := Lib.hid (bel_on HBL.out hb2)
    clear l0 hb2 HB HBL
    cases b with
    | false =>
      have HE := Lib.hid (HG.out.far HOK.out)
      go_wp2_with fail
      try rw [Exit.noGoto_ret]
      go_ret2
      rw [HE.out]
      exact ⟨_, rfl, World.ownsRow_nil _ _ _ _, HBL2.out⟩
    | true =>
      obtain ⟨m, rfl, hm⟩ := ok_nat HOK.out
      obtain ⟨⟨d, p⟩, hx, _⟩ := HT.out.at hm
      have HUP := Lib.hid (up_at hm hx)
      have HC := Lib.hid (treC_pred hx)
      clear hx
      obtain ⟨a, c, rfl⟩ := own_slice HO2.out
      have HN := Lib.hid (NatAt.own HO2.out)
      have HSH := Lib.hid HG.out.short
      obtain ⟨q, hq⟩ : ∃ q, acc.length = q := ⟨_, rfl⟩
      have HQ := Lib.hid hq
      have hql : q ≤ 16 := by have := HSH.out; omega
      rw [hq] at HO HO2 ⊢
      clear hq
      go_wp2_with fail
      go_loopw [22] (fun v wr => ∃ k : Nat, v = .int .i64 (k : Int) ∧ k ≤ q ∧ Hid (inL (acc.take k) (m : Int) = false) ∧ w2 = wr) (fun v _ => (q - intOf v).toNat)
      case atStart => exact ⟨0, rfl, Nat.zero_le _, Lib.hid rfl, rfl⟩
      case round =>
        obtain ⟨k, rfl, hk, HA, rfl⟩ := hrel
        by_cases hkq : k < q
        · obtain ⟨x, hx⟩ : ∃ x, acc[k]? = some x := ⟨_, List.getElem?_eq_getElem (by have := HQ.out; omega)⟩
          obtain ⟨g, rfl, _, c1⟩ := HN.out.read hx
          have HX := Lib.hid hx
          have HK := Lib.hid hkq
          clear hx
          obtain ⟨z, hz⟩ : ∃ z, ((x : Int) == (m : Int)) = z := ⟨_, rfl⟩
          cases z with
          | true =>
            have HE := Lib.hid (HG.out.again (n := m) (by
              obtain rfl : x = m := by simp only [beq_iff_eq] at hz; omega
              exact List.mem_of_getElem? HX.out))
            go_wp2_with fail
            try rw [Exit.noGoto_ret]
            go_ret2
            rw [HE.out]
            exact ⟨_, rfl, World.ownsRow_nil _ _ _ _, HBL2.out⟩
          | false =>
            have HE := Lib.hid (inL_take HA.out HX.out hz)
            go_wp2_with fail
            go_roundw
            case rel => exact ⟨k + 1, by go_num, HK.out, HE, trivial⟩
            case measure => exact meas_up q k _ rfl HK.out
        · obtain rfl : k = q := by omega
          have HNM : Hid (m ∉ acc) := Lib.hid (inL_false (n := (m : Int)) (take_all (by have := HA.out; rwa [← HQ.out] at this)) rfl)
          have HLT := Lib.hid (HG.out.more HOK.out HNM.out)
          obtain ⟨z, hz⟩ : ∃ z, ((m : Int) == r) = z := ⟨_, rfl⟩
          have hw2 := HBL2.out.size
          have hg2 := HB2.out.lt
          obtain ⟨v0, hv0⟩ : ∃ v0, Value.slice a k c = v0 := ⟨_, rfl⟩
          rw [hv0] at HO2 ⊢
          clear hv0
          cases z with
          | true =>
            have HE := Lib.hid (HG.out.done HOK.out (by simpa using hz))
            go_wp2_with (at_builtin; refine wpList_append_own _ rfl (.tmp 30) (.tmp 32) 27 rfl (w.heap.size + 1) 3 i0 (.int .i64 0) 1 8 Try.underlying27 hi hz0 hz1 hz2 rfl (by decide) _ _ _ rfl (HO2.out.alloc _) ⟨w2.heap.size, 0, none⟩ 1 1 [_] rfl rfl (cell_one_new _ _ _) (by simp [Value.oneCell']) (by unfold maxLen; omega) (by omega) (by simp; omega) ?_; intro v1 w1 hown1 hg1 _)
            try rw [Exit.noGoto_ret]
            go_ret2
            rw [HE.out]
            refine ⟨v1, by simp, ?_, ?_⟩
            · rw [natV_snoc, List.length_append, HQ.out]
              exact row_lower hown1 (Nat.le_succ _)
            · exact (HBL2.out.alloc hw2 _).grown hg1 (by simp; omega) (fun k hk => by have := (HO2.out.lt k hk).1; omega)
          | false =>
            have HE := Lib.hid (HG.out.push HOK.out HNM.out (by simpa using hz))
            rw [HUP.out] at HE
            go_wp2_with (at_builtin; refine wpList_append_own _ rfl (.tmp 30) (.tmp 32) 27 rfl (w.heap.size + 1) 3 i0 (.int .i64 0) 1 8 Try.underlying27 hi hz0 hz1 hz2 rfl (by decide) _ _ _ rfl (HO2.out.alloc _) ⟨w2.heap.size, 0, none⟩ 1 1 [_] rfl rfl (cell_one_new _ _ _) (by simp [Value.oneCell']) (by unfold maxLen; omega) (by omega) (by simp; omega) ?_; intro v1 w1 hown1 hg1 _; go_must (have B1 := (HB2.out.next _).grown hg1 (fun k hk => by have := (HO2.out.lt k hk).1; omega); have c1 := B1.cell (m * 2 + 1) HC.out; have m0 : (0 : Int) ≤ (m : Int) := Int.natCast_nonneg m; have m1 : (m : Int) < 16 := by omega))
            go_roundw
            case rel =>
              refine ⟨acc ++ [m], p, rfl, HE, Lib.hid B1, Lib.hid ?_, Lib.hid ?_⟩
              · rw [natV_snoc, List.length_append, HQ.out]
                exact hown1
              · exact (HBL2.out.alloc hw2 _).grown hg1 (by simp; omega) (fun k hk => by have := (HO2.out.lt k hk).1; omega)
            case measure =>
              have h1 := own_len hown1
              have h2 := HLT.out
              have h3 := HQ.out
              show 17 - sLen v1 < 17 - acc.length
              omega
end Go.Proofs.Ytjpbglbbeepmnaa
