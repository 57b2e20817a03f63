/- Contracts of package walk, part C: Path, First, Hops. -/
import Derived.Test.YtjpbglbbeepmnaaWakB
namespace Go.Proofs.Ytjpbglbbeepmnaa
open Go.RowKit Go.Sort TreF WakF
attribute [local go_sem ↓] loadAt_tre storeAt_tre loadAt_ent storeAt_ent

/-- What a call of Back or Path hands on, at a world behind. -/
theorem BackP.at {l : List Nat} {w w' : World} {e : Ending} {B : Nat} (h : BackP l w e w') (hB : B ≤ w.heap.size) :
    ∃ a c, e = .returned (.tuple #[.slice a l.length c, .bool (!l.isEmpty)]) ∧ w'.ownsRow B 3 1 (.slice a l.length c) l.length (natV l) ∧ Below w.heap.size w w' := by
  obtain ⟨v, rfl, h1, h2⟩ := h
  obtain ⟨a, c, rfl⟩ := own_slice h1
  exact ⟨a, c, rfl, row_lower h1 hB, h2⟩

theorem whops_any (t : Tr) (r j : Int) (ht : Tre t) : Gives Try.prog 13 #[.agg (treC t).toArray, .int .i64 r, .int .i64 j] (.int .i64 (hopsT t r j)) := fun w => by
  have BA := Lib.hid (fun w => wback_any t r j ht w)
  have HS := Lib.hid (back_short t r j)
  have HD : Hid (hopsT t r j = ((backT t r j).length : Int) - 1) := Lib.hid rfl
  obtain ⟨h, hh⟩ : ∃ h, hopsT t r j = h := ⟨_, rfl⟩
  rw [hh] at HD ⊢
  generalize backT t r j = l at BA HS HD
  clear hh
  have HT := Lib.hid ht
  clear ht
  go_enter Try.func13, Try.ntmps13
  go_upto_region 1 with fail
  obtain ⟨B0, BB⟩ := tbox_new w t
  obtain ⟨w1, hw1⟩ : ∃ v, w.alloc (.cells (treC t).toArray 26) = v := ⟨_, rfl⟩
  rw [hw1] at B0 BB ⊢
  clear hw1
  have l0 := tre_load B0 HT.out
  go_wp2_with fail
  refine (BA.out _).mono ?_
  rintro e w2 hp
  obtain ⟨a, c, rfl, ho, hb⟩ := hp.at (Nat.le_refl _)
  have HB := Lib.hid (bel_on BB hb)
  obtain ⟨n, hn⟩ : ∃ n, l.length = n := ⟨_, rfl⟩
  have hnl : n ≤ 16 := by have := HS.out; omega
  have hwr : IntKind.i64.wrap ((n : Int) - 1) = h := by rw [IntKind.wrap_i64, HD.out]; omega
  rw [hn]
  clear l0 B0 BB hb hp ho hn
  go_wp2_with fail
  go_ret
  exact ⟨rfl, HB.out⟩

theorem wpath_any (t : Tr) (r j : Int) (ht : Tre t) (w : World) : Calls Try.prog 8 #[.agg (treC t).toArray, .int .i64 r, .int .i64 j] w (BackP (pathT t r j) w) := by
  have BA := Lib.hid (fun w => wback_any t r j ht w)
  have HS := Lib.hid (back_short t r j)
  have HE := Lib.hid (path_empty t r j)
  have HL := Lib.hid (path_length t r j)
  have HP : Hid (pathT t r j = (backT t r j).reverse) := Lib.hid rfl
  generalize pathT t r j = p at HE HL HP ⊢
  generalize backT t r j = l at BA HS HE HL HP
  have HT := Lib.hid ht
  clear ht
  go_enter Try.func8, Try.ntmps8
  go_upto_region 1 with fail
  obtain ⟨B0, BB⟩ := tbox_new w t
  obtain ⟨w1, hw1⟩ : ∃ v, w.alloc (.cells (treC t).toArray 26) = v := ⟨_, rfl⟩
  rw [hw1] at B0 BB ⊢
  clear hw1
  have l0 := tre_load B0 HT.out
  go_wp2_with fail
  refine (BA.out _).mono ?_
  rintro e w2 ⟨v, rfl, ho, hb⟩
  have HB := Lib.hid (bel_on BB hb)
  have HO := Lib.hid (row_lower ho BB.size)
  obtain ⟨b, hbe⟩ : ∃ b, (!l.isEmpty) = b := ⟨_, rfl⟩
  have HBE := Lib.hid hbe
  rw [hbe]
  clear l0 B0 BB hb ho hbe
  go_wp2_with fail
  refine (nreverse_any w.heap.size v l w2 HO.out HS.out).mono ?_
  rintro e w3 ⟨rfl, ho3, hb3⟩
  have HO3 := Lib.hid ho3
  have HB3 := Lib.hid hb3
  clear ho3 hb3
  go_wp2_with fail
  go_ret2
  refine ⟨v, by rw [HE.out, HBE.out]; rfl, ?_, HB.out.trans HB3.out⟩
  rw [HL.out, HP.out]
  exact HO3.out

theorem wfirst_any (t : Tr) (r j : Int) (ht : Tre t) : Gives Try.prog 11 #[.agg (treC t).toArray, .int .i64 r, .int .i64 j] (.int .i64 (firstT t r j)) := fun w => by
  have PA := Lib.hid (fun w => wpath_any t r j ht w)
  have HS := Lib.hid (path_short t r j)
  have HD : Hid (firstT t r j = secL (pathT t r j)) := Lib.hid rfl
  generalize firstT t r j = h at HD ⊢
  generalize pathT t r j = l at PA HS HD
  have HT := Lib.hid ht
  clear ht
  go_enter Try.func11, Try.ntmps11
  go_upto_region 1 with fail
  obtain ⟨B0, BB⟩ := tbox_new w t
  obtain ⟨w1, hw1⟩ : ∃ v, w.alloc (.cells (treC t).toArray 26) = v := ⟨_, rfl⟩
  rw [hw1] at B0 BB ⊢
  clear hw1
  have l0 := tre_load B0 HT.out
  go_wp2_with fail
  refine (PA.out _).mono ?_
  rintro e w2 hp
  obtain ⟨a, c, rfl, ho, hb⟩ := hp.at (Nat.le_refl _)
  have HB := Lib.hid (bel_on BB hb)
  have HN := Lib.hid (NatAt.own ho)
  obtain ⟨n, hn⟩ : ∃ n, l.length = n := ⟨_, rfl⟩
  have HL := Lib.hid hn
  rw [hn]
  clear l0 B0 BB hb hp ho hn
  by_cases h1 : n ≤ 1
  · have HE : Hid (h = -1) := Lib.hid (by rw [HD.out, sec_short (by rw [HL.out]; exact h1)])
    have hd : decide ((n : Int) ≤ 1) = true := decide_eq_true (by omega)
    go_wp2_with fail
    go_ret
    exact ⟨by rw [HE.out]; rfl, HB.out⟩
  · obtain ⟨x, hx⟩ : ∃ x, l[1]? = some x := ⟨_, List.getElem?_eq_getElem (by have := HL.out; omega)⟩
    obtain ⟨g, rfl, _, c1⟩ := HN.out.read hx
    have HE : Hid (h = (x : Int)) := Lib.hid (by rw [HD.out, sec_at hx])
    have hd : decide ((n : Int) ≤ 1) = false := decide_eq_false (by omega)
    have hd2 : (1 : Int) < (n : Int) := by omega
    clear hx
    go_wp2_with fail
    go_ret
    exact ⟨by rw [HE.out]; rfl, HB.out⟩
end Go.Proofs.Ytjpbglbbeepmnaa
