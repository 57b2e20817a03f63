/- The contract of gauge.Sorted. -/
import Derived.Test.YtjoeeaagjcpdpaaGaugeI
import Derived.Laws.AppendOwnNone
namespace Go.Proofs.Ytjoeeaagjcpdpaa
open Go.RowKit

/-- All of l, in order. -/
def IsSort (l s : List Nat) : Prop := s.Perm l ∧ (s.map GaugeF.key).Pairwise (· ≤ ·)
def SortedTo (l : List Nat) (w : World) (e : Ending) (w' : World) : Prop := ∃ v s, e = .returned v ∧ IsSort l s ∧ w'.ownsRow w.heap.size 22 1 v s.length (flV s) ∧ Below w.heap.size w w'

theorem isSort_of {l : List Nat} {d' : Array Nat} (hp : Sort.PermIn 0 l.length l.toArray d') (hs : Srt (fn d') 0 l.length) : IsSort l d'.toList := by
  have hz : d'.size = l.length := by have := hp.1; simpa using this
  refine ⟨?_, ?_⟩
  · have h := hp.2.2
    rw [← hz] at h
    have e1 : d'.extract 0 d'.size = d' := by simp
    have e2 : l.toArray.extract 0 d'.size = l.toArray := by rw [hz]; simp
    rw [e1, e2] at h
    simpa using h
  · rw [List.pairwise_iff_getElem]
    intro i j hi hj hij
    simp only [List.length_map, Array.length_toList] at hi hj
    have := hs i j (by omega) hij (by omega)
    unfold fn at this
    rw [getElem!_pos d' i hi, getElem!_pos d' j hj] at this
    simpa using this
theorem isSort_nil : IsSort [] [] := ⟨List.Perm.refl _, by simp⟩

theorem sorted_none (w : World) : Calls Try.prog 15 #[.slice none 0 0] w (SortedTo [] w) := by
  obtain ⟨i0, hi, hz0, hz1, hz2⟩ := info_parts Try.info22
  have hown := World.ownsRow_nil w w.heap.size 22 1
  go_enter Try.func15, Try.ntmps15
  go_wp2_with (at_builtin; refine wpList_append_own_none rfl (.tmp 4) (.tmp 5) 37 rfl w.heap.size 22 i0 1 Try.underlying37 hi _ 0 [] rfl hown rfl ?_)
  ((with_reducible refine (stable_none none 0 _ _).mono ?_); skip)
  rintro e w1 ⟨rfl, rfl⟩
  go_wp2_with fail
  go_ret
  exact ⟨_, [], rfl, isSort_nil, hown, Below.refl _ _⟩

set_option maxHeartbeats 400000 in
theorem sorted_some (b : Addr) (c : Nat) (l : List Nat) (w : World) (hl : FlAt w (some b) l) (hsz : l.length ≤ 1000) :
    Calls Try.prog 15 #[.slice (some b) l.length c] w (SortedTo l w) := by
  obtain ⟨i0, hi, hz0, hz1, hz2⟩ := info_parts Try.info22
  have hown := World.ownsRow_nil w w.heap.size 22 1
  have hnews : ∀ j u, (flV l)[j]? = some u → w.cell? (b.add j) = some u := fun j u hj => by
    unfold flV at hj
    rw [List.getElem?_map] at hj
    obtain ⟨x, hx, rfl⟩ := Option.map_eq_some_iff.1 hj
    obtain ⟨_, b', hb', hc⟩ := hl j x hx
    cases hb'; exact hc
  have hone : ∀ u ∈ flV l, u.oneCell' = true := fun u hu => by
    unfold flV at hu
    obtain ⟨x, _, rfl⟩ := List.mem_map.1 hu
    rfl
  have hlw : ∀ k : Nat, l.toArray[k]! < 18446744073709551616 := fun k => by
    by_cases hk : k < l.length
    · rw [getElem!_pos _ k (by simpa using hk)]
      exact (hl k _ (by simp [hk])).1
    · rw [getElem!_neg _ _ (by simpa using hk)]; decide
  have HN := Lib.hid hnews
  have HO := Lib.hid hone
  have HW := Lib.hid hlw
  have HL := Lib.hid (flV_length l)
  clear hnews hone hlw hl
  obtain ⟨m, hm⟩ : ∃ m, l.length = m := ⟨_, rfl⟩
  rw [hm] at hsz HL ⊢
  have HM := Lib.hid hm
  clear hm
  go_enter Try.func15, Try.ntmps15
  go_wp2_with (at_builtin; refine wpList_append_own _ rfl (.tmp 4) (.tmp 5) 37 rfl w.heap.size 22 i0 (.float .f64 0) 1 8 Try.underlying37 hi hz0 hz1 hz2 rfl (by decide) _ 0 [] rfl hown b m c (flV l) rfl (by rw [HL.out, Nat.mul_one]) HN.out HO.out (by unfold maxLen; omega) (by omega) (Nat.le_refl _) ?_; intro v1 w1 hown1 hg1 hnil)
  have hb1 : Below w.heap.size w w1 := (Below.refl _ _).grown hg1 (Nat.le_refl _) (fun k hk => (hown.lt k hk).1)
  rw [Nat.zero_add, List.nil_append] at hown1
  by_cases h0 : m = 0
  · obtain rfl := hnil.2 ⟨rfl, h0⟩
    have hM := HM.out
    have hl0 : l = [] := List.eq_nil_of_length_eq_zero (by omega)
    have HB := Lib.hid hb1
    have HX := Lib.hid hl0
    clear hown1 hg1 hnil hb1 h0 hM hl0
    ((with_reducible refine (stable_none none 0 _ _).mono ?_); skip)
    rintro e w2 ⟨rfl, rfl⟩
    go_wp2_with fail
    go_ret
    rw [HX.out]
    exact ⟨_, [], rfl, isSort_nil, World.ownsRow_nil _ _ _ _, HB.out⟩
  · obtain ⟨g, c1, rfl⟩ := own_some hown1 (by omega)
    have hO : OwnA w1 w.heap.size g c1 l.toArray := ⟨by
      have e : l.toArray.size = m := by simpa using HM.out
      rw [e]; exact hown1, HW.out⟩
    have HO1 := Lib.hid hO
    have HB := Lib.hid hb1
    clear hown1 hg1 hnil hb1 hO
    ((with_reducible refine (stable_at w.heap.size g c1 l.toArray _ HO1.out (by simpa using HM.out) hsz).mono ?_); skip)
    rintro e w2 ⟨d', rfl, ⟨p1, s1⟩, o2, b2⟩
    have P1 := Lib.hid p1
    have S1 := Lib.hid s1
    have O2 := Lib.hid o2
    have B2 := Lib.hid (HB.out.trans b2)
    clear p1 s1 o2 b2
    go_wp2_with fail
    go_ret
    have hs : IsSort l d'.toList := isSort_of (by rw [HM.out]; exact P1.out) (by rw [HM.out]; exact S1.out)
    have hz : d'.size = m := by have := P1.out.1; have := HM.out; simp_all
    refine ⟨_, d'.toList, rfl, hs, ?_, B2.out⟩
    have := O2.out.1
    rw [hz] at this
    rw [Array.length_toList, hz]
    exact this
end Go.Proofs.Ytjoeeaagjcpdpaa
