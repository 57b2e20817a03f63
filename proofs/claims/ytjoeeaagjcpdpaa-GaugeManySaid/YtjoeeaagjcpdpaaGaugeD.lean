/- Slices of floats; the contracts of gauge.allFine, Spread, and the statements' example (awake). -/
import Derived.Test.YtjoeeaagjcpdpaaGaugeC
namespace Go.Proofs.Ytjoeeaagjcpdpaa
open Go.RowKit

theorem Try.info22 : (Try.prog.info? 22).map (fun i => (i.zero, i.size, i.bytes)) = some (some (.float .f64 0), 1, 8) := by kernel_rfl
/-- Floats as cells. -/
def flV (l : List Nat) : List Value := l.map fun (n : Nat) => .float .f64 n
theorem flV_length (l : List Nat) : (flV l).length = l.length := by simp [flV]
theorem flV_snoc (l : List Nat) (n : Nat) : flV (l ++ [n]) = flV l ++ [.float .f64 n] := by simp [flV]
theorem flV_at {l : List Nat} {i x : Nat} (h : l[i]? = some x) : (flV l)[i]? = some (.float .f64 x) := by simp [flV, h]
/-- A new slice of these floats. -/
def OwnFls (l : List Nat) (w : World) (e : Ending) (w' : World) : Prop := ∃ v, e = .returned v ∧ w'.ownsRow w.heap.size 22 1 v l.length (flV l) ∧ Below w.heap.size w w'
/-- A slice reads as these floats. -/
def FlAt (w : World) (a : Option Addr) (l : List Nat) : Prop := ∀ i x, l[i]? = some x → x < 18446744073709551616 ∧ ∃ b, a = some b ∧ w.cell? (b.add i) = some (.float .f64 x)
theorem flAt_later {w w' : World} {a : Option Addr} {l : List Nat} (h : FlAt w a l) (hb : Below w.heap.size w w') : FlAt w' a l := fun i x hi => by
  obtain ⟨h1, b, h2, h3⟩ := h i x hi
  exact ⟨h1, b, h2, cell_later hb h3⟩
theorem own_slice {w : World} {B e size n : Nat} {v : Value} {xs : List Value} (h : w.ownsRow B e size v n xs) : ∃ a c, v = .slice a n c := by
  rcases h.2 with ⟨rfl, rfl⟩ | ⟨g, cap, cur, rfl, _⟩
  · exact ⟨_, _, rfl⟩
  · exact ⟨_, _, rfl⟩
theorem own_some {w : World} {B e size n : Nat} {v : Value} {xs : List Value} (h : w.ownsRow B e size v n xs) (hn : 0 < n) : ∃ g c, v = .slice (some ⟨g, 0, none⟩) n c := by
  rcases h.2 with ⟨rfl, rfl⟩ | ⟨g, cap, cur, rfl, _⟩
  · omega
  · exact ⟨_, _, rfl⟩
theorem flAt_own {w : World} {B c : Nat} {a : Option Addr} {l : List Nat} (h : w.ownsRow B 22 1 (.slice a l.length c) l.length (flV l)) (hl : ∀ x ∈ l, x < 18446744073709551616) : FlAt w a l := fun i x hi => by
  have hlt := (List.getElem?_eq_some_iff.1 hi).1
  refine ⟨hl x (List.mem_of_getElem? hi), ?_⟩
  obtain ⟨g, c', hg⟩ := own_some h (by omega)
  simp only [Value.slice.injEq, true_and] at hg
  obtain ⟨rfl, rfl⟩ := hg
  refine ⟨_, rfl, ?_⟩
  have := (h.cellAt i (by omega)).trans (flV_at hi)
  rw [← this]
  unfold Addr.add
  split
  · rename_i e; rw [e]
  · simp

set_option maxRecDepth 100000 in
set_option maxHeartbeats 400000 in
theorem allfine_any (a : Option Addr) (c : Nat) (l : List Nat) (w : World) (hl : FlAt w a l) (hsz : l.length ≤ 1000) :
    Calls Try.prog 32 #[.slice a l.length c] w (OwnFls (l.filter GaugeF.fineB) w) := by
  obtain ⟨i0, hi, hz0, hz1, hz2⟩ := info_parts Try.info22
  obtain ⟨n, hn⟩ : ∃ n, l.length = n := ⟨_, rfl⟩
  rw [hn] at hsz ⊢
  have HN := Lib.hid hn
  have HL := Lib.hid hl
  clear hn hl
  go_enter Try.func32, Try.ntmps32
  go_wp2
  go_loopw [3, 8] (fun v c wr => ∃ (pre : List Nat) (k : Nat), c = .int .i64 (k : Int) ∧ k ≤ n ∧ pre.length ≤ k ∧ pre = (l.take k).filter GaugeF.fineB ∧
      wr.ownsRow w.heap.size 22 1 v pre.length (flV pre) ∧ Below w.heap.size w wr)
    (fun _ c _ => (n - intOf c).toNat)
  case atStart => exact ⟨[], 0, rfl, by omega, by simp, by simp, World.ownsRow_nil _ _ _ _, Below.refl _ _⟩
  case round =>
    obtain ⟨pre, k, rfl, hk, hpk, heq, hown, hbel⟩ := hrel
    have HEQ := Lib.hid heq
    have hsz := hbel.size
    have HBL := Lib.hid hbel
    clear heq hbel
    by_cases h : k < n
    · obtain ⟨x, hx⟩ : ∃ x, l[k]? = some x := ⟨_, List.getElem?_eq_getElem (by rw [HN.out]; exact h)⟩
      obtain ⟨hw, b, rfl, hc⟩ := flAt_later HL.out HBL.out k x hx
      have HT : Hid (l.take (k + 1) = l.take k ++ [x]) := Lib.hid (by rw [List.take_add_one, hx]; rfl)
      clear hx
      cases hb : GaugeF.fineB x
      · have HB := Lib.hid hb
        clear hb
        go_wp2_with fail
        refine (fine_is _ hw HB.out).mono ?_
        rintro e w1 ⟨rfl, rfl⟩
        go_wp2_with fail
        go_roundw
        case rel => exact ⟨pre, k + 1, by go_num, by omega, by omega, by rw [HT.out, List.filter_append, HEQ.out]; simp [HB.out], hown, HBL.out⟩
        case measure => simp [intOf]; omega
      · have HB := Lib.hid hb
        clear hb
        go_wp2_with fail
        refine (fine_is _ hw HB.out).mono ?_
        rintro e w1 ⟨rfl, rfl⟩
        go_wp2_with (at_builtin; refine wpList_append_own _ rfl (.tmp 14) (.tmp 16) 37 rfl w.heap.size 22 i0 (.float .f64 0) 1 8 Try.underlying37 hi hz0 hz1 hz2 rfl (by decide) _ _ _ rfl (hown.alloc _) ⟨wr.heap.size, 0, none⟩ 1 1 [_] rfl rfl (cell_one_new _ _ _) (by simp [Value.oneCell']) (by unfold maxLen; omega) (by omega) (by simp; omega) ?_; intro v1 w1 hown1 hg1 _)
        go_roundw
        case rel =>
          exact ⟨pre ++ [x], k + 1, by go_num, by omega, by rw [List.length_append]; simp; omega, by rw [HT.out, List.filter_append, HEQ.out]; simp [HB.out], by rw [flV_snoc, List.length_append]; exact hown1,
            (HBL.out.alloc hsz _).grown hg1 (by simp; omega) (fun k hk => (hown.lt k hk).1)⟩
        case measure => simp [intOf]; omega
    · obtain rfl : k = n := by omega
      go_wp2
      go_ret
      have e : pre = l.filter GaugeF.fineB := by rw [HEQ.out, ← HN.out, List.take_length]
      subst e
      exact ⟨_, rfl, hown, HBL.out⟩
end Go.Proofs.Ytjoeeaagjcpdpaa
