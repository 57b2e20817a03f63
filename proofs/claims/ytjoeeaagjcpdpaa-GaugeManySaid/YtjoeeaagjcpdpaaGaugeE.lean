/- The contract of gauge.Spread, and the statements' example (awake). -/
import Derived.Test.YtjoeeaagjcpdpaaGaugeD
namespace Go.Proofs.Ytjoeeaagjcpdpaa
open Go.RowKit

/-- min and max of two, where neither is NaN. -/
def minF (x y : Nat) : Option Nat :=
  match FloatKind.f64.format.order x y with
  | none => none
  | some .lt => some x
  | some .gt => some y
  | some .eq => some (if (FloatKind.f64.decode x).neg then x else y)
def maxF (x y : Nat) : Option Nat :=
  match FloatKind.f64.format.order x y with
  | none => none
  | some .lt => some y
  | some .gt => some x
  | some .eq => some (if (FloatKind.f64.decode x).neg then y else x)
theorem run_min_fl {P : Program} (w : World) (ts : Array TypeId) (t : TypeId) (x y r : Nat) (h : minF x y = some r) : (Builtin.min_ ts t #[.float .f64 x, .float .f64 y]).run P w = .ok (.float .f64 r) w := by
  unfold minF at h
  split at h <;> rename_i e <;> first | (cases h; done) | skip
  all_goals (cases h; simp [Builtin.min_, Builtin.min2, e])
theorem run_max_fl {P : Program} (w : World) (ts : Array TypeId) (t : TypeId) (x y r : Nat) (h : maxF x y = some r) : (Builtin.max_ ts t #[.float .f64 x, .float .f64 y]).run P w = .ok (.float .f64 r) w := by
  unfold maxF at h
  split at h <;> rename_i e <;> first | (cases h; done) | skip
  all_goals (cases h; simp [Builtin.max_, Builtin.max2, e])

theorem fold_next {f : Nat → Nat → Option Nat} {l : List Nat} {s r : Nat} (h : l.foldlM f s = some r) {k x : Nat} (hx : l[k]? = some x) {u : Nat} (hu : (l.take k).foldlM f s = some u) : ∃ v, f u x = some v ∧ (l.take (k + 1)).foldlM f s = some v := by
  have ht : l.take (k + 1) = l.take k ++ [x] := by rw [List.take_add_one, hx]; rfl
  have hd : l = l.take (k + 1) ++ l.drop (k + 1) := (List.take_append_drop _ _).symm
  rw [hd, List.foldlM_append, ht, List.foldlM_append, hu] at h
  rw [ht, List.foldlM_append, hu]
  cases e : f u x with
  | none => simp [e] at h
  | some v => exact ⟨v, rfl, by simp [e]⟩

set_option maxRecDepth 100000 in
set_option maxHeartbeats 400000 in
theorem spread_is (a : Option Addr) (c : Nat) (l : List Nat) (lo hg m : Nat) (w : World) (hl : FlAt w a l) (hsz : l.length ≤ 1000)
    (h1 : (l.filter GaugeF.fineB).foldlM minF 9218868437227405312 = some lo) (h2 : (l.filter GaugeF.fineB).foldlM maxF 18442240474082181120 = some hg) (h3 : (l.filter GaugeF.fineB).length = m) :
    Calls Try.prog 27 #[.slice a l.length c] w fun e w' => e = .returned (.tuple #[.float .f64 lo, .float .f64 hg, .int .i64 (m : Int)]) ∧ Below w.heap.size w w' := by
  have hfb : ∀ x ∈ l.filter GaugeF.fineB, x < 18446744073709551616 := fun x hx => by
    have := of_decide_eq_true (List.mem_filter.1 hx).2
    omega
  have hm : m ≤ 1000 := by have := List.length_filter_le GaugeF.fineB l; omega
  obtain ⟨L, hL⟩ : ∃ L, l.filter GaugeF.fineB = L := ⟨_, rfl⟩
  rw [hL] at h1 h2 h3 hfb
  obtain ⟨n, hn⟩ : ∃ n, l.length = n := ⟨_, rfl⟩
  have HA := Lib.hid (fun w0 (h0 : FlAt w0 a l) => allfine_any a c l w0 h0 hsz)
  rw [hL, hn] at HA
  rw [hn]
  have H0 := Lib.hid hl
  have H1 := Lib.hid h1
  have H2 := Lib.hid h2
  have H3 := Lib.hid h3
  have HF := Lib.hid hfb
  clear hn hL hl h1 h2 h3 hfb hsz
  go_enter Try.func27, Try.ntmps27
  go_wp2_with fail
  refine (inf_pos _).mono ?_
  rintro e w1 ⟨rfl, rfl⟩
  go_wp2_with fail
  refine (inf_neg _).mono ?_
  rintro e w1 ⟨rfl, rfl⟩
  go_wp2_with fail
  refine (HA.out _ H0.out).mono ?_
  rintro e w1 ⟨v1, rfl, o1, hb1⟩
  rw [H3.out] at o1
  obtain ⟨a1, c1, rfl⟩ := own_slice o1
  have F1 : Hid (FlAt w1 a1 L) := Lib.hid (flAt_own (l := L) (by rw [H3.out]; exact o1) HF.out)
  have HB := Lib.hid hb1
  clear o1 hb1
  go_wp2_with fail
  go_loop [5, 6, 16] (fun x y i => ∃ (k u v : Nat), i = .int .i64 (k : Int) ∧ k ≤ m ∧ x = .float .f64 u ∧ y = .float .f64 v ∧ Hid ((L.take k).foldlM minF 9218868437227405312 = some u) ∧ Hid ((L.take k).foldlM maxF 18442240474082181120 = some v))
    (fun _ _ i => (m - intOf i).toNat)
  case atStart => exact ⟨0, _, _, rfl, by omega, rfl, rfl, Lib.hid rfl, Lib.hid rfl⟩
  case round =>
    obtain ⟨k, u, v, rfl, hk, rfl, rfl, hu, hv⟩ := hrel
    by_cases h : k < m
    · obtain ⟨x, hx⟩ : ∃ x, L[k]? = some x := ⟨_, List.getElem?_eq_getElem (by rw [H3.out]; exact h)⟩
      obtain ⟨hw, b, rfl, hc⟩ := F1.out k x hx
      obtain ⟨u1, hu1, hu2⟩ := fold_next H1.out hx hu.out
      obtain ⟨v1, hv1, hv2⟩ := fold_next H2.out hx hv.out
      have m1 : ∀ ts t w, (Builtin.min_ ts t #[.float .f64 u, .float .f64 x]).run Try.prog w = .ok (.float .f64 u1) w := fun ts t w => run_min_fl w ts t u x u1 hu1
      have m2 : ∀ ts t w, (Builtin.max_ ts t #[.float .f64 v, .float .f64 x]).run Try.prog w = .ok (.float .f64 v1) w := fun ts t w => run_max_fl w ts t v x v1 hv1
      have M1 := Lib.hid m1
      have M2 := Lib.hid m2
      have U2 := Lib.hid hu2
      have V2 := Lib.hid hv2
      clear hx hu1 hu2 hv1 hv2 hu hv m1 m2
      go_wp2_with (simp only [M1.out, M2.out])
      go_round
      case rel => exact ⟨k + 1, u1, v1, by go_num, by omega, rfl, rfl, U2, V2⟩
      case measure => simp [intOf]; omega
    · obtain rfl : k = m := by omega
      have hu := hu.out
      have hv := hv.out
      rw [List.take_of_length_le (by rw [H3.out]; exact Nat.le_refl _)] at hu hv
      obtain rfl : u = lo := Option.some.inj (hu.symm.trans H1.out)
      obtain rfl : v = hg := Option.some.inj (hv.symm.trans H2.out)
      clear hu hv
      go_wp2
      go_ret3
      exact ⟨rfl, HB.out⟩
end Go.Proofs.Ytjoeeaagjcpdpaa
