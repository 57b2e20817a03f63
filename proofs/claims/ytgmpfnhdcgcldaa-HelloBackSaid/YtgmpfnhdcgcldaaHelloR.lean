/- Contracts of package hello, part R: Right, and the document's own. -/
import Derived.Test.YtgmpfnhdcgcldaaEpochN
import Derived.Test.YtgmpfnhdcgcldaaBlk
import Derived.Test.YtgmpfnhdcgcldaaREpochN
import Derived.Test.YtgmpfnhdcgcldaaNodesR
import Derived.Test.YtgmpfnhdcgcldaaRNodesR
namespace Go.Proofs.Ytgmpfnhdcgcldaa
open Go.RowKit

/-- Whether a number is a node. -/
def nodeF (n : Int) : Bool := decide (0 ≤ n) && decide (n < 16)
theorem nodeF_in {n : Int} (h : nodeF n = true) : 0 ≤ n ∧ n < 16 := by simpa [nodeF] using h
theorem nodeF_out {n : Int} (h : nodeF n = false) : n < 0 ∨ 16 ≤ n := by
  by_cases h0 : n < 0
  · exact .inl h0
  · by_cases h1 : 16 ≤ n
    · exact .inr h1
    · have : nodeF n = true := by simp [nodeF]; omega
      rw [h] at this; cases this
theorem nright_any (n : Int) (w : World) : Calls Try.prog 26 #[.int .i64 n] w fun e w' => e = .returned (.bool (nodeF n)) ∧ Below w.heap.size w w' := by
  cases h : nodeF n with
  | true =>
    obtain ⟨h0, h1⟩ := nodeF_in h
    obtain ⟨m, rfl⟩ := Int.eq_ofNat_of_zero_le h0
    exact (right_in m w (by omega)).mono fun e w' ⟨he, hw⟩ => ⟨he, hw ▸ Below.refl _ _⟩
  | false => exact (right_out n w (nodeF_out h)).mono fun e w' ⟨he, hw⟩ => ⟨he, hw ▸ Below.refl _ _⟩
theorem rnright_any (n : Int) (w : World) : Calls Try.prog 27 #[.int .i64 n] w fun e w' => e = .returned (.bool (nodeF n)) ∧ Below w.heap.size w w' := by
  cases h : nodeF n with
  | true =>
    obtain ⟨h0, h1⟩ := nodeF_in h
    obtain ⟨m, rfl⟩ := Int.eq_ofNat_of_zero_le h0
    exact (rright_in m w (by omega)).mono fun e w' ⟨he, hw⟩ => ⟨he, hw ▸ Below.refl _ _⟩
  | false => exact (rright_out n w (nodeF_out h)).mono fun e w' ⟨he, hw⟩ => ⟨he, hw ▸ Below.refl _ _⟩

/-- Whether a hello is right. -/
def rightF (f a b : Int) : Bool := nodeF f && !(a == 0 && b == 0)
theorem rightF_of {f a b : Int} {r s : Bool} (h1 : nodeF f = r) (h2 : (a == 0 && b == 0) = s) : rightF f a b = (r && !s) := by unfold rightF; rw [h1, h2]
theorem rightF_in {f a b : Int} (h : rightF f a b = true) : (0 ≤ f ∧ f < 16) ∧ ¬ (a = 0 ∧ b = 0) := by
  unfold rightF at h
  rw [Bool.and_eq_true] at h
  exact ⟨nodeF_in h.1, fun e => by simp [e] at h⟩

theorem hright_any (f a b c d : Int) (w : World) : Calls Try.prog 11 #[(.agg #[.int .i64 f, .int .u32 a, .int .u32 b, .int .u32 c, .int .u32 d] : Value)] w fun e w' => e = .returned (.bool (rightF f a b)) ∧ Below w.heap.size w w' := by
  obtain ⟨r, hr⟩ : ∃ r, nodeF f = r := ⟨_, rfl⟩
  obtain ⟨s, hs⟩ : ∃ s, (a == 0 && b == 0) = s := ⟨_, rfl⟩
  have HV := Lib.hid (rightF_of hr hs)
  have N := Lib.hid (nright_any f)
  have M := Lib.hid (none_any a b)
  rw [hr] at N
  rw [hs] at M
  clear hr hs
  have b0 := Blk.new w [.int .i64 f, .int .u32 a, .int .u32 b, .int .u32 c, .int .u32 d] 28
  have HB : Hid (Below w.heap.size w (w.alloc (.cells #[.int .i64 f, .int .u32 a, .int .u32 b, .int .u32 c, .int .u32 d] 28))) := Lib.hid ((Below.refl _ _).alloc (Nat.le_refl _) _)
  rcases r with _ | _
  · go_enter Try.func11, Try.ntmps11
    go_wp2_with fail
    refine (N.out _).mono ?_
    rintro e w1 ⟨rfl, hb⟩
    have h1 := bel_on HB.out hb
    clear hb
    go_wp2_with fail
    go_ret
    exact ⟨by rw [HV.out]; rfl, h1⟩
  · go_enter Try.func11, Try.ntmps11
    go_wp2_with fail
    refine (N.out _).mono ?_
    rintro e w1 ⟨rfl, hb⟩
    have h1 := bel_on HB.out hb
    have b1 := b0.on hb
    have c1 := b1.cell 1 rfl
    have c2 := b1.cell 2 rfl
    clear hb b0 b1
    go_wp2_with fail
    refine (M.out _).mono ?_
    rintro e w2 ⟨rfl, hb⟩
    have h2 := bel_on h1 hb
    clear hb h1 c1 c2
    go_wp2_with fail
    go_ret
    exact ⟨by rw [HV.out]; rfl, h2⟩

theorem rhright_any (f a b c d : Int) (w : World) : Calls Try.prog 12 #[(.agg #[.int .i64 f, .int .u32 a, .int .u32 b, .int .u32 c, .int .u32 d] : Value)] w fun e w' => e = .returned (.bool (rightF f a b)) ∧ Below w.heap.size w w' := by
  obtain ⟨r, hr⟩ : ∃ r, nodeF f = r := ⟨_, rfl⟩
  obtain ⟨s, hs⟩ : ∃ s, (a == 0 && b == 0) = s := ⟨_, rfl⟩
  have HV := Lib.hid (rightF_of hr hs)
  have N := Lib.hid (rnright_any f)
  have M := Lib.hid (rnone_any a b)
  rw [hr] at N
  rw [hs] at M
  clear hr hs
  have b0 := Blk.new w [.int .i64 f, .int .u32 a, .int .u32 b, .int .u32 c, .int .u32 d] 28
  have HB : Hid (Below w.heap.size w (w.alloc (.cells #[.int .i64 f, .int .u32 a, .int .u32 b, .int .u32 c, .int .u32 d] 28))) := Lib.hid ((Below.refl _ _).alloc (Nat.le_refl _) _)
  rcases r with _ | _
  · go_enter Try.func12, Try.ntmps12
    go_wp2_with fail
    refine (N.out _).mono ?_
    rintro e w1 ⟨rfl, hb⟩
    have h1 := bel_on HB.out hb
    clear hb
    go_wp2_with fail
    go_ret
    exact ⟨by rw [HV.out]; rfl, h1⟩
  · go_enter Try.func12, Try.ntmps12
    go_wp2_with fail
    refine (N.out _).mono ?_
    rintro e w1 ⟨rfl, hb⟩
    have h1 := bel_on HB.out hb
    have b1 := b0.on hb
    have c1 := b1.cell 1 rfl
    have c2 := b1.cell 2 rfl
    clear hb b0 b1
    go_wp2_with fail
    refine (M.out _).mono ?_
    rintro e w2 ⟨rfl, hb⟩
    have h2 := bel_on h1 hb
    clear hb h1 c1 c2
    go_wp2_with fail
    go_ret
    exact ⟨by rw [HV.out]; rfl, h2⟩
end Go.Proofs.Ytgmpfnhdcgcldaa
