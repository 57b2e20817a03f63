/- What the statement RingFirst asks: texts of one byte, in their order. The room. No function is named here. -/
import Derived.Test.YtogmneidfoedbaaBase
namespace Go.Proofs.Ytogmneidfoedbaa
def byteS (j : Nat) : ByteArray := str [UInt8.ofNat j]
def tx (o : Nat) : Nat → List ByteArray
  | 0 => []
  | d + 1 => byteS o :: tx (o + 1) d
theorem tx_snoc (o d : Nat) : tx o d ++ [byteS (o + d)] = tx o (d + 1) := by
  induction d generalizing o with
  | zero => rfl
  | succ d ih =>
    show byteS o :: (tx (o + 1) d ++ [byteS (o + (d + 1))]) = byteS o :: tx (o + 1) (d + 1)
    rw [← ih (o + 1), show o + 1 + d = o + (d + 1) by omega]
theorem tx_length (o d : Nat) : (tx o d).length = d := by
  induction d generalizing o with
  | zero => rfl
  | succ d ih => show (tx (o + 1) d).length + 1 = d + 1; rw [ih]
theorem byteS_nat (j : Nat) (h : j < 256) : ((UInt8.ofNat j).toNat : Int) = (j : Int) := by
  simp; omega
open Go.RowKit in
theorem room_is (r : Int) : ∃ R : Nat, wrap64 (1 + wrap64 ((IntKind.u64.wrap r).tmod 20)) = (R : Int) ∧ 1 ≤ R ∧ R ≤ 20 := by
  have h0 : 0 ≤ IntKind.u64.wrap r := by rw [IntKind.wrap_u64]; exact Int.emod_nonneg _ (by decide)
  rw [Int.tmod_eq_emod_of_nonneg h0]
  generalize IntKind.u64.wrap r = x at *
  have h1 : 0 ≤ x % 20 ∧ x % 20 < 20 := by omega
  rw [IntWalk.wrap64_in (x % 20) (by omega), IntWalk.wrap64_in _ (by omega)]
  exact ⟨(1 + x % 20).toNat, by omega, by omega, by omega⟩
theorem meas_n (n i : Nat) (v : Int) (hv : v = (i : Int) + 1) (h : i < n) : (n - Go.RowKit.intOf (.int .i64 v)).toNat < (n - Go.RowKit.intOf (.int .i64 (i : Int))).toNat := by
  subst hv
  simp [Go.RowKit.intOf]; omega
end Go.Proofs.Ytogmneidfoedbaa
