/- The contract of pack.Num. -/
import Derived.Test.YtdpcpjloacifpaaBase
import Derived.Test.YtdpcpjloacifpaaPackF
namespace Go.Proofs.Ytdpcpjloacifpaa
open Go.RowKit

theorem numK_le (k : Int) : PackF.numK k ≤ 8 := by unfold PackF.numK; omega
theorem numK_int (k : Int) : ((PackF.numK k : Nat) : Int) = min (max k 0) 8 := by unfold PackF.numK; omega

/-- The row of bytes of Num, behind so many rounds. -/
def numRow (n i j : Nat) : List Value := List.replicate i (.int .u8 0) ++ (PackF.numL n j).map fun b => .int .u8 (b.toNat : Int)
theorem numRow_step (n i j : Nat) : (numRow n (i + 1) j).set i (.int .u8 ((n : Int) / 256 ^ j % 256)) = numRow n i (j + 1) := by
  have e : (UInt8.ofNat (n / 256 ^ j)).toNat = n / 256 ^ j % 256 := by simp
  have e2 : (n : Int) / 256 ^ j % 256 = ((n / 256 ^ j % 256 : Nat) : Int) := by simp
  rw [e2]
  unfold numRow
  rw [List.replicate_succ', List.append_assoc, List.set_append_right _ _ (by simp)]
  simp [PackF.numL, e]
theorem num_shift (n j : Nat) : (n : Int) / 256 ^ j / 256 = ((n / 256 ^ (j + 1) : Nat) : Int) := by
  rw [Nat.pow_succ, ← Nat.div_div_eq_div_mul]; simp
theorem numRow_end (n j : Nat) : numRow n 0 j = (PackF.numL n j).map fun b => .int .u8 (b.toNat : Int) := rfl

theorem Try.info5 : (Try.prog.info? 5).map (fun i => (i.zero, i.size, i.bytes)) = some (some (.int .u8 0), 1, 1) := by kernel_rfl

set_option maxHeartbeats 400000 in
theorem num_any (n : Nat) (k : Int) (w : World) (_hn : n < 18446744073709551616) :
    Calls Try.prog 16 #[.int .u64 (n : Int), .int .i64 k] w fun e w' => e = .returned (.string (str (PackF.numL n (PackF.numK k)))) ∧ Below w.heap.size w w' := by
  have hle := numK_le k
  have hK := Lib.hid (numK_int k)
  go_enter Try.func16, Try.ntmps16
  go_upto_region 1 with fail
  go_cut [1] (fun s1 wx => s1 = .int .i64 (PackF.numK k : Nat) ∧ w = wx)
  case first =>
    go_wp2
    all_goals (go_meet; exact ⟨congrArg _ (by have := hK.out; omega), rfl⟩)
  case rest =>
    obtain ⟨rfl, rfl⟩ := hcut
    obtain ⟨m, hm⟩ : ∃ m, m = PackF.numK k := ⟨_, rfl⟩
    rw [← hm] at hle ⊢
    have HM := Lib.hid hm
    clear hK hm
    have hmk := run_make_row' (P := Try.prog) 52 5 (.int .u8 0) 1 Try.underlying52 Try.info5 rfl .i64 .i64 m (by omega) (by omega)
    have hown0 : (w.alloc (.cells (madeCells #[.int .u8 0] m) 5)).ownsRow w.heap.size 5 1 (.slice (some ⟨w.heap.size, 0, none⟩) m m) m (numRow n m 0) := by
      have h := World.ownsRow_lit (base := w.heap.size) (size := 1) (e := 5) w (madeCells #[.int .u8 0] m) m (Nat.le_refl _) (by unfold maxLen; omega) (by rw [size_madeCells, Nat.mul_one])
      rw [toList_madeCells_one] at h
      have e : numRow n m 0 = List.replicate m (.int .u8 0) := by unfold numRow; simp [PackF.numL]
      rw [e]; exact h
    have HO := Lib.hid hown0
    clear hown0
    go_wp2
    go_loopw [0, 6] (fun c t wr => ∃ i j : Nat, i + j ≤ m ∧ m ≤ i + j ∧ c = .int .u64 (n / 256 ^ j : Nat) ∧ t = .int .i64 ((i : Int) - 1) ∧
        wr.ownsRow w.heap.size 5 1 (.slice (some ⟨w.heap.size, 0, none⟩) m m) m (numRow n i j) ∧ Below w.heap.size w wr)
      (fun _ t _ => (intOf t + 1).toNat)
    case atStart => exact ⟨m, 0, by omega, by omega, by simp, rfl, HO.out, (Below.refl _ _).alloc (Nat.le_refl _) _⟩
    case round =>
      obtain ⟨i, j, h1, h2, rfl, rfl, hown, hbel⟩ := hrel
      have HO := Lib.hid hown
      rcases i with _ | i
      · obtain rfl : m = j := by omega
        have hcv := run_convert_bytes_back (P := Try.prog) wr 52 9 5 ⟨w.heap.size, 0, none⟩ m (PackF.numL n m) Try.underlying52 Try.underlying5 Try.underlying9
          (fun t ht => by rw [hown.cells rfl t (.int .u8 ((PackF.numL n m)[t].toNat : Int)) (by rw [numRow_end]; simp [ht])])
        rw [PackF.numL_length] at hcv
        clear hown
        go_wp2
        go_ret
        exact ⟨by rw [← HM.out]; rfl, hbel⟩
      · have e0 : (((i + 1 : Nat) : Int) - 1) = (i : Int) := by omega
        rw [e0]
        have hc0 := hown.cellAt i (by omega)
        have hf0 := hown.frozenAt i
        have hst := hown.stored i (.int .u8 ((n : Int) / 256 ^ j % 256))
        rw [numRow_step] at hst
        have HST := Lib.hid hst
        clear hst hown
        obtain ⟨cv, hcv⟩ : ∃ cv, wr.cell? ⟨w.heap.size, i, none⟩ = some cv := ⟨_, hc0.trans (List.getElem?_eq_getElem (by simp [numRow]; omega))⟩
        clear hc0
        go_wp2
        go_roundw
        case rel => exact ⟨i, j + 1, by omega, by omega, congrArg _ (num_shift n j), rfl, HST.out.1, hbel.setCell (Nat.le_refl _) _⟩
        case measure => simp [intOf]
end Go.Proofs.Ytdpcpjloacifpaa
