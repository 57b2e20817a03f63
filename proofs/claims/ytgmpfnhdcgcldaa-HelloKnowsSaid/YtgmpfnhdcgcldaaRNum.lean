/- The contract of the document's own Num. -/
import Derived.Test.YtgmpfnhdcgcldaaBase
import Derived.Test.YtgmpfnhdcgcldaaPackF
import Derived.Test.YtgmpfnhdcgcldaaPNum
namespace Go.Proofs.Ytgmpfnhdcgcldaa
open Go.RowKit

/-- A byte of a row that was made just now, as a text. -/
theorem one_byte {P : Program} (W : World) (c : UInt8) (src dst e : TypeId) (hs : P.underlying src = some (.slice e)) (he : P.underlying e = some (.int .u8)) (hd : P.underlying dst = some .string) :
    (convert src dst (.slice (some ⟨W.heap.size, 0, none⟩) 1 1)).run P (W.alloc (.cells #[.int .u8 (c.toNat : Int)] e)) = .ok (.string (str [c])) (W.alloc (.cells #[.int .u8 (c.toNat : Int)] e)) := by
  refine run_convert_bytes_back (P := P) _ src dst e ⟨W.heap.size, 0, none⟩ 1 [c] hs he hd fun j hj => ?_
  have hj0 : j = 0 := by simpa using hj
  subst hj0
  exact cell_one_new _ _ _ 0 _ rfl

set_option maxRecDepth 100000 in
set_option maxHeartbeats 400000 in
theorem rnum_any (n : Nat) (k : Int) (w : World) (_hn : n < 18446744073709551616) :
    Calls Try.prog 20 #[.int .u64 (n : Int), .int .i64 k] w fun e w' => e = .returned (.string (str (PackF.numL n (PackF.numK k)))) ∧ Below w.heap.size w w' := by
  have hle := numK_le k
  have hK := Lib.hid (numK_int k)
  go_enter Try.func20, Try.ntmps20
  go_upto_region 2 with fail
  go_cut [6] (fun s1 wx => s1 = .int .i64 ((PackF.numK k : Nat) - 1 : Int) ∧ w = wx)
  case first =>
    go_wp2
    all_goals (go_meet; exact ⟨congrArg _ (by have := hK.out; omega), rfl⟩)
  case rest =>
    obtain ⟨rfl, rfl⟩ := hcut
    obtain ⟨m, hm⟩ : ∃ m, m = PackF.numK k := ⟨_, rfl⟩
    rw [← hm] at hle ⊢
    have HM := Lib.hid hm
    clear hK hm
    go_wp2
    go_loopw [5, 6] (fun o c wr => ∃ (pre : List UInt8) (i : Nat), pre.length + i ≤ m ∧ m ≤ pre.length + i ∧ pre ++ PackF.numL n i = PackF.numL n m ∧
        o = .string (str pre) ∧ c = .int .i64 ((i : Int) - 1) ∧ Below w.heap.size w wr)
      (fun _ c _ => (intOf c + 1).toNat)
    case atStart => exact ⟨[], m, by simp, by simp, rfl, rfl, rfl, Below.refl _ _⟩
    case round =>
      obtain ⟨pre, i, h1, h2, heq, rfl, rfl, hbel⟩ := hrel
      have HEQ := Lib.hid heq
      clear heq
      rcases i with _ | i
      · have HE : Hid (pre = PackF.numL n m) := Lib.hid (by rw [← HEQ.out]; exact (List.append_nil _).symm)
        go_wp2
        go_ret
        exact ⟨by rw [← HM.out, ← HE.out]; rfl, hbel⟩
      · have e0 : (((i + 1 : Nat) : Int) - 1) = (i : Int) := by omega
        rw [e0]
        have hss : (str pre).size ≤ 8 := by rw [str_size]; omega
        obtain ⟨c, hc⟩ : ∃ c, c = UInt8.ofNat (n / 256 ^ i) := ⟨_, rfl⟩
        have hcv := one_byte (P := Try.prog) wr c 43 9 5 Try.underlying43 Try.underlying5 Try.underlying9
        have hb : ((n : Int) / 2 ^ (8 * i) % 256) = (c.toNat : Int) := by
          have e1 : (c.toNat) = n / 256 ^ i % 256 := by rw [hc]; simp
          have e2 : (2 : Nat) ^ (8 * i) = 256 ^ i := by rw [Nat.pow_mul]
          have e3 : ((n : Int) / 2 ^ (8 * i) % 256) = ((n / 2 ^ (8 * i) % 256 : Nat) : Int) := by simp
          rw [e3, e2, e1]
        rw [← hb] at hcv
        have hs1 : (str [c]).size ≤ 1 := by rw [str_size]; simp
        have HS : Hid (str pre ++ str [c] = str (pre ++ [c]) ∧ (pre ++ [c]) ++ PackF.numL n i = PackF.numL n m) := Lib.hid ⟨str_append _ _, by rw [← HEQ.out, PackF.numL, hc]; simp⟩
        have hsz := hbel.size
        clear hb hc
        go_wp2
        go_roundw
        case rel => exact ⟨pre ++ [c], i, by rw [List.length_append]; simp; omega, by rw [List.length_append]; simp; omega, HS.out.2, congrArg _ HS.out.1, rfl, hbel.alloc hsz _⟩
        case measure => simp [intOf]
end Go.Proofs.Ytgmpfnhdcgcldaa
