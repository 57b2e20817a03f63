/- Contracts of package epoch, part B: put, take, Bytes, Read. -/
import Derived.Test.YtdpcpjloacifpaaBlk
import Derived.Test.YtdpcpjloacifpaaPNum
import Derived.Test.YtdpcpjloacifpaaPTake
namespace Go.Proofs.Ytdpcpjloacifpaa
open Go.RowKit

theorem num_four (n : Nat) (w : World) (hn : n < 18446744073709551616) :
    Calls Try.prog 16 #[.int .u64 (n : Int), .int .i64 4] w fun e w' => e = .returned (.string (str (PackF.numL n 4))) ∧ Below w.heap.size w w' := num_any n 4 w hn

/-- The bytes of an epoch. -/
def putL (a b : Nat) : List UInt8 := PackF.numL a 4 ++ PackF.numL b 4
theorem putL_length (a b : Nat) : (putL a b).length = 8 := by unfold putL; rw [List.length_append, PackF.numL_length, PackF.numL_length]
/-- The epoch of eight bytes. -/
def boot (l : List UInt8) : Nat := PackF.valL (l.take 4)
def local' (l : List UInt8) : Nat := PackF.valL ((l.drop 4).take 4)
theorem boot_lt (l : List UInt8) : boot l < 4294967296 := by
  have h := PackF.valL_lt (l.take 4)
  have h4 : (l.take 4).length ≤ 4 := by rw [List.length_take]; omega
  have hp : 256 ^ (l.take 4).length ≤ 256 ^ 4 := Nat.pow_le_pow_right (by omega) h4
  unfold boot; omega
theorem local_lt (l : List UInt8) : local' l < 4294967296 := boot_lt (l.drop 4)
theorem boot_num (n : Nat) (r : List UInt8) (h : n < 4294967296) : boot (PackF.numL n 4 ++ r) = n := by
  unfold boot
  have hl := PackF.numL_length n 4
  rw [List.take_append_of_le_length (by omega), List.take_of_length_le (by omega), PackF.valL_numL, Nat.mod_eq_of_lt (by omega)]
theorem boot_put (a b : Nat) (r : List UInt8) (h : a < 4294967296) : boot (putL a b ++ r) = a := by unfold putL; rw [List.append_assoc, boot_num _ _ h]
theorem local_put (a b : Nat) (r : List UInt8) (h : b < 4294967296) : local' (putL a b ++ r) = b := by
  have e : (putL a b ++ r).drop 4 = PackF.numL b 4 ++ r := by
    unfold putL
    have hl := PackF.numL_length a 4
    rw [List.append_assoc, List.drop_append_of_le_length (by omega), List.drop_of_length_le (by omega)]; rfl
  show boot ((putL a b ++ r).drop 4) = b
  rw [e, boot_num _ _ h]
theorem drop_put (a b : Nat) (r : List UInt8) : (putL a b ++ r).drop 8 = r := by
  have hl := putL_length a b
  rw [List.drop_append_of_le_length (by omega), List.drop_of_length_le (by omega)]; rfl

/-- Behind the boxing of two cells. -/
def Two (w w' : World) (x y : Value) : Prop :=
  w'.cell? ⟨w.heap.size, 0, none⟩ = some x ∧ w'.cell? ⟨w.heap.size, 1, none⟩ = some y ∧ w.heap.size < w'.heap.size ∧ Below w.heap.size w w'
theorem Two.on {w w1 w2 : World} {x y : Value} (h : Two w w1 x y) (hb : Below w1.heap.size w1 w2) : Two w w2 x y := by
  obtain ⟨h0, h1, h2, h3⟩ := h
  exact ⟨(hb.cell (p := ⟨w.heap.size, 0, none⟩) h2).trans h0, (hb.cell (p := ⟨w.heap.size, 1, none⟩) h2).trans h1, Nat.lt_of_lt_of_le h2 hb.size, h3.trans (hb.mono (by omega))⟩
theorem num_keep4 {w0 : World} {x y : Value} {n : Nat} (w : World) (hn : n < 18446744073709551616) (hx : Two w0 w x y) :
    Calls Try.prog 16 #[.int .u64 (n : Int), .int .i64 4] w fun e w' => e = .returned (.string (str (PackF.numL n 4))) ∧ Two w0 w' x y :=
  (num_four n w hn).mono fun _ _ ⟨he, hb⟩ => ⟨he, hx.on hb⟩

set_option maxHeartbeats 1000000 in
theorem put_any (a b : Nat) (ha : a < 4294967296) (hb : b < 4294967296) (w : World) :
    Calls Try.prog 23 #[(.agg #[.int .u32 (a : Int), .int .u32 (b : Int)] : Value)] w fun e w' => e = .returned (.string (str (putL a b))) ∧ Below w.heap.size w w' := by
  have hz : ∀ n, (str (PackF.numL n 4)).size = 4 := fun n => by rw [str_size, PackF.numL_length]
  have HV : Hid (str (PackF.numL a 4) ++ str (PackF.numL b 4) = str (putL a b)) := by unfold putL; rw [str_append]; trivial
  have ha' : a < 18446744073709551616 := by omega
  have hb' : b < 18446744073709551616 := by omega
  have hov : ¬ 9223372036854775807 < (str (PackF.numL a 4)).size + (str (PackF.numL b 4)).size := by rw [hz, hz]; omega
  have hwa : IntKind.u64.wrap (a : Int) = (a : Int) := by rw [IntKind.wrap_u64]; omega
  have hwb : IntKind.u64.wrap (b : Int) = (b : Int) := by rw [IntKind.wrap_u64]; omega
  clear hz ha hb
  go_enter Try.func23, Try.ntmps23
  go_upto_region 1 with fail
  go_region_held3 (fun w' => w'.cell? ⟨w.heap.size, 0, none⟩ = some (.int .u32 (a : Int)) ∧ w'.cell? ⟨w.heap.size, 1, none⟩ = some (.int .u32 (b : Int)) ∧ w.heap.size < w'.heap.size ∧ Below w.heap.size w w')
    ((refine ⟨?_, ?_, ?_, ?_⟩ <;> first | assumption | exact Below.drew (by assumption) | exact ((Below.refl _ _).alloc (Nat.le_refl _) _).drew | exact below_drewN (by assumption) _ | go_keep))
    ((go_at_call 16; refine (num_keep4 (w0 := w) (x := .int .u32 (a : Int)) (y := .int .u32 (b : Int)) _ (by assumption) ?_).mono ?_; (unfold Two; assumption); rintro e w1 ⟨rfl, hc0', hc1', hlt', hbel'⟩))
  all_goals
    go_wp2
    go_ret
    exact ⟨by rw [← HV.out]; rfl, by assumption⟩

theorem take4 (s : ByteArray) (h : 4 ≤ s.size) : takeV s.data.toList 4 = .tuple #[.int .u64 (boot s.data.toList : Nat), .string (str (s.data.toList.drop 4)), .int .i64 0] := by
  have e := takeV_ok s 4 (by omega) (by omega)
  rw [str_drop] at e
  exact e
theorem take4_is (s : ByteArray) (w : World) (hs : s.size ≤ maxLen) (h : 4 ≤ s.size) :
    Calls Try.prog 24 #[.string s, .int .i64 4] w fun e w' => e = .returned (.tuple #[.int .u64 (boot s.data.toList : Nat), .string (str (s.data.toList.drop 4)), .int .i64 0]) ∧ ∃ n, w' = w.drewN n := by
  rw [← take4 s h]; exact take_any s 4 w hs

theorem etake_any (l : List UInt8) (hs : l.length ≤ maxLen) (h : 8 ≤ l.length) (w : World) :
    Calls Try.prog 28 #[.string (str l)] w fun e w' => e = .returned (.tuple #[(.agg #[.int .u32 ((boot l : Nat) : Int), .int .u32 ((local' l : Nat) : Int)] : Value), .string (str (l.drop 8))]) ∧ Below w.heap.size w w' := by
  have h1 := fun w => take4_is (str l) w (by rw [str_size]; exact hs) (by rw [str_size]; omega)
  have h2 := fun w => take4_is (str (l.drop 4)) w (by rw [str_size, List.length_drop]; omega) (by rw [str_size, List.length_drop]; omega)
  simp only [str_list] at h1 h2
  rw [List.drop_drop] at h2
  have HC1 := Lib.hid h1
  have HC2 := Lib.hid h2
  have ha := boot_lt l
  have hb := boot_lt (l.drop 4)
  have e : local' l = boot (l.drop 4) := rfl
  rw [e]
  generalize boot l = a at *
  generalize boot (l.drop 4) = b at *
  have hwa : IntKind.u32.wrap (a : Int) = (a : Int) := by rw [IntKind.wrap_u32]; omega
  have hwb : IntKind.u32.wrap (b : Int) = (b : Int) := by rw [IntKind.wrap_u32]; omega
  clear h1 h2 ha hb h hs e
  go_enter Try.func28, Try.ntmps28
  go_wp2_with fail
  refine (HC1.out _).mono ?_
  rintro e w1 ⟨rfl, n1, rfl⟩
  go_wp2_with fail
  refine (HC2.out _).mono ?_
  rintro e w2 ⟨rfl, n2, rfl⟩
  go_wp2_with fail
  refine bodyPost_ret (v := .tuple #[(.agg #[.int .u32 (a : Int), .int .u32 (b : Int)] : Value), .string (str (l.drop 8))]) (by simp [results, Try.results28, go_sem]) rfl ⟨rfl, ?_⟩
  exact ((below_drewN ((Below.refl _ _).alloc (Nat.le_refl _) _) _).setCell (Nat.le_refl _) _).setCell (Nat.le_refl _) _

/-- Behind the boxing of four cells. -/
def Four (w w' : World) (x y z u : Value) : Prop :=
  w'.cell? ⟨w.heap.size, 0, none⟩ = some x ∧ w'.cell? ⟨w.heap.size, 1, none⟩ = some y ∧ w'.cell? ⟨w.heap.size, 2, none⟩ = some z ∧ w'.cell? ⟨w.heap.size, 3, none⟩ = some u ∧ w.heap.size < w'.heap.size ∧ Below w.heap.size w w'
theorem Four.on {w w1 w2 : World} {x y z u : Value} (h : Four w w1 x y z u) (hb : Below w1.heap.size w1 w2) : Four w w2 x y z u := by
  obtain ⟨h0, h1, h2, h3, h4, h5⟩ := h
  exact ⟨(hb.cell (p := ⟨w.heap.size, 0, none⟩) h4).trans h0, (hb.cell (p := ⟨w.heap.size, 1, none⟩) h4).trans h1, (hb.cell (p := ⟨w.heap.size, 2, none⟩) h4).trans h2, (hb.cell (p := ⟨w.heap.size, 3, none⟩) h4).trans h3, Nat.lt_of_lt_of_le h4 hb.size, h5.trans (hb.mono (by omega))⟩
theorem put_keep {w0 : World} {x y z u : Value} {a b : Nat} (w : World) (ha : a < 4294967296) (hb : b < 4294967296) (hx : Four w0 w x y z u) :
    Calls Try.prog 23 #[(.agg #[.int .u32 (a : Int), .int .u32 (b : Int)] : Value)] w fun e w' => e = .returned (.string (str (putL a b))) ∧ Four w0 w' x y z u :=
  (put_any a b ha hb w).mono fun _ _ ⟨he, hb⟩ => ⟨he, hx.on hb⟩

/-- The bytes of a pair. -/
def pairL (a b c d : Nat) : List UInt8 := putL a b ++ putL c d
theorem pairL_length (a b c d : Nat) : (pairL a b c d).length = 16 := by unfold pairL; rw [List.length_append, putL_length, putL_length]

set_option maxHeartbeats 1000000 in
theorem bytes_any (a b c d : Nat) (ha : a < 4294967296) (hb : b < 4294967296) (hc : c < 4294967296) (hd : d < 4294967296) (w : World) :
    Calls Try.prog 17 #[(.agg #[.int .u32 (a : Int), .int .u32 (b : Int), .int .u32 (c : Int), .int .u32 (d : Int)] : Value)] w fun e w' => e = .returned (.string (str (pairL a b c d))) ∧ Below w.heap.size w w' := by
  have hz : ∀ m n, (str (putL m n)).size = 8 := fun m n => by rw [str_size, putL_length]
  have HV : Hid (str (putL a b) ++ str (putL c d) = str (pairL a b c d)) := by unfold pairL; rw [str_append]; trivial
  have hov : ¬ 9223372036854775807 < (str (putL a b)).size + (str (putL c d)).size := by rw [hz, hz]; omega
  clear hz
  go_enter Try.func17, Try.ntmps17
  go_upto_region 1 with fail
  go_region_held3 (fun w' => w'.cell? ⟨w.heap.size, 0, none⟩ = some (.int .u32 (a : Int)) ∧ w'.cell? ⟨w.heap.size, 1, none⟩ = some (.int .u32 (b : Int)) ∧ w'.cell? ⟨w.heap.size, 2, none⟩ = some (.int .u32 (c : Int)) ∧ w'.cell? ⟨w.heap.size, 3, none⟩ = some (.int .u32 (d : Int)) ∧ w.heap.size < w'.heap.size ∧ Below w.heap.size w w')
    ((refine ⟨?_, ?_, ?_, ?_, ?_, ?_⟩ <;> first | assumption | exact Below.drew (by assumption) | exact ((Below.refl _ _).alloc (Nat.le_refl _) _).drew | exact below_drewN (by assumption) _ | go_keep))
    ((go_at_call 23; refine (put_keep (w0 := w) (x := .int .u32 (a : Int)) (y := .int .u32 (b : Int)) (z := .int .u32 (c : Int)) (u := .int .u32 (d : Int)) _ (by assumption) (by assumption) ?_).mono ?_; (unfold Four; assumption); rintro e w1 ⟨rfl, hc0', hc1', hc2', hc3', hlt', hbel'⟩))
  all_goals
    go_wp2
    go_ret
    exact ⟨by rw [← HV.out]; rfl, by assumption⟩

theorem read_short (l : List UInt8) (h : l.length < 16) (w : World) :
    Calls Try.prog 25 #[.string (str l)] w fun e w' => e = .returned (.tuple #[(.agg #[.int .u32 0, .int .u32 0, .int .u32 0, .int .u32 0] : Value), .string ⟨#[]⟩, .int .i64 2]) ∧ Below w.heap.size w w' := by
  have hz := str_size l
  have h16 : decide (((str l).size : Int) < 16) = true := decide_eq_true (by omega)
  clear hz h
  go_enter Try.func25, Try.ntmps25
  go_wp2
  refine bodyPost_ret (v := .tuple #[(.agg #[.int .u32 0, .int .u32 0, .int .u32 0, .int .u32 0] : Value), .string ⟨#[]⟩, .int .i64 2]) (by simp [results, Try.results25, go_sem]) rfl ⟨rfl, ?_⟩
  exact (Below.refl _ _).alloc (Nat.le_refl _) _

set_option maxHeartbeats 1000000 in
theorem read_ok (l : List UInt8) (h : 16 ≤ l.length) (hs : l.length ≤ maxLen) (w : World) :
    Calls Try.prog 25 #[.string (str l)] w fun e w' => e = .returned (.tuple #[(.agg #[.int .u32 ((boot l : Nat) : Int), .int .u32 ((local' l : Nat) : Int), .int .u32 ((boot (l.drop 8) : Nat) : Int), .int .u32 ((local' (l.drop 8) : Nat) : Int)] : Value), .string (str (l.drop 16)), .int .i64 0]) ∧ Below w.heap.size w w' := by
  have h1 := etake_any l hs (by omega)
  have h2 := etake_any (l.drop 8) (by rw [List.length_drop]; omega) (by rw [List.length_drop]; omega)
  rw [List.drop_drop] at h2
  have HC1 := Lib.hid h1
  have HC2 := Lib.hid h2
  have hz := str_size l
  have h16 : decide (((str l).size : Int) < 16) = false := decide_eq_false (by omega)
  clear hz h hs h1 h2
  generalize boot l = a at *
  generalize local' l = b at *
  generalize boot (l.drop 8) = c at *
  generalize local' (l.drop 8) = d at *
  go_enter Try.func25, Try.ntmps25
  go_wp2_with fail
  refine (HC1.out _).mono ?_
  rintro e w1 ⟨rfl, hb1⟩
  have k0 : Blk w1 w.heap.size [.int .u32 0, .int .u32 0, .int .u32 0, .int .u32 0] := (Blk.new w [.int .u32 0, .int .u32 0, .int .u32 0, .int .u32 0] 26).on hb1
  have b1 : Below w.heap.size w w1 := bel_on ((Below.refl _ _).alloc (Nat.le_refl _) _) hb1
  clear hb1
  have K0 := Lib.hid k0
  have B1 := Lib.hid b1
  clear k0 b1
  go_wp2_with fail
  refine (HC2.out _).mono ?_
  rintro e w2 ⟨rfl, hb2⟩
  have k1 : Blk w2 w1.heap.size [.int .u32 (a : Int), .int .u32 (b : Int)] := (Blk.new w1 [.int .u32 (a : Int), .int .u32 (b : Int)] 24).on hb2
  have k0 : Blk w2 w.heap.size [.int .u32 0, .int .u32 0, .int .u32 0, .int .u32 0] := (K0.out.next _).on hb2
  have b2 : Below w.heap.size w w2 := bel_on (B1.out.alloc B1.out.size _) hb2
  have B2 := Lib.hid b2
  have p0 := k1.cell 0 rfl
  have p1 := k1.cell 1 rfl
  have q0 := k0.cell 0 rfl
  have q1 := k0.cell 1 rfl
  have q2 := k0.cell 2 rfl
  have q3 := k0.cell 3 rfl
  have t0 := k0.thaw 0
  have t1 := k0.thaw 1
  have t2 := k0.thaw 2
  have t3 := k0.thaw 3
  have l0 := k0.lt
  have l1 := k1.lt
  have K2 := Lib.hid ((((k0.set 0 (.int .u32 (a : Int))).set 1 (.int .u32 (b : Int))).set 2 (.int .u32 (c : Int))).set 3 (.int .u32 (d : Int)))
  clear hb2 k0 k1 b2 K0 B1
  go_wp2_with fail
  have k := K2.out.next (.cells #[.int .u32 (c : Int), .int .u32 (d : Int)] 24)
  have r0 := k.cell 0 rfl
  have r1 := k.cell 1 rfl
  have r2 := k.cell 2 rfl
  have r3 := k.cell 3 rfl
  refine bodyPost_ret (v := .tuple #[(.agg #[.int .u32 (a : Int), .int .u32 (b : Int), .int .u32 (c : Int), .int .u32 (d : Int)] : Value), .string (str (l.drop 16)), .int .i64 0]) (by simp [results, Try.results25, go_sem, r0, r1, r2, r3]) rfl ⟨rfl, ?_⟩
  exact ((((B2.out.setCell (Nat.le_refl _) _).setCell (Nat.le_refl _) _).setCell (Nat.le_refl _) _).setCell (Nat.le_refl _) _).alloc (by simpa using Nat.le_of_lt l0) _
end Go.Proofs.Ytdpcpjloacifpaa
