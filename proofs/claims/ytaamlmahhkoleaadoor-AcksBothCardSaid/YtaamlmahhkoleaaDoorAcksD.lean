/- Contracts of package acks, part D: Right, Bytes. -/
import Derived.Test.YtaamlmahhkoleaaDoorAcksC
import Derived.Test.YtaamlmahhkoleaaDoorNodesN
import Derived.Test.YtaamlmahhkoleaaDoorEpochB
namespace Go.Proofs.YtaamlmahhkoleaaDoor
open Go.RowKit Go.Sort

/-- Whether an ack is right. -/
def rightA (f n s : Int) : Bool := nodeF f && AcksF.seqB n && (decide (0 ≤ s) && decide (s ≤ 255))
theorem rightA_of {f n s : Int} {r q x y : Bool} (h1 : nodeF f = r) (h2 : AcksF.seqB n = q) (h3 : decide (0 ≤ s) = x) (h4 : decide (s ≤ 255) = y) : rightA f n s = (r && q && (x && y)) := by
  unfold rightA; rw [h1, h2, h3, h4]
theorem rightA_in {f n s : Int} (h : rightA f n s = true) : (0 ≤ f ∧ f < 16) ∧ (0 ≤ n ∧ n ≤ 65535) ∧ 0 ≤ s ∧ s ≤ 255 := by
  unfold rightA at h
  rw [Bool.and_eq_true, Bool.and_eq_true, Bool.and_eq_true] at h
  exact ⟨nodeF_in h.1.1, AcksF.seqB_in h.1.2, of_decide_eq_true h.2.1, of_decide_eq_true h.2.2⟩
theorem rightA_mk {f n s : Int} (h1 : 0 ≤ f ∧ f < 16) (h2 : 0 ≤ n ∧ n ≤ 65535) (h3 : 0 ≤ s ∧ s ≤ 255) : rightA f n s = true := by
  have e1 : nodeF f = true := by simp [nodeF, h1]
  have e2 : AcksF.seqB n = true := by simp [AcksF.seqB, h2]
  exact (rightA_of e1 e2 (decide_eq_true h3.1) (decide_eq_true h3.2)).trans rfl
theorem isseq_gives (n : Int) : Gives Tryd.prog 24 #[.int .i64 n] (.bool (AcksF.seqB n)) := fun w => (isseq_any n w).mono fun _ _ ⟨h1, h2⟩ => ⟨h1, h2 ▸ Below.refl _ _⟩

theorem aright_any (f a b c d n s : Int) : Gives Tryd.prog 14 #[(.agg #[.int .i64 f, .int .u32 a, .int .u32 b, .int .u32 c, .int .u32 d, .int .i64 n, .int .i64 s] : Value)] (.bool (rightA f n s)) := by
  intro w
  obtain ⟨r, hr⟩ : ∃ t, nodeF f = t := ⟨_, rfl⟩
  obtain ⟨q, hq⟩ : ∃ t, AcksF.seqB n = t := ⟨_, rfl⟩
  obtain ⟨x, hx⟩ : ∃ t, decide (0 ≤ s) = t := ⟨_, rfl⟩
  obtain ⟨y, hy⟩ : ∃ t, decide (s ≤ 255) = t := ⟨_, rfl⟩
  have HV := Lib.hid (rightA_of hr hq hx hy)
  have N := Lib.hid (nright_any f)
  have M := Lib.hid (isseq_gives n)
  rw [hr] at N
  rw [hq] at M
  clear hr hq
  rw [HV.out]
  rcases r with _ | _
  · clear hx hy
    go_enter Tryd.func14, Tryd.ntmps14
    have h := Lib.hid (Below.refl w.heap.size w)
    go_wp2_with fail
    refine (N.out _).mono ?_
    rintro e w1 ⟨rfl, hb⟩
    have h' := Lib.hid (bel_on (h.out.alloc h.out.size _) hb)
    clear hb h
    go_wp2_with fail
    go_ret
    exact ⟨rfl, h'.out⟩
  · rcases q with _ | _
    · clear hx hy
      go_enter Tryd.func14, Tryd.ntmps14
      have h := Lib.hid (Below.refl w.heap.size w)
      go_wp2_with fail
      refine (N.out _).mono ?_
      rintro e w1 ⟨rfl, hb⟩
      have k1 := (Blk.new w [.int .i64 f, .int .u32 a, .int .u32 b, .int .u32 c, .int .u32 d, .int .i64 n, .int .i64 s] 30).on hb
      have h' := Lib.hid (bel_on (h.out.alloc h.out.size _) hb)
      have c5 := k1.cell 5 rfl
      clear hb h k1
      go_wp2_with fail
      refine (M.out _).mono ?_
      rintro e w2 ⟨rfl, hb⟩
      have h := Lib.hid (bel_on h'.out hb)
      clear hb h' c5
      go_wp2_with fail
      go_ret
      exact ⟨rfl, h.out⟩
    · rcases x with _ | _
      all_goals
        go_enter Tryd.func14, Tryd.ntmps14
        have h := Lib.hid (Below.refl w.heap.size w)
        go_wp2_with fail
        refine (N.out _).mono ?_
        rintro e w1 ⟨rfl, hb⟩
        have k1 := (Blk.new w [.int .i64 f, .int .u32 a, .int .u32 b, .int .u32 c, .int .u32 d, .int .i64 n, .int .i64 s] 30).on hb
        have h' := Lib.hid (bel_on (h.out.alloc h.out.size _) hb)
        have c5 := k1.cell 5 rfl
        have K1 := Lib.hid k1
        clear hb h k1
        go_wp2_with fail
        refine (M.out _).mono ?_
        rintro e w2 ⟨rfl, hb⟩
        have k2 := K1.out.on hb
        have c6 := k2.cell 6 rfl
        have h := Lib.hid (bel_on h'.out hb)
        clear hb h' c5 k2 K1
        go_wp2_with fail
        go_ret
        exact ⟨rfl, h.out⟩

/-- The bytes of an ack. -/
def ackL (f a b c d n s : Nat) : List UInt8 := PackF.numL f 1 ++ pairL a b c d ++ PackF.numL n 2 ++ PackF.numL s 1
theorem ackL_length (f a b c d n s : Nat) : (ackL f a b c d n s).length = 20 := by unfold ackL; simp [PackF.numL_length, pairL_length]

theorem abytes_bad (f a b c d n s : Int) (h : rightA f n s = false) :
    Gives Tryd.prog 7 #[(.agg #[.int .i64 f, .int .u32 a, .int .u32 b, .int .u32 c, .int .u32 d, .int .i64 n, .int .i64 s] : Value)] (.tuple #[.string ⟨#[]⟩, .int .i64 1]) := by
  intro w
  have R := Lib.hid (aright_any f a b c d n s)
  rw [h] at R
  have HB : Hid (Below w.heap.size w (w.alloc (.cells #[.int .i64 f, .int .u32 a, .int .u32 b, .int .u32 c, .int .u32 d, .int .i64 n, .int .i64 s] 30))) := Lib.hid ((Below.refl _ _).alloc (Nat.le_refl _) _)
  clear h
  go_enter Tryd.func7, Tryd.ntmps7
  go_wp2_with fail
  refine (R.out _).mono ?_
  rintro e w1 ⟨rfl, hb⟩
  go_wp2_with fail
  go_ret2
  exact ⟨rfl, bel_on HB.out hb⟩

theorem num_gives (n k : Nat) (hn : n < 18446744073709551616) : Gives Tryd.prog 18 #[.int .u64 (n : Int), .int .i64 (k : Int)] (.string (str (PackF.numL n (PackF.numK k)))) := fun w => num_any n k w hn

set_option maxRecDepth 100000 in
set_option maxHeartbeats 1000000 in
theorem abytes_ok (f a b c d n s : Nat) (h : rightA (f : Int) (n : Int) (s : Int) = true) (ha : a < 4294967296) (hb : b < 4294967296) (hc : c < 4294967296) (hd : d < 4294967296) :
    Gives Tryd.prog 7 #[(.agg #[.int .i64 (f : Int), .int .u32 (a : Int), .int .u32 (b : Int), .int .u32 (c : Int), .int .u32 (d : Int), .int .i64 (n : Int), .int .i64 (s : Int)] : Value)] (.tuple #[.string (str (ackL f a b c d n s)), .int .i64 0]) := by
  intro w
  have hin := rightA_in h
  have R := Lib.hid (aright_any (f : Int) (a : Int) (b : Int) (c : Int) (d : Int) (n : Int) (s : Int))
  rw [h] at R
  have BY : Hid (Gives Tryd.prog 19 #[(.agg #[.int .u32 (a : Int), .int .u32 (b : Int), .int .u32 (c : Int), .int .u32 (d : Int)] : Value)] (.string (str (pairL a b c d)))) := Lib.hid (bytes_any a b c d ha hb hc hd)
  have N1 : Hid (Gives Tryd.prog 18 #[.int .u64 (f : Int), .int .i64 1] (.string (str (PackF.numL f 1)))) := Lib.hid (num_gives f 1 (by omega))
  have N2 : Hid (Gives Tryd.prog 18 #[.int .u64 (n : Int), .int .i64 2] (.string (str (PackF.numL n 2)))) := Lib.hid (num_gives n 2 (by omega))
  have N3 : Hid (Gives Tryd.prog 18 #[.int .u64 (s : Int), .int .i64 1] (.string (str (PackF.numL s 1)))) := Lib.hid (num_gives s 1 (by omega))
  have w1 : IntKind.u64.wrap (f : Int) = (f : Int) := by rw [IntKind.wrap_u64]; omega
  have w2 : IntKind.u64.wrap (n : Int) = (n : Int) := by rw [IntKind.wrap_u64]; omega
  have w3 : IntKind.u64.wrap (s : Int) = (s : Int) := by rw [IntKind.wrap_u64]; omega
  have HV : Hid (str (PackF.numL f 1) ++ str (pairL a b c d) ++ str (PackF.numL n 2) ++ str (PackF.numL s 1) = str (ackL f a b c d n s)) := Lib.hid (by rw [str_append, str_append, str_append]; rfl)
  have hz1 : (str (PackF.numL f 1)).size = 1 := by rw [str_size, PackF.numL_length]
  have hz2 : (str (pairL a b c d)).size = 16 := by rw [str_size, pairL_length]
  have hz3 : (str (PackF.numL n 2)).size = 2 := by rw [str_size, PackF.numL_length]
  have hz4 : (str (PackF.numL s 1)).size = 1 := by rw [str_size, PackF.numL_length]
  clear h ha hb hc hd hin
  go_enter Tryd.func7, Tryd.ntmps7
  have h := Lib.hid (Below.refl w.heap.size w)
  go_wp2_with fail
  refine (R.out _).mono ?_
  rintro e w1 ⟨rfl, hb⟩
  have b_h : Blk w1 w.heap.size [.int .i64 (f : Int), .int .u32 (a : Int), .int .u32 (b : Int), .int .u32 (c : Int), .int .u32 (d : Int), .int .i64 (n : Int), .int .i64 (s : Int)] := (Blk.new w [.int .i64 (f : Int), .int .u32 (a : Int), .int .u32 (b : Int), .int .u32 (c : Int), .int .u32 (d : Int), .int .i64 (n : Int), .int .i64 (s : Int)] 30).on hb
  have h' := bel_on ((h.out).alloc (h.out).size _) hb
  clear hb h
  have B_h := Lib.hid b_h
  have h := Lib.hid h'
  clear h' b_h
  go_upto_region 3 with fail
  have c_h0 := cell_regrown (B_h.out.cell 0 rfl)
  have c_h1 := cell_regrown (B_h.out.cell 1 rfl)
  have c_h2 := cell_regrown (B_h.out.cell 2 rfl)
  have c_h3 := cell_regrown (B_h.out.cell 3 rfl)
  have c_h4 := cell_regrown (B_h.out.cell 4 rfl)
  have c_h5 := cell_regrown (B_h.out.cell 5 rfl)
  have c_h6 := cell_regrown (B_h.out.cell 6 rfl)
  have o1 : ¬ 9223372036854775807 < (str (PackF.numL f 1)).size + (str (pairL a b c d)).size := by rw [hz1, hz2]; omega
  have o2 : ¬ 9223372036854775807 < (str (PackF.numL f 1) ++ str (pairL a b c d)).size + (str (PackF.numL n 2)).size := by rw [ByteArray.size_append, hz1, hz2, hz3]; omega
  have o3 : ¬ 9223372036854775807 < (str (PackF.numL f 1) ++ str (pairL a b c d) ++ str (PackF.numL n 2)).size + (str (PackF.numL s 1)).size := by rw [ByteArray.size_append, ByteArray.size_append, hz1, hz2, hz3, hz4]; omega
  clear hz1 hz2 hz3 hz4
  refine wp_region_quiet_below (by kernel_rfl) (by kernel_rfl) ?_
  repeat (first | go_big_quiet_step (first | with_reducible exact N1.out.at _ _ _ | with_reducible exact BY.out.at _ _ _ | with_reducible exact N2.out.at _ _ _ | with_reducible exact N3.out.at _ _ _) | quiet_step (first | with_reducible exact N1.out.at _ _ _ | with_reducible exact BY.out.at _ _ _ | with_reducible exact N2.out.at _ _ _ | with_reducible exact N3.out.at _ _ _))
  refine wpQuiet_nil ?_
  intro _ hw'
  obtain ⟨⟨dq, osq⟩, hw''⟩ := hw'
  subst hw''
  go_wp2
  go_ret2
  exact ⟨by rw [← HV.out]; rfl, bel_on h.out (below_regrown _ dq osq)⟩
end Go.Proofs.YtaamlmahhkoleaaDoor
