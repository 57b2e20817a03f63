/- Contracts of package hello, part C: the document's own Bytes; Read, and the document's own. -/
import Derived.Test.YtgmpfnhdcgcldaaHelloB
import Derived.Test.YtgmpfnhdcgcldaaRRest
namespace Go.Proofs.Ytgmpfnhdcgcldaa
open Go.RowKit Go.Sort

theorem rhbytes_bad (f a b c d : Int) (h : rightF f a b = false) (w : World) :
    Calls Try.prog 8 #[(.agg #[.int .i64 f, .int .u32 a, .int .u32 b, .int .u32 c, .int .u32 d] : Value)] w fun e w' => e = .returned (.tuple #[.string ⟨#[]⟩, .int .i64 1]) ∧ Below w.heap.size w w' := by
  have R := Lib.hid (rhright_any f a b c d)
  rw [h] at R
  have HB : Hid (Below w.heap.size w (w.alloc (.cells #[.int .i64 f, .int .u32 a, .int .u32 b, .int .u32 c, .int .u32 d] 28))) := Lib.hid ((Below.refl _ _).alloc (Nat.le_refl _) _)
  clear h
  go_enter Try.func8, Try.ntmps8
  go_wp2_with fail
  refine (R.out _).mono ?_
  rintro e w1 ⟨rfl, hb⟩
  go_wp2_with fail
  go_ret2
  exact ⟨rfl, bel_on HB.out hb⟩

set_option maxRecDepth 100000 in
set_option maxHeartbeats 1000000 in
theorem rhbytes_ok (f a b c d : Nat) (h : rightF (f : Int) (a : Int) (b : Int) = true) (ha : a < 4294967296) (hb : b < 4294967296) (hc : c < 4294967296) (hd : d < 4294967296) (w : World) :
    Calls Try.prog 8 #[(.agg #[.int .i64 (f : Int), .int .u32 (a : Int), .int .u32 (b : Int), .int .u32 (c : Int), .int .u32 (d : Int)] : Value)] w fun e w' => e = .returned (.tuple #[.string (str (helloL f a b c d)), .int .i64 0]) ∧ Below w.heap.size w w' := by
  have hf := (rightF_in h).1
  have R := Lib.hid (rhright_any (f : Int) (a : Int) (b : Int) (c : Int) (d : Int))
  rw [h] at R
  have BY : Hid (Gives Try.prog 21 #[(.agg #[.int .u32 (a : Int), .int .u32 (b : Int), .int .u32 (c : Int), .int .u32 (d : Int)] : Value)] (.string (str (pairL a b c d)))) := Lib.hid (rbytes_any a b c d ha hb hc hd)
  have NU : Hid (Gives Try.prog 20 #[.int .u64 (f : Int), .int .i64 1] (.string (str (PackF.numL f 1)))) := Lib.hid (fun w => rnum_any f 1 w (by omega))
  have hwf : IntKind.u64.wrap (f : Int) = (f : Int) := by rw [IntKind.wrap_u64]; omega
  have hz1 : (str (PackF.numL f 1)).size = 1 := by rw [str_size, PackF.numL_length]
  have hz2 : (str (pairL a b c d)).size = 16 := by rw [str_size, pairL_length]
  have hov : ¬ 9223372036854775807 < (str (PackF.numL f 1)).size + (str (pairL a b c d)).size := by rw [hz1, hz2]; omega
  have HV : Hid (str (PackF.numL f 1) ++ str (pairL a b c d) = str (helloL f a b c d)) := Lib.hid (by rw [str_append]; simp [PackF.numL, helloL])
  clear h ha hb hc hd hf hz1 hz2
  go_enter Try.func8, Try.ntmps8
  have h := Lib.hid (Below.refl w.heap.size w)
  go_wp2_with fail
  refine (R.out _).mono ?_
  rintro e w1 ⟨rfl, hb⟩
  have b_h : Blk w1 w.heap.size [.int .i64 (f : Int), .int .u32 (a : Int), .int .u32 (b : Int), .int .u32 (c : Int), .int .u32 (d : Int)] := (Blk.new w [.int .i64 (f : Int), .int .u32 (a : Int), .int .u32 (b : Int), .int .u32 (c : Int), .int .u32 (d : Int)] 28).on hb
  have h' := bel_on ((h.out).alloc (h.out).size _) hb
  clear hb h
  have B_h := Lib.hid b_h
  have h := Lib.hid h'
  clear h' b_h
  go_upto_region 3 with fail
  have c_h0 := cell_regrown (B_h.out.cell 0 rfl)
  have c_h1 := cell_regrown (B_h.out.cell 1 rfl)
  have c_h2 := cell_regrown (B_h.out.cell 2 rfl)
  have c_h3 := cell_regrown (B_h.out.cell 3 rfl)
  have c_h4 := cell_regrown (B_h.out.cell 4 rfl)
  refine wp_region_quiet_below (by kernel_rfl) (by kernel_rfl) ?_
  repeat (first | go_big_quiet_step (first | with_reducible exact NU.out.at _ _ _ | with_reducible exact BY.out.at _ _ _) | quiet_step (first | with_reducible exact NU.out.at _ _ _ | with_reducible exact BY.out.at _ _ _))
  refine wpQuiet_nil ?_
  intro _ hw'
  obtain ⟨⟨dq, osq⟩, hw''⟩ := hw'
  subst hw''
  go_wp2
  go_ret2
  exact ⟨by rw [← HV.out]; rfl, bel_on h.out (below_regrown _ dq osq)⟩

/-- What Read reads: the node, the pair's numbers, whether it is read, and its error. -/
def hfrom (l : List UInt8) : Nat := PackF.valL (l.take 1)
def rdOk (l : List UInt8) : Bool := decide (17 ≤ l.length) && (rightF (hfrom l : Int) (boot (l.drop 1) : Int) (local' (l.drop 1) : Int) && decide (l.drop 17 = []))
def rdF (l : List UInt8) : Nat := if rdOk l = true then hfrom l else 0
def rdA (l : List UInt8) : Nat := if rdOk l = true then boot (l.drop 1) else 0
def rdB (l : List UInt8) : Nat := if rdOk l = true then local' (l.drop 1) else 0
def rdC (l : List UInt8) : Nat := if rdOk l = true then boot (l.drop 9) else 0
def rdD (l : List UInt8) : Nat := if rdOk l = true then local' (l.drop 9) else 0
def rdE (l : List UInt8) : Int := if rdOk l = true then 0 else if l.length < 17 then 2 else 3
theorem rd_no {l : List UInt8} (h : rdOk l = false) : rdF l = 0 ∧ rdA l = 0 ∧ rdB l = 0 ∧ rdC l = 0 ∧ rdD l = 0 := by simp [rdF, rdA, rdB, rdC, rdD, h]
theorem rd_yes {l : List UInt8} (h : rdOk l = true) : rdF l = hfrom l ∧ rdA l = boot (l.drop 1) ∧ rdB l = local' (l.drop 1) ∧ rdC l = boot (l.drop 9) ∧ rdD l = local' (l.drop 9) ∧ rdE l = 0 := by simp [rdF, rdA, rdB, rdC, rdD, rdE, h]
theorem rd_short {l : List UInt8} (h : l.length < 17) : rdOk l = false ∧ rdE l = 2 := by
  have e : rdOk l = false := by unfold rdOk; rw [decide_eq_false (by omega)]; rfl
  exact ⟨e, by unfold rdE; rw [e, if_neg (by decide), if_pos h]⟩
theorem rd_wrong {l : List UInt8} (h : 17 ≤ l.length) (hr : rightF (hfrom l : Int) (boot (l.drop 1) : Int) (local' (l.drop 1) : Int) = false ∨ l.drop 17 ≠ []) : rdOk l = false ∧ rdE l = 3 := by
  have e : rdOk l = false := by
    unfold rdOk
    rcases hr with hr | hr
    · rw [hr, Bool.false_and, Bool.and_false]
    · rw [decide_eq_false hr, Bool.and_false, Bool.and_false]
  exact ⟨e, by unfold rdE; rw [e, if_neg (by decide), if_neg (by omega)]⟩
theorem rd_good {l : List UInt8} (h : 17 ≤ l.length) (hr : rightF (hfrom l : Int) (boot (l.drop 1) : Int) (local' (l.drop 1) : Int) = true) (he : l.drop 17 = []) : rdOk l = true := by
  unfold rdOk; rw [hr, decide_eq_true he, decide_eq_true h]; rfl
/-- The value. -/
def readV (l : List UInt8) : Value := .tuple #[(.agg #[.int .i64 (rdF l : Int), .int .u32 (rdA l : Int), .int .u32 (rdB l : Int), .int .u32 (rdC l : Int), .int .u32 (rdD l : Int)] : Value), .int .i64 (rdE l)]
theorem readV_short {l : List UInt8} (h : l.length < 17) : readV l = .tuple #[(.agg #[.int .i64 0, .int .u32 0, .int .u32 0, .int .u32 0, .int .u32 0] : Value), .int .i64 2] := by
  obtain ⟨e, he⟩ := rd_short h
  obtain ⟨h1, h2, h3, h4, h5⟩ := rd_no e
  unfold readV; rw [h1, h2, h3, h4, h5, he]; rfl
theorem readV_wrong {l : List UInt8} (h : 17 ≤ l.length) (hr : rightF (hfrom l : Int) (boot (l.drop 1) : Int) (local' (l.drop 1) : Int) = false ∨ l.drop 17 ≠ []) : readV l = .tuple #[(.agg #[.int .i64 0, .int .u32 0, .int .u32 0, .int .u32 0, .int .u32 0] : Value), .int .i64 3] := by
  obtain ⟨e, he⟩ := rd_wrong h hr
  obtain ⟨h1, h2, h3, h4, h5⟩ := rd_no e
  unfold readV; rw [h1, h2, h3, h4, h5, he]; rfl
theorem readV_good {l : List UInt8} (h : 17 ≤ l.length) (hr : rightF (hfrom l : Int) (boot (l.drop 1) : Int) (local' (l.drop 1) : Int) = true) (he : l.drop 17 = []) :
    readV l = .tuple #[(.agg #[.int .i64 (hfrom l : Int), .int .u32 (boot (l.drop 1) : Int), .int .u32 (local' (l.drop 1) : Int), .int .u32 (boot (l.drop 9) : Int), .int .u32 (local' (l.drop 9) : Int)] : Value), .int .i64 0] := by
  obtain ⟨h1, h2, h3, h4, h5, h6⟩ := rd_yes (rd_good h hr he)
  unfold readV; rw [h1, h2, h3, h4, h5, h6]

theorem hread_short (l : List UInt8) (h : l.length < 17) (w : World) :
    Calls Try.prog 9 #[.string (str l)] w fun e w' => e = .returned (readV l) ∧ Below w.heap.size w w' := by
  have hz := str_size l
  have h17 : decide (((str l).size : Int) < 17) = true := decide_eq_true (by omega)
  rw [readV_short h]
  clear hz h
  go_enter Try.func9, Try.ntmps9
  go_wp2
  refine bodyPost_ret (v := .tuple #[(.agg #[.int .i64 0, .int .u32 0, .int .u32 0, .int .u32 0, .int .u32 0] : Value), .int .i64 2]) (by simp [results, Try.results9, go_sem]) rfl ⟨rfl, ?_⟩
  exact (Below.refl _ _).alloc (Nat.le_refl _) _
end Go.Proofs.Ytgmpfnhdcgcldaa
