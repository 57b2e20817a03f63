/- Contracts of package hello, part B: Bytes, and the document's own. -/
import Derived.Test.YtgmpfnhdcgcldaaHelloR
import Derived.Test.YtgmpfnhdcgcldaaREpochB
import Derived.Lib.BufferWrite
import Derived.Deep.RegionLaw
namespace Go.Proofs.Ytgmpfnhdcgcldaa
open Go.RowKit Go.Sort

/-- A text that is copied into a block of the call's own, as one step of a region that draws its order. -/
theorem step_copy_text {P : Program} {ops : Array Oper} {o : Oper} {a : Act} {w : World} {K : Act → World → Prop} {Q : Exit → Act → World → Prop} {E : Prop} (hgd : o.guard = none) (d s : Operand) (dT sT : TypeId)
    (ho : o.op = .call { callee := .builtin .copy, args := #[d, s], argTypes := #[dT, sT] }) (elem : TypeId) (hu : P.underlying dT = some (.slice elem)) (hsz : (P.info? elem).map (·.size) = some 1)
    (g off dLen dCap : Nat) (hd : a.eval d = .slice (some ⟨g, off, none⟩) dLen dCap) (l : List UInt8) (hs : a.eval s = .string (str l)) (cs : List Value) (hg : Blk w g cs)
    (hle : l.length ≤ dLen) (hfit : off + l.length ≤ cs.length) (B : Nat) (w0 : World) (hb : Below B w0 w) (hBg : B ≤ g)
    (h : ∀ w', Blk w' g (cs.take off ++ Lib.byteCells l ++ cs.drop (off + l.length)) → Below B w0 w' → K (a.put o.dst (goInt l.length)) w') :
    if Region.wanted o (yielded ops a.tmps) = true then Oper.wp P o a w K Q else E := by
  have hw : Region.wanted o (yielded ops a.tmps) = true := by simp [Region.wanted, hgd]
  rw [if_pos hw]
  obtain ⟨t, hg⟩ := hg
  have hz := str_size l
  have hrun := Lib.run_copy_row_string (P := P) w dT sT o.type elem g off dLen dCap (str l) cs.toArray t hu hsz hg (by rw [hz]; exact hle) (by rw [hz]; simpa using hfit)
  rw [hz, str_list] at hrun
  unfold Oper.wp
  simp [execOp, ho, resolve, invoke, builtin, hd, hs, hrun, Result.andThen]
  refine h _ ⟨t, ?_⟩ (hb.trans ?_)
  · have := setRow_heap w g _ (cs.toArray.toList.take off ++ Lib.byteCells l ++ cs.toArray.toList.drop (off + l.length)).toArray t _ hg
    simpa using this
  · exact ⟨rfl, rfl, rfl, by simp [World.setRow], fun k hk => setRow_other w g k _ (by omega)⟩

/-- A block of bytes, whole, as a text. -/
theorem blk_text {P : Program} {w : World} {g : Nat} {l : List UInt8} (h : Blk w g (Lib.byteCells l)) (src dst e : TypeId) (hs : P.underlying src = some (.slice e)) (he : P.underlying e = some (.int .u8)) (hd : P.underlying dst = some .string) (cap : Nat) :
    (convert src dst (.slice (some ⟨g, 0, none⟩) l.length cap)).run P w = .ok (.string (str l)) w := by
  refine run_convert_bytes_back (P := P) w src dst e ⟨g, 0, none⟩ cap l hs he hd fun j hj => ?_
  have hadd : (⟨g, 0, none⟩ : Addr).add j = ⟨g, j, none⟩ := by unfold Addr.add; split <;> simp_all
  rw [hadd]
  exact h.cell j (by simp [Lib.byteCells, hj])

/-- The bytes of a hello. -/
def helloL (f a b c d : Nat) : List UInt8 := UInt8.ofNat f :: pairL a b c d
theorem helloL_length (f a b c d : Nat) : (helloL f a b c d).length = 17 := by unfold helloL; rw [List.length_cons, pairL_length]

theorem hbytes_bad (f a b c d : Int) (h : rightF f a b = false) (w : World) :
    Calls Try.prog 7 #[(.agg #[.int .i64 f, .int .u32 a, .int .u32 b, .int .u32 c, .int .u32 d] : Value)] w fun e w' => e = .returned (.tuple #[.string ⟨#[]⟩, .int .i64 1]) ∧ Below w.heap.size w w' := by
  have R := Lib.hid (hright_any f a b c d)
  rw [h] at R
  have HB : Hid (Below w.heap.size w (w.alloc (.cells #[.int .i64 f, .int .u32 a, .int .u32 b, .int .u32 c, .int .u32 d] 28))) := Lib.hid ((Below.refl _ _).alloc (Nat.le_refl _) _)
  clear h
  go_enter Try.func7, Try.ntmps7
  go_wp2_with fail
  refine (R.out _).mono ?_
  rintro e w1 ⟨rfl, hb⟩
  go_wp2_with fail
  go_ret2
  exact ⟨rfl, bel_on HB.out hb⟩

set_option maxRecDepth 100000 in
set_option maxHeartbeats 1000000 in
theorem hbytes_ok (f a b c d : Nat) (h : rightF (f : Int) (a : Int) (b : Int) = true) (ha : a < 4294967296) (hb : b < 4294967296) (hc : c < 4294967296) (hd : d < 4294967296) (w : World) :
    Calls Try.prog 7 #[(.agg #[.int .i64 (f : Int), .int .u32 (a : Int), .int .u32 (b : Int), .int .u32 (c : Int), .int .u32 (d : Int)] : Value)] w fun e w' => e = .returned (.tuple #[.string (str (helloL f a b c d)), .int .i64 0]) ∧ Below w.heap.size w w' := by
  have hf := (rightF_in h).1
  have R := Lib.hid (hright_any (f : Int) (a : Int) (b : Int) (c : Int) (d : Int))
  rw [h] at R
  have BY : Hid (Gives Try.prog 19 #[(.agg #[.int .u32 (a : Int), .int .u32 (b : Int), .int .u32 (c : Int), .int .u32 (d : Int)] : Value)] (.string (str (pairL a b c d)))) := Lib.hid (bytes_any a b c d ha hb hc hd)
  have hwf : IntKind.u8.wrap (f : Int) = (f : Int) := by rw [IntKind.wrap_u8']; omega
  have hm : (f : Int) % 256 = (f : Int) := by omega
  have hinf : (Try.prog.info? 5).map (·.size) = some 1 := by kernel_rfl
  have hz16 := pairL_length a b c d
  have hcells : [.int .u8 (f : Int), .int .u8 0, .int .u8 0, .int .u8 0, .int .u8 0, .int .u8 0, .int .u8 0, .int .u8 0, .int .u8 0, .int .u8 0, .int .u8 0, .int .u8 0, .int .u8 0, .int .u8 0, .int .u8 0, .int .u8 0, .int .u8 0].take 1 ++ Lib.byteCells (pairL a b c d) ++ [.int .u8 (f : Int), .int .u8 0, .int .u8 0, .int .u8 0, .int .u8 0, .int .u8 0, .int .u8 0, .int .u8 0, .int .u8 0, .int .u8 0, .int .u8 0, .int .u8 0, .int .u8 0, .int .u8 0, .int .u8 0, .int .u8 0, .int .u8 0].drop (1 + (pairL a b c d).length) = Lib.byteCells (helloL f a b c d) := by
    have e : (UInt8.ofNat f).toNat = f := by simp; omega
    rw [hz16]
    simp [helloL, Lib.byteCells, e]
  have hl16 : (pairL a b c d).length ≤ 16 := by omega
  have hf16 : 1 + (pairL a b c d).length ≤ 17 := by omega
  clear h ha hb hc hd hf
  go_enter Try.func7, Try.ntmps7
  have h := Lib.hid (Below.refl w.heap.size w)
  go_wp2_with fail
  refine (R.out _).mono ?_
  rintro e w1 ⟨rfl, hb⟩
  have b_h : Blk w1 w.heap.size [.int .i64 (f : Int), .int .u32 (a : Int), .int .u32 (b : Int), .int .u32 (c : Int), .int .u32 (d : Int)] := (Blk.new w [.int .i64 (f : Int), .int .u32 (a : Int), .int .u32 (b : Int), .int .u32 (c : Int), .int .u32 (d : Int)] 28).on hb
  have h' := bel_on ((h.out).alloc (h.out).size _) hb
  clear hb h
  have B_h := Lib.hid b_h
  have h := Lib.hid h'
  clear h' b_h
  have e0 := Lib.hid (Blk.new w1 [.int .u8 (f : Int), .int .u8 0, .int .u8 0, .int .u8 0, .int .u8 0, .int .u8 0, .int .u8 0, .int .u8 0, .int .u8 0, .int .u8 0, .int .u8 0, .int .u8 0, .int .u8 0, .int .u8 0, .int .u8 0, .int .u8 0, .int .u8 0] 42)
  have b0 := B_h.out.next (.cells #[.int .u8 (f : Int), .int .u8 0, .int .u8 0, .int .u8 0, .int .u8 0, .int .u8 0, .int .u8 0, .int .u8 0, .int .u8 0, .int .u8 0, .int .u8 0, .int .u8 0, .int .u8 0, .int .u8 0, .int .u8 0, .int .u8 0, .int .u8 0] 42)
  have z2 := (B_h.out.next (.cells #[.int .u8 0, .int .u8 0, .int .u8 0, .int .u8 0, .int .u8 0, .int .u8 0, .int .u8 0, .int .u8 0, .int .u8 0, .int .u8 0, .int .u8 0, .int .u8 0, .int .u8 0, .int .u8 0, .int .u8 0, .int .u8 0, .int .u8 0] 42)).cell 0 rfl
  have c1 := b0.cell 1 rfl
  have c2 := b0.cell 2 rfl
  have c3 := b0.cell 3 rfl
  have c4 := b0.cell 4 rfl
  have hbw := Lib.hid (h.out.alloc h.out.size (.cells #[.int .u8 (f : Int), .int .u8 0, .int .u8 0, .int .u8 0, .int .u8 0, .int .u8 0, .int .u8 0, .int .u8 0, .int .u8 0, .int .u8 0, .int .u8 0, .int .u8 0, .int .u8 0, .int .u8 0, .int .u8 0, .int .u8 0, .int .u8 0] 42))
  have hl0 := h.out.size
  clear b0 B_h h
  go_upto_region 5 with fail
  obtain ⟨w2, hw2⟩ : ∃ w2, w1.alloc (.cells #[.int .u8 (f : Int), .int .u8 0, .int .u8 0, .int .u8 0, .int .u8 0, .int .u8 0, .int .u8 0, .int .u8 0, .int .u8 0, .int .u8 0, .int .u8 0, .int .u8 0, .int .u8 0, .int .u8 0, .int .u8 0, .int .u8 0, .int .u8 0] 42) = w2 := ⟨_, rfl⟩
  rw [hw2] at e0 c1 c2 c3 c4 hbw ⊢
  clear hw2 z2
  go_region_law (first
    | (go_simp; go_at_call 19; refine (BY.out _).mono ?_; rintro e w3 ⟨rfl, hb3⟩)
    | (refine step_copy_text rfl (.tmp 12) (.tmp 15) 43 9 rfl 5 Try.underlying43 hinf w1.heap.size 1 16 16 (by simp [Act.eval]) (pairL a b c d) (by simp [Act.eval]) [.int .u8 (f : Int), .int .u8 0, .int .u8 0, .int .u8 0, .int .u8 0, .int .u8 0, .int .u8 0, .int .u8 0, .int .u8 0, .int .u8 0, .int .u8 0, .int .u8 0, .int .u8 0, .int .u8 0, .int .u8 0, .int .u8 0, .int .u8 0] (e0.out.drew.on hb3) hl16 hf16 w.heap.size w (bel_on hbw.out.drew hb3) hl0 ?_; intro w4 hk4 hb4))
  rw [hcells] at hk4
  have hcv := blk_text (P := Try.prog) hk4 43 9 5 Try.underlying43 Try.underlying5 Try.underlying9 17
  rw [helloL_length] at hcv
  clear hk4
  go_wp2_with fail
  go_ret2
  exact ⟨rfl, hb4⟩
end Go.Proofs.Ytgmpfnhdcgcldaa
