/- Contracts of package ring, part M: the document's own Move. -/
import Derived.Test.YtogmneidfoedbaaRingL
import Derived.Test.YtogmneidfoedbaaRingE
namespace Go.Proofs.Ytogmneidfoedbaa
open Go.RowKit Go.Sort

/-- Two rings, and a number. -/
def GotTwo (r r' : Int) (A B : List ByteArray) (x : Nat) (w : World) (e : Ending) (w' : World) : Prop := ∃ a n c b m d, e = .returned (.tuple #[(.agg #[.int .i64 r, .slice a n c] : Value), (.agg #[.int .i64 r', .slice b m d] : Value), .int .i64 (x : Int)]) ∧ Txts w' a n c A ∧ Txts w' b m d B ∧ Below w.heap.size w w'
theorem moveN_more (most : Int) (n : Nat) (r : Int) (m i : Nat) (h : i < moveN most n r m) : (i : Int) < most ∧ i < n ∧ ((m + i : Nat) : Int) < r := by
  unfold moveN at h; omega
theorem moveN_end (most : Int) (n : Nat) (r : Int) (m : Nat) : ¬ ((moveN most n r m : Int) < most ∧ moveN most n r m < n ∧ ((m + moveN most n r m : Nat) : Int) < r) := by
  unfold moveN; omega
theorem drop_head {A : List ByteArray} {n i : Nat} (hl : A.length = n) (h : i < n) : ∃ s, (A.drop i)[0]? = some s ∧ (A.drop i).drop 1 = A.drop (i + 1) ∧ A.take (i + 1) = A.take i ++ [s] := by
  refine ⟨A[i]'(by omega), ?_, by rw [List.drop_drop], ?_⟩
  · rw [List.getElem?_drop, Nat.add_zero]; exact List.getElem?_eq_getElem _
  · rw [List.take_add_one, List.getElem?_eq_getElem (by omega)]; rfl
/-- The end of the round: both answers go into the boxes. -/
theorem two_set {w v : World} {a b : Option Addr} {n c m d hi : Nat} {A B : List ByteArray} {r r' : Int} {x y x' y' : Value} (k0 : Blk v w.heap.size [x, y]) (k1 : Blk v (w.heap.size + 1) [x', y']) {P2 P3 : List Value} (k2 : Blk v (w.heap.size + 1 + 1) P2) (k3 : Blk v (w.heap.size + 1 + 1 + 1) P3) (hA : Txts v a n c A) (hB : Txts v b m d B)
    (oA : Off a n 0 hi) (oB : Off b m 0 hi) (hhi : w.heap.size + 1 + 1 + 1 < hi) (hb : Below w.heap.size w v) : ∀ V, V = ((((v.setCell ⟨w.heap.size, 0, none⟩ (.int .i64 r)).setCell ⟨w.heap.size, 1, none⟩ (.slice a n c)).setCell ⟨w.heap.size + 1, 0, none⟩ (.int .i64 r')).setCell ⟨w.heap.size + 1, 1, none⟩ (.slice b m d)).drew →
    Blk V w.heap.size [.int .i64 r, .slice a n c] ∧ Blk V (w.heap.size + 1) [.int .i64 r', .slice b m d] ∧ Blk V (w.heap.size + 1 + 1) P2 ∧ Blk V (w.heap.size + 1 + 1 + 1) P3 ∧ Txts V a n c A ∧ Txts V b m d B ∧ Off a n w.heap.size (w.heap.size + 1 + 1 + 1 + 1) ∧ Off b m w.heap.size (w.heap.size + 1 + 1 + 1 + 1) ∧ Below w.heap.size w V := by
  intro V hV
  subst hV
  have s1 : w.heap.size < hi := by omega
  have s2 : w.heap.size + 1 < hi := by omega
  have g1 : w.heap.size ≤ w.heap.size := by omega
  have g2 : w.heap.size ≤ w.heap.size + 1 := by omega
  refine ⟨((((k0.set 0 (.int .i64 r)).set 1 (.slice a n c)).other ⟨w.heap.size + 1, 0, none⟩ (.int .i64 r') (by dsimp only; omega)).other ⟨w.heap.size + 1, 1, none⟩ (.slice b m d) (by dsimp only; omega)).drew,
    ((((k1.other ⟨w.heap.size, 0, none⟩ (.int .i64 r) (by dsimp only; omega)).other ⟨w.heap.size, 1, none⟩ (.slice a n c) (by dsimp only; omega)).set 0 (.int .i64 r')).set 1 (.slice b m d)).drew,
    ((((k2.other ⟨w.heap.size, 0, none⟩ (.int .i64 r) (by dsimp only; omega)).other ⟨w.heap.size, 1, none⟩ (.slice a n c) (by dsimp only; omega)).other ⟨w.heap.size + 1, 0, none⟩ (.int .i64 r') (by dsimp only; omega)).other ⟨w.heap.size + 1, 1, none⟩ (.slice b m d) (by dsimp only; omega)).drew,
    ((((k3.other ⟨w.heap.size, 0, none⟩ (.int .i64 r) (by dsimp only; omega)).other ⟨w.heap.size, 1, none⟩ (.slice a n c) (by dsimp only; omega)).other ⟨w.heap.size + 1, 0, none⟩ (.int .i64 r') (by dsimp only; omega)).other ⟨w.heap.size + 1, 1, none⟩ (.slice b m d) (by dsimp only; omega)).drew,
    ((((hA.set oA ⟨w.heap.size, 0, none⟩ (.int .i64 r) (Nat.zero_le _) s1).set oA ⟨w.heap.size, 1, none⟩ (.slice a n c) (Nat.zero_le _) s1).set oA ⟨w.heap.size + 1, 0, none⟩ (.int .i64 r') (Nat.zero_le _) s2).set oA ⟨w.heap.size + 1, 1, none⟩ (.slice b m d) (Nat.zero_le _) s2).drew,
    ((((hB.set oB ⟨w.heap.size, 0, none⟩ (.int .i64 r) (Nat.zero_le _) s1).set oB ⟨w.heap.size, 1, none⟩ (.slice a n c) (Nat.zero_le _) s1).set oB ⟨w.heap.size + 1, 0, none⟩ (.int .i64 r') (Nat.zero_le _) s2).set oB ⟨w.heap.size + 1, 1, none⟩ (.slice b m d) (Nat.zero_le _) s2).drew,
    oA.mono (Nat.zero_le _) (by omega), oB.mono (Nat.zero_le _) (by omega), ?_⟩
  exact ((((hb.setCell (p := ⟨w.heap.size, 0, none⟩) g1 _).setCell (p := ⟨w.heap.size, 1, none⟩) g1 _).setCell (p := ⟨w.heap.size + 1, 0, none⟩) g2 _).setCell (p := ⟨w.heap.size + 1, 1, none⟩) g2 _).drew

set_option maxRecDepth 100000 in
set_option maxHeartbeats 4000000 in
theorem rmove_any (r r' : Int) (a b : Option Addr) (n c m d : Nat) (most : Int) (A B : List ByteArray) (w : World) (hA : Txts w a n c A) (hB : Txts w b m d B) (hn : n ≤ 1000) (hm : m ≤ 1000) :
    Calls Try.prog 15 #[(.agg #[.int .i64 r, .slice a n c] : Value), (.agg #[.int .i64 r', .slice b m d] : Value), .int .i64 most] w (GotTwo r r' (A.drop (moveN most n r' m)) (B ++ A.take (moveN most n r' m)) (moveN most n r' m) w) := by
  have HMore := Lib.hid (moveN_more most n r' m)
  have HEnd := Lib.hid (moveN_end most n r' m)
  have hx2 := (moveN_is most n r' m).2
  obtain ⟨x, hx⟩ : ∃ x, moveN most n r' m = x := ⟨_, rfl⟩
  rw [hx] at HMore HEnd hx2 ⊢
  obtain ⟨W, hW, w0, w1, w2, w3, wB⟩ := four_boxes w r r' a b n c m d
  have K0 := Lib.hid w0
  have K1 := Lib.hid w1
  have K2 := Lib.hid w2
  have K3 := Lib.hid w3
  have HB := Lib.hid wB
  have HW := Lib.hid hW
  have HA0 := Lib.hid hA
  have HB0 := Lib.hid hB
  have HN := Lib.hid hn
  have HM := Lib.hid hm
  have HX := Lib.hid hx2
  clear hx hW w0 w1 w2 w3 wB hA hB hn hm hx2
  go_enter Try.func15, Try.ntmps15
  go_upto_region 2 with fail
  rw [HW.out]
  go_loopw [9] (fun v wr => ∃ (i n1 m1 : Nat) (a1 : Option Addr) (c1 : Nat) (b1 : Option Addr) (d1 : Nat), i ≤ x ∧ v = .int .i64 (i : Int) ∧ n1 + i = n ∧ m1 = m + i ∧ Blk wr w.heap.size [.int .i64 r, .slice a1 n1 c1] ∧ Blk wr (w.heap.size + 1) [.int .i64 r', .slice b1 m1 d1] ∧
      Blk wr (w.heap.size + 1 + 1) [.int .i64 0, .slice none 0 0] ∧ Blk wr (w.heap.size + 1 + 1 + 1) [.int .i64 0, .slice none 0 0] ∧ Txts wr a1 n1 c1 (A.drop i) ∧ Txts wr b1 m1 d1 (B ++ A.take i) ∧
      Off a1 n1 w.heap.size (w.heap.size + 1 + 1 + 1 + 1) ∧ Off b1 m1 w.heap.size (w.heap.size + 1 + 1 + 1 + 1) ∧ Below w.heap.size w wr) (fun v _ => (x - intOf v).toNat)
  case atStart => exact ⟨0, n, m, a, c, b, d, Nat.zero_le _, rfl, rfl, rfl, K0.out, K1.out, K2.out, K3.out, HA0.out.on HB.out, by rw [List.take_zero, List.append_nil]; exact HB0.out.on HB.out, HA0.out.off _, HB0.out.off _, HB.out⟩
  case round =>
    obtain ⟨i, n1, m1, a1, c1, b1, d1, hi, rfl, hn1, hm1, hk0, hk1, hk2, hk3, ht, hu, ho, hp, hb⟩ := hrel
    have k0 := Lib.hid hk0
    have k1 := Lib.hid hk1
    have k2 := Lib.hid hk2
    have k3 := Lib.hid hk3
    have TT := Lib.hid ht
    have TU := Lib.hid hu
    have OO := Lib.hid ho
    have OP := Lib.hid hp
    have HH := Lib.hid hb
    have HN1 := Lib.hid hn1
    have HM1 := Lib.hid hm1
    have hi6 : i ≤ 1000 := by have := HX.out; have := HN.out; omega
    clear hk0 hk1 hk2 hk3 ht hu ho hp hb K0 K1 K2 K3 HB
    by_cases hix : i < x
    · obtain ⟨q1, q2, q3⟩ := HMore.out i hix
      obtain ⟨s, hs, hs2, hs3⟩ := drop_head HA0.out.1 q2
      obtain ⟨z, hz⟩ : ∃ z, n1 = z + 1 := ⟨n1 - 1, by omega⟩
      have dm : decide ((i : Int) < most) = true := decide_eq_true q1
      have HIX := Lib.hid hix
      have HZ := Lib.hid hz
      have HS2 := Lib.hid hs2
      have HS3 := Lib.hid hs3
      have HQ3 : Hid ((m1 : Int) < r') := Lib.hid (by omega)
      have TK := Lib.hid (rtake_ok r a1 n1 c1 s (A.drop i) wr TT.out (by have := HN.out; omega) hs)
      clear q1 q2 q3 hs hs2 hs3 hix hi hn1 hm1 hz
      have p0 := k0.out.cell 0 rfl
      have p1 := k0.out.cell 1 rfl
      go_wp2_with fail
      refine TK.out.mono ?_
      rintro e w2 ⟨a2, n2, c2, rfl, ht, ho, hb⟩
      obtain rfl : z = n2 := by have h1 := ht.1; rw [List.length_drop, List.length_drop, HA0.out.1] at h1; have h2 := HZ.out; have h3 := HN1.out; omega
      have r0 := k0.out.on hb
      have r1 := k1.out.on hb
      have r2 := k2.out.on hb
      have r3 := k3.out.on hb
      have ru := TU.out.on hb
      have hlt3 := k3.out.lt
      clear p0 p1
      go_upto_region 5 with fail
      obtain ⟨v1, hv1⟩ : ∃ v, w2.alloc (.cells #[.int .i64 r, .slice a2 z c2] 27) = v := ⟨_, rfl⟩
      obtain ⟨bt, hbt⟩ : ∃ b, w2.heap.size = b := ⟨_, rfl⟩
      have hw2v : Below w2.heap.size w2 v1 := hv1 ▸ (Below.refl _ _).alloc (Nat.le_refl _) _
      have KA : Blk v1 bt [.int .i64 r, .slice a2 z c2] := hv1 ▸ Blk.newAt hbt [.int .i64 r, .slice a2 z c2] 27
      rw [hbt, hv1]
      have s0 := r0.on hw2v
      have s1 := r1.on hw2v
      have s2 := r2.on hw2v
      have s3 := r3.on hw2v
      have su := ru.on hw2v
      have st := ht.on hw2v
      have hH1 := bel_on (bel_on HH.out hb) hw2v
      have G0 := Lib.hid s0
      have G1 := Lib.hid s1
      have G2 := Lib.hid s2
      have G3 := Lib.hid s3
      have GU := Lib.hid su
      have GT := Lib.hid st
      have GA := Lib.hid KA
      have GH := Lib.hid hH1
      have GO := Lib.hid (ho.mono (Nat.le_refl 0) (Nat.le_refl _))
      have HL3 := Lib.hid hlt3
      have HBT : Hid (w.heap.size + 1 + 1 + 1 < bt) := Lib.hid (by have := hb.size; omega)
      have GS : Hid (wr.heap.size ≤ v1.heap.size) := Lib.hid (Nat.le_trans hb.size hw2v.size)
      clear r0 r1 r2 r3 ru ht ho hb hw2v s0 s1 s2 s3 su st hH1 KA hv1 hbt hlt3 k0 k1 k2 k3 TT TU OO OP HH TK
      have PT := Lib.hid (rput_ok r' b1 m1 d1 (B ++ A.take i) s v1 GU.out (by have := HM1.out; have := HM.out; omega) HQ3.out)
      have q0 := G1.out.cell 0 rfl
      have q1 := G1.out.cell 1 rfl
      go_wp2_with fail
      refine PT.out.mono ?_
      rintro e w3 ⟨b2, m2, d2, rfl, hu, hp, hb⟩
      obtain rfl : m1 + 1 = m2 := by have h1 := hu.1; rw [List.length_append, GU.out.1] at h1; exact h1
      rw [List.append_assoc, ← HS3.out] at hu
      have r0 := G0.out.on hb
      have r1 := G1.out.on hb
      have r2 := G2.out.on hb
      have r3 := G3.out.on hb
      have rt := GT.out.on hb
      have ra := GA.out.on hb
      have hlta := GA.out.lt
      clear q0 q1
      go_upto_region 7 with fail
      obtain ⟨v2, hv2⟩ : ∃ v, w3.alloc (.cells #[.int .i64 r', .slice b2 (m1 + 1) d2] 27) = v := ⟨_, rfl⟩
      obtain ⟨bu, hbu⟩ : ∃ b, w3.heap.size = b := ⟨_, rfl⟩
      have hw3v : Below w3.heap.size w3 v2 := hv2 ▸ (Below.refl _ _).alloc (Nat.le_refl _) _
      have KB : Blk v2 bu [.int .i64 r', .slice b2 (m1 + 1) d2] := hv2 ▸ Blk.newAt hbu [.int .i64 r', .slice b2 (m1 + 1) d2] 27
      rw [hbu, hv2]
      have s0 := r0.on hw3v
      have s1 := r1.on hw3v
      have s2 := r2.on hw3v
      have s3 := r3.on hw3v
      have sa := ra.on hw3v
      have st := rt.on hw3v
      have su := hu.on hw3v
      have hH2 := bel_on (bel_on GH.out hb) hw3v
      have hoA : Off a2 z 0 wr.heap.size := GO.out
      have hoB : Off b2 (m1 + 1) 0 wr.heap.size := hp.mono (Nat.le_refl _) GS.out
      have TS := Lib.hid (two_set (r := r) (r' := r') s0 s1 s2 s3 st su hoA hoB HL3.out hH2 _ rfl)
      have HBU : Hid (w.heap.size + 1 + 1 + 1 < bu) := Lib.hid (by have := hb.size; have := HBT.out; omega)
      have J0 := Lib.hid s0
      have J1 := Lib.hid s1
      have JA := Lib.hid sa
      have JB := Lib.hid KB
      clear r0 r1 r2 r3 rt ra hu hp hb hw3v s0 s1 s2 s3 st su sa hH2 hoA hoB KB hv2 hbu hlta G0 G1 G2 G3 GU GT GA GH GO GS PT
      have p0 := J0.out.cell 0 rfl
      have p1 := J0.out.cell 1 rfl
      have q0 := J1.out.cell 0 rfl
      have q1 := J1.out.cell 1 rfl
      have x0 := JA.out.cell 0 rfl
      have x1 := JA.out.cell 1 rfl
      have y0 := JB.out.cell 0 rfl
      have y1 := JB.out.cell 1 rfl
      have g0 := J0.out.thaw 0
      have g1 := J0.out.thaw 1
      have h0 := J1.out.thaw 0
      have h1 := J1.out.thaw 1
      have i1 : ¬ w.heap.size = bt := by have := HBT.out; omega
      have i2 : ¬ w.heap.size + 1 = bt := by have := HBT.out; omega
      have i3 : ¬ w.heap.size = bu := by have := HBU.out; omega
      have i4 : ¬ w.heap.size + 1 = bu := by have := HBU.out; omega
      have i5 : ¬ bt = w.heap.size := fun e => i1 e.symm
      have i6 : ¬ bt = w.heap.size + 1 := fun e => i2 e.symm
      have i7 : ¬ bu = w.heap.size := fun e => i3 e.symm
      have i8 : ¬ bu = w.heap.size + 1 := fun e => i4 e.symm
      go_region
      clear p0 p1 q0 q1 x0 x1 y0 y1 g0 g1 h0 h1 i1 i2 i3 i4 i5 i6 i7 i8
      go_wp2_with fail
      go_roundw
      case rel => exact ⟨i + 1, z, m1 + 1, a2, c2, b2, d2, HIX.out, by go_num, by have := HN1.out; have := HZ.out; omega, by have := HM1.out; omega, TS.out.1, TS.out.2.1, TS.out.2.2.1, TS.out.2.2.2.1, by have h := TS.out.2.2.2.2.1; rw [HS2.out] at h; exact h, TS.out.2.2.2.2.2⟩
      case measure => exact meas_k x i _ rfl HIX.out
    · obtain rfl : i = x := by omega
      have hend := HEnd.out
      by_cases q1 : (i : Int) < most
      · have dm : decide ((i : Int) < most) = true := decide_eq_true q1
        by_cases q2 : i < n
        · have q3 : r' ≤ (m1 : Int) := by omega
          obtain ⟨s, hs, _, _⟩ := drop_head HA0.out.1 q2
          have TK := Lib.hid (rtake_ok r a1 n1 c1 s (A.drop i) wr TT.out (by have := HN.out; omega) hs)
          have PF := Lib.hid (fun w => rput_full r' b1 m1 d1 s w q3)
          clear q1 q2 q3 hs hi hn1 hm1 hend hix
          have p0 := k0.out.cell 0 rfl
          have p1 := k0.out.cell 1 rfl
          go_wp2_with fail
          refine TK.out.mono ?_
          rintro e w2 ⟨a2, n2, c2, rfl, ht, ho, hb⟩
          have r0 := k0.out.on hb
          have r1 := k1.out.on hb
          have r2 := k2.out.on hb
          have r3 := k3.out.on hb
          have ru := TU.out.on hb
          have rt := TT.out.on hb
          clear p0 p1 ht ho
          go_upto_region 5 with fail
          obtain ⟨v1, hv1⟩ : ∃ v, w2.alloc (.cells #[.int .i64 r, .slice a2 n2 c2] 27) = v := ⟨_, rfl⟩
          have hw2v : Below w2.heap.size w2 v1 := hv1 ▸ (Below.refl _ _).alloc (Nat.le_refl _) _
          rw [hv1]
          have G0 := Lib.hid (r0.on hw2v)
          have G1 := Lib.hid (r1.on hw2v)
          have G2 := Lib.hid (r2.on hw2v)
          have G3 := Lib.hid (r3.on hw2v)
          have GU := Lib.hid (ru.on hw2v)
          have GT := Lib.hid (rt.on hw2v)
          have GH := Lib.hid (bel_on (bel_on HH.out hb) hw2v)
          clear r0 r1 r2 r3 ru rt hb hw2v hv1 k0 k1 k2 k3 TT TU HH TK
          have q0 := G1.out.cell 0 rfl
          have q1 := G1.out.cell 1 rfl
          go_wp2_with fail
          refine (PF.out _).mono ?_
          rintro e w3 ⟨rfl, hb⟩
          clear q0 q1
          have hb3 : Below v1.heap.size v1 (w3.alloc (.cells #[.int .i64 r', .slice b1 m1 d1] 27)) := hb.alloc hb.size _
          have D0 := Lib.hid (G0.out.on hb3)
          have D1 := Lib.hid (G1.out.on hb3)
          have D2 := Lib.hid (G2.out.on hb3)
          have D3 := Lib.hid (G3.out.on hb3)
          have DU := Lib.hid (GU.out.on hb3)
          have DT := Lib.hid (GT.out.on hb3)
          have DH := Lib.hid (bel_on GH.out hb3)
          clear hb hb3 G0 G1 G2 G3 GU GT GH
          have RT := Lib.hid (move_tail (r := r) (r' := r') D2.out D3.out DT.out DU.out OO.out OP.out DH.out _ rfl)
          have p0 := (D0.out).cell 0 rfl
          have p1 := (D0.out).cell 1 rfl
          have q0 := (D1.out).cell 0 rfl
          have q1 := (D1.out).cell 1 rfl
          have x0 := (D2.out).cell 0 rfl
          have x1 := (D2.out).cell 1 rfl
          have y0 := (D3.out).cell 0 rfl
          have y1 := (D3.out).cell 1 rfl
          have g0 := (D2.out).thaw 0
          have g1 := (D2.out).thaw 1
          have h0 := (D3.out).thaw 0
          have h1 := (D3.out).thaw 1
          go_upto_region 9 with fail
          go_region
          go_wp2_with fail
          have e0 := RT.out.1.cell 0 rfl
          have e1 := RT.out.1.cell 1 rfl
          have e2 := RT.out.2.1.cell 0 rfl
          have e3 := RT.out.2.1.cell 1 rfl
          refine bodyPost_ret (v := .tuple #[(.agg #[.int .i64 r, .slice a1 n1 c1] : Value), (.agg #[.int .i64 r', .slice b1 m1 d1] : Value), .int .i64 (i : Int)]) (by simp [results, Try.results15, go_sem, e0, e1, e2, e3]) rfl ⟨a1, n1, c1, b1, m1, d1, rfl, RT.out.2.2⟩
        · obtain rfl : n1 = 0 := by omega
          have TK := Lib.hid (fun w => rtake_none r a1 c1 w)
          clear q1 q2 hi hn1 hm1 hend hix
          have p0 := k0.out.cell 0 rfl
          have p1 := k0.out.cell 1 rfl
          go_wp2_with fail
          refine (TK.out _).mono ?_
          rintro e w2 ⟨rfl, hb⟩
          clear p0 p1
          have hb3 : Below wr.heap.size wr (w2.alloc (.cells #[.int .i64 r, .slice a1 0 c1] 27)) := hb.alloc hb.size _
          have D0 := Lib.hid (k0.out.on hb3)
          have D1 := Lib.hid (k1.out.on hb3)
          have D2 := Lib.hid (k2.out.on hb3)
          have D3 := Lib.hid (k3.out.on hb3)
          have DU := Lib.hid (TU.out.on hb3)
          have DT := Lib.hid (TT.out.on hb3)
          have DH := Lib.hid (bel_on HH.out hb3)
          clear hb hb3 k0 k1 k2 k3 TU TT HH
          have RT := Lib.hid (move_tail (r := r) (r' := r') D2.out D3.out DT.out DU.out OO.out OP.out DH.out _ rfl)
          have p0 := (D0.out).cell 0 rfl
          have p1 := (D0.out).cell 1 rfl
          have q0 := (D1.out).cell 0 rfl
          have q1 := (D1.out).cell 1 rfl
          have x0 := (D2.out).cell 0 rfl
          have x1 := (D2.out).cell 1 rfl
          have y0 := (D3.out).cell 0 rfl
          have y1 := (D3.out).cell 1 rfl
          have g0 := (D2.out).thaw 0
          have g1 := (D2.out).thaw 1
          have h0 := (D3.out).thaw 0
          have h1 := (D3.out).thaw 1
          go_upto_region 9 with fail
          go_region
          go_wp2_with fail
          have e0 := RT.out.1.cell 0 rfl
          have e1 := RT.out.1.cell 1 rfl
          have e2 := RT.out.2.1.cell 0 rfl
          have e3 := RT.out.2.1.cell 1 rfl
          refine bodyPost_ret (v := .tuple #[(.agg #[.int .i64 r, .slice a1 0 c1] : Value), (.agg #[.int .i64 r', .slice b1 m1 d1] : Value), .int .i64 (i : Int)]) (by simp [results, Try.results15, go_sem, e0, e1, e2, e3]) rfl ⟨a1, 0, c1, b1, m1, d1, rfl, RT.out.2.2⟩
      · have dm : decide ((i : Int) < most) = false := decide_eq_false q1
        clear q1 hi hn1 hm1 hend hix
        have RT := Lib.hid (move_tail (r := r) (r' := r') k2.out k3.out TT.out TU.out OO.out OP.out HH.out _ rfl)
        have p0 := (k0.out).cell 0 rfl
        have p1 := (k0.out).cell 1 rfl
        have q0 := (k1.out).cell 0 rfl
        have q1 := (k1.out).cell 1 rfl
        have x0 := (k2.out).cell 0 rfl
        have x1 := (k2.out).cell 1 rfl
        have y0 := (k3.out).cell 0 rfl
        have y1 := (k3.out).cell 1 rfl
        have g0 := (k2.out).thaw 0
        have g1 := (k2.out).thaw 1
        have h0 := (k3.out).thaw 0
        have h1 := (k3.out).thaw 1
        go_upto_region 9 with fail
        go_region
        go_wp2_with fail
        have e0 := RT.out.1.cell 0 rfl
        have e1 := RT.out.1.cell 1 rfl
        have e2 := RT.out.2.1.cell 0 rfl
        have e3 := RT.out.2.1.cell 1 rfl
        refine bodyPost_ret (v := .tuple #[(.agg #[.int .i64 r, .slice a1 n1 c1] : Value), (.agg #[.int .i64 r', .slice b1 m1 d1] : Value), .int .i64 (i : Int)]) (by simp [results, Try.results15, go_sem, e0, e1, e2, e3]) rfl ⟨a1, n1, c1, b1, m1, d1, rfl, RT.out.2.2⟩
end Go.Proofs.Ytogmneidfoedbaa
