/- RingFirst: whatever room and whatever puts and takes come, the law returns true (what was put first is taken first, each once, and never more than the room are in it), and its arguments read as before. No condition. -/
import Derived.Test.YtogmneidfoedbaaRows
import Derived.Test.YtogmneidfoedbaaRingF
import Derived.Test.YtogmneidfoedbaaRingG
import Derived.Test.YtogmneidfoedbaaBoolsOpen
import Derived.ProofKit
import Derived.OpenShut
import Derived.ShutString
import Derived.ChangeOld
import Derived.Carry
namespace Go.Proofs.Ytogmneidfoedbaa.ringFirst
open Go.ChangeShapes Go.WideShapes Go.ChangeAt Go.RowKit
open Go.ChangeMaps (open_string shut_string)

theorem own : ownKnob Try.prog.godebug = none := by kernel_rfl
theorem laidOut : laidOutB Try.prog = true := by kernel_rfl

theorem byte_text (g : Nat) (j : Nat) (w : World) (hj : j < 256) (hk : Blk w g [.int .u8 (j : Int)]) :
    (convert 32 9 (.slice (some ⟨g, 0, none⟩) 1 1)).run Try.prog w = .ok (.string (byteS j)) w := by
  refine run_convert_bytes_back (P := Try.prog) w 32 9 5 ⟨g, 0, none⟩ 1 [UInt8.ofNat j] Try.underlying32 Try.underlying5 Try.underlying9 fun i hi => ?_
  have hi0 : i = 0 := by simpa using hi
  subst hi0
  have hadd : (⟨g, 0, none⟩ : Addr).add 0 = ⟨g, 0, none⟩ := by simp [Addr.add]
  rw [hadd, hk.cell 0 rfl]
  have e := byteS_nat j hj
  show some (Value.int .u8 (j : Int)) = some (.int .u8 ((UInt8.ofNat j).toNat : Int))
  rw [e]
theorem put_tx (R O d I : Nat) (a : Option Addr) (c : Nat) (w : World) (h : Txts w a d c (tx O d)) (hI : I = O + d) (hd : d < R) (hR : R ≤ 20) :
    Calls Try.prog 7 #[(.agg #[.int .i64 (R : Int), .slice a d c] : Value), .string (byteS I)] w fun e w' => ∃ a' c', e = .returned (.tuple #[(.agg #[.int .i64 (R : Int), .slice a' (d + 1) c'] : Value), .int .i64 0]) ∧ Txts w' a' (d + 1) c' (tx O (d + 1)) ∧ Off a' (d + 1) 0 w.heap.size ∧ Below w.heap.size w w' := by
  subst hI
  refine (put_ok (R : Int) a d c (tx O d) (byteS (O + d)) w h (by omega) (by omega) (by omega)).mono ?_
  rintro e w' ⟨a', n', c', rfl, ht, ho, hb⟩
  rw [tx_snoc] at ht
  obtain rfl : d + 1 = n' := by have := ht.1; rw [tx_length] at this; exact this
  exact ⟨a', c', rfl, ht, ho, hb⟩
theorem put_tx_full (R O d : Nat) (s : ByteArray) (a : Option Addr) (c : Nat) (w : World) (h : Txts w a d c (tx O d)) (hd : R ≤ d) (hR : d ≤ 20) :
    Calls Try.prog 7 #[(.agg #[.int .i64 (R : Int), .slice a d c] : Value), .string s] w fun e w' => ∃ a' c', e = .returned (.tuple #[(.agg #[.int .i64 (R : Int), .slice a' d c'] : Value), .int .i64 8]) ∧ Txts w' a' d c' (tx O d) ∧ Off a' d 0 w.heap.size ∧ Below w.heap.size w w' := by
  refine (put_full (R : Int) a d c (tx O d) s w h (by omega) (by omega) (by omega)).mono ?_
  rintro e w' ⟨a', n', c', rfl, ht, ho, hb⟩
  obtain rfl : d = n' := by have := ht.1; rw [tx_length] at this; exact this
  exact ⟨a', c', rfl, ht, ho, hb⟩
theorem take_tx (R O d : Nat) (a : Option Addr) (c : Nat) (w : World) (h : Txts w a (d + 1) c (tx O (d + 1))) (hR : d ≤ 20) :
    Calls Try.prog 8 #[(.agg #[.int .i64 (R : Int), .slice a (d + 1) c] : Value)] w fun e w' => ∃ a' c', e = .returned (.tuple #[(.agg #[.int .i64 (R : Int), .slice a' d c'] : Value), .string (byteS O), .int .i64 0]) ∧ Txts w' a' d c' (tx (O + 1) d) ∧ Off a' d 0 w.heap.size ∧ Below w.heap.size w w' := by
  refine (take_ok (R : Int) a (d + 1) c (byteS O) (tx O (d + 1)) w h (by omega) rfl).mono ?_
  rintro e w' ⟨a', n', c', rfl, ht, ho, hb⟩
  have e1 : (tx O (d + 1)).drop 1 = tx (O + 1) d := rfl
  rw [e1] at ht
  obtain rfl : d = n' := by have := ht.1; rw [tx_length] at this; exact this
  exact ⟨a', c', rfl, ht, ho, hb⟩
theorem take_tx_none (R : Nat) (a : Option Addr) (c : Nat) (w : World) (h : Txts w a 0 c []) :
    Calls Try.prog 8 #[(.agg #[.int .i64 (R : Int), .slice a 0 c] : Value)] w fun e w' => ∃ a' c', e = .returned (.tuple #[(.agg #[.int .i64 (R : Int), .slice a' 0 c'] : Value), .string ⟨#[]⟩, .int .i64 9]) ∧ Txts w' a' 0 c' [] ∧ Off a' 0 0 w.heap.size ∧ Below w.heap.size w w' := by
  refine (take_none (R : Int) a c w h).mono ?_
  rintro e w' ⟨a', n', c', rfl, ht, ho, hb⟩
  obtain rfl : 0 = n' := ht.1
  exact ⟨a', c', rfl, ht, ho, hb⟩
/-- What a round leaves: the answer lies in a new block, and is stored into the variable's. -/
theorem round_end {w w2 : World} {bq R : Nat} {x y : Value} {a' : Option Addr} {n c hi : Nat} {L : List ByteArray} (hk : Blk w2 bq [x, y]) (ht : Txts w2 a' n c L) (ho : Off a' n 0 hi) (hlt : bq < hi) (hH : Below w.heap.size w w2) (hq : w.heap.size ≤ bq) (o : Obj) :
    Blk (((w2.setCell ⟨bq, 0, none⟩ (.int .i64 (R : Int))).setCell ⟨bq, 1, none⟩ (.slice a' n c)).alloc o) bq [.int .i64 (R : Int), .slice a' n c] ∧
    Txts (((w2.setCell ⟨bq, 0, none⟩ (.int .i64 (R : Int))).setCell ⟨bq, 1, none⟩ (.slice a' n c)).alloc o) a' n c L ∧
    Below w.heap.size w (((w2.setCell ⟨bq, 0, none⟩ (.int .i64 (R : Int))).setCell ⟨bq, 1, none⟩ (.slice a' n c)).alloc o) :=
  have hb := ((hH.setCell (p := ⟨bq, 0, none⟩) hq (.int .i64 (R : Int))).setCell (p := ⟨bq, 1, none⟩) hq (.slice a' n c))
  ⟨((hk.set 0 (.int .i64 (R : Int))).set 1 (.slice a' n c)).next o,
    ((ht.set ho ⟨bq, 0, none⟩ (.int .i64 (R : Int)) (Nat.zero_le _) hlt).set ho ⟨bq, 1, none⟩ (.slice a' n c) (Nat.zero_le _) hlt).next o,
    hb.alloc hb.size o⟩
theorem round_end2 {w w2 : World} {bq R : Nat} {x y : Value} {a' : Option Addr} {n c hi : Nat} {L : List ByteArray} (hk : Blk w2 bq [x, y]) (ht : Txts w2 a' n c L) (ho : Off a' n 0 hi) (hlt : bq < hi) (hH : Below w.heap.size w w2) (hq : w.heap.size ≤ bq) (o o2 : Obj) :
    Blk ((((w2.setCell ⟨bq, 0, none⟩ (.int .i64 (R : Int))).setCell ⟨bq, 1, none⟩ (.slice a' n c)).alloc o).alloc o2) bq [.int .i64 (R : Int), .slice a' n c] ∧
    Txts ((((w2.setCell ⟨bq, 0, none⟩ (.int .i64 (R : Int))).setCell ⟨bq, 1, none⟩ (.slice a' n c)).alloc o).alloc o2) a' n c L ∧
    Below w.heap.size w ((((w2.setCell ⟨bq, 0, none⟩ (.int .i64 (R : Int))).setCell ⟨bq, 1, none⟩ (.slice a' n c)).alloc o).alloc o2) :=
  have h := round_end (R := R) hk ht ho hlt hH hq o
  ⟨h.1.next o2, h.2.1.next o2, h.2.2.alloc h.2.2.size o2⟩

set_option maxRecDepth 100000 in
set_option maxHeartbeats 2000000 in
theorem walk (r : Int) (a : Option Addr) (c : Nat) (l : List Bool) (w : World) (hl : BoolAt w a l) :
    Calls Try.prog 3 #[.int .i64 r, .slice a l.length c] w fun e w' => e = .returned (.bool true) ∧ Below w.heap.size w w' := by
  have AW := Lib.hid rawake_any
  have LL := Lib.hid hl
  obtain ⟨n, hn⟩ : ∃ n, l.length = n := ⟨_, rfl⟩
  have HN := Lib.hid hn
  rw [hn]
  clear hl hn
  by_cases h2 : 200 < n
  · have g2 : decide ((200 : Int) < (n : Int)) = true := decide_eq_true (by omega)
    clear h2
    go_enter Try.func3, Try.ntmps3
    go_wp2_with fail
    refine (AW.out _).mono ?_
    rintro e w1 ⟨rfl, hb⟩
    go_wp2_with fail
    go_ret
    exact ⟨rfl, hb⟩
  · have g2 : decide ((200 : Int) < (n : Int)) = false := decide_eq_false (by omega)
    have HN2 : Hid (n ≤ 200) := Lib.hid (by omega)
    obtain ⟨R, hR, hR1, hR2⟩ := room_is r
    have NW := Lib.hid (new_ok (R : Int) (by omega) (by omega))
    have HR2 := Lib.hid hR2
    clear h2 hR1 hR2
    go_enter Try.func3, Try.ntmps3
    go_wp2_with fail
    refine (NW.out _).mono ?_
    rintro e w1 ⟨rfl, hb⟩
    have H1 := Lib.hid hb
    clear hb
    go_upto_region 9 with fail
    clear hR g2
    obtain ⟨bq, hbq⟩ : ∃ b, w1.heap.size = b := ⟨_, rfl⟩
    obtain ⟨v1, hv1⟩ : ∃ v, w1.alloc (.cells #[.int .i64 (R : Int), .slice none 0 0] 27) = v := ⟨_, rfl⟩
    rw [hbq, hv1]
    have KQ : Hid (Blk v1 bq [.int .i64 (R : Int), .slice none 0 0]) := Lib.hid (hv1 ▸ Blk.newAt hbq [.int .i64 (R : Int), .slice none 0 0] 27)
    have HH : Hid (Below w.heap.size w v1) := Lib.hid (hv1 ▸ H1.out.alloc H1.out.size _)
    have HQ : Hid (w.heap.size ≤ bq) := Lib.hid (hbq ▸ H1.out.size)
    clear hv1 hbq H1
    go_loopw [7, 8, 34] (fun u v s wr => ∃ (i O d I : Nat) (a' : Option Addr) (c' : Nat), i ≤ n ∧ I ≤ i ∧ I = O + d ∧ d ≤ R ∧ s = .int .i64 (i : Int) ∧ u = .int .i64 (I : Int) ∧ v = .int .i64 (O : Int) ∧ Blk wr bq [.int .i64 (R : Int), .slice a' d c'] ∧ Txts wr a' d c' (tx O d) ∧ Below w.heap.size w wr) (fun _ _ s _ => (n - intOf s).toNat)
    case atStart => exact ⟨0, 0, 0, 0, none, 0, Nat.zero_le _, Nat.le_refl _, rfl, Nat.zero_le _, rfl, rfl, rfl, KQ.out, Txts.nil _, HH.out⟩
    case round =>
      obtain ⟨i, O, d, I, a', c', hi, hI, hId, hd, rfl, rfl, rfl, hk, ht, hb⟩ := hrel
      have HK := Lib.hid hk
      have HT := Lib.hid ht
      have HB := Lib.hid hb
      have HID := Lib.hid hId
      have HD := Lib.hid hd
      have es : (I : Int) - (O : Int) = (d : Int) := by omega
      have c0 := hk.cell 0 rfl
      have c1 := hk.cell 1 rfl
      clear hk ht hb KQ HH
      by_cases hin : i < n
      · obtain ⟨x, hx⟩ : ∃ x, l[i]? = some x := ⟨_, List.getElem?_eq_getElem (by have := HN.out; omega)⟩
        obtain ⟨p, rfl, hp⟩ := LL.out.on HB.out i x hx
        have hin' : (i : Int) < (n : Int) := by omega
        have HIN := Lib.hid hin
        have hI200 : I ≤ 200 := by have := HN2.out; omega
        have hi200 : i ≤ 200 := by have := HN2.out; omega
        have hO200 : O ≤ 200 := by omega
        have HII := Lib.hid hI
        clear hx hin hd hId hi hI
        cases x with
        | true =>
          have hcv := byte_text wr.heap.size I (wr.alloc (.cells #[.int .u8 (I : Int)] 5)) (by omega) (Blk.new wr [.int .u8 (I : Int)] 5)
          have eu : IntKind.u8.wrap (I : Int) = (I : Int) := by rw [IntKind.wrap_u8]; omega
          have HC := Lib.hid hcv
          have HTB := Lib.hid (HT.out.next (.cells #[.int .u8 (I : Int)] 5))
          have HBB := Lib.hid (HB.out.alloc HB.out.size (.cells #[.int .u8 (I : Int)] 5))
          have HKB := Lib.hid (HK.out.next (.cells #[.int .u8 (I : Int)] 5))
          clear HB HT HK
          by_cases hdR : d < R
          · have tR : decide (d < R) = true := decide_eq_true hdR
            have CP := Lib.hid (put_tx R O d I a' c' _ HTB.out HID.out hdR HR2.out)
            have HDR := Lib.hid hdR
            clear hdR
            go_upto_region 12 with fail
            clear hp
            go_wp2_with fail
            refine CP.out.mono ?_
            rintro e w2 ⟨a2, c2, rfl, ht2, ho2, hb2⟩
            have B0 := HKB.out.on hb2
            have RE := Lib.hid (round_end (R := R) B0 ht2 ho2 HKB.out.lt (bel_on HBB.out hb2) HQ.out (.cells #[.int .i64 (R : Int), .slice a2 (d + 1) c2] 27))
            clear c0 c1
            have c0 := B0.cell 0 rfl
            have c1 := B0.cell 1 rfl
            have f0 := B0.thaw 0
            have f1 := B0.thaw 1
            have hlt2 := B0.lt
            clear B0 ht2 ho2 hb2 hcv CP
            go_wp2_with fail
            go_roundw
            case rel => exact ⟨i + 1, O, d + 1, I + 1, a2, c2, HIN.out, by have := HII.out; omega, by have := HID.out; omega, HDR.out, by go_num, by go_num, rfl, RE.out⟩
            case measure => exact meas_n n i _ rfl HIN.out
          · have tR : decide (d < R) = false := decide_eq_false hdR
            have CP := Lib.hid (put_tx_full R O d (byteS I) a' c' _ HTB.out (by omega) (by have := HD.out; have := HR2.out; omega))
            clear hdR
            go_upto_region 12 with fail
            clear hp
            go_wp2_with fail
            refine CP.out.mono ?_
            rintro e w2 ⟨a2, c2, rfl, ht2, ho2, hb2⟩
            have B0 := HKB.out.on hb2
            have RE := Lib.hid (round_end (R := R) B0 ht2 ho2 HKB.out.lt (bel_on HBB.out hb2) HQ.out (.cells #[.int .i64 (R : Int), .slice a2 d c2] 27))
            clear c0 c1
            have c0 := B0.cell 0 rfl
            have c1 := B0.cell 1 rfl
            have f0 := B0.thaw 0
            have f1 := B0.thaw 1
            have hlt2 := B0.lt
            clear B0 ht2 ho2 hb2 hcv CP
            go_wp2_with fail
            go_roundw
            case rel => exact ⟨i + 1, O, d, I, a2, c2, HIN.out, by have := HII.out; omega, HID.out, HD.out, by go_num, rfl, rfl, RE.out⟩
            case measure => exact meas_n n i _ rfl HIN.out
        | false =>
          go_upto_region 18 with fail
          clear hp
          cases d with
          | zero =>
            obtain rfl : I = O := by have := HID.out; omega
            have tI : decide (I < I) = false := decide_eq_false (by omega)
            have CP := Lib.hid (fun w (h : Txts w a' 0 c' []) => take_tx_none R a' c' w h)
            go_wp2_with fail
            refine (CP.out _ HT.out).mono ?_
            rintro e w2 ⟨a2, c2, rfl, ht2, ho2, hb2⟩
            have B0 := HK.out.on hb2
            have RE := Lib.hid (round_end (R := R) B0 ht2 ho2 HK.out.lt (bel_on HB.out hb2) HQ.out (.cells #[.int .i64 (R : Int), .slice a2 0 c2] 27))
            clear c0 c1
            have c0 := B0.cell 0 rfl
            have c1 := B0.cell 1 rfl
            have f0 := B0.thaw 0
            have f1 := B0.thaw 1
            have hlt2 := B0.lt
            clear B0 ht2 ho2 hb2 CP
            go_wp2_with fail
            go_roundw
            case rel => exact ⟨i + 1, I, 0, I, a2, c2, HIN.out, by have := HII.out; omega, rfl, Nat.zero_le _, by go_num, rfl, rfl, RE.out⟩
            case measure => exact meas_n n i _ rfl HIN.out
          | succ d =>
            have tI : decide (O < I) = true := decide_eq_true (by have := HID.out; omega)
            have CP := Lib.hid (take_tx R O d a' c' _ HT.out (by have := HD.out; have := HR2.out; omega))
            have eu : IntKind.u8.wrap (O : Int) = (O : Int) := by rw [IntKind.wrap_u8]; omega
            go_wp2_with fail
            refine CP.out.mono ?_
            rintro e w2 ⟨a2, c2, rfl, ht2, ho2, hb2⟩
            have B0 := HK.out.on hb2
            have RE := Lib.hid (round_end2 (R := R) B0 ht2 ho2 HK.out.lt (bel_on HB.out hb2) HQ.out (.cells #[.int .i64 (R : Int), .slice a2 d c2] 27) (.cells #[.int .u8 (O : Int)] 5))
            have hcv := byte_text (w2.heap.size + 1) O ((w2.alloc (.cells #[.int .i64 (R : Int), .slice a2 d c2] 27)).alloc (.cells #[.int .u8 (O : Int)] 5)) (by omega) (Blk.newAt (by simp only [World.size_alloc]) [.int .u8 (O : Int)] 5)
            clear c0 c1
            have c0 := B0.cell 0 rfl
            have c1 := B0.cell 1 rfl
            have f0 := B0.thaw 0
            have f1 := B0.thaw 1
            have hlt2 := B0.lt
            clear B0 ht2 ho2 hb2 CP
            go_wp2_with fail
            go_roundw
            case rel => exact ⟨i + 1, O + 1, d, I, a2, c2, HIN.out, by have := HII.out; omega, by have := HID.out; omega, by have := HD.out; omega, by go_num, rfl, by go_num, RE.out⟩
            case measure => exact meas_n n i _ rfl HIN.out
      · have hge : decide (i < n) = false := decide_eq_false hin
        have hI200 : I ≤ 200 := by have := HN2.out; omega
        have hO200 : O ≤ 200 := by omega
        clear hin hd hId hi hI
        go_wp2_with fail
        refine (long_gives (R : Int) a' d c' _).mono ?_
        rintro e w2 ⟨rfl, hb2⟩
        have HB2 := Lib.hid (bel_on HB.out hb2)
        clear hb2 c0 c1
        go_wp2_with fail
        refine (AW.out _).mono ?_
        rintro e w3 ⟨rfl, hb3⟩
        have HB3 := Lib.hid (bel_on HB2.out hb3)
        clear hb3
        go_wp2_with fail
        go_ret
        exact ⟨rfl, HB3.out⟩

set_option maxRecDepth 100000 in
theorem lifted (os : Os) (started : os.Started) (H : Type) (enc : TypeId × Value → H) :
    ReturnsInHanded {} Try.checked os 3 .any (Rows.ringFirstSpec.pre6 enc Try.prog Try.f3 Rows.ringFirstRow.domain false) (Rows.ringFirstSpec.post enc Try.prog Try.f3 false true false false) := by
  refine returnsInHanded_of_change (C := Try.checked) own started (by kernel_rfl) Try.func3
    (ChangeSpec.witness6 (enc := enc) (C := Try.checked) false ⟨#[], #[.int .i64 0, .slice none 0 0], []⟩ 8 (by kernel_rfl) (by kernel_rfl) (by kernel_rfl) (by kernel_rfl)) ?_
  intro W base args ds gs before hval0 hW hcnd _
  have hval : ∀ (j : Nat) t v, Try.f3.params[j]? = some t → args[j]? = some v → Value.okWide Try.prog W .any base t v := hval0
  have hW' := hW
  obtain ⟨p, q, hA0, hV, rfl, hfz, hnd⟩ := hW
  have hA : DataW.TrodAll enc Try.prog W 0 (fun _ => true) true Try.f3.params.toList args.toList ds p := hA0
  rw [Try.params3] at hA hval
  obtain ⟨v0, vs0, d0, ds0, p0, q0, hargs, rfl, rfl, h0, r0⟩ := trodAll_cons hA
  obtain ⟨v1, vs1, d1, ds1, p1, q1, rfl, rfl, rfl, h1, r1⟩ := trodAll_cons r0
  obtain ⟨rfl, rfl, rfl⟩ := trodAll_nil r1
  obtain rfl : args = #[v0, v1] := by cases args; simp_all
  obtain ⟨rfl, rfl⟩ := trodVars_none hV
  have k0 := h0
  have lt0 : ∀ x ∈ p0, x.block < W.heap.size := by obtain ⟨m, hm⟩ := k0; exact DataW.trod_lt m _ _ _ hm
  have k1 := h1
  have lt1 : ∀ x ∈ p1, x.block < W.heap.size := by obtain ⟨m, hm⟩ := k1; exact DataW.trod_lt m _ _ _ hm
  obtain ⟨r, rfl, _, _, hr⟩ := open_int Try.underlying3 (hval 0 3 v0 rfl rfl) h0
  have hbr := bounds_i64 hr
  obtain ⟨al, cl, ll, rfl, hll⟩ := open_bools' Try.underlying22 Try.underlying4 (by kernel_rfl) (hval 1 22 v1 rfl rfl) h1
  clear hA0 hval0
  refine (walk r al cl ll W hll).mono fun e W' ⟨he, bel⟩ => ?_
  subst he
  exact ⟨_, rfl, _, _, _, [], _, [], hW', trodAll_mk1 (shut_bool Try.underlying4 _),
    (trodAll_cons_mk (Below.trod laidOut (by kernel_rfl) (of_decide_eq_true (by kernel_rfl)) k0 bel lt0)
    (trodAll_cons_mk (Below.trod laidOut (by kernel_rfl) (of_decide_eq_true (by kernel_rfl)) k1 bel lt1)
    trodAll_mk0)), rfl, bel.frame _, fun h => by cases h⟩

theorem proved : Rows.RingFirstSaid :=
  OpenClaim.holds_of_wide 3 Try.f3 rfl rfl rfl rfl rfl rfl rfl ⟨rfl, rfl, rfl, rfl, rfl⟩ rfl rfl rfl rfl rfl (by kernel_rfl) Try.func3 (by kernel_rfl)
    (of_decide_eq_true (by kernel_rfl)) (by unfold Func.isWrapper; first | (rw [if_pos (by decide +kernel)]; kernel_rfl) | (rw [if_neg (by decide +kernel)]; exact ⟨rfl, rfl⟩))
    (fun os started H enc _ => lifted os started H enc)
end Go.Proofs.Ytogmneidfoedbaa.ringFirst
