/- Contracts of package resend, part D: Acked. -/
import Derived.Test.YtmgmgffgbkenkaaDoorResC
import Derived.Test.YtmgmgffgbkenkaaDoorAcksB
namespace Go.Proofs.YtmgmgffgbkenkaaDoor
open Go.RowKit Go.Sort

/-- What Acked answers: a row of its own, and a number. -/
def GotN (L : List Snt) (k : Int) (w : World) (e : Ending) (w' : World) : Prop := ∃ v, e = .returned (.tuple #[v, .int .i64 k]) ∧ snS.Own w' w.heap.size v L ∧ Below w.heap.size w w'
set_option maxHeartbeats 2000000 in
theorem acked_any (f k0 k1 k2 k3 n s : Int) (hn : n < 9223372036854775808) (a : Option Addr) (m c : Nat) (L : List Snt) (w : World) (hT : Tab w) (hL : snS.At w a m c L) (hm : m ≤ 1000000) (hs : ∀ x ∈ L, -9223372036854775808 ≤ x.s ∧ x.s < 9223372036854775808) :
    Calls Tryd.prog 7 #[.slice a m c, (.agg #[.int .i64 f, .int .u32 k0, .int .u32 k1, .int .u32 k2, .int .u32 k3, .int .i64 n, .int .i64 s] : Value)] w (GotN (keepL (AcksF.hasB n s) L) ((m : Int) - ((keepL (AcksF.hasB n s) L).length : Int)) w) := by
  have HB : Hid (Below w.heap.size w (w.alloc (.cells #[.int .i64 f, .int .u32 k0, .int .u32 k1, .int .u32 k2, .int .u32 k3, .int .i64 n, .int .i64 s] 44))) := Lib.hid ((Below.refl _ _).alloc (Nat.le_refl _) _)
  have HK : Hid (Blk (w.alloc (.cells #[.int .i64 f, .int .u32 k0, .int .u32 k1, .int .u32 k2, .int .u32 k3, .int .i64 n, .int .i64 s] 44)) w.heap.size [.int .i64 f, .int .u32 k0, .int .u32 k1, .int .u32 k2, .int .u32 k3, .int .i64 n, .int .i64 s]) := Lib.hid (Blk.new w [.int .i64 f, .int .u32 k0, .int .u32 k1, .int .u32 k2, .int .u32 k3, .int .i64 n, .int .i64 s] 44)
  have HL := Lib.hid hL
  have HT := Lib.hid hT
  have HLEN : Hid (L.length = m) := Lib.hid hL.1
  have HM := Lib.hid hm
  have HS := Lib.hid hs
  have HC : Hid (∀ w', Below w.heap.size w w' → ∀ x ∈ L, Calls Tryd.prog 11 #[(.agg #[.int .i64 f, .int .u32 k0, .int .u32 k1, .int .u32 k2, .int .u32 k3, .int .i64 n, .int .i64 s] : Value), .int .i64 x.s] w' fun e w'' => e = .returned (.bool (AcksF.hasB n s x.s)) ∧ Below w'.heap.size w' w'') := Lib.hid (fun w' hb x hx => ahas_any f k0 k1 k2 k3 n s x.s hn (HS.out x hx) w' (HT.out.on hb))
  obtain ⟨p, hp⟩ : ∃ p, AcksF.hasB n s = p := ⟨_, rfl⟩
  rw [hp] at HC ⊢
  clear hL hm hT hs hp
  go_enter Tryd.func7, Tryd.ntmps7
  go_upto_region 3 with fail
  go_loopw [6, 11] (fun u j wr => ∃ (i : Nat) (z : Value), i ≤ m ∧ z = u ∧ j = .int .i64 (i : Int) ∧ snS.Own wr (w.heap.size + 1) z (keepL p (L.take i)) ∧ Blk wr w.heap.size [.int .i64 f, .int .u32 k0, .int .u32 k1, .int .u32 k2, .int .u32 k3, .int .i64 n, .int .i64 s] ∧ Below w.heap.size w wr) (fun _ j _ => (m - intOf j).toNat)
  case atStart => exact ⟨0, _, Nat.zero_le _, rfl, rfl, Shp.Own.none_ _ _, HK.out, HB.out⟩
  case round =>
    obtain ⟨i, z, hi, rfl, rfl, hO, hK, hH⟩ := hrel
    have HO := Lib.hid hO
    have HKR := Lib.hid hK
    have HH := Lib.hid hH
    clear hO hK hH HB HK
    by_cases him : i < m
    · obtain ⟨x, hx⟩ : ∃ x, L[i]? = some x := ⟨_, List.getElem?_eq_getElem (by have := HLEN.out; omega)⟩
      obtain ⟨b, q, rfl, hq, f0, f1, f2, f3⟩ := sn_at (HL.out.on HH.out) hx
      have HX := Lib.hid (List.mem_of_getElem? hx)
      obtain ⟨r, hr⟩ : ∃ r, p x.s = r := ⟨_, rfl⟩
      have HF := Lib.hid (keep_snoc p hx _ rfl)
      rw [hr] at HF
      have HR := Lib.hid hr
      have him' : (i : Int) < (m : Int) := by omega
      have HI : Hid (i < m) := Lib.hid him
      have e1 : wrap64 ((i : Int) + 1) = (i : Int) + 1 := IntWalk.wrap64_in _ (by have := HM.out; omega)
      clear hx him hi hr
      go_upto_region 5 with fail
      clear f0 f1 f2 f3 hq
      obtain ⟨v, hv⟩ : ∃ v, wr.alloc (.cells #[.int .i64 x.s, .string x.y, .int .i64 x.t, .int .i64 x.l] 37) = v := ⟨_, rfl⟩
      obtain ⟨gv, hgv⟩ : ∃ g, wr.heap.size = g := ⟨_, rfl⟩
      rw [hv, hgv]
      have HO1 := Lib.hid (hv ▸ HO.out.next (.cells #[.int .i64 x.s, .string x.y, .int .i64 x.t, .int .i64 x.l] 37))
      have HK1 := Lib.hid (hv ▸ HKR.out.next (.cells #[.int .i64 x.s, .string x.y, .int .i64 x.t, .int .i64 x.l] 37))
      have HH1 := Lib.hid (hv ▸ HH.out.alloc HH.out.size (.cells #[.int .i64 x.s, .string x.y, .int .i64 x.t, .int .i64 x.l] 37))
      have HV : Hid (Blk v gv x.cells) := Lib.hid (hv ▸ Blk.newAt hgv x.cells 37)
      clear hv hgv HO HKR HH
      have HCX := Lib.hid (HC.out v HH1.out x HX.out)
      rw [HR.out] at HCX
      have k0' := HK1.out.cell 0 rfl
      have k1' := HK1.out.cell 1 rfl
      have k2' := HK1.out.cell 2 rfl
      have k3' := HK1.out.cell 3 rfl
      have k4' := HK1.out.cell 4 rfl
      have k5' := HK1.out.cell 5 rfl
      have k6' := HK1.out.cell 6 rfl
      have v0 := HV.out.cell 0 rfl
      go_wp2_with fail
      refine (HCX.out).mono ?_
      rintro e w2 ⟨rfl, hb⟩
      have HO2 := Lib.hid (HO1.out.on hb)
      have HK2 := Lib.hid (HK1.out.on hb)
      have HH2 := Lib.hid (bel_on HH1.out hb)
      have HV2 := Lib.hid (HV.out.on hb)
      clear hb k0' k1' k2' k3' k4' k5' k6' v0 HCX HO1 HK1 HH1 HV
      cases r with
      | true =>
        go_wp2_with fail
        go_roundw
        case rel => exact ⟨i + 1, _, HI.out, rfl, by go_num, by have h := HF.out; simp only [if_true, List.append_nil] at h; rw [h]; exact HO2.out, HK2.out, HH2.out⟩
        case measure => exact meas_k m i HI.out _ e1
      | false =>
        have v0 := HV2.out.cell 0 rfl
        have v1 := HV2.out.cell 1 rfl
        have v2 := HV2.out.cell 2 rfl
        have v3 := HV2.out.cell 3 rfl
        go_wp2_with (at_builtin; go_must (refine rec_app (S := snS) rfl (.tmp 20) (.tmp 22) 27 rfl rfl (w.heap.size + 1) z (keepL p (L.take i)) [x] (some ⟨w2.heap.size, 0, none⟩) 1 1 rfl rfl (HO2.out.next _) (Rec.one (Blk.new w2 x.cells 37)) (by have := keep_le p L i 1000000 (by have := HM.out; have := HLEN.out; omega); omega) (by have := HK2.out.lt; simp only [World.size_alloc]; omega) ?_); intro v' w4 hown hgr hnw)
        have HO4 := Lib.hid hown
        have HK4 := Lib.hid (rblk_grown (HK2.out.next _) hgr (fun k hk e => by have := (HO2.out.lt k hk).1; omega))
        have HH4 := Lib.hid ((HH2.out.alloc HH2.out.size _).grown hgr (by have := HH2.out.size; simp only [World.size_alloc]; omega) (fun k hk => by have := (HO2.out.lt k hk).1; omega))
        clear hown hgr hnw v0 v1 v2 v3
        go_roundw
        case rel => exact ⟨i + 1, _, HI.out, rfl, by go_num, by have h := HF.out; simp only [Bool.false_eq_true, if_false] at h; rw [h]; exact HO4.out, HK4.out, HH4.out⟩
        case measure => exact meas_k m i HI.out _ e1
    · obtain rfl : i = m := by omega
      have HE : Hid (L.take i = L) := Lib.hid (by rw [← HLEN.out]; exact List.take_length)
      rw [HE.out] at HO
      obtain ⟨az, cz, rfl, _, _⟩ := HO.out.shape
      have hkl := keep_len p L
      obtain ⟨kl, hkl2⟩ : ∃ kl, (keepL p L).length = kl := ⟨_, rfl⟩
      have HKL := Lib.hid hkl2
      rw [hkl2] at HO hkl
      have e2 : wrap64 ((i : Int) - (kl : Int)) = (i : Int) - (kl : Int) := IntWalk.wrap64_in _ (by have := HM.out; have := HLEN.out; omega)
      rw [HKL.out]
      clear hkl hkl2 hi
      go_wp2_with fail
      refine bodyPost_ret (v := .tuple #[.slice az kl cz, .int .i64 ((i : Int) - (kl : Int))]) (by simp [results, Tryd.results7, go_sem, e2]) rfl ⟨_, by rw [HKL.out], HO.out.lower (Nat.le_succ _), HH.out⟩
end Go.Proofs.YtmgmgffgbkenkaaDoor
