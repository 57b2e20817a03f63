/- Contracts of package timer, part H: Run; the document's own Run. -/
import Derived.Test.YtpfgbdcnfmlkcaaTimD
namespace Go.Proofs.Ytpfgbdcnfmlkcaa
open Go.RowKit Go.Sort

theorem at_kept {w w' : World} {a : Option Addr} {n c : Nat} {L : List Alm} {row : Option Nat} (h : alS.At w a n c L) (hg : w.grownBy w' row) (hne : 0 < n → ∀ b, a = some b → row ≠ some b.block) : alS.At w' a n c L :=
  ⟨h.1, h.2.1, h.2.2.1, h.2.2.2.1, fun i x hi => by
    obtain ⟨b, hb, h3⟩ := h.2.2.2.2 i x hi
    refine ⟨b, hb, fun k v hk => hg.cell (h3 k v hk) fun e => ?_⟩
    rw [Rec.block_add, Rec.block_add] at e
    exact hne (by have := (List.getElem?_eq_some_iff.1 hi).1; have := h.1; omega) b hb e.symm⟩
/-- Timers, and new ones. -/
def GotAO (L M : List Alm) (w : World) (e : Ending) (w' : World) : Prop := ∃ za n zc y, e = .returned (.tuple #[.slice za n zc, y]) ∧ alS.At w' za n zc L ∧ alS.Own w' w.heap.size y M ∧ Below w.heap.size w w'
theorem run_le (L : List Alm) (i : Nat) : (runOn L i).length ≤ L.length ∧ (runOff L i).length ≤ L.length := by
  have := run_length L i
  omega

set_option maxHeartbeats 1000000 in
theorem run_any (q : Nat) (a : Option Addr) (m c : Nat) (L : List Alm) (w : World) (hL : alS.At w a m c L) (hm : m ≤ 100000) (hf : Fits L) (hq : q ≤ 1000) :
    Calls Try.prog 9 #[.slice a m c, .int .i64 (q : Int)] w (GotAO (runOn L q) (runOff L q) w) := by
  have hmin : min (q : Int) 1000 = (q : Int) := by omega
  have HL := Lib.hid hL
  have HM := Lib.hid hm
  have HF := Lib.hid hf
  have hlen := hL.1
  have CL := Lib.hid (tclone_any a m c L w hL (by omega))
  clear hL hf
  go_enter Try.func9, Try.ntmps9
  go_wp2_with fail
  refine (CL.out).mono ?_
  rintro e w0 ⟨z0, rfl, ho, hb⟩
  obtain ⟨za, zc, rfl, hat, _⟩ := ho.shape
  rw [hlen] at hat
  have HZ := Lib.hid hat
  have HB := Lib.hid hb
  clear hat hb ho CL
  go_upto_region 4 with fail
  go_loopw [0, 6, 13] (fun u o j wr => ∃ (i : Nat) (za : Option Addr) (n zc : Nat) (y : Value), u = .slice za n zc ∧ y = o ∧ i ≤ q ∧ j = .int .i64 (i : Int) ∧ alS.At wr za n zc (runOn L i) ∧ alS.Own wr w.heap.size y (runOff L i) ∧ Hid (0 < n → ∀ b, za = some b → y.ownBlock ≠ some b.block) ∧ Below w.heap.size w wr) (fun _ _ j _ => (q - intOf j).toNat)
  case atStart => exact ⟨0, za, m, zc, _, rfl, rfl, Nat.zero_le _, rfl, HZ.out, Shp.Own.none_ _ _, Lib.hid (fun _ b _ e => by cases e), HB.out⟩
  case round =>
    obtain ⟨i, za', n, zc', y, rfl, rfl, hi, rfl, hZ, hO, HA, hH⟩ := hrel
    have HZ2 := Lib.hid hZ
    have HO := Lib.hid hO
    have HH := Lib.hid hH
    clear hZ hO hH
    by_cases hiq : i < q
    · have TK := Lib.hid (tick_any za' n zc' (runOn L i) wr HZ2.out (by have := (run_le L i).1; have := HZ2.out.1; have := HM.out; omega) (run_fits HF.out i))
      have hiq' : (i : Int) < (q : Int) := by omega
      have HI : Hid (i < q) := Lib.hid hiq
      have e1 : wrap64 ((i : Int) + 1) = (i : Int) + 1 := IntWalk.wrap64_in _ (by omega)
      clear hiq hi
      go_wp2_with fail
      refine (TK.out).mono ?_
      rintro e w1 ⟨u, v, rfl, hu, hv, hap, hb⟩
      obtain ⟨ua, uc, rfl, hua, hoff⟩ := hu.shape
      obtain ⟨va, vc, rfl, hva, _⟩ := hv.shape
      have HU := Lib.hid hua
      have HUO := Lib.hid hu
      have HV := Lib.hid hva
      have HO2 := Lib.hid (HO.out.on hb)
      have HH2 := Lib.hid (bel_on HH.out hb)
      have HAP : Hid (Apart y (.slice ua (tickOn (runOn L i)).length uc)) := Lib.hid (fun k hk e => by
        have h1 := (HO.out.lt k hk).2
        have h2 := (hu.lt k e).1
        omega)
      clear hu hv hap hb hua hva hoff TK
      go_wp2_with (at_builtin; go_must (refine rec_app (S := alS) rfl (.tmp 21) (.tmp 22) 25 rfl rfl w.heap.size y (runOff L i) (tickOff (runOn L i)) va (tickOff (runOn L i)).length vc rfl rfl HO2.out HV.out (by have h1 := (run_le L (i + 1)).2; rw [runOff, List.length_append] at h1; have := HM.out; omega) HH2.out.size ?_); intro v' w2 hown hgr hpl)
      have HO3 := Lib.hid hown
      have HU3 := Lib.hid (at_kept HU.out hgr (fun _ b hb e => HAP.out.symm b.block (by rw [hb]; rfl) e))
      have HH3 := Lib.hid (HH2.out.grown hgr HH2.out.size (fun k hk => (HO2.out.lt k hk).1))
      have HA3 : Hid (0 < (tickOn (runOn L i)).length → ∀ b, ua = some b → v'.ownBlock ≠ some b.block) := Lib.hid (fun _ b hb e => apart_new HAP.out HUO.out hpl b.block e (by rw [hb]; rfl))
      clear hown hgr hpl
      go_roundw
      case rel => exact ⟨i + 1, ua, _, uc, _, rfl, rfl, HI.out, by go_num, HU3.out, HO3.out, HA3, HH3.out⟩
      case measure => exact tim_meas q i HI.out _ rfl
    · obtain rfl : i = q := by omega
      go_wp2_with fail
      refine bodyPost_ret (v := .tuple #[.slice za' n zc', y]) (by simp [results, Try.results9, go_sem]) rfl ⟨za', n, zc', y, rfl, HZ2.out, HO.out, HH.out⟩

set_option maxHeartbeats 1000000 in
theorem rrun_any (q : Nat) (a : Option Addr) (m c : Nat) (L : List Alm) (w : World) (hL : alS.At w a m c L) (hm : m ≤ 100000) (hf : Fits L) (hq : q ≤ 1000) :
    Calls Try.prog 10 #[.slice a m c, .int .i64 (q : Int)] w (GotAO (runOn L q) (runOff L q) w) := by
  have hmin : min (q : Int) 1000 = (q : Int) := by omega
  have hmax : max 0 (q : Int) = (q : Int) := by omega
  have HL := Lib.hid hL
  have HM := Lib.hid hm
  have HF := Lib.hid hf
  have hlen := hL.1
  clear hL hf
  go_enter Try.func10, Try.ntmps10
  go_upto_region 3 with fail
  go_loopw [0, 6, 12] (fun u o j wr => ∃ (i : Nat) (za : Option Addr) (n zc : Nat) (y : Value), u = .slice za n zc ∧ y = o ∧ i ≤ q ∧ j = .int .i64 (i : Int) ∧ alS.At wr za n zc (runOn L i) ∧ alS.Own wr w.heap.size y (runOff L i) ∧ Hid (0 < n → ∀ b, za = some b → y.ownBlock ≠ some b.block) ∧ Below w.heap.size w wr) (fun _ _ j _ => (q - intOf j).toNat)
  case atStart => exact ⟨0, a, m, c, _, rfl, rfl, Nat.zero_le _, rfl, HL.out, Shp.Own.none_ _ _, Lib.hid (fun _ b _ e => by cases e), Below.refl _ _⟩
  case round =>
    obtain ⟨i, za', n, zc', y, rfl, rfl, hi, rfl, hZ, hO, HA, hH⟩ := hrel
    have HZ2 := Lib.hid hZ
    have HO := Lib.hid hO
    have HH := Lib.hid hH
    clear hZ hO hH
    by_cases hiq : i < q
    · have TK := Lib.hid (rtick_any za' n zc' (runOn L i) wr HZ2.out (by have := (run_le L i).1; have := HZ2.out.1; have := HM.out; omega) (run_fits HF.out i))
      have hiq' : (i : Int) < (q : Int) := by omega
      have HI : Hid (i < q) := Lib.hid hiq
      have e1 : wrap64 ((i : Int) + 1) = (i : Int) + 1 := IntWalk.wrap64_in _ (by omega)
      clear hiq hi
      go_wp2_with fail
      refine (TK.out).mono ?_
      rintro e w1 ⟨u, v, rfl, hu, hv, hap, hb⟩
      obtain ⟨ua, uc, rfl, hua, hoff⟩ := hu.shape
      obtain ⟨va, vc, rfl, hva, _⟩ := hv.shape
      have HU := Lib.hid hua
      have HUO := Lib.hid hu
      have HV := Lib.hid hva
      have HO2 := Lib.hid (HO.out.on hb)
      have HH2 := Lib.hid (bel_on HH.out hb)
      have HAP : Hid (Apart y (.slice ua (tickOn (runOn L i)).length uc)) := Lib.hid (fun k hk e => by
        have h1 := (HO.out.lt k hk).2
        have h2 := (hu.lt k e).1
        omega)
      clear hu hv hap hb hua hva hoff TK
      go_wp2_with (at_builtin; go_must (refine rec_app (S := alS) rfl (.tmp 20) (.tmp 21) 25 rfl rfl w.heap.size y (runOff L i) (tickOff (runOn L i)) va (tickOff (runOn L i)).length vc rfl rfl HO2.out HV.out (by have h1 := (run_le L (i + 1)).2; rw [runOff, List.length_append] at h1; have := HM.out; omega) HH2.out.size ?_); intro v' w2 hown hgr hpl)
      have HO3 := Lib.hid hown
      have HU3 := Lib.hid (at_kept HU.out hgr (fun _ b hb e => HAP.out.symm b.block (by rw [hb]; rfl) e))
      have HH3 := Lib.hid (HH2.out.grown hgr HH2.out.size (fun k hk => (HO2.out.lt k hk).1))
      have HA3 : Hid (0 < (tickOn (runOn L i)).length → ∀ b, ua = some b → v'.ownBlock ≠ some b.block) := Lib.hid (fun _ b hb e => apart_new HAP.out HUO.out hpl b.block e (by rw [hb]; rfl))
      clear hown hgr hpl
      go_roundw
      case rel => exact ⟨i + 1, ua, _, uc, _, rfl, rfl, HI.out, by go_num, HU3.out, HO3.out, HA3, HH3.out⟩
      case measure => exact tim_meas q i HI.out _ rfl
    · obtain rfl : i = q := by omega
      go_wp2_with fail
      refine bodyPost_ret (v := .tuple #[.slice za' n zc', y]) (by simp [results, Try.results10, go_sem]) rfl ⟨za', n, zc', y, rfl, HZ2.out, HO.out, HH.out⟩
end Go.Proofs.Ytpfgbdcnfmlkcaa
