/- The contract of the document's own text of links. -/
import Derived.Test.YtnbbepelagdenaaDoorCosN
namespace Go.Proofs.YtnbbepelagdenaaDoor
open Go.RowKit Go.Sort CosF
attribute [local go_sem ↓] loadAt_cos loadAt_row storeAt_cos

set_option maxHeartbeats 4000000 in
theorem rtext_any (c : Pt) (hc : Cos c) (w : World) :
    Calls Tryd.prog 17 #[.agg (cosP c).toArray] w fun e w' => e = .returned (.string (str (textC c))) ∧ Below w.heap.size w w' := by
  have HC := Lib.hid hc
  have UP := Lib.hid (fun w => rup_any c w)
  have HX : Hid (textC c = textF c (upC c)) := Lib.hid rfl
  have HM : Hid ((upC c).length ≤ 16) := Lib.hid (NodesF.nodes_len _ _)
  have HN : Hid (∀ x ∈ upC c, x < 16) := Lib.hid (fun x hx => (NodesF.nodes_mem _ 16 (Nat.le_refl _) x hx).2.1)
  obtain ⟨l, hl⟩ : ∃ l, upC c = l := ⟨_, rfl⟩
  rw [hl] at UP HX HM HN
  clear hl hc
  go_enter Tryd.func17, Tryd.ntmps17
  go_upto_region 2 with fail
  obtain ⟨B0, BB⟩ := one_cos w c
  obtain ⟨wa, hwa⟩ : ∃ wa, (w.alloc (.cells (cosP c).toArray 25)) = wa := ⟨_, rfl⟩
  rw [hwa] at B0 BB ⊢
  clear hwa
  have hq := cos_load B0 HC.out
  go_wp2_with fail
  refine (UP.out _).mono ?_
  rintro e w1 hown
  obtain ⟨a, cp, rfl, hna, hb⟩ := nats_slice hown
  have K1 := Lib.hid (B0.on hb)
  have KB := Lib.hid (bel_on BB hb)
  have KN := Lib.hid hna
  obtain ⟨n, hn⟩ : ∃ n, l.length = n := ⟨_, rfl⟩
  rw [hn] at HM ⊢
  have HNL := Lib.hid hn
  have hn64 : n ≤ 16 := HM.out
  clear hown hna hb B0 BB hq hn
  go_wp2_with fail
  go_loopw [9, 3] (fun v t wr => ∃ k : Nat, v = .int .i64 (k : Int) ∧ k ≤ n ∧ t = .string (str (textF c (l.take k))) ∧ Blk wr w.heap.size (cosP c) ∧ NatAt wr a wa.heap.size l ∧ Below w.heap.size w wr) (fun v _ _ => (n - intOf v).toNat)
  case atStart => exact ⟨0, rfl, Nat.zero_le _, rfl, K1.out, KN.out, KB.out⟩
  case round =>
    obtain ⟨k, rfl, hk, rfl, k1, na, kb⟩ := hrel
    have HB := Lib.hid kb
    have NA := Lib.hid na
    have B1 := Lib.hid k1
    clear kb na k1
    by_cases hkn : k < n
    · obtain ⟨x, hx⟩ : ∃ x, l[k]? = some x := ⟨_, List.getElem?_eq_getElem (by have := HNL.out; omega)⟩
      obtain ⟨g, rfl, hg, hcell⟩ := NA.out.read hx
      have hx16 : x < 16 := HN.out x (List.mem_of_getElem? hx)
      have hlen : (textF c (l.take k)).length ≤ 352 := by
        have h1 := textF_length HC.out (l.take k)
        have h2 : (l.take k).length ≤ 16 := by rw [List.length_take]; omega
        omega
      obtain ⟨p, hp⟩ : ∃ p, textF c (l.take k) = p := ⟨_, rfl⟩
      have HS : Hid (textF c (l.take (k + 1)) = p ++ ([NodesF.letF x] ++ Lib.decDigits (ofC c (x : Int)) ++ [32])) := Lib.hid (by rw [textF_take c hx, hp]; simp [pieceF])
      rw [hp] at hlen ⊢
      have OF := Lib.hid (rof_any c (x : Int) HC.out)
      have h32 := HC.out.of (x : Int)
      obtain ⟨q, hq⟩ : ∃ q, ofC c (x : Int) = q := ⟨_, rfl⟩
      rw [hq] at OF HS h32
      have hd20 : (Lib.decDigits q).length ≤ 20 := by rw [Lib.decDigits_length]; exact Lib.nDigits_le20 q (by omega)
      have DG : Hid (Gives Tryd.prog 44 #[.int .u32 (q : Int)] (.string (str (Lib.decDigits q)))) := Lib.hid (fun w => rdigits_any q w h32)
      have WI : Hid (Gives Tryd.prog 31 #[.int .i64 0, .int .i64 (x : Int)] (.int .i64 (NodesF.withN 0 x))) := Lib.hid (fun w => (rwith_in 0 x w hx16 (by decide) (by decide)).mono fun _ _ ⟨h1, h2⟩ => ⟨h1, h2 ▸ Below.refl _ _⟩)
      have TX : Hid (Gives Tryd.prog 43 #[.int .i64 (NodesF.withN 0 x)] (.string (str [NodesF.letF x]))) := Lib.hid (fun w => by
        have h := rntext_any (NodesF.withN 0 x) w
        rw [one_text x hx16] at h
        exact h)
      obtain ⟨m, hm⟩ : ∃ m, NodesF.withN 0 x = m := ⟨_, rfl⟩
      rw [hm] at WI TX
      obtain ⟨b, hb⟩ : ∃ b, NodesF.letF x = b := ⟨_, rfl⟩
      rw [hb] at TX HS
      obtain ⟨d, hd⟩ : ∃ d, Lib.decDigits q = d := ⟨_, rfl⟩
      rw [hd] at DG HS hd20
      obtain ⟨s1, hs1⟩ : ∃ s1, str (b :: d) = s1 := ⟨_, rfl⟩
      obtain ⟨s2, hs2⟩ : ∃ s2, str (b :: (d ++ [32])) = s2 := ⟨_, rfl⟩
      obtain ⟨s3, hs3⟩ : ∃ s3, str (p ++ ([b] ++ d ++ [32])) = s3 := ⟨_, rfl⟩
      have t1 : str [b] ++ str d = s1 := (str_append [b] d).trans hs1
      have t2 : s1 ++ (⟨#[32]⟩ : ByteArray) = s2 := by rw [← hs1]; exact (str_append (b :: d) [32]).trans hs2
      have t3 : str p ++ s2 = s3 := by rw [← hs2]; exact (str_append p (b :: (d ++ [32]))).trans hs3
      have z1 : ¬ 9223372036854775807 < (str [b]).size + (str d).size := by
        rw [str_size, str_size, List.length_cons, List.length_nil]; omega
      have z2 : ¬ 9223372036854775807 < s1.size + 1 := by
        rw [← hs1, str_size, List.length_cons]; omega
      have z2' : ¬ 9223372036854775807 < s1.size + (⟨#[32]⟩ : ByteArray).size := by
        rw [← hs1, str_size, List.length_cons, show (⟨#[32]⟩ : ByteArray).size = 1 from rfl]; omega
      have z3 : ¬ 9223372036854775807 < (str p).size + s2.size := by
        rw [← hs2, str_size, str_size, List.length_cons, List.length_append, List.length_cons, List.length_nil]; omega
      have H3 := Lib.hid hs3
      clear hs1 hs2 hs3
      have hkn' : (k : Int) < (n : Int) := by omega
      have HK := Lib.hid hkn
      have e1 : wrap64 ((k : Int) + 1) = (k : Int) + 1 := IntWalk.wrap64_in _ (by omega)
      clear hx hp hq hg hkn hx16 hm hb hk h32 hd20 hd hlen
      go_upto_region 5 with fail
      clear hcell
      have l1 := fun dd os => cos_load (B1.out.on (below_regrown _ dd os)) HC.out
      refine wp_region_quiet_below (by kernel_rfl) (by kernel_rfl) ?_
      repeat (first | go_big_quiet_step (first | with_reducible exact WI.out.at _ _ _ | with_reducible exact TX.out.at _ _ _ | with_reducible exact OF.out.at _ _ _ | with_reducible exact DG.out.at _ _ _) | quiet_step (first | with_reducible exact WI.out.at _ _ _ | with_reducible exact TX.out.at _ _ _ | with_reducible exact OF.out.at _ _ _ | with_reducible exact DG.out.at _ _ _))
      refine wpQuiet_nil ?_
      intro _ hw'
      obtain ⟨⟨dq, osq⟩, hw''⟩ := hw'
      subst hw''
      clear l1
      have hb := below_regrown wr dq osq
      have B1' := Lib.hid (B1.out.on hb)
      have NA' := Lib.hid (NA.out.on hb)
      have HB' := Lib.hid (bel_on HB.out hb)
      clear hb B1 NA HB
      obtain ⟨wn, hwn⟩ : ∃ v, grow (redrawn wr dq) osq = v := ⟨_, rfl⟩
      rw [hwn] at B1' NA' HB' ⊢
      clear hwn
      go_wp2_with fail
      go_roundw
      case rel => exact ⟨k + 1, by go_num, HK.out, by rw [HS.out, H3.out], B1'.out, NA'.out, HB'.out⟩
      case measure => exact meas_up n k _ rfl HK.out
    · obtain rfl : k = n := by omega
      have hlt : l.take k = l := List.take_of_length_le (by rw [HNL.out]; exact Nat.le_refl _)
      rw [hlt]
      clear hlt hk
      go_wp2_with fail
      go_ret
      exact ⟨by rw [HX.out]; rfl, HB.out⟩
end Go.Proofs.YtnbbepelagdenaaDoor
