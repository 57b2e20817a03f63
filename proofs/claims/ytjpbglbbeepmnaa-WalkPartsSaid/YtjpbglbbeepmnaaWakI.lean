/- Contracts of package walk, part I: Order, and the document's own. -/
import Derived.Test.YtjpbglbbeepmnaaWakH
import Derived.Test.YtjpbglbbeepmnaaRList
import Derived.Test.YtjpbglbbeepmnaaRecs
import Derived.Deep.RegionHeld3
namespace Go.Proofs.Ytjpbglbbeepmnaa
open Go.RowKit Go.Sort TreF WakF
attribute [local go_sem ↓] loadAt_tre storeAt_tre loadAt_ent storeAt_ent

/-- A slice of numbers as a slice of records. -/
def natS : Shp Nat where
  K := 1
  T := 3
  S := 27
  Z := (.int .i64 0 : Value)
  bytes := 8
  cells := fun n => [.int .i64 (n : Int)]
  pos := by decide
  zsz := rfl
  len := fun _ => rfl
  one := fun x u hu => by
    simp only [List.mem_cons, List.not_mem_nil, or_false] at hu
    subst hu; rfl
  und := Try.underlying27
  inf := Try.info3
  low := by decide
theorem natS_row (l : List Nat) : natS.row l = natV l := by
  induction l with
  | nil => rfl
  | cons n l ih => rw [Shp.row_cons, ih]; rfl
theorem natS_own {w : World} {B : Nat} {v : Value} {l : List Nat} : natS.Own w B v l ↔ w.ownsRow B 3 1 v l.length (natV l) := by
  unfold Shp.Own
  rw [natS_row]
  exact Iff.rfl
theorem NatAt.grown {w w' : World} {a : Option Addr} {B : Nat} {l : List Nat} {row : Option Nat} (h : NatAt w a B l) (hg : w.grownBy w' row) (hne : ∀ k, row = some k → a ≠ some ⟨k, 0, none⟩) : NatAt w' a B l := fun i x hi => by
  obtain ⟨g, cur, rfl, h2, h3, h4⟩ := h i x hi
  exact ⟨g, cur, rfl, h2, (hg.block g (Array.getElem?_eq_some_iff.1 h3).1 (fun e => hne g e.symm rfl)).trans h3, h4⟩
theorem NatAt.block {w : World} {B g : Nat} {l : List Nat} (h : NatAt w (some ⟨g, 0, none⟩) B l) (hl : 0 < l.length) : g < w.heap.size := by
  obtain ⟨g', cur, hg, h2, h3, h4⟩ := h 0 _ (List.getElem?_eq_getElem hl)
  cases hg
  exact (Array.getElem?_eq_some_iff.1 h3).1
theorem blk_range {w : World} {b : Nat} {cs : List Value} (h : Blk w b cs) : w.rangeAt b 0 cs := fun j v hv => by rw [Nat.zero_add]; exact h.cell j hv
theorem kids_take {t : Tr} {r : Int} {ks : List Nat} {q x : Nat} {z : Bool} (hx : ks[q]? = some x) (hz : hopB t r x = z) : (ks.take (q + 1)).filter (hopB t r) = (ks.take q).filter (hopB t r) ++ (if z then [x] else []) := by
  rw [List.take_add_one, hx, List.filter_append]
  congr 1
  simp [List.filter_cons, hz]
theorem chi_short (t : Tr) (n : Int) : (chiL t n).length ≤ 16 := by
  have := List.length_filter_le (kidP t n) (List.range 16)
  simpa [chiL] using this
theorem chi_small (t : Tr) (n : Int) : ∀ x ∈ chiL t n, x < 16 := fun x hx => by
  have := (List.mem_filter.1 hx).1
  simpa using this
theorem hop_gt {t : Tr} {r : Int} {x : Nat} {z : Bool} (h : hopB t r x = z) : decide ((0 : Int) < hopsT t r (x : Int)) = z := h

set_option maxHeartbeats 1000000 in
set_option maxRecDepth 100000 in
theorem worder_any (t : Tr) (r : Int) (ht : Tre t) (w : World) : Calls Try.prog 20 #[.agg (treC t).toArray, .int .i64 r] w (OwnNats (orderT t r) w) := by
  have HO := Lib.hid (fun j => whops_any t r j ht)
  have CH := Lib.hid (fun n => wchildren_any t n ht)
  have LI := Lib.hid (fun n w => show Calls Try.prog 38 #[.int .i64 (chilT t n)] w (OwnNats (chiL t n) w) by rw [← chi_nodes]; exact list_any _ w)
  have HT := Lib.hid ht
  clear ht
  by_cases h0 : hopsT t r r = 0
  · obtain ⟨rk, rfl, hrk, hok⟩ := hops_zero h0
    have HR := Lib.hid (HO.out (rk : Int))
    rw [h0] at HR
    have OS := Lib.hid (Ord.start hok)
    have OE : Hid (orderT t (rk : Int) = bfsT t (rk : Int) 16 [rk] 0) := Lib.hid (order_yes h0)
    clear h0 hok hrk
    go_enter Try.func20, Try.ntmps20
    go_upto_region 1 with fail
    obtain ⟨B0, BB⟩ := tbox_new w t
    obtain ⟨w1, hw1⟩ : ∃ v, w.alloc (.cells (treC t).toArray 26) = v := ⟨_, rfl⟩
    rw [hw1] at B0 BB ⊢
    clear hw1
    have K := Lib.hid B0
    have HB := Lib.hid BB
    clear B0 BB
    have l0 := tre_load K.out HT.out
    go_wp2_with fail
    refine (HR.out _).mono ?_
    rintro e w2 ⟨rfl, hb⟩
    have K2 := Lib.hid (K.out.on hb)
    have HB2 := Lib.hid (bel_on HB.out hb)
    clear l0 K HB hb HR
    go_upto_region 4 with fail
    have o3 := World.ownsRow_lit (base := w.heap.size + 1) (size := 1) (e := 3) w2 (natV [rk]).toArray 1 (by have := K2.out.lt; omega) (by unfold maxLen; omega) rfl
    have k3 := K2.out.next (.cells (natV [rk]).toArray 3)
    have b3 := HB2.out.alloc HB2.out.size (.cells (natV [rk]).toArray 3)
    rw [show (natV [rk]).toArray = #[.int .i64 (rk : Int)] from rfl] at o3 k3 b3
    obtain ⟨w3, hw3⟩ : ∃ v, w2.alloc (.cells #[.int .i64 (rk : Int)] 3) = v := ⟨_, rfl⟩
    rw [hw3] at o3 k3 b3 ⊢
    clear hw3
    obtain ⟨v3, hv3⟩ : ∃ v, Value.slice (some ⟨w2.heap.size, 0, none⟩) 1 1 = v := ⟨_, rfl⟩
    rw [hv3] at o3 ⊢
    clear hv3 K2 HB2
    have K3 := Lib.hid k3
    have HB3 := Lib.hid b3
    have O3 : Hid (w3.ownsRow (w.heap.size + 1) 3 1 v3 [rk].length (natV [rk])) := Lib.hid o3
    clear k3 b3 o3
    go_wp2_with fail
    go_loopw [6, 5] (fun v s wr => ∃ (i : Nat) (l : List Nat), v = .int .i64 (i : Int) ∧ Hid (Ord t (rk : Int) l i) ∧ Hid (orderT t (rk : Int) = bfsT t (rk : Int) (16 - i) l i) ∧ Hid (wr.ownsRow (w.heap.size + 1) 3 1 s l.length (natV l)) ∧ Hid (Blk wr w.heap.size (treC t)) ∧ Hid (Below w.heap.size w wr)) (fun v _ _ => (17 - intOf v).toNat)
    case atStart => exact ⟨0, [rk], rfl, OS, OE, O3, K3, HB3⟩
    case round =>
      obtain ⟨i, l, rfl, OD, OB, HOW, KR, HBR⟩ := hrel
      obtain ⟨a, c, rfl⟩ := own_slice HOW.out
      obtain ⟨n, hn⟩ : ∃ n, l.length = n := ⟨_, rfl⟩
      have HN := Lib.hid hn
      have hn16 : n ≤ 16 := by have := OD.out.short; omega
      have hin : i ≤ n := by have := OD.out.le; omega
      rw [hn] at HOW ⊢
      clear hn
      by_cases hi : i < n
      · obtain ⟨y, hy⟩ : ∃ y, l[i]? = some y := ⟨_, List.getElem?_eq_getElem (by have := HN.out; omega)⟩
        obtain ⟨g, c', hg⟩ := own_some HOW.out (by omega)
        simp only [Value.slice.injEq, true_and] at hg
        obtain ⟨rfl, rfl⟩ := hg
        have hgB := (HOW.out.lt g rfl)
        have cy : wr.cell? ⟨g, i, none⟩ = some (.int .i64 (y : Int)) := by rw [HOW.out.cellAt i (by omega)]; simp [natV, hy]
        have HY := Lib.hid hy
        have HGB := Lib.hid hgB
        have HIN := Lib.hid hi
        have CY := Lib.hid (CH.out (y : Int))
        have LY := Lib.hid (LI.out (y : Int))
        have hu := Try.underlying26
        have hts : (Try.prog.info? 26).map (·.size) = some (treC t).length := by rw [tre_cells HT.out]; exact tre_size
        have i0 : (0 : Int) ≤ (i : Int) := by omega
        have i1 : (i : Int) < (n : Int) := by omega
        have i16 : (i : Int) < 16 := by omega
        clear hy hgB hin hi
        go_upto_region 7 with fail
        go_region_held3 (fun w' => w'.rangeAt w.heap.size 0 (treC t) ∧ w'.cell? ⟨g, i, none⟩ = some (.int .i64 (y : Int)) ∧ Below wr.heap.size wr w')
          (first | (refine ⟨?_, ?_, ?_⟩ <;> (first | assumption | exact blk_range KR.out | exact blk_range (KR.out.drew) | exact blk_range (KR.out.on q4) | exact blk_range (KR.out.on q5) | exact (Below.refl _ _) | exact (Below.refl _ _).drew | exact cell_later (w := wr) q4 (by assumption) | exact cell_later (w := wr) q5 (by assumption) | go_keep)) | (first | assumption | exact blk_range KR.out | exact blk_range (KR.out.drew) | exact blk_range (KR.out.on q4) | exact blk_range (KR.out.on q5) | exact (Below.refl _ _) | exact (Below.refl _ _).drew | exact cell_later (w := wr) q4 (by assumption) | exact cell_later (w := wr) q5 (by assumption) | go_keep))
          (first | (go_at_call 22; refine (CY.out _).mono ?_; rintro e w4 ⟨rfl, hb4⟩; have q4 : Below wr.heap.size wr w4 := bel_on ((Below.refl _ _).drew) hb4; clear hb4) | (go_at_call 38; refine (LY.out _).mono ?_; rintro e w5 hl; obtain ⟨la, lc, rfl, hn5, hb5⟩ := nats_slice hl; have q5 : Below wr.heap.size wr w5 := bel_on q4 hb5; have hq4 := q4.size; clear hb5 hl))
        clear hu hts cy
        have HN5 := Lib.hid (hn5.low hq4)
        have K5 := Lib.hid (KR.out.on q5)
        have HB5 := Lib.hid (bel_on HBR.out q5)
        have HO5 := Lib.hid (row_below HOW.out q5)
        have HC16 := Lib.hid (chi_short t (y : Int))
        have HCS := Lib.hid (chi_small t (y : Int))
        have HKS : Hid (kidsL t (rk : Int) y = (chiL t (y : Int)).filter (hopB t (rk : Int))) := Lib.hid rfl
        generalize chiL t (y : Int) = ks at HN5 hn5 HC16 HCS HKS ⊢
        obtain ⟨m, hm⟩ : ∃ m, ks.length = m := ⟨_, rfl⟩
        have HM := Lib.hid hm
        have hm16 : m ≤ 16 := by have := HC16.out; omega
        rw [hm]
        obtain ⟨v0, hv0⟩ : ∃ v0, Value.slice (some ⟨g, 0, none⟩) n c = v0 := ⟨_, rfl⟩
        have HAP : Hid (∀ k, v0.ownBlock = some k → la ≠ some ⟨k, 0, none⟩ ∨ m = 0) := Lib.hid (fun k hk => by
          subst hv0
          obtain rfl : g = k := by simpa [Value.ownBlock] using hk
          by_cases hm0 : m = 0
          · exact .inr hm0
          · left
            intro e
            obtain ⟨g2, cur, h1, h2, _⟩ := HN5.out 0 _ (List.getElem?_eq_getElem (by omega))
            rw [e] at h1
            cases h1
            have := HGB.out.2
            omega)
        have HO6 : Hid (natS.Own w5 (w.heap.size + 1) v0 (l ++ (ks.take 0).filter (hopB t (rk : Int)))) := Lib.hid (by
          rw [List.take_zero, List.filter_nil, List.append_nil]
          refine natS_own.2 ?_
          rw [← hv0, HN.out]
          exact HO5.out)
        rw [hv0]
        clear hm hn5 q4 q5 hq4 hv0 HO5 KR HBR
        go_wp2_with fail
        go_loopw [30, 5] (fun v s wi => ∃ q : Nat, v = .int .i64 (q : Int) ∧ q ≤ m ∧ Hid (natS.Own wi (w.heap.size + 1) s (l ++ (ks.take q).filter (hopB t (rk : Int)))) ∧ Hid (∀ k, s.ownBlock = some k → la ≠ some ⟨k, 0, none⟩ ∨ m = 0) ∧ Hid (NatAt wi la 0 ks) ∧ Hid (Blk wi w.heap.size (treC t)) ∧ Hid (Below w.heap.size w wi)) (fun v _ _ => (m - intOf v).toNat)
        case atStart => exact ⟨0, rfl, Nat.zero_le _, HO6, HAP, Lib.hid (HN5.out.low (Nat.zero_le _)), K5, HB5⟩
        case round =>
          clear HO6 HAP HN5 K5 HB5
          obtain ⟨q, rfl, hq, HOI, HAI, HNI, KI, HBI⟩ := hrel
          by_cases hqm : q < m
          · obtain ⟨x, hx⟩ : ∃ x, ks[q]? = some x := ⟨_, List.getElem?_eq_getElem (by have := HM.out; omega)⟩
            obtain ⟨g3, rfl, _, cx⟩ := HNI.out.read hx
            have HX := Lib.hid hx
            have HQ := Lib.hid hqm
            have HXO := Lib.hid (HO.out (x : Int))
            have l0 := tre_load KI.out HT.out
            obtain ⟨z, hz⟩ : ∃ z, hopB t (rk : Int) x = z := ⟨_, rfl⟩
            have hgt := hop_gt hz
            have HKT := Lib.hid (kids_take HX.out hz)
            generalize hopsT t (rk : Int) (x : Int) = hh at HXO hgt
            clear hx hz hq
            go_wp2_with fail
            refine (HXO.out _).mono ?_
            rintro e w6 ⟨rfl, hb⟩
            have K6 := Lib.hid (KI.out.on hb)
            have HB6 := Lib.hid (bel_on HBI.out hb)
            have HO6 := Lib.hid (HOI.out.on hb)
            have HN6 := Lib.hid (HNI.out.on hb)
            clear l0 hb KI HBI HOI HNI
            cases z with
            | false =>
              go_wp2_with fail
              go_roundw
              case rel => exact ⟨q + 1, by go_num, HQ.out, Lib.hid (by have e := HKT.out; rw [if_neg (by decide), List.append_nil] at e; rw [e]; exact HO6.out), HAI, HN6, K6, HB6⟩
              case measure => exact meas_up m q _ rfl HQ.out
            | true =>
              have hs6 := HB6.out.size
              have hk6 := K6.out.lt
              have hlen : (l ++ (ks.take q).filter (hopB t (rk : Int))).length ≤ 32 := by
                have h1 := List.length_filter_le (hopB t (rk : Int)) (ks.take q)
                have h2 := HN.out
                rw [List.length_take] at h1
                rw [List.length_append]
                omega
              go_wp2_with (at_builtin; go_must (refine rec_app (S := natS) rfl (.tmp 39) (.tmp 41) 27 rfl rfl (w.heap.size + 1) _ (l ++ (ks.take q).filter (hopB t (rk : Int))) [x] (some ⟨w6.heap.size, 0, none⟩) 1 1 rfl rfl (HO6.out.next _) (Rec.one (Blk.new w6 [.int .i64 (x : Int)] 3)) (by omega) (by simp only [World.size_alloc]; omega) ?_; intro v7 w7 hown7 hg7 hp7; have K7 := Lib.hid ((K6.out.next _).grown hg7 (fun k hk => by have := (HO6.out.lt k hk).1; omega)); have HB7 := Lib.hid ((HB6.out.alloc hs6 _).grown hg7 (by simp only [World.size_alloc]; omega) (fun k hk => by have := (HO6.out.lt k hk).1; omega))))
              have HA7 : Hid (∀ k, v7.ownBlock = some k → some ⟨g3, 0, none⟩ ≠ some (⟨k, 0, none⟩ : Addr) ∨ m = 0) := Lib.hid (fun k hk => by
                rcases hp7 k hk with h | h
                · exact HAI.out k h
                · left
                  intro e
                  have hb3 := HN6.out.block (by have := HM.out; omega)
                  cases e
                  simp only [World.size_alloc] at h
                  omega)
              have HN7 : Hid (NatAt w7 (some ⟨g3, 0, none⟩) 0 ks) := Lib.hid (NatAt.grown (HN6.out.on ((Below.refl _ _).alloc (Nat.le_refl _) _)) hg7 (fun k hk => by
                rcases HAI.out k hk with h | h
                · exact h
                · have := HQ.out; omega))
              have HO7 : Hid (natS.Own w7 (w.heap.size + 1) v7 (l ++ (ks.take (q + 1)).filter (hopB t (rk : Int)))) := Lib.hid (by
                have e := HKT.out
                rw [if_pos trivial] at e
                rw [e, ← List.append_assoc]
                exact hown7)
              clear hown7 hg7 hp7
              go_roundw
              case rel => exact ⟨q + 1, by go_num, HQ.out, HO7, HA7, HN7, K7, HB7⟩
              case measure => exact meas_up m q _ rfl HQ.out
          · obtain rfl : q = m := by omega
            have HE : Hid (l ++ (ks.take q).filter (hopB t (rk : Int)) = l ++ kidsL t (rk : Int) y) := Lib.hid (by rw [HKS.out, ← HM.out, List.take_length])
            have HOD := Lib.hid (OD.out.step HY.out)
            have HOB : Hid (orderT t (rk : Int) = bfsT t (rk : Int) (16 - (i + 1)) (l ++ kidsL t (rk : Int) y) (i + 1)) := Lib.hid (by
              rw [OB.out, show 16 - i = (16 - (i + 1)) + 1 by have := HIN.out; omega, bfs_step HY.out])
            have hof := natS_own.1 HOI.out
            rw [HE.out] at hof
            have HOF := Lib.hid hof
            clear hof
            clear hq hqm
            go_wp2_with fail
            go_roundw
            case rel => exact ⟨i + 1, l ++ kidsL t (rk : Int) y, by go_num, HOD, HOB, HOF, KI, HBI⟩
            case measure => exact meas_up 17 i _ rfl (by have := HIN.out; omega)
      · obtain rfl : i = n := by omega
        have HE : Hid (orderT t (rk : Int) = l) := Lib.hid (by rw [OB.out]; exact bfs_end _ _ _ (by rw [HN.out]; exact Nat.le_refl _))
        clear hin hi
        go_wp2_with fail
        go_ret
        refine ⟨_, rfl, ?_, HBR.out⟩
        rw [HE.out, HN.out]
        exact row_lower HOW.out (Nat.le_succ _)
  · have HR := Lib.hid (HO.out r)
    have HE := Lib.hid (order_no h0)
    have hz : (hopsT t r r != 0) = true := by simpa using h0
    generalize hopsT t r r = hh at HR hz
    clear h0
    go_enter Try.func20, Try.ntmps20
    go_upto_region 1 with fail
    obtain ⟨B0, BB⟩ := tbox_new w t
    obtain ⟨w1, hw1⟩ : ∃ v, w.alloc (.cells (treC t).toArray 26) = v := ⟨_, rfl⟩
    rw [hw1] at B0 BB ⊢
    clear hw1
    have K := Lib.hid B0
    have HB := Lib.hid BB
    clear B0 BB
    have l0 := tre_load K.out HT.out
    go_wp2_with fail
    refine (HR.out _).mono ?_
    rintro e w2 ⟨rfl, hb⟩
    have HB2 := Lib.hid (bel_on HB.out hb)
    clear l0 K HB hb HR
    go_wp2_with fail
    go_ret
    refine ⟨_, rfl, ?_, HB2.out⟩
    rw [HE.out]
    exact World.ownsRow_nil _ _ _ _

set_option maxHeartbeats 1000000 in
set_option maxRecDepth 100000 in
theorem rorder_any (t : Tr) (r : Int) (ht : Tre t) (w : World) : Calls Try.prog 21 #[.agg (treC t).toArray, .int .i64 r] w (OwnNats (orderT t r) w) := by
  have HO := Lib.hid (fun j => rhops_any t r j ht)
  have CH := Lib.hid (fun n => rchildren_any t n ht)
  have LI := Lib.hid (fun n w => show Calls Try.prog 39 #[.int .i64 (chilT t n)] w (OwnNats (chiL t n) w) by rw [← chi_nodes]; exact rlist_any _ w)
  have HT := Lib.hid ht
  clear ht
  by_cases h0 : hopsT t r r = 0
  · obtain ⟨rk, rfl, hrk, hok⟩ := hops_zero h0
    have HR := Lib.hid (HO.out (rk : Int))
    rw [h0] at HR
    have OS := Lib.hid (Ord.start hok)
    have OE : Hid (orderT t (rk : Int) = bfsT t (rk : Int) 16 [rk] 0) := Lib.hid (order_yes h0)
    clear h0 hok hrk
    go_enter Try.func21, Try.ntmps21
    go_upto_region 1 with fail
    obtain ⟨B0, BB⟩ := tbox_new w t
    obtain ⟨w1, hw1⟩ : ∃ v, w.alloc (.cells (treC t).toArray 26) = v := ⟨_, rfl⟩
    rw [hw1] at B0 BB ⊢
    clear hw1
    have K := Lib.hid B0
    have HB := Lib.hid BB
    clear B0 BB
    have l0 := tre_load K.out HT.out
    go_wp2_with fail
    refine (HR.out _).mono ?_
    rintro e w2 ⟨rfl, hb⟩
    have K2 := Lib.hid (K.out.on hb)
    have HB2 := Lib.hid (bel_on HB.out hb)
    clear l0 K HB hb HR
    go_upto_region 4 with fail
    have o3 := World.ownsRow_lit (base := w.heap.size + 1) (size := 1) (e := 3) w2 (natV [rk]).toArray 1 (by have := K2.out.lt; omega) (by unfold maxLen; omega) rfl
    have k3 := K2.out.next (.cells (natV [rk]).toArray 3)
    have b3 := HB2.out.alloc HB2.out.size (.cells (natV [rk]).toArray 3)
    rw [show (natV [rk]).toArray = #[.int .i64 (rk : Int)] from rfl] at o3 k3 b3
    obtain ⟨w3, hw3⟩ : ∃ v, w2.alloc (.cells #[.int .i64 (rk : Int)] 3) = v := ⟨_, rfl⟩
    rw [hw3] at o3 k3 b3 ⊢
    clear hw3
    obtain ⟨v3, hv3⟩ : ∃ v, Value.slice (some ⟨w2.heap.size, 0, none⟩) 1 1 = v := ⟨_, rfl⟩
    rw [hv3] at o3 ⊢
    clear hv3 K2 HB2
    have K3 := Lib.hid k3
    have HB3 := Lib.hid b3
    have O3 : Hid (w3.ownsRow (w.heap.size + 1) 3 1 v3 [rk].length (natV [rk])) := Lib.hid o3
    clear k3 b3 o3
    go_wp2_with fail
    go_loopw [6, 5] (fun v s wr => ∃ (i : Nat) (l : List Nat), v = .int .i64 (i : Int) ∧ Hid (Ord t (rk : Int) l i) ∧ Hid (orderT t (rk : Int) = bfsT t (rk : Int) (16 - i) l i) ∧ Hid (wr.ownsRow (w.heap.size + 1) 3 1 s l.length (natV l)) ∧ Hid (Blk wr w.heap.size (treC t)) ∧ Hid (Below w.heap.size w wr)) (fun v _ _ => (17 - intOf v).toNat)
    case atStart => exact ⟨0, [rk], rfl, OS, OE, O3, K3, HB3⟩
    case round =>
      obtain ⟨i, l, rfl, OD, OB, HOW, KR, HBR⟩ := hrel
      obtain ⟨a, c, rfl⟩ := own_slice HOW.out
      obtain ⟨n, hn⟩ : ∃ n, l.length = n := ⟨_, rfl⟩
      have HN := Lib.hid hn
      have hn16 : n ≤ 16 := by have := OD.out.short; omega
      have hin : i ≤ n := by have := OD.out.le; omega
      rw [hn] at HOW ⊢
      clear hn
      by_cases hi : i < n
      · obtain ⟨y, hy⟩ : ∃ y, l[i]? = some y := ⟨_, List.getElem?_eq_getElem (by have := HN.out; omega)⟩
        obtain ⟨g, c', hg⟩ := own_some HOW.out (by omega)
        simp only [Value.slice.injEq, true_and] at hg
        obtain ⟨rfl, rfl⟩ := hg
        have hgB := (HOW.out.lt g rfl)
        have cy : wr.cell? ⟨g, i, none⟩ = some (.int .i64 (y : Int)) := by rw [HOW.out.cellAt i (by omega)]; simp [natV, hy]
        have HY := Lib.hid hy
        have HGB := Lib.hid hgB
        have HIN := Lib.hid hi
        have CY := Lib.hid (CH.out (y : Int))
        have LY := Lib.hid (LI.out (y : Int))
        have hu := Try.underlying26
        have hts : (Try.prog.info? 26).map (·.size) = some (treC t).length := by rw [tre_cells HT.out]; exact tre_size
        have i0 : (0 : Int) ≤ (i : Int) := by omega
        have i1 : (i : Int) < (n : Int) := by omega
        have i16 : (i : Int) < 16 := by omega
        clear hy hgB hin hi
        go_upto_region 7 with fail
        go_region_held3 (fun w' => w'.rangeAt w.heap.size 0 (treC t) ∧ w'.cell? ⟨g, i, none⟩ = some (.int .i64 (y : Int)) ∧ Below wr.heap.size wr w')
          (first | (refine ⟨?_, ?_, ?_⟩ <;> (first | assumption | exact blk_range KR.out | exact blk_range (KR.out.drew) | exact blk_range (KR.out.on q4) | exact blk_range (KR.out.on q5) | exact (Below.refl _ _) | exact (Below.refl _ _).drew | exact cell_later (w := wr) q4 (by assumption) | exact cell_later (w := wr) q5 (by assumption) | go_keep)) | (first | assumption | exact blk_range KR.out | exact blk_range (KR.out.drew) | exact blk_range (KR.out.on q4) | exact blk_range (KR.out.on q5) | exact (Below.refl _ _) | exact (Below.refl _ _).drew | exact cell_later (w := wr) q4 (by assumption) | exact cell_later (w := wr) q5 (by assumption) | go_keep))
          (first | (go_at_call 23; refine (CY.out _).mono ?_; rintro e w4 ⟨rfl, hb4⟩; have q4 : Below wr.heap.size wr w4 := bel_on ((Below.refl _ _).drew) hb4; clear hb4) | (go_at_call 39; refine (LY.out _).mono ?_; rintro e w5 hl; obtain ⟨la, lc, rfl, hn5, hb5⟩ := nats_slice hl; have q5 : Below wr.heap.size wr w5 := bel_on q4 hb5; have hq4 := q4.size; clear hb5 hl))
        clear hu hts cy
        have HN5 := Lib.hid (hn5.low hq4)
        have K5 := Lib.hid (KR.out.on q5)
        have HB5 := Lib.hid (bel_on HBR.out q5)
        have HO5 := Lib.hid (row_below HOW.out q5)
        have HC16 := Lib.hid (chi_short t (y : Int))
        have HCS := Lib.hid (chi_small t (y : Int))
        have HKS : Hid (kidsL t (rk : Int) y = (chiL t (y : Int)).filter (hopB t (rk : Int))) := Lib.hid rfl
        generalize chiL t (y : Int) = ks at HN5 hn5 HC16 HCS HKS ⊢
        obtain ⟨m, hm⟩ : ∃ m, ks.length = m := ⟨_, rfl⟩
        have HM := Lib.hid hm
        have hm16 : m ≤ 16 := by have := HC16.out; omega
        rw [hm]
        obtain ⟨v0, hv0⟩ : ∃ v0, Value.slice (some ⟨g, 0, none⟩) n c = v0 := ⟨_, rfl⟩
        have HAP : Hid (∀ k, v0.ownBlock = some k → la ≠ some ⟨k, 0, none⟩ ∨ m = 0) := Lib.hid (fun k hk => by
          subst hv0
          obtain rfl : g = k := by simpa [Value.ownBlock] using hk
          by_cases hm0 : m = 0
          · exact .inr hm0
          · left
            intro e
            obtain ⟨g2, cur, h1, h2, _⟩ := HN5.out 0 _ (List.getElem?_eq_getElem (by omega))
            rw [e] at h1
            cases h1
            have := HGB.out.2
            omega)
        have HO6 : Hid (natS.Own w5 (w.heap.size + 1) v0 (l ++ (ks.take 0).filter (hopB t (rk : Int)))) := Lib.hid (by
          rw [List.take_zero, List.filter_nil, List.append_nil]
          refine natS_own.2 ?_
          rw [← hv0, HN.out]
          exact HO5.out)
        rw [hv0]
        clear hm hn5 q4 q5 hq4 hv0 HO5 KR HBR
        go_wp2_with fail
        go_loopw [34, 5] (fun v s wi => ∃ q : Nat, v = .int .i64 (q : Int) ∧ q ≤ m ∧ Hid (natS.Own wi (w.heap.size + 1) s (l ++ (ks.take q).filter (hopB t (rk : Int)))) ∧ Hid (∀ k, s.ownBlock = some k → la ≠ some ⟨k, 0, none⟩ ∨ m = 0) ∧ Hid (NatAt wi la 0 ks) ∧ Hid (Blk wi w.heap.size (treC t)) ∧ Hid (Below w.heap.size w wi)) (fun v _ _ => (m - intOf v).toNat)
        case atStart => exact ⟨0, rfl, Nat.zero_le _, HO6, HAP, Lib.hid (HN5.out.low (Nat.zero_le _)), K5, HB5⟩
        case round =>
          clear HO6 HAP HN5 K5 HB5
          obtain ⟨q, rfl, hq, HOI, HAI, HNI, KI, HBI⟩ := hrel
          by_cases hqm : q < m
          · obtain ⟨x, hx⟩ : ∃ x, ks[q]? = some x := ⟨_, List.getElem?_eq_getElem (by have := HM.out; omega)⟩
            obtain ⟨g3, rfl, _, cx⟩ := HNI.out.read hx
            have HX := Lib.hid hx
            have HQ := Lib.hid hqm
            have HXO := Lib.hid (HO.out (x : Int))
            have l0 := tre_load KI.out HT.out
            obtain ⟨z, hz⟩ : ∃ z, hopB t (rk : Int) x = z := ⟨_, rfl⟩
            have hgt := hop_gt hz
            have HKT := Lib.hid (kids_take HX.out hz)
            generalize hopsT t (rk : Int) (x : Int) = hh at HXO hgt
            clear hx hz hq
            go_wp2_with fail
            refine (HXO.out _).mono ?_
            rintro e w6 ⟨rfl, hb⟩
            have K6 := Lib.hid (KI.out.on hb)
            have HB6 := Lib.hid (bel_on HBI.out hb)
            have HO6 := Lib.hid (HOI.out.on hb)
            have HN6 := Lib.hid (HNI.out.on hb)
            clear l0 hb KI HBI HOI HNI
            cases z with
            | false =>
              go_wp2_with fail
              go_roundw
              case rel => exact ⟨q + 1, by go_num, HQ.out, Lib.hid (by have e := HKT.out; rw [if_neg (by decide), List.append_nil] at e; rw [e]; exact HO6.out), HAI, HN6, K6, HB6⟩
              case measure => exact meas_up m q _ rfl HQ.out
            | true =>
              have hs6 := HB6.out.size
              have hk6 := K6.out.lt
              have hlen : (l ++ (ks.take q).filter (hopB t (rk : Int))).length ≤ 32 := by
                have h1 := List.length_filter_le (hopB t (rk : Int)) (ks.take q)
                have h2 := HN.out
                rw [List.length_take] at h1
                rw [List.length_append]
                omega
              go_wp2_with (at_builtin; go_must (refine rec_app (S := natS) rfl (.tmp 43) (.tmp 45) 27 rfl rfl (w.heap.size + 1) _ (l ++ (ks.take q).filter (hopB t (rk : Int))) [x] (some ⟨w6.heap.size, 0, none⟩) 1 1 rfl rfl (HO6.out.next _) (Rec.one (Blk.new w6 [.int .i64 (x : Int)] 3)) (by omega) (by simp only [World.size_alloc]; omega) ?_; intro v7 w7 hown7 hg7 hp7; have K7 := Lib.hid ((K6.out.next _).grown hg7 (fun k hk => by have := (HO6.out.lt k hk).1; omega)); have HB7 := Lib.hid ((HB6.out.alloc hs6 _).grown hg7 (by simp only [World.size_alloc]; omega) (fun k hk => by have := (HO6.out.lt k hk).1; omega))))
              have HA7 : Hid (∀ k, v7.ownBlock = some k → some ⟨g3, 0, none⟩ ≠ some (⟨k, 0, none⟩ : Addr) ∨ m = 0) := Lib.hid (fun k hk => by
                rcases hp7 k hk with h | h
                · exact HAI.out k h
                · left
                  intro e
                  have hb3 := HN6.out.block (by have := HM.out; omega)
                  cases e
                  simp only [World.size_alloc] at h
                  omega)
              have HN7 : Hid (NatAt w7 (some ⟨g3, 0, none⟩) 0 ks) := Lib.hid (NatAt.grown (HN6.out.on ((Below.refl _ _).alloc (Nat.le_refl _) _)) hg7 (fun k hk => by
                rcases HAI.out k hk with h | h
                · exact h
                · have := HQ.out; omega))
              have HO7 : Hid (natS.Own w7 (w.heap.size + 1) v7 (l ++ (ks.take (q + 1)).filter (hopB t (rk : Int)))) := Lib.hid (by
                have e := HKT.out
                rw [if_pos trivial] at e
                rw [e, ← List.append_assoc]
                exact hown7)
              clear hown7 hg7 hp7
              go_roundw
              case rel => exact ⟨q + 1, by go_num, HQ.out, HO7, HA7, HN7, K7, HB7⟩
              case measure => exact meas_up m q _ rfl HQ.out
          · obtain rfl : q = m := by omega
            have HE : Hid (l ++ (ks.take q).filter (hopB t (rk : Int)) = l ++ kidsL t (rk : Int) y) := Lib.hid (by rw [HKS.out, ← HM.out, List.take_length])
            have HOD := Lib.hid (OD.out.step HY.out)
            have HOB : Hid (orderT t (rk : Int) = bfsT t (rk : Int) (16 - (i + 1)) (l ++ kidsL t (rk : Int) y) (i + 1)) := Lib.hid (by
              rw [OB.out, show 16 - i = (16 - (i + 1)) + 1 by have := HIN.out; omega, bfs_step HY.out])
            have hof := natS_own.1 HOI.out
            rw [HE.out] at hof
            have HOF := Lib.hid hof
            clear hof
            clear hq hqm
            go_wp2_with fail
            go_roundw
            case rel => exact ⟨i + 1, l ++ kidsL t (rk : Int) y, by go_num, HOD, HOB, HOF, KI, HBI⟩
            case measure => exact meas_up 17 i _ rfl (by have := HIN.out; omega)
      · obtain rfl : i = n := by omega
        have HE : Hid (orderT t (rk : Int) = l) := Lib.hid (by rw [OB.out]; exact bfs_end _ _ _ (by rw [HN.out]; exact Nat.le_refl _))
        clear hin hi
        go_wp2_with fail
        go_ret
        refine ⟨_, rfl, ?_, HBR.out⟩
        rw [HE.out, HN.out]
        exact row_lower HOW.out (Nat.le_succ _)
  · have HR := Lib.hid (HO.out r)
    have HE := Lib.hid (order_no h0)
    have hz : (hopsT t r r != 0) = true := by simpa using h0
    generalize hopsT t r r = hh at HR hz
    clear h0
    go_enter Try.func21, Try.ntmps21
    go_upto_region 1 with fail
    obtain ⟨B0, BB⟩ := tbox_new w t
    obtain ⟨w1, hw1⟩ : ∃ v, w.alloc (.cells (treC t).toArray 26) = v := ⟨_, rfl⟩
    rw [hw1] at B0 BB ⊢
    clear hw1
    have K := Lib.hid B0
    have HB := Lib.hid BB
    clear B0 BB
    have l0 := tre_load K.out HT.out
    go_wp2_with fail
    refine (HR.out _).mono ?_
    rintro e w2 ⟨rfl, hb⟩
    have HB2 := Lib.hid (bel_on HB.out hb)
    clear l0 K HB hb HR
    go_wp2_with fail
    go_ret
    refine ⟨_, rfl, ?_, HB2.out⟩
    rw [HE.out]
    exact World.ownsRow_nil _ _ _ _
end Go.Proofs.Ytjpbglbbeepmnaa
