/- Contracts of package timer, part G: Set. -/
import Derived.Test.YtpfgbdcnfmlkcaaTimD
import Derived.Test.YtpfgbdcnfmlkcaaTimO
namespace Go.Proofs.Ytpfgbdcnfmlkcaa
open Go.RowKit Go.Sort

/-- New timers and an error's number. -/
def GotErr (L : List Alm) (x : Int) (w : World) (e : Ending) (w' : World) : Prop := ∃ v, e = .returned (.tuple #[v, .int .i64 x]) ∧ alS.Own w' w.heap.size v L ∧ Below w.heap.size w w'

set_option maxHeartbeats 1000000 in
theorem set_bad (x : Alm) (a : Option Addr) (m c : Nat) (L : List Alm) (w : World) (hL : alS.At w a m c L) (hm : m ≤ 1000000) (hr : x.right = false) :
    Calls Try.prog 5 #[.slice a m c, (.agg #[.int .i64 x.k, .int .i64 x.n, .int .i64 x.t] : Value)] w (GotErr L 1 w) := by
  have RG := Lib.hid (right_gives x)
  rw [hr] at RG
  have CL : Hid (∀ w', Below w.heap.size w w' → Calls Try.prog 17 #[.slice a m c] w' (alS.Got L w')) := Lib.hid (fun w' hb => tclone_any a m c L w' (hL.on hb) hm)
  have HB : Hid (Below w.heap.size w (w.alloc (.cells #[.int .i64 x.k, .int .i64 x.n, .int .i64 x.t] 23))) := Lib.hid ((Below.refl _ _).alloc (Nat.le_refl _) _)
  clear hL hm hr
  go_enter Try.func5, Try.ntmps5
  go_wp2_with fail
  refine (RG.out _).mono ?_
  rintro e w1 ⟨rfl, hb⟩
  have HB1 := Lib.hid (bel_on HB.out hb)
  clear hb
  go_wp2_with fail
  refine (CL.out _ HB1.out).mono ?_
  rintro e w2 ⟨v, rfl, ho, hb⟩
  have HO := Lib.hid (ho.lower HB1.out.size)
  have HB2 := Lib.hid (bel_on HB1.out hb)
  clear ho hb
  go_wp2_with fail
  refine bodyPost_ret (v := .tuple #[v, .int .i64 1]) (by simp [results, Try.results5, go_sem]) rfl ⟨v, rfl, HO.out, HB2.out⟩

set_option maxHeartbeats 4000000 in
theorem set_ok (x : Alm) (a : Option Addr) (m c : Nat) (L : List Alm) (w : World) (hL : alS.At w a m c L) (hm : m ≤ 100000) (hr : x.right = true) :
    Calls Try.prog 5 #[.slice a m c, (.agg #[.int .i64 x.k, .int .i64 x.n, .int .i64 x.t] : Value)] w (GotErr (setL L x) 0 w) := by
  have RG := Lib.hid (right_gives x)
  rw [hr] at RG
  obtain ⟨p, hp⟩ : ∃ p, placeA L x = p := ⟨_, rfl⟩
  have hpm : p ≤ m := by rw [← hp, ← hL.1]; exact placeA_le L x
  have hmc := hL.2.1
  obtain ⟨q, hq⟩ : ∃ q, m - p = q := ⟨_, rfl⟩
  obtain ⟨d, hd⟩ : ∃ d, c - p = d := ⟨_, rfl⟩
  have PL : Hid (∀ w', Below w.heap.size w w' → Calls Try.prog 18 #[.slice a m c, (.agg #[.int .i64 x.k, .int .i64 x.n, .int .i64 x.t] : Value)] w' fun e w'' => e = .returned (.int .i64 (p : Int)) ∧ Below w'.heap.size w' w'') := Lib.hid (fun w' hb => hp ▸ place_any x a m c L w' (hL.on hb) (by omega))
  have hs1 : ∀ w, (Instr.slice 25 (.slice a m c) none (some (.int .i64 (p : Int))) none).run Try.prog w = .ok (.slice (Shp.cutA 3 a 0 c) p c) w := fun w => by
    rw [run_slice_h (w := w) 25 a m c (by kernel_rfl) .i64 (p : Int) (by omega) (by omega)]
    have hz : (sizeOf (Try.prog.elem 25)).run Try.prog w = .ok 3 w := by kernel_rfl
    rw [hz]
    rfl
  have hs2 : ∀ w, (Instr.slice 25 (.slice a m c) (some (.int .i64 (p : Int))) none none).run Try.prog w = .ok (.slice (Shp.cutA 3 a p c) q d) w := fun w => by
    rw [run_slice_l (w := w) 25 a m c (by kernel_rfl) .i64 (p : Int) (by omega) (by omega)]
    have hz : (sizeOf (Try.prog.elem 25)).run Try.prog w = .ok 3 w := by kernel_rfl
    rw [hz, ← hq, ← hd]
    rfl
  have TA : Hid (∀ w', Below w.heap.size w w' → alS.At w' (Shp.cutA 3 a 0 c) p c (L.take p)) := Lib.hid (fun w' hb => by
    have e := (hL.on hb).cut 0 p c (Nat.zero_le _) hpm (by omega) (Nat.le_refl _)
    rw [show alS.K = 3 from rfl] at e
    simpa using e)
  have TB : Hid (∀ w', Below w.heap.size w w' → alS.At w' (Shp.cutA 3 a p c) q d (L.drop p)) := Lib.hid (fun w' hb => by
    have e := (hL.on hb).cut p m c hpm (Nat.le_refl _) hmc (Nat.le_refl _)
    rw [List.take_of_length_le (by rw [List.length_drop, hL.1]; omega), hq, hd] at e
    exact e)
  have ST : Hid (∀ w', Below w.heap.size w w' → Calls Try.prog 20 #[.slice (Shp.cutA 3 a p c) q d, .int .i64 x.k, .int .i64 x.n] w' (alS.Got (stopL (L.drop p) x.k x.n) w')) := Lib.hid (fun w' hb => stop_any x.k x.n _ q d _ w' (TB.out w' hb) (by omega))
  have HE : Hid (setL L x = L.take p ++ ([x] ++ stopL (L.drop p) x.k x.n)) := Lib.hid (by unfold setL; rw [hp])
  have HLN : Hid ((stopL (L.drop p) x.k x.n).length ≤ 100000 ∧ (L.take p).length ≤ 100000) := Lib.hid ⟨Nat.le_trans (List.length_filter_le _ _) (by rw [List.length_drop, hL.1]; omega), by rw [List.length_take, hL.1]; omega⟩
  have HB : Hid (Below w.heap.size w (w.alloc (.cells #[.int .i64 x.k, .int .i64 x.n, .int .i64 x.t] 23))) := Lib.hid ((Below.refl _ _).alloc (Nat.le_refl _) _)
  have HK : Hid (Blk (w.alloc (.cells #[.int .i64 x.k, .int .i64 x.n, .int .i64 x.t] 23)) w.heap.size x.cells) := Lib.hid (Blk.new w x.cells 23)
  clear hL hm hr hp hpm hmc hq hd
  go_enter Try.func5, Try.ntmps5
  go_wp2_with fail
  refine (RG.out _).mono ?_
  rintro e w1 ⟨rfl, hb⟩
  have HB1 := Lib.hid (bel_on HB.out hb)
  have HK1 := Lib.hid (HK.out.on hb)
  clear hb HB HK
  have k0 := HK1.out.cell 0 rfl
  have k1 := HK1.out.cell 1 rfl
  have k2 := HK1.out.cell 2 rfl
  go_wp2_with fail
  refine (PL.out _ HB1.out).mono ?_
  rintro e w2 ⟨rfl, hb⟩
  have HB2 := Lib.hid (bel_on HB1.out hb)
  have HK2 := Lib.hid (HK1.out.on hb)
  clear hb HB1 HK1 k0 k1 k2 PL RG
  go_upto_region 4 with fail
  have s0 : w2.drew.cell? ⟨w.heap.size, 0, none⟩ = some (.int .i64 x.k) ∧ w2.drew.cell? ⟨w.heap.size, 1, none⟩ = some (.int .i64 x.n) ∧ w2.drew.cell? ⟨w.heap.size, 2, none⟩ = some (.int .i64 x.t) := ⟨HK2.out.drew.cell 0 rfl, HK2.out.drew.cell 1 rfl, HK2.out.drew.cell 2 rfl⟩
  refine wp_region_tail (fun w' => w'.cell? ⟨w.heap.size, 0, none⟩ = some (.int .i64 x.k) ∧ w'.cell? ⟨w.heap.size, 1, none⟩ = some (.int .i64 x.n) ∧ w'.cell? ⟨w.heap.size, 2, none⟩ = some (.int .i64 x.t)) (fun j => decide (14 < j)) (by kernel_rfl) s0 (fun hS => ?_)
  clear s0
  refine wpAnyT_take 0 rfl (by kernel_rfl) (by kernel_rfl) (by kernel_rfl) (by kernel_rfl) (fun _ _ _ h => h) (by rfl) (by intro w hSw; (try dsimp only at hSw); go_simp <;> with_reducible rfl) (by assumption) ?_
  try simp only [Act.put]
  try simp only [List.setIfInBounds_toArray]
  try simp only [List.set]
  refine wpAnyT_take 1 rfl (by kernel_rfl) (by kernel_rfl) (by kernel_rfl) (by kernel_rfl) (fun _ _ _ h => h) (by rfl) (by intro w hSw; (try dsimp only at hSw); go_simp <;> with_reducible rfl) (by assumption) ?_
  try simp only [Act.put]
  try simp only [List.setIfInBounds_toArray]
  try simp only [List.set]
  refine wpAnyT_take 2 rfl (by kernel_rfl) (by kernel_rfl) (by kernel_rfl) (by kernel_rfl) (fun _ _ _ h => h) (by rfl) (by intro w hSw; (try dsimp only at hSw); go_simp <;> with_reducible rfl) (by assumption) ?_
  try simp only [Act.put]
  try simp only [List.setIfInBounds_toArray]
  try simp only [List.set]
  refine wpAnyT_take 3 rfl (by kernel_rfl) (by kernel_rfl) (by kernel_rfl) (by kernel_rfl) (fun _ _ _ h => h) (by rfl) (by intro w hSw; (try dsimp only at hSw); go_simp <;> with_reducible rfl) (by assumption) ?_
  try simp only [Act.put]
  try simp only [List.setIfInBounds_toArray]
  try simp only [List.set]
  refine wpAnyT_take 5 rfl (by kernel_rfl) (by kernel_rfl) (by kernel_rfl) (by kernel_rfl) (fun _ _ _ h => h) (by rfl) (by intro w hSw; (try dsimp only at hSw); go_simp <;> with_reducible rfl) (by assumption) ?_
  try simp only [Act.put]
  try simp only [List.setIfInBounds_toArray]
  try simp only [List.set]
  refine wpAnyT_take 6 rfl (by kernel_rfl) (by kernel_rfl) (by kernel_rfl) (by kernel_rfl) (fun _ _ _ h => h) (by rfl) (by intro w hSw; (try dsimp only at hSw); go_simp <;> with_reducible rfl) (by assumption) ?_
  try simp only [Act.put]
  try simp only [List.setIfInBounds_toArray]
  try simp only [List.set]
  refine wpAnyT_take 7 rfl (by kernel_rfl) (by kernel_rfl) (by kernel_rfl) (by kernel_rfl) (fun _ _ _ h => h) (by rfl) (by intro w hSw; (try dsimp only at hSw); go_simp <;> with_reducible rfl) (by assumption) ?_
  try simp only [Act.put]
  try simp only [List.setIfInBounds_toArray]
  try simp only [List.set]
  refine wpAnyT_take 8 rfl (by kernel_rfl) (by kernel_rfl) (by kernel_rfl) (by kernel_rfl) (fun _ _ _ h => h) (by rfl) (by intro w hSw; (try dsimp only at hSw); go_simp <;> with_reducible rfl) (by assumption) ?_
  try simp only [Act.put]
  try simp only [List.setIfInBounds_toArray]
  try simp only [List.set]
  refine wpAnyT_take 9 rfl (by kernel_rfl) (by kernel_rfl) (by kernel_rfl) (by kernel_rfl) (fun _ _ _ h => h) (by rfl) (by intro w hSw; (try dsimp only at hSw); go_simp <;> with_reducible rfl) (by assumption) ?_
  try simp only [Act.put]
  try simp only [List.setIfInBounds_toArray]
  try simp only [List.set]
  refine wpAnyT_take 10 rfl (by kernel_rfl) (by kernel_rfl) (by kernel_rfl) (by kernel_rfl) (fun _ _ _ h => h) (by rfl) (by intro w hSw; (try dsimp only at hSw); go_simp <;> with_reducible rfl) (by assumption) ?_
  try simp only [Act.put]
  try simp only [List.setIfInBounds_toArray]
  try simp only [List.set]
  refine wpAnyT_take 11 rfl (by kernel_rfl) (by kernel_rfl) (by kernel_rfl) (by kernel_rfl) (fun _ _ _ h => h) (by rfl) (by intro w hSw; (try dsimp only at hSw); go_simp <;> with_reducible rfl) (by assumption) ?_
  try simp only [Act.put]
  try simp only [List.setIfInBounds_toArray]
  try simp only [List.set]
  refine wpAnyT_two 4 12 rfl rfl (by kernel_rfl) (fun K hK => ?_) (fun K hK => ?_)
  · go_simp
    have BV := Lib.hid (HB2.out.drew.alloc HB2.out.drew.size (.cells #[.int .i64 x.k, .int .i64 x.n, .int .i64 x.t] 23))
    have KV := Lib.hid (HK2.out.drew.next (.cells #[.int .i64 x.k, .int .i64 x.n, .int .i64 x.t] 23))
    have XV : Hid (Blk (w2.drew.alloc (.cells #[.int .i64 x.k, .int .i64 x.n, .int .i64 x.t] 23)) w2.heap.size x.cells) := Lib.hid (Blk.new w2.drew x.cells 23)
    refine hK.out _ _ (fun _ => ⟨KV.out.cell 0 rfl, KV.out.cell 1 rfl, KV.out.cell 2 rfl⟩) (fun hn => ?_)
    clear hK K hS
    have hS := hn rfl
    clear hn
    try simp only [Act.put]
    try simp only [List.setIfInBounds_toArray]
    try simp only [List.set]
    refine wpAnyT_one 12 rfl (by kernel_rfl) (fun K hK => ?_)
    go_simp
    refine (ST.out _ BV.out).mono ?_
    rintro e W ⟨sv, rfl, ho, hb⟩
    obtain ⟨sa, sc, rfl, hat, _⟩ := ho.shape
    obtain ⟨g, hg⟩ : ∃ g, w2.heap.size = g := ⟨_, rfl⟩
    try rw [hg]
    rw [hg] at XV
    have BW := Lib.hid (bel_on BV.out hb)
    have KW := Lib.hid (KV.out.on hb)
    have XW := Lib.hid (XV.out.on hb)
    have SW := Lib.hid hat
    clear hb ho hat hg
    go_simp
    refine hK.out _ _ (fun _ => ⟨KW.out.cell 0 rfl, KW.out.cell 1 rfl, KW.out.cell 2 rfl⟩) (fun hn => ?_)
    clear hK K hS
    have hS := hn rfl
    clear hn
    try simp only [Act.put]
    try simp only [List.setIfInBounds_toArray]
    try simp only [List.set]
    refine wpAnyT_one 13 rfl (by kernel_rfl) (fun K hK => ?_)
    go_simp
    have BW2 := Lib.hid (BW.out.alloc BW.out.size (.cells #[.slice (Shp.cutA 3 a 0 c) p c, .slice (some ⟨g, 0, none⟩) 1 1, .slice sa (stopL (L.drop p) x.k x.n).length sc] 25))
    have KW2 := Lib.hid (KW.out.next (.cells #[.slice (Shp.cutA 3 a 0 c) p c, .slice (some ⟨g, 0, none⟩) 1 1, .slice sa (stopL (L.drop p) x.k x.n).length sc] 25))
    refine hK.out _ _ (fun _ => ⟨KW2.out.cell 0 rfl, KW2.out.cell 1 rfl, KW2.out.cell 2 rfl⟩) (fun hn => ?_)
    clear hK K hS
    have hS := hn rfl
    clear hn
    try simp only [Act.put]
    try simp only [List.setIfInBounds_toArray]
    try simp only [List.set]
    refine wpAnyT_one 14 rfl (by kernel_rfl) (fun K hK => ?_)
    go_simp
    have CC : Hid (Calls Try.prog 19 #[.slice (some ⟨W.heap.size, 0, none⟩) 3 3] (W.alloc (.cells #[.slice (Shp.cutA 3 a 0 c) p c, .slice (some ⟨g, 0, none⟩) 1 1, .slice sa (stopL (L.drop p) x.k x.n).length sc] 25)) (alS.Got (setL L x) (W.alloc (.cells #[.slice (Shp.cutA 3 a 0 c) p c, .slice (some ⟨g, 0, none⟩) 1 1, .slice sa (stopL (L.drop p) x.k x.n).length sc] 25)))) := Lib.hid (by
      have e := tconcat_any W.heap.size 3 [⟨Shp.cutA 3 a 0 c, p, c, L.take p⟩, ⟨some ⟨g, 0, none⟩, 1, 1, [x]⟩, ⟨sa, (stopL (L.drop p) x.k x.n).length, sc, stopL (L.drop p) x.k x.n⟩] _ (Blk.new W [.slice (Shp.cutA 3 a 0 c) p c, .slice (some ⟨g, 0, none⟩) 1 1, .slice sa (stopL (L.drop p) x.k x.n).length sc] 25) rfl (by
        intro s hs
        simp only [List.mem_cons, List.not_mem_nil, or_false] at hs
        rcases hs with rfl | rfl | rfl
        · exact TA.out _ BW2.out
        · exact Rec.one (XW.out.next _)
        · exact SW.out.next _) (by
          have h1 := HLN.out
          simp only [Sl.all, List.map_cons, List.map_nil, List.flatten_cons, List.flatten_nil, List.length_append, List.length_cons, List.length_nil]
          omega) (by omega)
      have e2 : Sl.all [⟨Shp.cutA 3 a 0 c, p, c, L.take p⟩, ⟨some ⟨g, 0, none⟩, 1, 1, [x]⟩, ⟨sa, (stopL (L.drop p) x.k x.n).length, sc, stopL (L.drop p) x.k x.n⟩] = setL L x := by rw [HE.out]; simp [Sl.all]
      rw [e2] at e
      exact e)
    refine (CC.out).mono ?_
    rintro e w4 ⟨z, rfl, ho, hb⟩
    have HO := Lib.hid (ho.lower BW2.out.size)
    have HB4 := Lib.hid (bel_on BW2.out hb)
    have KW4 := Lib.hid (KW2.out.on hb)
    clear ho hb CC
    go_simp
    refine hK.out _ _ (fun _ => ⟨KW4.out.cell 0 rfl, KW4.out.cell 1 rfl, KW4.out.cell 2 rfl⟩) (fun hn => ?_)
    clear hK K hS
    have hS := hn (by rfl)
    clear hn
    try simp only [Act.put]
    try simp only [List.setIfInBounds_toArray]
    try simp only [List.set]
    refine wpAnyT_one 15 rfl (by kernel_rfl) (fun K hK => ?_)
    go_simp
    refine hK.out _ _ (by first | (intro hno; cases hno; done) | exact fun _ => hS) (fun _ => ?_)
    clear hK K
    try simp only [Act.put]
    try simp only [List.setIfInBounds_toArray]
    try simp only [List.set]
    refine wpAnyT_one 16 rfl (by kernel_rfl) (fun K hK => ?_)
    go_simp
    refine hK.out _ _ (by first | (intro hno; cases hno; done) | exact fun _ => hS) (fun _ => ?_)
    clear hK K
    try simp only [Act.put]
    try simp only [List.setIfInBounds_toArray]
    try simp only [List.set]
    refine wpAnyT_done (by kernel_rfl) ?_ _
    clear hS
    go_wp2_with fail
    refine bodyPost_ret (v := .tuple #[z, .int .i64 0]) (by simp [results, Try.results5, go_sem]) rfl ⟨z, rfl, HO.out, HB4.out⟩
  · go_simp
    refine (ST.out _ HB2.out.drew).mono ?_
    rintro e V ⟨sv, rfl, ho, hb⟩
    obtain ⟨sa, sc, rfl, hat, _⟩ := ho.shape
    have BV := Lib.hid (bel_on HB2.out.drew hb)
    have KV := Lib.hid (HK2.out.drew.on hb)
    have SV := Lib.hid hat
    clear hb ho hat
    go_simp
    refine hK.out _ _ (fun _ => ⟨KV.out.cell 0 rfl, KV.out.cell 1 rfl, KV.out.cell 2 rfl⟩) (fun hn => ?_)
    clear hK K hS
    have hS := hn rfl
    clear hn
    try simp only [Act.put]
    try simp only [List.setIfInBounds_toArray]
    try simp only [List.set]
    refine wpAnyT_one 4 rfl (by kernel_rfl) (fun K hK => ?_)
    go_simp
    obtain ⟨W, hW⟩ : ∃ W, V.alloc (.cells #[.int .i64 x.k, .int .i64 x.n, .int .i64 x.t] 23) = W := ⟨_, rfl⟩
    obtain ⟨g, hg⟩ : ∃ g, V.heap.size = g := ⟨_, rfl⟩
    rw [hW, hg]
    have BW := Lib.hid (hW ▸ BV.out.alloc BV.out.size (.cells #[.int .i64 x.k, .int .i64 x.n, .int .i64 x.t] 23))
    have KW := Lib.hid (hW ▸ KV.out.next (.cells #[.int .i64 x.k, .int .i64 x.n, .int .i64 x.t] 23))
    have SW := Lib.hid (hW ▸ SV.out.next (.cells #[.int .i64 x.k, .int .i64 x.n, .int .i64 x.t] 23))
    have XW : Hid (Blk W g x.cells) := Lib.hid (hW ▸ Blk.newAt hg x.cells 23)
    clear hW hg
    refine hK.out _ _ (fun _ => ⟨KW.out.cell 0 rfl, KW.out.cell 1 rfl, KW.out.cell 2 rfl⟩) (fun hn => ?_)
    clear hK K hS
    have hS := hn rfl
    clear hn
    try simp only [Act.put]
    try simp only [List.setIfInBounds_toArray]
    try simp only [List.set]
    refine wpAnyT_one 13 rfl (by kernel_rfl) (fun K hK => ?_)
    go_simp
    have BW2 := Lib.hid (BW.out.alloc BW.out.size (.cells #[.slice (Shp.cutA 3 a 0 c) p c, .slice (some ⟨g, 0, none⟩) 1 1, .slice sa (stopL (L.drop p) x.k x.n).length sc] 25))
    have KW2 := Lib.hid (KW.out.next (.cells #[.slice (Shp.cutA 3 a 0 c) p c, .slice (some ⟨g, 0, none⟩) 1 1, .slice sa (stopL (L.drop p) x.k x.n).length sc] 25))
    refine hK.out _ _ (fun _ => ⟨KW2.out.cell 0 rfl, KW2.out.cell 1 rfl, KW2.out.cell 2 rfl⟩) (fun hn => ?_)
    clear hK K hS
    have hS := hn rfl
    clear hn
    try simp only [Act.put]
    try simp only [List.setIfInBounds_toArray]
    try simp only [List.set]
    refine wpAnyT_one 14 rfl (by kernel_rfl) (fun K hK => ?_)
    go_simp
    have CC : Hid (Calls Try.prog 19 #[.slice (some ⟨W.heap.size, 0, none⟩) 3 3] (W.alloc (.cells #[.slice (Shp.cutA 3 a 0 c) p c, .slice (some ⟨g, 0, none⟩) 1 1, .slice sa (stopL (L.drop p) x.k x.n).length sc] 25)) (alS.Got (setL L x) (W.alloc (.cells #[.slice (Shp.cutA 3 a 0 c) p c, .slice (some ⟨g, 0, none⟩) 1 1, .slice sa (stopL (L.drop p) x.k x.n).length sc] 25)))) := Lib.hid (by
      have e := tconcat_any W.heap.size 3 [⟨Shp.cutA 3 a 0 c, p, c, L.take p⟩, ⟨some ⟨g, 0, none⟩, 1, 1, [x]⟩, ⟨sa, (stopL (L.drop p) x.k x.n).length, sc, stopL (L.drop p) x.k x.n⟩] _ (Blk.new W [.slice (Shp.cutA 3 a 0 c) p c, .slice (some ⟨g, 0, none⟩) 1 1, .slice sa (stopL (L.drop p) x.k x.n).length sc] 25) rfl (by
        intro s hs
        simp only [List.mem_cons, List.not_mem_nil, or_false] at hs
        rcases hs with rfl | rfl | rfl
        · exact TA.out _ BW2.out
        · exact Rec.one (XW.out.next _)
        · exact SW.out.next _) (by
          have h1 := HLN.out
          simp only [Sl.all, List.map_cons, List.map_nil, List.flatten_cons, List.flatten_nil, List.length_append, List.length_cons, List.length_nil]
          omega) (by omega)
      have e2 : Sl.all [⟨Shp.cutA 3 a 0 c, p, c, L.take p⟩, ⟨some ⟨g, 0, none⟩, 1, 1, [x]⟩, ⟨sa, (stopL (L.drop p) x.k x.n).length, sc, stopL (L.drop p) x.k x.n⟩] = setL L x := by rw [HE.out]; simp [Sl.all]
      rw [e2] at e
      exact e)
    refine (CC.out).mono ?_
    rintro e w4 ⟨z, rfl, ho, hb⟩
    have HO := Lib.hid (ho.lower BW2.out.size)
    have HB4 := Lib.hid (bel_on BW2.out hb)
    have KW4 := Lib.hid (KW2.out.on hb)
    clear ho hb CC
    go_simp
    refine hK.out _ _ (fun _ => ⟨KW4.out.cell 0 rfl, KW4.out.cell 1 rfl, KW4.out.cell 2 rfl⟩) (fun hn => ?_)
    clear hK K hS
    have hS := hn (by rfl)
    clear hn
    try simp only [Act.put]
    try simp only [List.setIfInBounds_toArray]
    try simp only [List.set]
    refine wpAnyT_one 15 rfl (by kernel_rfl) (fun K hK => ?_)
    go_simp
    refine hK.out _ _ (by first | (intro hno; cases hno; done) | exact fun _ => hS) (fun _ => ?_)
    clear hK K
    try simp only [Act.put]
    try simp only [List.setIfInBounds_toArray]
    try simp only [List.set]
    refine wpAnyT_one 16 rfl (by kernel_rfl) (fun K hK => ?_)
    go_simp
    refine hK.out _ _ (by first | (intro hno; cases hno; done) | exact fun _ => hS) (fun _ => ?_)
    clear hK K
    try simp only [Act.put]
    try simp only [List.setIfInBounds_toArray]
    try simp only [List.set]
    refine wpAnyT_done (by kernel_rfl) ?_ _
    clear hS
    go_wp2_with fail
    refine bodyPost_ret (v := .tuple #[z, .int .i64 0]) (by simp [results, Try.results5, go_sem]) rfl ⟨z, rfl, HO.out, HB4.out⟩
end Go.Proofs.Ytpfgbdcnfmlkcaa
