/- Contracts of package costs, part V: read (a word). -/
import Derived.Test.YtnbbepelagdenaaDoorCosB
import Derived.Test.YtnbbepelagdenaaDoorCosR
import Derived.Test.YtnbbepelagdenaaDoorNodesE
import Derived.Test.YtnbbepelagdenaaDoorNodesL
import Derived.Test.YtnbbepelagdenaaDoorLayRead
import Derived.Test.YtnbbepelagdenaaDoorUntil
import Derived.Lib.ParseIntBCases
import Derived.Lib.SmallJoins
namespace Go.Proofs.YtnbbepelagdenaaDoor
open Go.RowKit Go.Sort CosF Go.Joins
attribute [local go_sem ↓] loadAt_cos loadAt_row storeAt_cos

/-- strconv's two errors lie where the program's text lays them. -/
def Errs (w : World) : Prop := (∃ t p, w.cell? ⟨3, 0, none⟩ = some (.iface t p)) ∧ ∃ t p, w.cell? ⟨4, 0, none⟩ = some (.iface t p)
theorem Errs.on {w w' : World} (h : Errs w) (hb : Below w.heap.size w w') : Errs w' := by
  obtain ⟨⟨t, p, h1⟩, t', p', h2⟩ := h
  exact ⟨⟨t, p, cell_later hb h1⟩, t', p', cell_later hb h2⟩
theorem bytes_below (w : World) (t : TypeId) (s : ByteArray) : Below w.heap.size w (Lib.bytesWorld w t s) := below_bytesWorld _ w t s (Nat.le_refl _)
theorem num_some (s : ByteArray) (u : Nat) (w : World) (hs : s.size ≤ 1000) (h : numO s.data.toList = some u) :
    Calls Tryd.prog 53 #[.string s, .int .i64 10, .int .i64 32] w fun e w' => e = .returned (.tuple #[.int .u64 (u : Int), .nilIface]) ∧ Below w.heap.size w w' := by
  have hp : Lib.parseUintB 32 s.data.toList = .ok u := by
    unfold numO at h
    cases hx : Lib.parseUintB 32 s.data.toList with
    | ok v => rw [hx] at h; cases h; rfl
    | _ => rw [hx] at h; cases h
  refine (Any.strconv_ParseUint_10_at32_ok laysPu14 s (by omega) u hp w).mono ?_
  rintro e w' ⟨rfl, hw⟩
  refine ⟨rfl, ?_⟩
  rcases hw with rfl | rfl
  · exact Below.refl _ _
  · exact bytes_below _ _ _
theorem num_none (s : ByteArray) (w : World) (hs : s.size ≤ 1000) (hE : Errs w) (h : numO s.data.toList = none) :
    Calls Tryd.prog 53 #[.string s, .int .i64 10, .int .i64 32] w fun e w' => ∃ (v : Int) (t : TypeId) (p : Value), e = .returned (.tuple #[.int .u64 v, .iface t p]) ∧ Below w.heap.size w w' := by
  obtain ⟨⟨t, p, h1⟩, t', p', h2⟩ := hE
  cases hx : Lib.parseUintB 32 s.data.toList
  · unfold numO at h
    rw [hx] at h
    cases h
  · refine (Any.strconv_ParseUint_10_at32_syntax laysPu14 s (by omega) hx (.iface t p) w h1 (.inr ⟨_, _, rfl⟩)).mono ?_
    rintro e w' ⟨N, rfl, _, _, hb⟩
    exact ⟨_, _, _, rfl, hb⟩
  · refine (Any.strconv_ParseUint_10_at32_range laysPu14 s (by omega) hx (.iface t' p') w h2 (.inr ⟨_, _, rfl⟩)).mono ?_
    rintro e w' ⟨N, rfl, _, _, hb⟩
    exact ⟨_, _, _, rfl, hb⟩
theorem num_lt {l : List UInt8} {u : Nat} (h : numO l = some u) : u < 4294967296 := by
  unfold numO at h
  cases hx : Lib.parseUintB 32 l with
  | ok v =>
    rw [hx] at h
    cases h
    have := Lib.parseUintB_le hx
    simp at this
    omega
  | _ => rw [hx] at h; cases h

set_option maxHeartbeats 2000000 in
theorem read_no (c : Pt) (hc : Cos c) (s : ByteArray) (w : World) (h1 : 1 ≤ s.size) (hs : s.size ≤ 1000) (hE : Errs w) (hn : numO (s.data.toList.drop 1) = none) :
    Calls Tryd.prog 46 #[.agg (cosP c).toArray, .string s] w fun e w' => e = .returned (.tuple #[.agg (cosP (readV c s.data.toList).1).toArray, .int .i64 (readV c s.data.toList).2]) ∧ Below w.heap.size w w' := by
  have HC := Lib.hid hc
  have HV : Hid (readV c s.data.toList = (c, 3)) := Lib.hid (by unfold readV; rw [hn])
  have hx := str_drop s 1
  have hlen : (str (s.data.toList.drop 1)).size ≤ 1000 := by rw [str_size, List.length_drop, size_list]; omega
  have PU : Hid (∀ w, Errs w → Calls Tryd.prog 53 #[.string (str (s.data.toList.drop 1)), .int .i64 10, .int .i64 32] w fun e w' => ∃ (v : Int) (t : TypeId) (p : Value), e = .returned (.tuple #[.int .u64 v, .iface t p]) ∧ Below w.heap.size w w') :=
    Lib.hid (fun w hE => num_none _ w hlen hE (by rw [str_list]; exact hn))
  obtain ⟨y, hy⟩ : ∃ y, str (s.data.toList.drop 1) = y := ⟨_, rfl⟩
  rw [hy] at hx PU
  have hz : (1 : Int) ≤ (s.size : Int) := by omega
  have HE := Lib.hid hE
  rw [HV.out]
  clear hc hlen hy hn hE
  go_enter Tryd.func46, Tryd.ntmps46
  go_upto_region 1 with fail
  obtain ⟨B0, B1, BB⟩ := two_cos w c
  obtain ⟨wa, hwa⟩ : ∃ wa, ((w.alloc (.cells (cosP c).toArray 25)).alloc (.cells #[.int .i64 0, .int .u32 0, .int .u32 0, .int .u32 0, .int .u32 0, .int .u32 0, .int .u32 0, .int .u32 0, .int .u32 0, .int .u32 0, .int .u32 0, .int .u32 0, .int .u32 0, .int .u32 0, .int .u32 0, .int .u32 0, .int .u32 0] 25)) = wa := ⟨_, rfl⟩
  rw [hwa] at B0 B1 BB ⊢
  clear hwa
  have K0 := Lib.hid B0
  have K1 := Lib.hid B1
  have HB := Lib.hid BB
  clear B0 B1 BB
  go_wp2_with fail
  refine (PU.out _ (HE.out.on HB.out)).mono ?_
  rintro e w1 ⟨v, t, p, rfl, hb⟩
  have hl := cos_load (K0.out.on hb) HC.out
  have hst := cos_store (K1.out.on hb) Cos.zero HC.out
  have hv := cos_var ((K1.out.on hb).put (cosP c)) HC.out
  have hbb := below_setRow (bel_on HB.out hb) (Nat.le_succ _) (cosP c).toArray
  clear hb
  go_wp2_with fail
  exact bodyPost_ret (v := .tuple #[.agg (cosP c).toArray, .int .i64 3]) (by simp [results, Tryd.results46, asAddr, hv]) rfl ⟨rfl, hbb⟩

set_option maxHeartbeats 2000000 in
theorem read_yes (c : Pt) (hc : Cos c) (s : ByteArray) (u : Nat) (w : World) (h1 : 1 ≤ s.size) (hs : s.size ≤ 1000) (hn : numO (s.data.toList.drop 1) = some u) :
    Calls Tryd.prog 46 #[.agg (cosP c).toArray, .string s] w fun e w' => e = .returned (.tuple #[.agg (cosP (readV c s.data.toList).1).toArray, .int .i64 (readV c s.data.toList).2]) ∧ Below w.heap.size w w' := by
  have HC := Lib.hid hc
  have hu := num_lt hn
  have HV : Hid (readV c s.data.toList = (setC c (nodeW s.data.toList) u, setE (nodeW s.data.toList) u)) := Lib.hid (by unfold readV; rw [hn])
  have hx := str_drop s 1
  have hx2 := str_take s 1
  have hlen : (str (s.data.toList.drop 1)).size ≤ 1000 := by rw [str_size, List.length_drop, size_list]; omega
  have PU := Lib.hid (fun w => num_some (str (s.data.toList.drop 1)) u w hlen (by rw [str_list]; exact hn))
  have PA : Hid (∀ w, Calls Tryd.prog 54 #[.string (str (s.data.toList.take 1))] w fun e w' => e = .returned (.tuple #[.int .i64 (NodesF.parseF (s.data.toList.take 1)).1, .int .i64 (NodesF.parseF (s.data.toList.take 1)).2]) ∧ Below w.heap.size w w') := Lib.hid (fun w => by
    have h := parse_any (str (s.data.toList.take 1)) w
    rw [str_list] at h
    exact h)
  have LO : Hid (∀ w, Calls Tryd.prog 55 #[.int .i64 (NodesF.parseF (s.data.toList.take 1)).1] w fun e w' => e = .returned (.int .i64 (nodeW s.data.toList)) ∧ w = w') := Lib.hid (fun w => low_any _ w)
  have SE := Lib.hid (cset_any c (nodeW s.data.toList) u hc)
  have HS' := Lib.hid (hc.set (nodeW s.data.toList) u)
  obtain ⟨y, hy⟩ : ∃ y, str (s.data.toList.drop 1) = y := ⟨_, rfl⟩
  obtain ⟨z, hz⟩ : ∃ z, str (s.data.toList.take 1) = z := ⟨_, rfl⟩
  obtain ⟨q, hq⟩ : ∃ q, (NodesF.parseF (s.data.toList.take 1)).1 = q := ⟨_, rfl⟩
  obtain ⟨q2, hq2⟩ : ∃ q, (NodesF.parseF (s.data.toList.take 1)).2 = q := ⟨_, rfl⟩
  obtain ⟨m, hm⟩ : ∃ m, nodeW s.data.toList = m := ⟨_, rfl⟩
  rw [hy] at hx PU
  rw [hz] at hx2 PA
  rw [hq, hq2] at PA
  rw [hq, hm] at LO
  rw [hm] at SE HS' HV
  obtain ⟨s', hs'⟩ : ∃ t, setC c m u = t := ⟨_, rfl⟩
  obtain ⟨r, hr⟩ : ∃ t, setE m u = t := ⟨_, rfl⟩
  rw [hs', hr] at SE HV
  rw [hs'] at HS'
  have hz1 : (1 : Int) ≤ (s.size : Int) := by omega
  have e1 : IntKind.u32.wrap (u : Int) = (u : Int) := by rw [IntKind.wrap_u32]; omega
  clear hc hlen hy hz hq hq2 hm hn hu hs' hr
  go_enter Tryd.func46, Tryd.ntmps46
  go_upto_region 1 with fail
  obtain ⟨B0, B1, BB⟩ := two_cos w c
  obtain ⟨wa, hwa⟩ : ∃ wa, ((w.alloc (.cells (cosP c).toArray 25)).alloc (.cells #[.int .i64 0, .int .u32 0, .int .u32 0, .int .u32 0, .int .u32 0, .int .u32 0, .int .u32 0, .int .u32 0, .int .u32 0, .int .u32 0, .int .u32 0, .int .u32 0, .int .u32 0, .int .u32 0, .int .u32 0, .int .u32 0, .int .u32 0] 25)) = wa := ⟨_, rfl⟩
  rw [hwa] at B0 B1 BB ⊢
  clear hwa
  have K0 := Lib.hid B0
  have K1 := Lib.hid B1
  have HB := Lib.hid BB
  clear B0 B1 BB
  go_wp2_with fail
  refine (PU.out _).mono ?_
  rintro e wb ⟨rfl, hb⟩
  have K0' := Lib.hid (K0.out.on hb)
  have K1' := Lib.hid (K1.out.on hb)
  have HB' := Lib.hid (bel_on HB.out hb)
  clear K0 K1 HB hb
  go_wp2_with fail
  refine (PA.out _).mono ?_
  rintro e wc ⟨rfl, hb⟩
  have K0 := Lib.hid (K0'.out.on hb)
  have K1 := Lib.hid (K1'.out.on hb)
  have HB := Lib.hid (bel_on HB'.out hb)
  clear K0' K1' HB' hb
  go_upto_region 5 with fail
  have s0 : (wholeLoad 25 (.pointer (some ⟨w.heap.size, 0, none⟩))).run Tryd.prog wc.drew = .ok (.agg (cosP c).toArray) wc.drew ∧ Blk wc.drew w.heap.size (cosP c) ∧ Blk wc.drew (w.heap.size + 1) (cosP none16) ∧ Below w.heap.size w wc.drew := ⟨cos_load K0.out.drew HC.out, K0.out.drew, K1.out.drew, HB.out.drew⟩
  refine wp_region_until (fun w' => (wholeLoad 25 (.pointer (some ⟨w.heap.size, 0, none⟩))).run Tryd.prog w' = .ok (.agg (cosP c).toArray) w' ∧ Blk w' w.heap.size (cosP c) ∧ Blk w' (w.heap.size + 1) (cosP none16) ∧ Below w.heap.size w w') 8 (by kernel_rfl) s0 (fun hS => ?_)
  clear s0
  refine wpAnyU_take 0 rfl (by kernel_rfl) (by kernel_rfl) (by kernel_rfl) (by decide) (by kernel_rfl) (by kernel_rfl) (fun _ _ _ h => h) (by rfl) (by intro w hSw; (try dsimp only at hSw); go_simp <;> with_reducible rfl) (by assumption) ?_
  try simp only [Act.put]
  try simp only [List.setIfInBounds_toArray]
  try simp only [List.set]
  refine wpAnyU_take 1 rfl (by kernel_rfl) (by kernel_rfl) (by kernel_rfl) (by decide) (by kernel_rfl) (by kernel_rfl) (fun _ _ _ h => h) (by rfl) (by intro w hSw; (try dsimp only at hSw); go_simp <;> with_reducible rfl) (by assumption) ?_
  try simp only [Act.put]
  try simp only [List.setIfInBounds_toArray]
  try simp only [List.set]
  refine wpAnyU_take 3 rfl (by kernel_rfl) (by kernel_rfl) (by kernel_rfl) (by decide) (by kernel_rfl) (by kernel_rfl) (fun _ _ _ h => h) (by rfl) (by intro w hSw; (try dsimp only at hSw); go_simp <;> with_reducible rfl) (by assumption) ?_
  try simp only [Act.put]
  try simp only [List.setIfInBounds_toArray]
  try simp only [List.set]
  refine wpAnyU_take 4 rfl (by kernel_rfl) (by kernel_rfl) (by kernel_rfl) (by decide) (by kernel_rfl) (by kernel_rfl) (fun _ _ _ h => h) (by rfl) (by intro w hSw; (try dsimp only at hSw); go_simp <;> with_reducible rfl) (by assumption) ?_
  try simp only [Act.put]
  try simp only [List.setIfInBounds_toArray]
  try simp only [List.set]
  refine wpAnyU_one 2 rfl (by kernel_rfl) (fun K hK => ?_)
  go_simp
  refine (LO.out _).mono ?_
  rintro e w1 ⟨rfl, rfl⟩
  go_simp
  refine hK.out _ _ (fun _ => hS) (fun _ => ?_)
  clear hK K
  try simp only [Act.put]
  try simp only [List.setIfInBounds_toArray]
  try simp only [List.set]
  refine wpAnyU_one 5 rfl (by kernel_rfl) (fun K hK => ?_)
  go_simp
  refine (SE.out _).mono ?_
  rintro e w1 ⟨rfl, hb⟩
  go_simp
  obtain ⟨_, q2, q4, qb⟩ := hS
  have hS' : (wholeLoad 25 (.pointer (some ⟨w.heap.size, 0, none⟩))).run Tryd.prog w1 = .ok (.agg (cosP c).toArray) w1 ∧ Blk w1 w.heap.size (cosP c) ∧ Blk w1 (w.heap.size + 1) (cosP none16) ∧ Below w.heap.size w w1 := ⟨cos_load (q2.on hb) HC.out, q2.on hb, q4.on hb, bel_on qb hb⟩
  clear q2 q4 qb hb
  refine hK.out _ _ (fun _ => hS') (fun _ => ?_)
  clear hK K
  have hS := hS'
  clear hS'
  try simp only [Act.put]
  try simp only [List.setIfInBounds_toArray]
  try simp only [List.set]
  refine wpAnyU_take 6 rfl (by kernel_rfl) (by kernel_rfl) (by kernel_rfl) (by decide) (by kernel_rfl) (by kernel_rfl) (fun _ _ _ h => h) (by rfl) (by intro w hSw; (try dsimp only at hSw); go_simp <;> with_reducible rfl) (by assumption) ?_
  try simp only [Act.put]
  try simp only [List.setIfInBounds_toArray]
  try simp only [List.set]
  refine wpAnyU_take 7 rfl (by kernel_rfl) (by kernel_rfl) (by kernel_rfl) (by decide) (by kernel_rfl) (by kernel_rfl) (fun _ _ _ h => h) (by rfl) (by intro w hSw; (try dsimp only at hSw); go_simp <;> with_reducible rfl) (by assumption) ?_
  try simp only [Act.put]
  try simp only [List.setIfInBounds_toArray]
  try simp only [List.set]
  obtain ⟨l2, q2, q4, qb⟩ := hS
  have hst := cos_store q4 Cos.zero HS'.out
  have hv := cos_var (q4.put (cosP s')) HS'.out
  have hbb := below_setRow qb (Nat.le_succ _) (cosP s').toArray
  have hS : (wholeLoad 25 (.pointer (some ⟨w.heap.size, 0, none⟩))).run Tryd.prog w1 = .ok (.agg (cosP c).toArray) w1 ∧ Blk w1 w.heap.size (cosP c) ∧ Blk w1 (w.heap.size + 1) (cosP none16) ∧ Below w.heap.size w w1 := ⟨l2, q2, q4, qb⟩
  clear l2 q2 q4 qb
  refine wpAnyU_one 8 rfl (by kernel_rfl) (fun K hK => ?_)
  go_simp
  refine hK.out _ _ (fun hno => by cases hno) (fun _ => ?_)
  clear hK K
  try simp only [Act.put]
  try simp only [List.setIfInBounds_toArray]
  try simp only [List.set]
  refine wpAnyU_one 9 rfl (by kernel_rfl) (fun K hK => ?_)
  go_simp
  refine hK.out _ _ (fun hno => by cases hno) (fun _ => ?_)
  clear hK K
  try simp only [Act.put]
  try simp only [List.setIfInBounds_toArray]
  try simp only [List.set]
  refine wpAnyU_done (by kernel_rfl) ?_ _
  clear hst hS
  go_wp2_with fail
  exact bodyPost_ret (v := .tuple #[.agg (cosP s').toArray, .int .i64 r]) (by simp [results, Tryd.results46, asAddr, hv]) rfl ⟨by rw [HV.out], hbb⟩
theorem read_any (c : Pt) (hc : Cos c) (s : ByteArray) (w : World) (h1 : 1 ≤ s.size) (hs : s.size ≤ 1000) (hE : Errs w) :
    Calls Tryd.prog 46 #[.agg (cosP c).toArray, .string s] w fun e w' => e = .returned (.tuple #[.agg (cosP (readV c s.data.toList).1).toArray, .int .i64 (readV c s.data.toList).2]) ∧ Below w.heap.size w w' := by
  cases hn : numO (s.data.toList.drop 1) with
  | none => exact read_no c hc s w h1 hs hE hn
  | some u => exact read_yes c hc s u w h1 hs hn
end Go.Proofs.YtnbbepelagdenaaDoor
