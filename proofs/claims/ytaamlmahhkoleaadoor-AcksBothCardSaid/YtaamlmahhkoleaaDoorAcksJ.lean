/- Contracts of package acks, part J: Told. -/
import Derived.Test.YtaamlmahhkoleaaDoorAcksI
namespace Go.Proofs.YtaamlmahhkoleaaDoor
open Go.RowKit Go.Sort

theorem anyof_one (f a b c d n s : Int) (g : Nat) (w : World) (ht : Tab w) (hk : Blk w g [.int .i64 f, .int .u32 a, .int .u32 b, .int .u32 c, .int .u32 d, .int .i64 n, .int .i64 s]) (hn : n < 9223372036854775808) :
    AnyOf (.slice (some ⟨g, 0, none⟩) 1 1) (AcksF.hasB n s) w := fun q hq w1 hb => any_one f a b c d n s q g w1 (ht.on hb) (hk.on hb) hn hq
theorem anyof_two (f a b c d n s f' a' b' c' d' n' s' : Int) (g : Nat) (w : World) (ht : Tab w) (hk : Blk w g [.int .i64 f, .int .u32 a, .int .u32 b, .int .u32 c, .int .u32 d, .int .i64 n, .int .i64 s, .int .i64 f', .int .u32 a', .int .u32 b', .int .u32 c', .int .u32 d', .int .i64 n', .int .i64 s'])
    (hn : n < 9223372036854775808) (hn' : n' < 9223372036854775808) :
    AnyOf (.slice (some ⟨g, 0, none⟩) 2 2) (fun q => AcksF.hasB n s q || AcksF.hasB n' s' q) w := fun q hq w1 hb => any_two f a b c d n s f' a' b' c' d' n' s' q g w1 (ht.on hb) (hk.on hb) hn hn' hq

set_option maxHeartbeats 1000000 in
theorem told_any (f a b c d n s : Int) (w : World) (ht : Tab w) (hn : n < 9223372036854775808) : Calls Tryd.prog 11 #[(.agg #[.int .i64 f, .int .u32 a, .int .u32 b, .int .u32 c, .int .u32 d, .int .i64 n, .int .i64 s] : Value)] w (OwnInts (AcksF.nearL n (AcksF.hasB n s)) w) := by
  have K := Blk.new w [.int .i64 f, .int .u32 a, .int .u32 b, .int .u32 c, .int .u32 d, .int .i64 n, .int .i64 s] 30
  have hb0 := (Below.refl w.heap.size w).alloc (Nat.le_refl _) (.cells #[.int .i64 f, .int .u32 a, .int .u32 b, .int .u32 c, .int .u32 d, .int .i64 n, .int .i64 s] 30)
  have HB := Lib.hid (hb0.alloc hb0.size (.cells #[.int .i64 f, .int .u32 a, .int .u32 b, .int .u32 c, .int .u32 d, .int .i64 n, .int .i64 s] 30))
  have T := Lib.hid ht
  have c0 := K.cell 0 rfl
  have c1 := K.cell 1 rfl
  have c2 := K.cell 2 rfl
  have c3 := K.cell 3 rfl
  have c4 := K.cell 4 rfl
  have c5 := K.cell 5 rfl
  have c6 := K.cell 6 rfl
  clear K hb0 ht
  have HN := Lib.hid hn
  clear hn
  go_enter Tryd.func11, Tryd.ntmps11
  go_wp2_with fail
  refine (near_any n _ _ _ (anyof_one f a b c d n s _ _ (T.out.on HB.out) (Blk.newAt (by simp only [World.size_alloc]) _ _) HN.out)).mono ?_
  rintro e w1 ⟨v, rfl, hown, hb⟩
  have H1 := Lib.hid (bel_on HB.out hb)
  have HO := Lib.hid (row_lower hown (B := w.heap.size) (by simp only [World.size_alloc]; omega))
  clear hown hb c0 c1 c2 c3 c4 c5 c6
  go_wp2_with fail
  go_ret
  exact ⟨v, rfl, HO.out, H1.out⟩
end Go.Proofs.YtaamlmahhkoleaaDoor
