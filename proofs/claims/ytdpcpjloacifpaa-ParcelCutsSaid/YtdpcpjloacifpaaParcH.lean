/- Contracts of package parcel, part H: Hop. -/
import Derived.Test.YtdpcpjloacifpaaParcA
namespace Go.Proofs.Ytdpcpjloacifpaa
open Go.RowKit Go.Sort

theorem two_cells (w : World) (l m : List Value) (t1 t2 : TypeId) (o : Obj) :
    Blk (((w.alloc (.cells l.toArray t1)).alloc (.cells m.toArray t2)).alloc o) w.heap.size l ∧ Blk (((w.alloc (.cells l.toArray t1)).alloc (.cells m.toArray t2)).alloc o) (w.heap.size + 1) m :=
  ⟨((Blk.new w l t1).next _).next _, (Blk.newAt (by simp only [World.size_alloc]) m t2).next _⟩

set_option maxHeartbeats 1000000 in
theorem hop_no (f a b c d s e t : Int) (x : ByteArray) (n a' b' c' d' : Int) (h : t ≤ 1) :
    Gives Try.prog 8 #[(.agg #[.int .i64 f, .int .u32 a, .int .u32 b, .int .u32 c, .int .u32 d, .int .i64 s, .int .i64 e, .int .i64 t, .string x] : Value), .int .i64 n, (.agg #[.int .u32 a', .int .u32 b', .int .u32 c', .int .u32 d'] : Value)] (.tuple #[(.agg #[.int .i64 0, .int .u32 0, .int .u32 0, .int .u32 0, .int .u32 0, .int .i64 0, .int .i64 0, .int .i64 0, .string ⟨#[]⟩] : Value), .bool false]) := by
  intro w
  have h1 : decide (t ≤ 1) = true := decide_eq_true h
  clear h
  go_enter Try.func8, Try.ntmps8
  go_wp2
  refine bodyPost_ret (v := .tuple #[(.agg #[.int .i64 0, .int .u32 0, .int .u32 0, .int .u32 0, .int .u32 0, .int .i64 0, .int .i64 0, .int .i64 0, .string ⟨#[]⟩] : Value), .bool false]) (by simp [results, Try.results8, go_sem]) rfl ⟨rfl, ?_⟩
  exact (((Below.refl _ _).alloc (Nat.le_refl _) _).alloc (by simp only [World.size_alloc]; omega) _).alloc (by simp only [World.size_alloc]; omega) _

set_option maxHeartbeats 1000000 in
theorem hop_yes (f a b c d s e t : Int) (x : ByteArray) (n a' b' c' d' : Int) (h : 1 < t) (ht : t < 9223372036854775808) :
    Gives Try.prog 8 #[(.agg #[.int .i64 f, .int .u32 a, .int .u32 b, .int .u32 c, .int .u32 d, .int .i64 s, .int .i64 e, .int .i64 t, .string x] : Value), .int .i64 n, (.agg #[.int .u32 a', .int .u32 b', .int .u32 c', .int .u32 d'] : Value)] (.tuple #[(.agg #[.int .i64 n, .int .u32 a', .int .u32 b', .int .u32 c', .int .u32 d', .int .i64 s, .int .i64 e, .int .i64 (t - 1), .string x] : Value), .bool true]) := by
  intro w
  have h1 : decide (t ≤ 1) = false := decide_eq_false (by omega)
  obtain ⟨k, hk⟩ : ∃ k, t - 1 = k := ⟨_, rfl⟩
  have e1 : wrap64 (t - 1) = k := by rw [hk]; exact IntWalk.wrap64_in _ (by omega)
  rw [hk]
  clear h ht hk
  go_enter Try.func8, Try.ntmps8
  go_upto_region 3 with fail
  refine wp_region_tail (fun w' => w'.cell? ⟨w.heap.size + 1, 0, none⟩ = some (.int .u32 a') ∧ w'.cell? ⟨w.heap.size + 1, 1, none⟩ = some (.int .u32 b') ∧ w'.cell? ⟨w.heap.size + 1, 2, none⟩ = some (.int .u32 c') ∧ w'.cell? ⟨w.heap.size + 1, 3, none⟩ = some (.int .u32 d') ∧ w'.cell? ⟨w.heap.size, 7, none⟩ = some (.int .i64 t)) (fun j => j == 10) (by kernel_rfl) (by have k := two_cells w [.int .i64 f, .int .u32 a, .int .u32 b, .int .u32 c, .int .u32 d, .int .i64 s, .int .i64 e, .int .i64 t, .string x] [.int .u32 a', .int .u32 b', .int .u32 c', .int .u32 d'] 28 26 (.cells #[.int .i64 0, .int .u32 0, .int .u32 0, .int .u32 0, .int .u32 0, .int .i64 0, .int .i64 0, .int .i64 0, .string ⟨#[]⟩] 28); exact ⟨k.2.cell 0 rfl, k.2.cell 1 rfl, k.2.cell 2 rfl, k.2.cell 3 rfl, k.1.cell 7 rfl⟩) (fun hS => ?_)
  refine wpAnyT_take 0 rfl (by kernel_rfl) (by kernel_rfl) (by kernel_rfl) (by kernel_rfl) (fun _ _ _ h => h) (by rfl) (by intro w hSw; (try dsimp only at hSw); go_simp <;> with_reducible rfl) (by assumption) ?_
  try simp only [Act.put]
  try simp only [List.setIfInBounds_toArray]
  try simp only [List.set]
  refine wpAnyT_take 1 rfl (by kernel_rfl) (by kernel_rfl) (by kernel_rfl) (by kernel_rfl) (fun _ _ _ h => h) (by rfl) (by intro w hSw; (try dsimp only at hSw); go_simp <;> with_reducible rfl) (by assumption) ?_
  try simp only [Act.put]
  try simp only [List.setIfInBounds_toArray]
  try simp only [List.set]
  refine wpAnyT_take 2 rfl (by kernel_rfl) (by kernel_rfl) (by kernel_rfl) (by kernel_rfl) (fun _ _ _ h => h) (by rfl) (by intro w hSw; (try dsimp only at hSw); go_simp <;> with_reducible rfl) (by assumption) ?_
  try simp only [Act.put]
  try simp only [List.setIfInBounds_toArray]
  try simp only [List.set]
  refine wpAnyT_take 3 rfl (by kernel_rfl) (by kernel_rfl) (by kernel_rfl) (by kernel_rfl) (fun _ _ _ h => h) (by rfl) (by intro w hSw; (try dsimp only at hSw); go_simp <;> with_reducible rfl) (by assumption) ?_
  try simp only [Act.put]
  try simp only [List.setIfInBounds_toArray]
  try simp only [List.set]
  refine wpAnyT_take 4 rfl (by kernel_rfl) (by kernel_rfl) (by kernel_rfl) (by kernel_rfl) (fun _ _ _ h => h) (by rfl) (by intro w hSw; (try dsimp only at hSw); go_simp <;> with_reducible rfl) (by assumption) ?_
  try simp only [Act.put]
  try simp only [List.setIfInBounds_toArray]
  try simp only [List.set]
  refine wpAnyT_take 5 rfl (by kernel_rfl) (by kernel_rfl) (by kernel_rfl) (by kernel_rfl) (fun _ _ _ h => h) (by rfl) (by intro w hSw; (try dsimp only at hSw); go_simp <;> with_reducible rfl) (by assumption) ?_
  try simp only [Act.put]
  try simp only [List.setIfInBounds_toArray]
  try simp only [List.set]
  refine wpAnyT_one 6 rfl (by kernel_rfl) (fun K hK => ?_)
  go_simp
  refine hK.out _ _ (fun _ => (by have k := two_cells w [.int .i64 n, .int .u32 a, .int .u32 b, .int .u32 c, .int .u32 d, .int .i64 s, .int .i64 e, .int .i64 t, .string x] [.int .u32 a', .int .u32 b', .int .u32 c', .int .u32 d'] 28 26 (.cells #[.int .i64 0, .int .u32 0, .int .u32 0, .int .u32 0, .int .u32 0, .int .i64 0, .int .i64 0, .int .i64 0, .string ⟨#[]⟩] 28); exact ⟨k.2.cell 0 rfl, k.2.cell 1 rfl, k.2.cell 2 rfl, k.2.cell 3 rfl, k.1.cell 7 rfl⟩)) (fun hn => ?_)
  clear hK K hS
  have hS := hn rfl
  clear hn
  try simp only [Act.put]
  try simp only [List.setIfInBounds_toArray]
  try simp only [List.set]
  refine wpAnyT_take 7 rfl (by kernel_rfl) (by kernel_rfl) (by kernel_rfl) (by kernel_rfl) (fun _ _ _ h => h) (by rfl) (by intro w hSw; (try dsimp only at hSw); go_simp <;> with_reducible rfl) (by assumption) ?_
  try simp only [Act.put]
  try simp only [List.setIfInBounds_toArray]
  try simp only [List.set]
  refine wpAnyT_one 8 rfl (by kernel_rfl) (fun K hK => ?_)
  go_simp
  refine hK.out _ _ (fun _ => (by have k := two_cells w [.int .i64 n, .int .u32 a', .int .u32 b', .int .u32 c', .int .u32 d', .int .i64 s, .int .i64 e, .int .i64 t, .string x] [.int .u32 a', .int .u32 b', .int .u32 c', .int .u32 d'] 28 26 (.cells #[.int .i64 0, .int .u32 0, .int .u32 0, .int .u32 0, .int .u32 0, .int .i64 0, .int .i64 0, .int .i64 0, .string ⟨#[]⟩] 28); exact ⟨k.2.cell 0 rfl, k.2.cell 1 rfl, k.2.cell 2 rfl, k.2.cell 3 rfl, k.1.cell 7 rfl⟩)) (fun hn => ?_)
  clear hK K hS
  have hS := hn rfl
  clear hn
  try simp only [Act.put]
  try simp only [List.setIfInBounds_toArray]
  try simp only [List.set]
  refine wpAnyT_take 9 rfl (by kernel_rfl) (by kernel_rfl) (by kernel_rfl) (by kernel_rfl) (fun _ _ _ h => h) (by rfl) (by intro w hSw; (try dsimp only at hSw); go_simp <;> with_reducible rfl) (by assumption) ?_
  try simp only [Act.put]
  try simp only [List.setIfInBounds_toArray]
  try simp only [List.set]
  refine wpAnyT_one 10 rfl (by kernel_rfl) (fun K hK => ?_)
  go_simp
  refine hK.out _ _ (by first | (intro hno; cases hno; done) | exact fun _ => hS) (fun _ => ?_)
  clear hK K
  try simp only [Act.put]
  try simp only [List.setIfInBounds_toArray]
  try simp only [List.set]
  refine wpAnyT_done (by kernel_rfl) ?_ _
  go_wp2_with fail
  refine bodyPost_ret (v := .tuple #[(.agg #[.int .i64 n, .int .u32 a', .int .u32 b', .int .u32 c', .int .u32 d', .int .i64 s, .int .i64 e, .int .i64 k, .string x] : Value), .bool true]) (by simp [results, Try.results8, go_sem]) rfl ⟨rfl, ?_⟩
  exact ((((Below.refl _ _).alloc (Nat.le_refl _) _).alloc (by simp only [World.size_alloc]; omega) _).alloc (by simp only [World.size_alloc]; omega) _).drew
end Go.Proofs.Ytdpcpjloacifpaa
