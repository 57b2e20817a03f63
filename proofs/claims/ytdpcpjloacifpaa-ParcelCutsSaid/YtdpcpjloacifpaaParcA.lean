/- Contracts of package parcel, part A: node, fitted, Right. -/
import Derived.Test.YtdpcpjloacifpaaParcF
import Derived.Test.YtdpcpjloacifpaaQuiet
import Derived.Test.YtdpcpjloacifpaaTail
import Derived.Lib.MinMax
import Derived.Laws.StructEq
namespace Go.Proofs.Ytdpcpjloacifpaa
open Go.RowKit Go.Sort

theorem node_any (n : Int) (w : World) : Calls Try.prog 27 #[.int .i64 n] w fun e w' => e = .returned (.int .i64 (fitN n)) ∧ w = w' := by
  cases h : nodeF n with
  | true =>
    obtain ⟨h0, h1⟩ := nodeF_in h
    have HV := Lib.hid (fitN_in h)
    obtain ⟨m, rfl⟩ := Int.eq_ofNat_of_zero_le h0
    have R := Lib.hid (fun w => right_in m w (by omega))
    clear h h0 h1
    go_enter Try.func27, Try.ntmps27
    go_wp2_with fail
    refine (R.out _).mono ?_
    rintro e w1 ⟨rfl, rfl⟩
    go_wp2_with fail
    go_ret
    exact ⟨by rw [HV.out]; rfl, rfl⟩
  | false =>
    have HV := Lib.hid (fitN_out h)
    have R := Lib.hid (fun w => right_out n w (nodeF_out h))
    clear h
    go_enter Try.func27, Try.ntmps27
    go_wp2_with fail
    refine (R.out _).mono ?_
    rintro e w1 ⟨rfl, rfl⟩
    go_wp2_with fail
    go_ret
    exact ⟨by rw [HV.out]; rfl, rfl⟩

/-- Whether two parcels are the same. -/
def sameP (f a b c d s e t : Int) (x : ByteArray) (f' a' b' c' d' s' e' t' : Int) (x' : ByteArray) : Bool :=
  (f == f') && ((a == a' && b == b') && (c == c' && d == d')) && (s == s') && (e == e') && (t == t') && (x.toList == x'.toList)
theorem run_parcel_eq (f a b c d s e t : Int) (x : ByteArray) (f' a' b' c' d' s' e' t' : Int) (x' : ByteArray) (w : World) :
    (binOp .eql 28 (.agg #[.int .i64 f, .int .u32 a, .int .u32 b, .int .u32 c, .int .u32 d, .int .i64 s, .int .i64 e, .int .i64 t, .string x] : Value) (.agg #[.int .i64 f', .int .u32 a', .int .u32 b', .int .u32 c', .int .u32 d', .int .i64 s', .int .i64 e', .int .i64 t', .string x'] : Value)).run Try.prog w = .ok (.bool (sameP f a b c d s e t x f' a' b' c' d' s' e' t' x')) w := by
  unfold sameP
  rw [run_eql_struct, run_equalIn_agg _ _ _ _ _ (by kernel_rfl) (by kernel_rfl)]
  generalize hx : (x.toList == x'.toList) = q
  simp [go_sem, Try.underlying28, Try.underlying26, Try.underlying24, hx]
  by_cases g0 : f = f'
  case neg => simp [g0]
  by_cases g1 : a = a'
  case neg => simp [g1]
  by_cases g2 : b = b'
  case neg => simp [g2]
  by_cases g3 : c = c'
  case neg => simp [g3]
  by_cases g4 : d = d'
  case neg => simp [g4]
  by_cases g5 : s = s'
  case neg => simp [g5]
  by_cases g6 : e = e'
  case neg => simp [g6]
  by_cases g7 : t = t'
  case neg => simp [g7]
  cases q <;> simp [g0, g1, g2, g3, g4, g5, g6, g7]
theorem run_parcel_ne (f a b c d s e t : Int) (x : ByteArray) (f' a' b' c' d' s' e' t' : Int) (x' : ByteArray) (w : World) :
    (binOp .neq 28 (.agg #[.int .i64 f, .int .u32 a, .int .u32 b, .int .u32 c, .int .u32 d, .int .i64 s, .int .i64 e, .int .i64 t, .string x] : Value) (.agg #[.int .i64 f', .int .u32 a', .int .u32 b', .int .u32 c', .int .u32 d', .int .i64 s', .int .i64 e', .int .i64 t', .string x'] : Value)).run Try.prog w = .ok (.bool (!(sameP f a b c d s e t x f' a' b' c' d' s' e' t' x'))) w := by
  have h := run_parcel_eq f a b c d s e t x f' a' b' c' d' s' e' t' x' w
  rw [run_eql_struct] at h
  rw [run_neq_struct]
  revert h
  generalize (Op.equalIn 10000 28 (.agg #[.int .i64 f, .int .u32 a, .int .u32 b, .int .u32 c, .int .u32 d, .int .i64 s, .int .i64 e, .int .i64 t, .string x] : Value) (.agg #[.int .i64 f', .int .u32 a', .int .u32 b', .int .u32 c', .int .u32 d', .int .i64 s', .int .i64 e', .int .i64 t', .string x'] : Value)).run Try.prog w = r
  intro h
  cases r with
  | ok q w1 => simp [Result.andThen] at h ⊢; obtain ⟨h1, h2⟩ := h; simp [h1, h2]
  | halt q w1 => simp [Result.andThen] at h
theorem sameP_refl (f a b c d s e t : Int) (x : ByteArray) : sameP f a b c d s e t x f a b c d s e t x = true := by simp [sameP]
theorem sameP_fit (f a b c d s e t : Int) (x : ByteArray) : sameP f a b c d s e t x (fitN f) a b c d (fitN s) (fitN e) (fitT t) (x.extract 0 (min x.size 64)) = rightP f s e t x.size := by
  unfold sameP rightP
  rw [fitN_eq, fitN_eq, fitN_eq, fitT_eq, fitB_eq]
  simp

set_option maxHeartbeats 2000000 in
theorem fitted_any (f a b c d s e t : Int) (x : ByteArray) (hx : x.size ≤ maxLen) :
    Gives Try.prog 22 #[(.agg #[.int .i64 f, .int .u32 a, .int .u32 b, .int .u32 c, .int .u32 d, .int .i64 s, .int .i64 e, .int .i64 t, .string x] : Value)] (.agg #[.int .i64 (fitN f), .int .u32 a, .int .u32 b, .int .u32 c, .int .u32 d, .int .i64 (fitN s), .int .i64 (fitN e), .int .i64 (fitT t), .string (x.extract 0 (min x.size 64))] : Value) := by
  intro w
  unfold maxLen at hx
  have N1 := Lib.hid (fun w => node_any f w)
  have N2 := Lib.hid (fun w => node_any s w)
  have N3 := Lib.hid (fun w => node_any e w)
  have HT : Hid (fitT t = min (max t 1) 64) := Lib.hid rfl
  generalize fitN f = f' at *
  generalize fitN s = s' at *
  generalize fitN e = e' at *
  generalize fitT t = t' at *
  have ht : min (max t 1) 64 = t' := HT.out.symm
  obtain ⟨z, hz⟩ : ∃ z, x.size = z := ⟨_, rfl⟩
  obtain ⟨k, hk⟩ : ∃ k : Nat, min z 64 = k := ⟨_, rfl⟩
  have hk' : min (z : Int) 64 = (k : Int) := by omega
  have hkz : (k : Int) ≤ (z : Int) := by omega
  rw [hz, hk]
  clear HT hk
  go_enter Try.func22, Try.ntmps22
  go_upto_region 1 with fail
  refine wp_region_tail (fun w' => w'.cell? ⟨w.heap.size, 0, none⟩ = some (.int .i64 f) ∧ w'.cell? ⟨w.heap.size, 5, none⟩ = some (.int .i64 s) ∧ w'.cell? ⟨w.heap.size, 6, none⟩ = some (.int .i64 e)) (fun j => decide (9 < j)) (by kernel_rfl) (by simp) (fun hS => ?_)
  refine wpAnyT_take 0 rfl (by kernel_rfl) (by kernel_rfl) (by kernel_rfl) (by kernel_rfl) (fun _ _ _ h => h) (by rfl) (by intro w hSw; (try dsimp only at hSw); go_simp <;> with_reducible rfl) (by assumption) ?_
  try simp only [Act.put]
  try simp only [List.setIfInBounds_toArray]
  try simp only [List.set]
  refine wpAnyT_take 1 rfl (by kernel_rfl) (by kernel_rfl) (by kernel_rfl) (by kernel_rfl) (fun _ _ _ h => h) (by rfl) (by intro w hSw; (try dsimp only at hSw); go_simp <;> with_reducible rfl) (by assumption) ?_
  try simp only [Act.put]
  try simp only [List.setIfInBounds_toArray]
  try simp only [List.set]
  refine wpAnyT_take 3 rfl (by kernel_rfl) (by kernel_rfl) (by kernel_rfl) (by kernel_rfl) (fun _ _ _ h => h) (by rfl) (by intro w hSw; (try dsimp only at hSw); go_simp <;> with_reducible rfl) (by assumption) ?_
  try simp only [Act.put]
  try simp only [List.setIfInBounds_toArray]
  try simp only [List.set]
  refine wpAnyT_take 4 rfl (by kernel_rfl) (by kernel_rfl) (by kernel_rfl) (by kernel_rfl) (fun _ _ _ h => h) (by rfl) (by intro w hSw; (try dsimp only at hSw); go_simp <;> with_reducible rfl) (by assumption) ?_
  try simp only [Act.put]
  try simp only [List.setIfInBounds_toArray]
  try simp only [List.set]
  refine wpAnyT_take 6 rfl (by kernel_rfl) (by kernel_rfl) (by kernel_rfl) (by kernel_rfl) (fun _ _ _ h => h) (by rfl) (by intro w hSw; (try dsimp only at hSw); go_simp <;> with_reducible rfl) (by assumption) ?_
  try simp only [Act.put]
  try simp only [List.setIfInBounds_toArray]
  try simp only [List.set]
  refine wpAnyT_take 7 rfl (by kernel_rfl) (by kernel_rfl) (by kernel_rfl) (by kernel_rfl) (fun _ _ _ h => h) (by rfl) (by intro w hSw; (try dsimp only at hSw); go_simp <;> with_reducible rfl) (by assumption) ?_
  try simp only [Act.put]
  try simp only [List.setIfInBounds_toArray]
  try simp only [List.set]
  refine wpAnyT_one 2 rfl (by kernel_rfl) (fun K hK => ?_)
  go_simp
  refine (N1.out _).mono ?_
  rintro e w1 ⟨rfl, rfl⟩
  go_simp
  refine hK.out _ _ (by first | (intro hno; cases hno; done) | exact fun _ => hS) (fun _ => ?_)
  clear hK K
  try simp only [Act.put]
  try simp only [List.setIfInBounds_toArray]
  try simp only [List.set]
  refine wpAnyT_take 9 rfl (by kernel_rfl) (by kernel_rfl) (by kernel_rfl) (by kernel_rfl) (fun _ _ _ h => h) (by rfl) (by intro w hSw; (try dsimp only at hSw); go_simp <;> with_reducible rfl) (by assumption) ?_
  try simp only [Act.put]
  try simp only [List.setIfInBounds_toArray]
  try simp only [List.set]
  refine wpAnyT_one 5 rfl (by kernel_rfl) (fun K hK => ?_)
  go_simp
  refine (N2.out _).mono ?_
  rintro e w1 ⟨rfl, rfl⟩
  go_simp
  refine hK.out _ _ (by first | (intro hno; cases hno; done) | exact fun _ => hS) (fun _ => ?_)
  clear hK K
  try simp only [Act.put]
  try simp only [List.setIfInBounds_toArray]
  try simp only [List.set]
  refine wpAnyT_one 8 rfl (by kernel_rfl) (fun K hK => ?_)
  go_simp
  refine (N3.out _).mono ?_
  rintro e w1 ⟨rfl, rfl⟩
  go_simp
  refine hK.out _ _ (by first | (intro hno; cases hno; done) | exact fun _ => hS) (fun _ => ?_)
  clear hK K
  try simp only [Act.put]
  try simp only [List.setIfInBounds_toArray]
  try simp only [List.set]
  refine wpAnyT_one 10 rfl (by kernel_rfl) (fun K hK => ?_)
  go_simp
  refine hK.out _ _ (by first | (intro hno; cases hno; done) | exact fun _ => hS) (fun _ => ?_)
  clear hK K
  try simp only [Act.put]
  try simp only [List.setIfInBounds_toArray]
  try simp only [List.set]
  refine wpAnyT_one 11 rfl (by kernel_rfl) (fun K hK => ?_)
  go_simp
  refine hK.out _ _ (by first | (intro hno; cases hno; done) | exact fun _ => hS) (fun _ => ?_)
  clear hK K
  try simp only [Act.put]
  try simp only [List.setIfInBounds_toArray]
  try simp only [List.set]
  refine wpAnyT_one 12 rfl (by kernel_rfl) (fun K hK => ?_)
  go_simp
  refine hK.out _ _ (by first | (intro hno; cases hno; done) | exact fun _ => hS) (fun _ => ?_)
  clear hK K
  try simp only [Act.put]
  try simp only [List.setIfInBounds_toArray]
  try simp only [List.set]
  refine wpAnyT_one 13 rfl (by kernel_rfl) (fun K hK => ?_)
  go_simp
  refine hK.out _ _ (by first | (intro hno; cases hno; done) | exact fun _ => hS) (fun _ => ?_)
  clear hK K
  try simp only [Act.put]
  try simp only [List.setIfInBounds_toArray]
  try simp only [List.set]
  refine wpAnyT_one 14 rfl (by kernel_rfl) (fun K hK => ?_)
  go_simp
  refine hK.out _ _ (by first | (intro hno; cases hno; done) | exact fun _ => hS) (fun _ => ?_)
  clear hK K
  try simp only [Act.put]
  try simp only [List.setIfInBounds_toArray]
  try simp only [List.set]
  refine wpAnyT_done (by kernel_rfl) ?_ _
  go_wp2_with fail
  refine bodyPost_ret (v := (.agg #[.int .i64 f', .int .u32 a, .int .u32 b, .int .u32 c, .int .u32 d, .int .i64 s', .int .i64 e', .int .i64 t', .string (x.extract 0 k)] : Value)) (by simp [results, Try.results22, go_sem]) rfl ⟨rfl, ?_⟩
  exact (((Below.refl _ _).alloc (Nat.le_refl _) _).alloc (by simp) _).drew

theorem pright_any (f a b c d s e t : Int) (x : ByteArray) (hx : x.size ≤ maxLen) :
    Gives Try.prog 14 #[(.agg #[.int .i64 f, .int .u32 a, .int .u32 b, .int .u32 c, .int .u32 d, .int .i64 s, .int .i64 e, .int .i64 t, .string x] : Value)] (.bool (rightP f s e t x.size)) := by
  intro w
  have FT := Lib.hid (fitted_any f a b c d s e t x hx)
  have HV := Lib.hid (sameP_fit f a b c d s e t x)
  generalize rightP f s e t x.size = r at *
  generalize fitN f = f' at *
  generalize fitN s = s' at *
  generalize fitN e = e' at *
  generalize fitT t = t' at *
  generalize x.extract 0 (min x.size 64) = x' at *
  have EQ : ∀ w, (binOp .eql 28 (.agg #[.int .i64 f, .int .u32 a, .int .u32 b, .int .u32 c, .int .u32 d, .int .i64 s, .int .i64 e, .int .i64 t, .string x] : Value) (.agg #[.int .i64 f', .int .u32 a, .int .u32 b, .int .u32 c, .int .u32 d, .int .i64 s', .int .i64 e', .int .i64 t', .string x'] : Value)).run Try.prog w = .ok (.bool r) w := fun w => by
    rw [← HV.out]; exact run_parcel_eq _ _ _ _ _ _ _ _ _ _ _ _ _ _ _ _ _ _ w
  clear HV hx
  go_enter Try.func14, Try.ntmps14
  have h := Lib.hid (Below.refl w.heap.size w)
  go_upto_region 1 with fail
  have k0 := Blk.new w [.int .i64 f, .int .u32 a, .int .u32 b, .int .u32 c, .int .u32 d, .int .i64 s, .int .i64 e, .int .i64 t, .string x] 28
  have c0 := cell_regrown (k0.cell 0 rfl)
  have c1 := cell_regrown (k0.cell 1 rfl)
  have c2 := cell_regrown (k0.cell 2 rfl)
  have c3 := cell_regrown (k0.cell 3 rfl)
  have c4 := cell_regrown (k0.cell 4 rfl)
  have c5 := cell_regrown (k0.cell 5 rfl)
  have c6 := cell_regrown (k0.cell 6 rfl)
  have c7 := cell_regrown (k0.cell 7 rfl)
  have c8 := cell_regrown (k0.cell 8 rfl)
  clear k0
  refine wp_region_quiet_below (by kernel_rfl) (by kernel_rfl) ?_
  repeat (first | go_big_quiet_step (first | with_reducible exact FT.out.at _ _ _) | quiet_step (first | with_reducible exact FT.out.at _ _ _))
  refine wpQuiet_nil ?_
  intro _ hw'
  obtain ⟨⟨dq, osq⟩, hw''⟩ := hw'
  subst hw''
  go_wp2
  go_ret
  exact ⟨rfl, bel_on (h.out.alloc h.out.size _) (below_regrown _ dq osq)⟩
end Go.Proofs.Ytdpcpjloacifpaa
