/- Contracts of package tree, part B: unreached, Get, Put, and the document's own. Contracts of package tree, part C: New, Reached, Root, and the document's own. -/
import Derived.Test.YtjpbglbbeepmnaaTreA
import Derived.Test.YtjpbglbbeepmnaaNodesR
import Derived.Test.YtjpbglbbeepmnaaRNodesR
import Derived.Test.YtjpbglbbeepmnaaNodesA
import Derived.Test.YtjpbglbbeepmnaaRNodesA
import Derived.Test.YtjpbglbbeepmnaaMeas
namespace Go.Proofs.Ytjpbglbbeepmnaa
section
open Go.RowKit Go.Sort TreF
attribute [local go_sem ↓] loadAt_tre storeAt_tre loadAt_ent storeAt_ent

theorem unreached_any : Gives Try.prog 37 #[] (.agg #[.int .u32 4294967295, .int .i64 (-1)]) := fun w => by
  have hs := new_ent (w := w) (d := 4294967295) (p := -1) rfl
  have hv := one_var (Blk.new w [.int .u32 4294967295, .int .i64 (-1)] 24)
  have HB := (Below.refl w.heap.size w).alloc (Nat.le_refl _) (.cells #[.int .u32 4294967295, .int .i64 (-1)] 24)
  go_enter Try.func37, Try.ntmps37
  go_wp2_with fail
  exact bodyPost_ret (v := .agg #[.int .u32 4294967295, .int .i64 (-1)]) (by simp [results, Try.results37, asAddr, hv]) rfl ⟨rfl, HB⟩

theorem tput_new (w : World) (t : Tr) (d : Nat) (p : Int) :
    Blk (((w.alloc (.cells (treC t).toArray 26)).alloc (.cells #[.int .u32 (d : Int), .int .i64 p] 24)).alloc (.cells #[.int .u32 0, .int .i64 0, .int .u32 0, .int .i64 0, .int .u32 0, .int .i64 0, .int .u32 0, .int .i64 0, .int .u32 0, .int .i64 0, .int .u32 0, .int .i64 0, .int .u32 0, .int .i64 0, .int .u32 0, .int .i64 0, .int .u32 0, .int .i64 0, .int .u32 0, .int .i64 0, .int .u32 0, .int .i64 0, .int .u32 0, .int .i64 0, .int .u32 0, .int .i64 0, .int .u32 0, .int .i64 0, .int .u32 0, .int .i64 0, .int .u32 0, .int .i64 0] 26)) w.heap.size (treC t) ∧
    Blk (((w.alloc (.cells (treC t).toArray 26)).alloc (.cells #[.int .u32 (d : Int), .int .i64 p] 24)).alloc (.cells #[.int .u32 0, .int .i64 0, .int .u32 0, .int .i64 0, .int .u32 0, .int .i64 0, .int .u32 0, .int .i64 0, .int .u32 0, .int .i64 0, .int .u32 0, .int .i64 0, .int .u32 0, .int .i64 0, .int .u32 0, .int .i64 0, .int .u32 0, .int .i64 0, .int .u32 0, .int .i64 0, .int .u32 0, .int .i64 0, .int .u32 0, .int .i64 0, .int .u32 0, .int .i64 0, .int .u32 0, .int .i64 0, .int .u32 0, .int .i64 0, .int .u32 0, .int .i64 0] 26)) (w.heap.size + 1) [.int .u32 (d : Int), .int .i64 p] ∧
    Blk (((w.alloc (.cells (treC t).toArray 26)).alloc (.cells #[.int .u32 (d : Int), .int .i64 p] 24)).alloc (.cells #[.int .u32 0, .int .i64 0, .int .u32 0, .int .i64 0, .int .u32 0, .int .i64 0, .int .u32 0, .int .i64 0, .int .u32 0, .int .i64 0, .int .u32 0, .int .i64 0, .int .u32 0, .int .i64 0, .int .u32 0, .int .i64 0, .int .u32 0, .int .i64 0, .int .u32 0, .int .i64 0, .int .u32 0, .int .i64 0, .int .u32 0, .int .i64 0, .int .u32 0, .int .i64 0, .int .u32 0, .int .i64 0, .int .u32 0, .int .i64 0, .int .u32 0, .int .i64 0] 26)) (w.heap.size + 1 + 1) (treC zero16) ∧
    Below w.heap.size w (((w.alloc (.cells (treC t).toArray 26)).alloc (.cells #[.int .u32 (d : Int), .int .i64 p] 24)).alloc (.cells #[.int .u32 0, .int .i64 0, .int .u32 0, .int .i64 0, .int .u32 0, .int .i64 0, .int .u32 0, .int .i64 0, .int .u32 0, .int .i64 0, .int .u32 0, .int .i64 0, .int .u32 0, .int .i64 0, .int .u32 0, .int .i64 0, .int .u32 0, .int .i64 0, .int .u32 0, .int .i64 0, .int .u32 0, .int .i64 0, .int .u32 0, .int .i64 0, .int .u32 0, .int .i64 0, .int .u32 0, .int .i64 0, .int .u32 0, .int .i64 0, .int .u32 0, .int .i64 0] 26)) :=
  ⟨((Blk.new w (treC t) _).next _).next _, (Blk.newAt (by simp only [World.size_alloc]) [.int .u32 (d : Int), .int .i64 p] _).next _, tzero_newAt (by simp only [World.size_alloc]),
    (((Below.refl _ w).alloc (Nat.le_refl _) _).alloc (by simp only [World.size_alloc]; omega) _).alloc (by simp only [World.size_alloc]; omega) _⟩
theorem tget_new (w : World) (t : Tr) :
    Blk ((w.alloc (.cells (treC t).toArray 26)).alloc (.cells #[.int .u32 0, .int .i64 0] 24)) w.heap.size (treC t) ∧
    Blk ((w.alloc (.cells (treC t).toArray 26)).alloc (.cells #[.int .u32 0, .int .i64 0] 24)) (w.heap.size + 1) [.int .u32 0, .int .i64 0] ∧
    Below w.heap.size w ((w.alloc (.cells (treC t).toArray 26)).alloc (.cells #[.int .u32 0, .int .i64 0] 24)) :=
  ⟨(Blk.new w (treC t) _).next _, Blk.newAt (by simp only [World.size_alloc]) _ _, ((Below.refl _ w).alloc (Nat.le_refl _) _).alloc (by simp only [World.size_alloc]; omega) _⟩

theorem tput_in (t : Tr) (j d : Nat) (p : Int) (w : World) (ht : Tre t) (hj : j < 16) (ho : Ok (d, p)) :
    Calls Try.prog 41 #[.agg (treC t).toArray, .int .i64 (j : Int), .agg #[.int .u32 (d : Int), .int .i64 p]] w fun e w' => e = .returned (.agg (treC (t.set j (d, p))).toArray) ∧ Below w.heap.size w w' := by
  have R := Lib.hid (fun w => right_in j w hj)
  have HD := Lib.hid (ht.set j ho)
  have HT := Lib.hid ht
  have hl : Hid (j < t.length) := Lib.hid (by have := ht.1; omega)
  have n0 : (0 : Int) ≤ (j : Int) := by omega
  have n1 : (j : Int) < 16 := by omega
  obtain ⟨s, hs⟩ : ∃ s, t.set j (d, p) = s := ⟨_, rfl⟩
  rw [hs] at HD ⊢
  have HS := Lib.hid hs
  clear ht ho hs
  go_enter Try.func41, Try.ntmps41
  go_upto_region 1 with fail
  obtain ⟨B0, B1, B2, BB⟩ := tput_new w t d p
  obtain ⟨w1, hw1⟩ : ∃ v, (((w.alloc (.cells (treC t).toArray 26)).alloc (.cells #[.int .u32 (d : Int), .int .i64 p] 24)).alloc (.cells #[.int .u32 0, .int .i64 0, .int .u32 0, .int .i64 0, .int .u32 0, .int .i64 0, .int .u32 0, .int .i64 0, .int .u32 0, .int .i64 0, .int .u32 0, .int .i64 0, .int .u32 0, .int .i64 0, .int .u32 0, .int .i64 0, .int .u32 0, .int .i64 0, .int .u32 0, .int .i64 0, .int .u32 0, .int .i64 0, .int .u32 0, .int .i64 0, .int .u32 0, .int .i64 0, .int .u32 0, .int .i64 0, .int .u32 0, .int .i64 0, .int .u32 0, .int .i64 0] 26)) = v := ⟨_, rfl⟩
  rw [hw1] at B0 B1 B2 BB ⊢
  clear hw1
  have K0 := Lib.hid B0
  have K1 := Lib.hid B1
  have K2 := Lib.hid B2
  have KB := Lib.hid BB
  clear B0 B1 B2 BB
  go_wp2_with fail
  refine (R.out _).mono ?_
  rintro e w2 ⟨rfl, rfl⟩
  have l1 := one_load K1.out
  have s0 := ent_store (d := d) (p := p) K0.out hl.out
  have C0 := Lib.hid (ent_put K0.out j d p)
  rw [HS.out] at s0 C0
  have C2 := Lib.hid (K2.out.beside w.heap.size (by omega) (treC s).toArray)
  have CB := Lib.hid (below_setRow KB.out (Nat.le_refl _) (treC s).toArray)
  go_upto_region 3 with fail
  clear l1 s0
  obtain ⟨w3, hw3⟩ : ∃ v, w1.setRow w.heap.size (treC s).toArray = v := ⟨_, rfl⟩
  rw [hw3] at C0 C2 CB ⊢
  clear hw3
  have l3 := tre_load C0.out HD.out
  have s3 := tre_store C2.out Tre.zero HD.out
  have hv := tre_var (C2.out.put (treC s)) HD.out
  have HB := below_setRow CB.out (show w.heap.size ≤ w.heap.size + 1 + 1 by omega) (treC s).toArray
  go_wp2_with fail
  exact bodyPost_ret (v := .agg (treC s).toArray) (by simp [results, Try.results41, asAddr, hv]) rfl ⟨rfl, HB⟩

theorem tput_out (t : Tr) (n : Int) (d : Nat) (p : Int) (w : World) (ht : Tre t) (hn : nodeB n = false) :
    Calls Try.prog 41 #[.agg (treC t).toArray, .int .i64 n, .agg #[.int .u32 (d : Int), .int .i64 p]] w fun e w' => e = .returned (.agg (treC t).toArray) ∧ Below w.heap.size w w' := by
  have R := Lib.hid (fun w => right_out n w (node_out hn))
  have HT := Lib.hid ht
  clear ht hn
  go_enter Try.func41, Try.ntmps41
  go_upto_region 1 with fail
  obtain ⟨B0, _, B2, BB⟩ := tput_new w t d p
  obtain ⟨w1, hw1⟩ : ∃ v, (((w.alloc (.cells (treC t).toArray 26)).alloc (.cells #[.int .u32 (d : Int), .int .i64 p] 24)).alloc (.cells #[.int .u32 0, .int .i64 0, .int .u32 0, .int .i64 0, .int .u32 0, .int .i64 0, .int .u32 0, .int .i64 0, .int .u32 0, .int .i64 0, .int .u32 0, .int .i64 0, .int .u32 0, .int .i64 0, .int .u32 0, .int .i64 0, .int .u32 0, .int .i64 0, .int .u32 0, .int .i64 0, .int .u32 0, .int .i64 0, .int .u32 0, .int .i64 0, .int .u32 0, .int .i64 0, .int .u32 0, .int .i64 0, .int .u32 0, .int .i64 0, .int .u32 0, .int .i64 0] 26)) = v := ⟨_, rfl⟩
  rw [hw1] at B0 B2 BB ⊢
  clear hw1
  have l3 := tre_load B0 HT.out
  have s3 := tre_store B2 Tre.zero HT.out
  have hv := tre_var (B2.put (treC t)) HT.out
  have HB := below_setRow BB (show w.heap.size ≤ w.heap.size + 1 + 1 by omega) (treC t).toArray
  clear B0 B2 BB
  go_wp2_with fail
  refine (R.out _).mono ?_
  rintro e w2 ⟨rfl, rfl⟩
  go_wp2_with fail
  exact bodyPost_ret (v := .agg (treC t).toArray) (by simp [results, Try.results41, asAddr, hv]) rfl ⟨rfl, HB⟩

theorem tput_any (t : Tr) (n : Int) (d : Nat) (p : Int) (ht : Tre t) (ho : Ok (d, p)) :
    Gives Try.prog 41 #[.agg (treC t).toArray, .int .i64 n, .agg #[.int .u32 (d : Int), .int .i64 p]] (.agg (treC (putT t n (d, p))).toArray) := fun w => by
  cases hb : nodeB n with
  | true =>
    obtain ⟨m, rfl, hm⟩ := node_in hb
    rw [put_ok t _ hm]
    exact tput_in t m d p w ht hm ho
  | false =>
    rw [put_no t _ hb]
    exact tput_out t n d p w ht hb




theorem tget_in (t : Tr) (j d : Nat) (p : Int) (w : World) (hj : j < 16) (hx : t[j]? = some (d, p)) :
    Calls Try.prog 18 #[.agg (treC t).toArray, .int .i64 (j : Int)] w fun e w' => e = .returned (.agg #[.int .u32 (d : Int), .int .i64 p]) ∧ Below w.heap.size w w' := by
  have R := Lib.hid (fun w => right_in j w hj)
  have HX := Lib.hid hx
  have n0 : (0 : Int) ≤ (j : Int) := by omega
  have n1 : (j : Int) < 16 := by omega
  clear hx
  go_enter Try.func18, Try.ntmps18
  go_upto_region 1 with fail
  obtain ⟨B0, B1, BB⟩ := tget_new w t
  obtain ⟨w1, hw1⟩ : ∃ v, ((w.alloc (.cells (treC t).toArray 26)).alloc (.cells #[.int .u32 0, .int .i64 0] 24)) = v := ⟨_, rfl⟩
  rw [hw1] at B0 B1 BB ⊢
  clear hw1
  have l0 := ent_load B0 HX.out
  have s1 := one_store (d := d) (p := p) B1
  have hv := one_var (B1.put [.int .u32 (d : Int), .int .i64 p])
  have HB := below_setRow BB (show w.heap.size ≤ w.heap.size + 1 by omega) #[.int .u32 (d : Int), .int .i64 p]
  clear B0 B1 BB
  go_wp2_with fail
  refine (R.out _).mono ?_
  rintro e w2 ⟨rfl, rfl⟩
  go_wp2_with fail
  exact bodyPost_ret (v := .agg #[.int .u32 (d : Int), .int .i64 p]) (by simp [results, Try.results18, asAddr, hv]) rfl ⟨rfl, HB⟩

theorem tget_out (t : Tr) (n : Int) (w : World) (hn : nodeB n = false) :
    Calls Try.prog 18 #[.agg (treC t).toArray, .int .i64 n] w fun e w' => e = .returned (.agg #[.int .u32 4294967295, .int .i64 (-1)]) ∧ Below w.heap.size w w' := by
  have R := Lib.hid (fun w => right_out n w (node_out hn))
  clear hn
  go_enter Try.func18, Try.ntmps18
  go_upto_region 1 with fail
  obtain ⟨_, B1, BB⟩ := tget_new w t
  obtain ⟨w1, hw1⟩ : ∃ v, ((w.alloc (.cells (treC t).toArray 26)).alloc (.cells #[.int .u32 0, .int .i64 0] 24)) = v := ⟨_, rfl⟩
  rw [hw1] at B1 BB ⊢
  clear hw1
  go_wp2_with fail
  refine (R.out _).mono ?_
  rintro e w2 ⟨rfl, rfl⟩
  go_wp2_with fail
  refine (unreached_any _).mono ?_
  rintro e w3 ⟨rfl, hb⟩
  have C1 := B1.on hb
  have s1 := one_store (d := 4294967295) (p := -1) C1
  have hv := one_var (C1.put [.int .u32 4294967295, .int .i64 (-1)])
  have HB := below_setRow (bel_on BB hb) (show w.heap.size ≤ w.heap.size + 1 by omega) #[.int .u32 4294967295, .int .i64 (-1)]
  clear B1 BB C1 hb
  go_wp2_with fail
  exact bodyPost_ret (v := .agg #[.int .u32 4294967295, .int .i64 (-1)]) (by simp [results, Try.results18, asAddr, hv]) rfl ⟨rfl, HB⟩

theorem tget_any (t : Tr) (n : Int) (ht : Tre t) :
    Gives Try.prog 18 #[.agg (treC t).toArray, .int .i64 n] (.agg #[.int .u32 ((getT t n).1 : Int), .int .i64 (getT t n).2]) := fun w => by
  cases hb : nodeB n with
  | true =>
    obtain ⟨m, rfl, hm⟩ := node_in hb
    obtain ⟨⟨d, p⟩, hx, _⟩ := ht.at hm
    rw [get_ok hm hx]
    exact tget_in t m d p w hm hx
  | false =>
    rw [get_no t hb]
    show Calls _ _ _ _ (fun e w' => e = .returned (.agg #[.int .u32 (farN : Int), .int .i64 (-1)]) ∧ Below w.heap.size w w')
    rw [far_int]
    exact tget_out t n w hb

theorem rget_in (t : Tr) (j d : Nat) (p : Int) (w : World) (hj : j < 16) (hx : t[j]? = some (d, p)) :
    Calls Try.prog 32 #[.agg (treC t).toArray, .int .i64 (j : Int)] w fun e w' => e = .returned (.agg #[.int .u32 (d : Int), .int .i64 p]) ∧ Below w.heap.size w w' := by
  have R := Lib.hid (fun w => rright_in j w hj)
  have HX := Lib.hid hx
  have n0 : (0 : Int) ≤ (j : Int) := by omega
  have n1 : (j : Int) < 16 := by omega
  clear hx
  go_enter Try.func32, Try.ntmps32
  go_upto_region 1 with fail
  obtain ⟨B0, B1, BB⟩ := tget_new w t
  obtain ⟨w1, hw1⟩ : ∃ v, ((w.alloc (.cells (treC t).toArray 26)).alloc (.cells #[.int .u32 0, .int .i64 0] 24)) = v := ⟨_, rfl⟩
  rw [hw1] at B0 B1 BB ⊢
  clear hw1
  have l0 := ent_load B0 HX.out
  have s1 := one_store (d := d) (p := p) B1
  have hv := one_var (B1.put [.int .u32 (d : Int), .int .i64 p])
  have HB := below_setRow BB (show w.heap.size ≤ w.heap.size + 1 by omega) #[.int .u32 (d : Int), .int .i64 p]
  clear B0 B1 BB
  go_wp2_with fail
  refine (R.out _).mono ?_
  rintro e w2 ⟨rfl, rfl⟩
  go_wp2_with fail
  exact bodyPost_ret (v := .agg #[.int .u32 (d : Int), .int .i64 p]) (by simp [results, Try.results32, asAddr, hv]) rfl ⟨rfl, HB⟩

theorem rget_out (t : Tr) (n : Int) (w : World) (hn : nodeB n = false) :
    Calls Try.prog 32 #[.agg (treC t).toArray, .int .i64 n] w fun e w' => e = .returned (.agg #[.int .u32 4294967295, .int .i64 (-1)]) ∧ Below w.heap.size w w' := by
  have R := Lib.hid (fun w => rright_out n w (node_out hn))
  clear hn
  go_enter Try.func32, Try.ntmps32
  go_upto_region 1 with fail
  obtain ⟨_, B1, BB⟩ := tget_new w t
  obtain ⟨w1, hw1⟩ : ∃ v, ((w.alloc (.cells (treC t).toArray 26)).alloc (.cells #[.int .u32 0, .int .i64 0] 24)) = v := ⟨_, rfl⟩
  rw [hw1] at B1 BB ⊢
  clear hw1
  go_wp2_with fail
  refine (R.out _).mono ?_
  rintro e w2 ⟨rfl, rfl⟩
  have s1 := one_store (d := 4294967295) (p := -1) B1
  have hv := one_var (B1.put [.int .u32 4294967295, .int .i64 (-1)])
  have HB := below_setRow BB (show w.heap.size ≤ w.heap.size + 1 by omega) #[.int .u32 4294967295, .int .i64 (-1)]
  clear B1 BB
  go_wp2_with fail
  exact bodyPost_ret (v := .agg #[.int .u32 4294967295, .int .i64 (-1)]) (by simp [results, Try.results32, asAddr, hv]) rfl ⟨rfl, HB⟩

theorem rget_any (t : Tr) (n : Int) (ht : Tre t) :
    Gives Try.prog 32 #[.agg (treC t).toArray, .int .i64 n] (.agg #[.int .u32 ((getT t n).1 : Int), .int .i64 (getT t n).2]) := fun w => by
  cases hb : nodeB n with
  | true =>
    obtain ⟨m, rfl, hm⟩ := node_in hb
    obtain ⟨⟨d, p⟩, hx, _⟩ := ht.at hm
    rw [get_ok hm hx]
    exact rget_in t m d p w hm hx
  | false =>
    rw [get_no t hb]
    show Calls _ _ _ _ (fun e w' => e = .returned (.agg #[.int .u32 (farN : Int), .int .i64 (-1)]) ∧ Below w.heap.size w w')
    rw [far_int]
    exact rget_out t n w hb
end
section
open Go.RowKit Go.Sort TreF
attribute [local go_sem ↓] loadAt_tre storeAt_tre loadAt_ent storeAt_ent

/-- The first k entries far, the others empty. -/
def preT (k : Nat) : Tr := List.replicate k farE ++ List.replicate (16 - k) (0, 0)
theorem preT_tre (k : Nat) (hk : k ≤ 16) : Tre (preT k) := by
  refine ⟨by simp [preT]; omega, fun e he => ?_⟩
  rcases List.mem_append.1 he with h | h
  · rw [List.eq_of_mem_replicate h]; exact ok_far
  · rw [List.eq_of_mem_replicate h]; refine ⟨?_, ?_, ?_⟩ <;> decide
theorem preT_set (k : Nat) (hk : k < 16) : (preT k).set k (farN, -1) = preT (k + 1) := by
  unfold preT
  obtain ⟨m, hm⟩ : ∃ m, 16 - k = m + 1 := ⟨15 - k, by omega⟩
  rw [hm, show 16 - (k + 1) = m by omega, List.set_append, if_neg (by simp), List.length_replicate, Nat.sub_self, List.replicate_succ, List.set_cons_zero, List.replicate_succ', List.append_assoc]
  rfl
theorem preT_zero : preT 0 = zero16 := rfl
theorem preT_all : preT 16 = far16 := by simp [preT, far16]
theorem new_two (w : World) :
    Blk ((w.alloc (.cells #[.int .u32 0, .int .i64 0, .int .u32 0, .int .i64 0, .int .u32 0, .int .i64 0, .int .u32 0, .int .i64 0, .int .u32 0, .int .i64 0, .int .u32 0, .int .i64 0, .int .u32 0, .int .i64 0, .int .u32 0, .int .i64 0, .int .u32 0, .int .i64 0, .int .u32 0, .int .i64 0, .int .u32 0, .int .i64 0, .int .u32 0, .int .i64 0, .int .u32 0, .int .i64 0, .int .u32 0, .int .i64 0, .int .u32 0, .int .i64 0, .int .u32 0, .int .i64 0] 26)).alloc (.cells #[.int .u32 0, .int .i64 0, .int .u32 0, .int .i64 0, .int .u32 0, .int .i64 0, .int .u32 0, .int .i64 0, .int .u32 0, .int .i64 0, .int .u32 0, .int .i64 0, .int .u32 0, .int .i64 0, .int .u32 0, .int .i64 0, .int .u32 0, .int .i64 0, .int .u32 0, .int .i64 0, .int .u32 0, .int .i64 0, .int .u32 0, .int .i64 0, .int .u32 0, .int .i64 0, .int .u32 0, .int .i64 0, .int .u32 0, .int .i64 0, .int .u32 0, .int .i64 0] 26)) w.heap.size (treC zero16) ∧
    Blk ((w.alloc (.cells #[.int .u32 0, .int .i64 0, .int .u32 0, .int .i64 0, .int .u32 0, .int .i64 0, .int .u32 0, .int .i64 0, .int .u32 0, .int .i64 0, .int .u32 0, .int .i64 0, .int .u32 0, .int .i64 0, .int .u32 0, .int .i64 0, .int .u32 0, .int .i64 0, .int .u32 0, .int .i64 0, .int .u32 0, .int .i64 0, .int .u32 0, .int .i64 0, .int .u32 0, .int .i64 0, .int .u32 0, .int .i64 0, .int .u32 0, .int .i64 0, .int .u32 0, .int .i64 0] 26)).alloc (.cells #[.int .u32 0, .int .i64 0, .int .u32 0, .int .i64 0, .int .u32 0, .int .i64 0, .int .u32 0, .int .i64 0, .int .u32 0, .int .i64 0, .int .u32 0, .int .i64 0, .int .u32 0, .int .i64 0, .int .u32 0, .int .i64 0, .int .u32 0, .int .i64 0, .int .u32 0, .int .i64 0, .int .u32 0, .int .i64 0, .int .u32 0, .int .i64 0, .int .u32 0, .int .i64 0, .int .u32 0, .int .i64 0, .int .u32 0, .int .i64 0, .int .u32 0, .int .i64 0] 26)) (w.heap.size + 1) (treC (preT 0)) ∧
    Below w.heap.size w ((w.alloc (.cells #[.int .u32 0, .int .i64 0, .int .u32 0, .int .i64 0, .int .u32 0, .int .i64 0, .int .u32 0, .int .i64 0, .int .u32 0, .int .i64 0, .int .u32 0, .int .i64 0, .int .u32 0, .int .i64 0, .int .u32 0, .int .i64 0, .int .u32 0, .int .i64 0, .int .u32 0, .int .i64 0, .int .u32 0, .int .i64 0, .int .u32 0, .int .i64 0, .int .u32 0, .int .i64 0, .int .u32 0, .int .i64 0, .int .u32 0, .int .i64 0, .int .u32 0, .int .i64 0] 26)).alloc (.cells #[.int .u32 0, .int .i64 0, .int .u32 0, .int .i64 0, .int .u32 0, .int .i64 0, .int .u32 0, .int .i64 0, .int .u32 0, .int .i64 0, .int .u32 0, .int .i64 0, .int .u32 0, .int .i64 0, .int .u32 0, .int .i64 0, .int .u32 0, .int .i64 0, .int .u32 0, .int .i64 0, .int .u32 0, .int .i64 0, .int .u32 0, .int .i64 0, .int .u32 0, .int .i64 0, .int .u32 0, .int .i64 0, .int .u32 0, .int .i64 0, .int .u32 0, .int .i64 0] 26)) :=
  ⟨(tzero_new w).next _, tzero_newAt (by simp only [World.size_alloc]), ((Below.refl _ w).alloc (Nat.le_refl _) _).alloc (by simp only [World.size_alloc]; omega) _⟩
theorem tbox_new (w : World) (t : Tr) : Blk (w.alloc (.cells (treC t).toArray 26)) w.heap.size (treC t) ∧ Below w.heap.size w (w.alloc (.cells (treC t).toArray 26)) :=
  ⟨Blk.new w (treC t) _, (Below.refl _ w).alloc (Nat.le_refl _) _⟩

set_option maxRecDepth 100000 in
theorem tnew_any (r : Int) : Gives Try.prog 42 #[.int .i64 r] (.agg (treC (newT r)).toArray) := fun w => by
  have PU : Hid (Gives Try.prog 41 #[.agg (treC far16).toArray, .int .i64 r, .agg #[.int .u32 0, .int .i64 (-1)]] (.agg (treC (newT r)).toArray)) := Lib.hid (tput_any far16 r 0 (-1) Tre.far ok_root)
  have HN := Lib.hid (Tre.new r)
  obtain ⟨s, hs⟩ : ∃ s, newT r = s := ⟨_, rfl⟩
  rw [hs] at PU HN ⊢
  clear hs
  go_enter Try.func42, Try.ntmps42
  go_upto_region 2 with fail
  obtain ⟨B0, B1, BB⟩ := new_two w
  obtain ⟨w1, hw1⟩ : ∃ v, ((w.alloc (.cells #[.int .u32 0, .int .i64 0, .int .u32 0, .int .i64 0, .int .u32 0, .int .i64 0, .int .u32 0, .int .i64 0, .int .u32 0, .int .i64 0, .int .u32 0, .int .i64 0, .int .u32 0, .int .i64 0, .int .u32 0, .int .i64 0, .int .u32 0, .int .i64 0, .int .u32 0, .int .i64 0, .int .u32 0, .int .i64 0, .int .u32 0, .int .i64 0, .int .u32 0, .int .i64 0, .int .u32 0, .int .i64 0, .int .u32 0, .int .i64 0, .int .u32 0, .int .i64 0] 26)).alloc (.cells #[.int .u32 0, .int .i64 0, .int .u32 0, .int .i64 0, .int .u32 0, .int .i64 0, .int .u32 0, .int .i64 0, .int .u32 0, .int .i64 0, .int .u32 0, .int .i64 0, .int .u32 0, .int .i64 0, .int .u32 0, .int .i64 0, .int .u32 0, .int .i64 0, .int .u32 0, .int .i64 0, .int .u32 0, .int .i64 0, .int .u32 0, .int .i64 0, .int .u32 0, .int .i64 0, .int .u32 0, .int .i64 0, .int .u32 0, .int .i64 0, .int .u32 0, .int .i64 0] 26)) = v := ⟨_, rfl⟩
  rw [hw1] at B0 B1 BB ⊢
  clear hw1
  have K0 := Lib.hid B0
  have K1 := Lib.hid B1
  have KB := Lib.hid BB
  clear B0 B1 BB
  go_wp2_with fail
  go_loopw [5] (fun v wr => ∃ k : Nat, v = .int .i64 (k : Int) ∧ k ≤ 16 ∧ Blk wr w.heap.size (treC zero16) ∧ Blk wr (w.heap.size + 1) (treC (preT k)) ∧ Below w.heap.size w wr) (fun v _ => (16 - intOf v).toNat)
  case atStart => exact ⟨0, rfl, Nat.zero_le _, K0.out, K1.out, KB.out⟩
  case round =>
    obtain ⟨k, rfl, hk, k0, k1, kb⟩ := hrel
    have K0 := Lib.hid k0
    have K1 := Lib.hid k1
    have KB := Lib.hid kb
    clear k0 k1 kb
    by_cases hkn : k < 16
    · have hl : k < (preT k).length := by have := (preT_tre k hk).1; omega
      have n0 : (0 : Int) ≤ (k : Int) := by omega
      have n1 : (k : Int) < 16 := by omega
      have HK := Lib.hid hkn
      have HS := Lib.hid (preT_set k hkn)
      have HL := Lib.hid hl
      clear hl hk
      go_wp2_with fail
      refine (unreached_any _).mono ?_
      rintro e wn ⟨rfl, hb⟩
      have s0 := ent_store (d := farN) (p := -1) (K1.out.on hb) HL.out
      rw [HS.out, far_int] at s0
      have C1 := Lib.hid (ent_put (K1.out.on hb) k farN (-1))
      rw [HS.out] at C1
      have C0 := Lib.hid ((K0.out.on hb).beside (w.heap.size + 1) (by omega) (treC (preT (k + 1))).toArray)
      have CB := Lib.hid (below_setRow (bel_on KB.out hb) (show w.heap.size ≤ w.heap.size + 1 by omega) (treC (preT (k + 1))).toArray)
      clear hb K0 K1 KB
      go_upto_region 6 with fail
      clear s0
      obtain ⟨w3, hw3⟩ : ∃ v, wn.setRow (w.heap.size + 1) (treC (preT (k + 1))).toArray = v := ⟨_, rfl⟩
      rw [hw3] at C0 C1 CB ⊢
      clear hw3 hkn
      go_wp2_with fail
      go_roundw
      case rel => exact ⟨k + 1, by go_num, HK.out, C0.out, C1.out, CB.out⟩
      case measure => exact meas_up 16 k _ rfl HK.out
    · obtain rfl : k = 16 := by omega
      rw [preT_all] at K1
      clear hk hkn
      have l1 := tre_load K1.out Tre.far
      go_wp2_with fail
      refine (PU.out _).mono ?_
      rintro e wn ⟨rfl, hb⟩
      clear l1
      have C0 := K0.out.on hb
      have s0 := tre_store C0 Tre.zero HN.out
      have hv := tre_var (C0.put (treC s)) HN.out
      have HB := below_setRow (bel_on KB.out hb) (Nat.le_refl _) (treC s).toArray
      clear C0 hb
      go_wp2_with fail
      exact bodyPost_ret (v := .agg (treC s).toArray) (by simp [results, Try.results42, asAddr, hv]) rfl ⟨rfl, HB⟩


end
end Go.Proofs.Ytjpbglbbeepmnaa
