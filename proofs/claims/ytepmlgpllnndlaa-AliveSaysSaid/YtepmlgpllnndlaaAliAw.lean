/- Contracts of law 21: its own example (awake). -/
import Derived.Test.YtepmlgpllnndlaaAliD
namespace Go.Proofs.Ytepmlgpllnndlaa
open Go.RowKit Go.Sort
attribute [local go_sem ↓] loadAt_prt storeAt_prt loadAt_rul storeAt_rul

/-- A new end, and what is put into it at once. -/
theorem prt_new {w : World} {b : Nat} {st q t : Int} {x : Ends} (hb : w.heap.size = b) :
    (wholeStore 33 (.pointer (some ⟨b, 0, none⟩)) (.agg (prt st q t x).toArray)).run Try.prog (w.alloc (.cells #[.int .i64 0, .int .u32 0, .int .u32 0, .int .u32 0, .int .u32 0, .int .i64 0, .int .i64 0, .int .i64 0, .slice none 0 0, .int .i64 0, .slice none 0 0, .slice none 0 0] 33)) = .ok () (w.alloc (.cells (prt st q t x).toArray 33)) := by
  subst hb
  have h := prt_store (st' := st) (q' := q) (t' := t) (x' := x) (Blk.new w (prt 0 0 0 ends0) 33)
  rw [World.setRow_alloc_new] at h
  exact h

set_option maxHeartbeats 2000000 in
set_option maxRecDepth 100000 in
theorem aawake_any : Gives Try.prog 6 #[] (.bool true) := by
  intro w
  have RU : Hid (Gives Try.prog 14 #[] (.agg (rul 2 5 2 3).toArray)) := Lib.hid (rules_any)
  have TA : Hid (Gives Try.prog 7 #[.agg (prt 2 3 0 ends0).toArray, .agg (rul 2 5 2 3).toArray] (.tuple #[.agg (prt 2 4 2 ends0).toArray, .bool true, .bool false])) := Lib.hid (tick_any 2 3 0 ends0 2 5 2 3 (by decide) (by decide) (by decide))
  have TB : Hid (Gives Try.prog 7 #[.agg (prt 2 4 2 ends0).toArray, .agg (rul 2 5 2 3).toArray] (.tuple #[.agg (prt 2 5 1 ends0).toArray, .bool false, .bool true])) := Lib.hid (tick_any 2 4 2 ends0 2 5 2 3 (by decide) (by decide) (by decide))
  have TC : Hid (Gives Try.prog 7 #[.agg #[.int .i64 0, .int .u32 0, .int .u32 0, .int .u32 0, .int .u32 0, .int .i64 0, .int .i64 0, .int .i64 0, .slice none 0 0, .int .i64 0, .slice none 0 0, .slice none 0 0], .agg (rul 2 5 2 3).toArray] (.tuple #[.agg (prt 0 0 0 ends0).toArray, .bool false, .bool false])) := Lib.hid (tick_any 0 0 0 ends0 2 5 2 3 (by decide) (by decide) (by decide))
  have HE : Hid (Gives Try.prog 12 #[.agg (prt 2 5 1 ends0).toArray] (.agg #[.int .i64 2, .int .u32 0, .int .u32 0, .int .u32 0, .int .u32 0, .int .i64 0, .int .i64 1, .int .i64 0, .slice none 0 0, .int .i64 0, .slice none 0 0, .slice none 0 0])) := Lib.hid (heard_any 2 5 1 ends0)
  have DP : Hid (Gives Try.prog 10 #[.agg (prt 2 3 0 ends0).toArray] (.bool true)) := Lib.hid (due_any 2 3 0 ends0)
  have DA : Hid (Gives Try.prog 10 #[.agg (prt 2 4 2 ends0).toArray] (.bool false)) := Lib.hid (due_any 2 4 2 ends0)
  have DZ : Hid (Gives Try.prog 10 #[.agg #[.int .i64 0, .int .u32 0, .int .u32 0, .int .u32 0, .int .u32 0, .int .i64 0, .int .i64 0, .int .i64 0, .slice none 0 0, .int .i64 0, .slice none 0 0, .slice none 0 0]] (.bool false)) := Lib.hid (due_any 0 0 0 ends0)
  go_enter Try.func6, Try.ntmps6
  have hst : (wholeStore 33 (.pointer (some ⟨w.heap.size, 0, none⟩)) (.agg #[.int .i64 2, .int .u32 0, .int .u32 0, .int .u32 0, .int .u32 0, .int .i64 3, .int .i64 0, .int .i64 0, .slice none 0 0, .int .i64 0, .slice none 0 0, .slice none 0 0])).run Try.prog (w.alloc (.cells #[.int .i64 0, .int .u32 0, .int .u32 0, .int .u32 0, .int .u32 0, .int .i64 0, .int .i64 0, .int .i64 0, .slice none 0 0, .int .i64 0, .slice none 0 0, .slice none 0 0] 33)) = .ok () (w.alloc (.cells #[.int .i64 2, .int .u32 0, .int .u32 0, .int .u32 0, .int .u32 0, .int .i64 3, .int .i64 0, .int .i64 0, .slice none 0 0, .int .i64 0, .slice none 0 0, .slice none 0 0] 33)) := prt_new (st := 2) (q := 3) (t := 0) (x := ends0) rfl
  go_upto_region 2 with fail
  clear hst
  have F1 : Hid (Blk (w.alloc (.cells #[.int .i64 2, .int .u32 0, .int .u32 0, .int .u32 0, .int .u32 0, .int .i64 3, .int .i64 0, .int .i64 0, .slice none 0 0, .int .i64 0, .slice none 0 0, .slice none 0 0] 33)) w.heap.size (prt 2 3 0 ends0)) := Lib.hid (Blk.new w (prt 2 3 0 ends0) 33)
  have BB : Hid (Below w.heap.size w (w.alloc (.cells #[.int .i64 2, .int .u32 0, .int .u32 0, .int .u32 0, .int .u32 0, .int .i64 3, .int .i64 0, .int .i64 0, .slice none 0 0, .int .i64 0, .slice none 0 0, .slice none 0 0] 33))) := Lib.hid ((Below.refl _ w).alloc (Nat.le_refl _) _)
  obtain ⟨w1, hw1⟩ : ∃ v, w.alloc (.cells #[.int .i64 2, .int .u32 0, .int .u32 0, .int .u32 0, .int .u32 0, .int .i64 3, .int .i64 0, .int .i64 0, .slice none 0 0, .int .i64 0, .slice none 0 0, .slice none 0 0] 33) = v := ⟨_, rfl⟩
  rw [hw1] at F1 BB ⊢
  clear hw1
  obtain ⟨b1, hb1⟩ : ∃ b, w.heap.size = b := ⟨_, rfl⟩
  rw [hb1] at F1 ⊢
  clear hb1
  go_cut [2, 3, 4] (fun s2 s3 s4 wx => ∃ nb : Nat, s2 = .pointer (some ⟨nb, 0, none⟩) ∧ s3 = .bool true ∧ s4 = .bool false ∧ Blk wx nb (prt 2 4 2 ends0) ∧ Blk wx b1 (prt 2 3 0 ends0) ∧ Below w.heap.size w wx)
  case first =>
    refine wp_region_tail (fun w' => Blk w' b1 (prt 2 3 0 ends0)) (fun _ => false) (by kernel_rfl) (by first | exact F1.out.drew) (fun hS => ?_)
    clear hS
    have F1 := Lib.hid F1.out.drew
    have BB := Lib.hid BB.out.drew
    obtain ⟨v1, hv⟩ : ∃ v, w1.drew = v := ⟨_, rfl⟩
    rw [hv] at F1 BB ⊢
    clear hv
    refine wpAnyT_take 0 rfl (by kernel_rfl) (by kernel_rfl) (by kernel_rfl) (by kernel_rfl) (fun _ _ _ h => h) (by rfl) (by intro w hSw; (have hl := prt_load hSw); clear hSw; go_simp <;> with_reducible rfl) (by exact F1.out) ?_
    try simp only [Act.put]
    try simp only [List.setIfInBounds_toArray]
    try simp only [List.set]
    refine wpAnyT_two 1 7 rfl rfl (by kernel_rfl) (fun K hK => ?_) (fun K hK => ?_)
    · go_simp
      refine (RU.out _).mono ?_
      rintro e v2 ⟨rfl, hb⟩
      go_simp
      have F1 := Lib.hid (F1.out.on hb)
      have BB := Lib.hid (bel_on BB.out hb)
      clear hb
      refine hK.out _ _ (fun _ => F1.out) (fun _ => ?_)
      clear hK K
      try simp only [Act.put]
      try simp only [List.setIfInBounds_toArray]
      try simp only [List.set]
      refine wpAnyT_two 2 7 rfl rfl (by kernel_rfl) (fun K hK => ?_) (fun K hK => ?_)
      · go_simp
        refine (TA.out _).mono ?_
        rintro e v3 ⟨rfl, hb⟩
        go_simp
        have F1 := Lib.hid (F1.out.on hb)
        have BB := Lib.hid (bel_on BB.out hb)
        clear hb
        refine hK.out _ _ (fun _ => F1.out) (fun _ => ?_)
        clear hK K
        try simp only [Act.put]
        try simp only [List.setIfInBounds_toArray]
        try simp only [List.set]
        refine wpAnyT_take 3 rfl (by kernel_rfl) (by kernel_rfl) (by kernel_rfl) (by kernel_rfl) (fun _ _ _ h => h) (by rfl) (by intro w hSw; clear hSw; go_simp <;> with_reducible rfl) (by exact F1.out) ?_
        try simp only [Act.put]
        try simp only [List.setIfInBounds_toArray]
        try simp only [List.set]
        refine wpAnyT_take 4 rfl (by kernel_rfl) (by kernel_rfl) (by kernel_rfl) (by kernel_rfl) (fun _ _ _ h => h) (by rfl) (by intro w hSw; clear hSw; go_simp <;> with_reducible rfl) (by exact F1.out) ?_
        try simp only [Act.put]
        try simp only [List.setIfInBounds_toArray]
        try simp only [List.set]
        refine wpAnyT_take 5 rfl (by kernel_rfl) (by kernel_rfl) (by kernel_rfl) (by kernel_rfl) (fun _ _ _ h => h) (by rfl) (by intro w hSw; clear hSw; go_simp <;> with_reducible rfl) (by exact F1.out) ?_
        try simp only [Act.put]
        try simp only [List.setIfInBounds_toArray]
        try simp only [List.set]
        refine wpAnyT_take 6 rfl (by kernel_rfl) (by kernel_rfl) (by kernel_rfl) (by kernel_rfl) (fun _ _ _ h => h) (by rfl) (by intro w hSw; clear hSw; go_simp <;> with_reducible rfl) (by exact F1.out) ?_
        try simp only [Act.put]
        try simp only [List.setIfInBounds_toArray]
        try simp only [List.set]
        refine wpAnyT_one 7 rfl (by kernel_rfl) (fun K hK => ?_)
        go_simp
        have NB : Hid (Blk (v3.alloc (.cells #[.int .i64 0, .int .u32 0, .int .u32 0, .int .u32 0, .int .u32 0, .int .i64 0, .int .i64 0, .int .i64 0, .slice none 0 0, .int .i64 0, .slice none 0 0, .slice none 0 0] 33)) v3.heap.size (prt 0 0 0 ends0)) := Lib.hid (Blk.new v3 (prt 0 0 0 ends0) 33)
        have hF1_0 := F1.out.lt
        have hroot := BB.out.size
        have F1 := Lib.hid (F1.out.next (.cells #[.int .i64 0, .int .u32 0, .int .u32 0, .int .u32 0, .int .u32 0, .int .i64 0, .int .i64 0, .int .i64 0, .slice none 0 0, .int .i64 0, .slice none 0 0, .slice none 0 0] 33))
        have BB := Lib.hid (BB.out.alloc BB.out.size (.cells #[.int .i64 0, .int .u32 0, .int .u32 0, .int .u32 0, .int .u32 0, .int .i64 0, .int .i64 0, .int .i64 0, .slice none 0 0, .int .i64 0, .slice none 0 0, .slice none 0 0] 33))
        obtain ⟨v4, hv⟩ : ∃ v, v3.alloc (.cells #[.int .i64 0, .int .u32 0, .int .u32 0, .int .u32 0, .int .u32 0, .int .i64 0, .int .i64 0, .int .i64 0, .slice none 0 0, .int .i64 0, .slice none 0 0, .slice none 0 0] 33) = v := ⟨_, rfl⟩
        rw [hv] at F1 BB NB ⊢
        clear hv
        obtain ⟨nb, hb⟩ : ∃ b, v3.heap.size = b := ⟨_, rfl⟩
        rw [hb] at NB hF1_0 hroot ⊢
        clear hb
        refine hK.out _ _ (fun _ => F1.out) (fun _ => ?_)
        clear hK K
        try simp only [Act.put]
        try simp only [List.setIfInBounds_toArray]
        try simp only [List.set]
        refine wpAnyT_one 8 rfl (by kernel_rfl) (fun K hK => ?_)
        have hs := prt_store (st' := 2) (q' := 4) (t' := 2) (x' := ends0) NB.out
        go_simp
        clear hs
        have F1 := Lib.hid (F1.out.beside nb (by omega) (prt 2 4 2 ends0).toArray)
        have NB := Lib.hid (NB.out.put (prt 2 4 2 ends0))
        have BB := Lib.hid (below_setRow BB.out hroot (prt 2 4 2 ends0).toArray)
        obtain ⟨v5, hv⟩ : ∃ v, v4.setRow nb (prt 2 4 2 ends0).toArray = v := ⟨_, rfl⟩
        rw [hv] at F1 NB BB ⊢
        clear hv
        refine hK.out _ _ (fun _ => F1.out) (fun _ => ?_)
        clear hK K
        try simp only [Act.put]
        try simp only [List.setIfInBounds_toArray]
        try simp only [List.set]
        refine wpAnyT_one 9 rfl (by kernel_rfl) (fun K hK => ?_)
        go_simp
        refine hK.out _ _ (fun _ => F1.out) (fun _ => ?_)
        clear hK K
        try simp only [Act.put]
        try simp only [List.setIfInBounds_toArray]
        try simp only [List.set]
        refine wpAnyT_one 10 rfl (by kernel_rfl) (fun K hK => ?_)
        go_simp
        refine hK.out _ _ (fun _ => F1.out) (fun _ => ?_)
        clear hK K
        try simp only [Act.put]
        try simp only [List.setIfInBounds_toArray]
        try simp only [List.set]
        refine wpAnyT_done (by kernel_rfl) ?_ _
        go_wp2_with fail
        go_meet
        exact ⟨nb, rfl, rfl, rfl, NB.out, F1.out, BB.out⟩
      · go_simp
        have NB : Hid (Blk (v2.alloc (.cells #[.int .i64 0, .int .u32 0, .int .u32 0, .int .u32 0, .int .u32 0, .int .i64 0, .int .i64 0, .int .i64 0, .slice none 0 0, .int .i64 0, .slice none 0 0, .slice none 0 0] 33)) v2.heap.size (prt 0 0 0 ends0)) := Lib.hid (Blk.new v2 (prt 0 0 0 ends0) 33)
        have hF1_0 := F1.out.lt
        have hroot := BB.out.size
        have F1 := Lib.hid (F1.out.next (.cells #[.int .i64 0, .int .u32 0, .int .u32 0, .int .u32 0, .int .u32 0, .int .i64 0, .int .i64 0, .int .i64 0, .slice none 0 0, .int .i64 0, .slice none 0 0, .slice none 0 0] 33))
        have BB := Lib.hid (BB.out.alloc BB.out.size (.cells #[.int .i64 0, .int .u32 0, .int .u32 0, .int .u32 0, .int .u32 0, .int .i64 0, .int .i64 0, .int .i64 0, .slice none 0 0, .int .i64 0, .slice none 0 0, .slice none 0 0] 33))
        obtain ⟨v6, hv⟩ : ∃ v, v2.alloc (.cells #[.int .i64 0, .int .u32 0, .int .u32 0, .int .u32 0, .int .u32 0, .int .i64 0, .int .i64 0, .int .i64 0, .slice none 0 0, .int .i64 0, .slice none 0 0, .slice none 0 0] 33) = v := ⟨_, rfl⟩
        rw [hv] at F1 BB NB ⊢
        clear hv
        obtain ⟨nb, hb⟩ : ∃ b, v2.heap.size = b := ⟨_, rfl⟩
        rw [hb] at NB hF1_0 hroot ⊢
        clear hb
        refine hK.out _ _ (fun _ => F1.out) (fun _ => ?_)
        clear hK K
        try simp only [Act.put]
        try simp only [List.setIfInBounds_toArray]
        try simp only [List.set]
        refine wpAnyT_one 2 rfl (by kernel_rfl) (fun K hK => ?_)
        go_simp
        refine (TA.out _).mono ?_
        rintro e v7 ⟨rfl, hb⟩
        go_simp
        have F1 := Lib.hid (F1.out.on hb)
        have NB := Lib.hid (NB.out.on hb)
        have BB := Lib.hid (bel_on BB.out hb)
        clear hb
        refine hK.out _ _ (fun _ => F1.out) (fun _ => ?_)
        clear hK K
        try simp only [Act.put]
        try simp only [List.setIfInBounds_toArray]
        try simp only [List.set]
        refine wpAnyT_take 3 rfl (by kernel_rfl) (by kernel_rfl) (by kernel_rfl) (by kernel_rfl) (fun _ _ _ h => h) (by rfl) (by intro w hSw; clear hSw; go_simp <;> with_reducible rfl) (by exact F1.out) ?_
        try simp only [Act.put]
        try simp only [List.setIfInBounds_toArray]
        try simp only [List.set]
        refine wpAnyT_take 4 rfl (by kernel_rfl) (by kernel_rfl) (by kernel_rfl) (by kernel_rfl) (fun _ _ _ h => h) (by rfl) (by intro w hSw; clear hSw; go_simp <;> with_reducible rfl) (by exact F1.out) ?_
        try simp only [Act.put]
        try simp only [List.setIfInBounds_toArray]
        try simp only [List.set]
        refine wpAnyT_take 5 rfl (by kernel_rfl) (by kernel_rfl) (by kernel_rfl) (by kernel_rfl) (fun _ _ _ h => h) (by rfl) (by intro w hSw; clear hSw; go_simp <;> with_reducible rfl) (by exact F1.out) ?_
        try simp only [Act.put]
        try simp only [List.setIfInBounds_toArray]
        try simp only [List.set]
        refine wpAnyT_take 6 rfl (by kernel_rfl) (by kernel_rfl) (by kernel_rfl) (by kernel_rfl) (fun _ _ _ h => h) (by rfl) (by intro w hSw; clear hSw; go_simp <;> with_reducible rfl) (by exact F1.out) ?_
        try simp only [Act.put]
        try simp only [List.setIfInBounds_toArray]
        try simp only [List.set]
        refine wpAnyT_one 8 rfl (by kernel_rfl) (fun K hK => ?_)
        have hs := prt_store (st' := 2) (q' := 4) (t' := 2) (x' := ends0) NB.out
        go_simp
        clear hs
        have F1 := Lib.hid (F1.out.beside nb (by omega) (prt 2 4 2 ends0).toArray)
        have NB := Lib.hid (NB.out.put (prt 2 4 2 ends0))
        have BB := Lib.hid (below_setRow BB.out hroot (prt 2 4 2 ends0).toArray)
        obtain ⟨v8, hv⟩ : ∃ v, v7.setRow nb (prt 2 4 2 ends0).toArray = v := ⟨_, rfl⟩
        rw [hv] at F1 NB BB ⊢
        clear hv
        refine hK.out _ _ (fun _ => F1.out) (fun _ => ?_)
        clear hK K
        try simp only [Act.put]
        try simp only [List.setIfInBounds_toArray]
        try simp only [List.set]
        refine wpAnyT_one 9 rfl (by kernel_rfl) (fun K hK => ?_)
        go_simp
        refine hK.out _ _ (fun _ => F1.out) (fun _ => ?_)
        clear hK K
        try simp only [Act.put]
        try simp only [List.setIfInBounds_toArray]
        try simp only [List.set]
        refine wpAnyT_one 10 rfl (by kernel_rfl) (fun K hK => ?_)
        go_simp
        refine hK.out _ _ (fun _ => F1.out) (fun _ => ?_)
        clear hK K
        try simp only [Act.put]
        try simp only [List.setIfInBounds_toArray]
        try simp only [List.set]
        refine wpAnyT_done (by kernel_rfl) ?_ _
        go_wp2_with fail
        go_meet
        exact ⟨nb, rfl, rfl, rfl, NB.out, F1.out, BB.out⟩
    · go_simp
      have NB : Hid (Blk (v1.alloc (.cells #[.int .i64 0, .int .u32 0, .int .u32 0, .int .u32 0, .int .u32 0, .int .i64 0, .int .i64 0, .int .i64 0, .slice none 0 0, .int .i64 0, .slice none 0 0, .slice none 0 0] 33)) v1.heap.size (prt 0 0 0 ends0)) := Lib.hid (Blk.new v1 (prt 0 0 0 ends0) 33)
      have hF1_0 := F1.out.lt
      have hroot := BB.out.size
      have F1 := Lib.hid (F1.out.next (.cells #[.int .i64 0, .int .u32 0, .int .u32 0, .int .u32 0, .int .u32 0, .int .i64 0, .int .i64 0, .int .i64 0, .slice none 0 0, .int .i64 0, .slice none 0 0, .slice none 0 0] 33))
      have BB := Lib.hid (BB.out.alloc BB.out.size (.cells #[.int .i64 0, .int .u32 0, .int .u32 0, .int .u32 0, .int .u32 0, .int .i64 0, .int .i64 0, .int .i64 0, .slice none 0 0, .int .i64 0, .slice none 0 0, .slice none 0 0] 33))
      obtain ⟨v9, hv⟩ : ∃ v, v1.alloc (.cells #[.int .i64 0, .int .u32 0, .int .u32 0, .int .u32 0, .int .u32 0, .int .i64 0, .int .i64 0, .int .i64 0, .slice none 0 0, .int .i64 0, .slice none 0 0, .slice none 0 0] 33) = v := ⟨_, rfl⟩
      rw [hv] at F1 BB NB ⊢
      clear hv
      obtain ⟨nb, hb⟩ : ∃ b, v1.heap.size = b := ⟨_, rfl⟩
      rw [hb] at NB hF1_0 hroot ⊢
      clear hb
      refine hK.out _ _ (fun _ => F1.out) (fun _ => ?_)
      clear hK K
      try simp only [Act.put]
      try simp only [List.setIfInBounds_toArray]
      try simp only [List.set]
      refine wpAnyT_one 1 rfl (by kernel_rfl) (fun K hK => ?_)
      go_simp
      refine (RU.out _).mono ?_
      rintro e v10 ⟨rfl, hb⟩
      go_simp
      have F1 := Lib.hid (F1.out.on hb)
      have NB := Lib.hid (NB.out.on hb)
      have BB := Lib.hid (bel_on BB.out hb)
      clear hb
      refine hK.out _ _ (fun _ => F1.out) (fun _ => ?_)
      clear hK K
      try simp only [Act.put]
      try simp only [List.setIfInBounds_toArray]
      try simp only [List.set]
      refine wpAnyT_one 2 rfl (by kernel_rfl) (fun K hK => ?_)
      go_simp
      refine (TA.out _).mono ?_
      rintro e v11 ⟨rfl, hb⟩
      go_simp
      have F1 := Lib.hid (F1.out.on hb)
      have NB := Lib.hid (NB.out.on hb)
      have BB := Lib.hid (bel_on BB.out hb)
      clear hb
      refine hK.out _ _ (fun _ => F1.out) (fun _ => ?_)
      clear hK K
      try simp only [Act.put]
      try simp only [List.setIfInBounds_toArray]
      try simp only [List.set]
      refine wpAnyT_take 3 rfl (by kernel_rfl) (by kernel_rfl) (by kernel_rfl) (by kernel_rfl) (fun _ _ _ h => h) (by rfl) (by intro w hSw; clear hSw; go_simp <;> with_reducible rfl) (by exact F1.out) ?_
      try simp only [Act.put]
      try simp only [List.setIfInBounds_toArray]
      try simp only [List.set]
      refine wpAnyT_take 4 rfl (by kernel_rfl) (by kernel_rfl) (by kernel_rfl) (by kernel_rfl) (fun _ _ _ h => h) (by rfl) (by intro w hSw; clear hSw; go_simp <;> with_reducible rfl) (by exact F1.out) ?_
      try simp only [Act.put]
      try simp only [List.setIfInBounds_toArray]
      try simp only [List.set]
      refine wpAnyT_take 5 rfl (by kernel_rfl) (by kernel_rfl) (by kernel_rfl) (by kernel_rfl) (fun _ _ _ h => h) (by rfl) (by intro w hSw; clear hSw; go_simp <;> with_reducible rfl) (by exact F1.out) ?_
      try simp only [Act.put]
      try simp only [List.setIfInBounds_toArray]
      try simp only [List.set]
      refine wpAnyT_take 6 rfl (by kernel_rfl) (by kernel_rfl) (by kernel_rfl) (by kernel_rfl) (fun _ _ _ h => h) (by rfl) (by intro w hSw; clear hSw; go_simp <;> with_reducible rfl) (by exact F1.out) ?_
      try simp only [Act.put]
      try simp only [List.setIfInBounds_toArray]
      try simp only [List.set]
      refine wpAnyT_one 8 rfl (by kernel_rfl) (fun K hK => ?_)
      have hs := prt_store (st' := 2) (q' := 4) (t' := 2) (x' := ends0) NB.out
      go_simp
      clear hs
      have F1 := Lib.hid (F1.out.beside nb (by omega) (prt 2 4 2 ends0).toArray)
      have NB := Lib.hid (NB.out.put (prt 2 4 2 ends0))
      have BB := Lib.hid (below_setRow BB.out hroot (prt 2 4 2 ends0).toArray)
      obtain ⟨v12, hv⟩ : ∃ v, v11.setRow nb (prt 2 4 2 ends0).toArray = v := ⟨_, rfl⟩
      rw [hv] at F1 NB BB ⊢
      clear hv
      refine hK.out _ _ (fun _ => F1.out) (fun _ => ?_)
      clear hK K
      try simp only [Act.put]
      try simp only [List.setIfInBounds_toArray]
      try simp only [List.set]
      refine wpAnyT_one 9 rfl (by kernel_rfl) (fun K hK => ?_)
      go_simp
      refine hK.out _ _ (fun _ => F1.out) (fun _ => ?_)
      clear hK K
      try simp only [Act.put]
      try simp only [List.setIfInBounds_toArray]
      try simp only [List.set]
      refine wpAnyT_one 10 rfl (by kernel_rfl) (fun K hK => ?_)
      go_simp
      refine hK.out _ _ (fun _ => F1.out) (fun _ => ?_)
      clear hK K
      try simp only [Act.put]
      try simp only [List.setIfInBounds_toArray]
      try simp only [List.set]
      refine wpAnyT_done (by kernel_rfl) ?_ _
      go_wp2_with fail
      go_meet
      exact ⟨nb, rfl, rfl, rfl, NB.out, F1.out, BB.out⟩
  case rest =>
    obtain ⟨nb, rfl, rfl, rfl, NN, G0, hB⟩ := hcut
    clear F1 BB
    have F1 := Lib.hid G0
    have F2 := Lib.hid NN
    have BB := Lib.hid hB
    clear G0 NN hB
    go_upto_region 3 with fail
    go_cut [5, 6, 7] (fun s5 s6 s7 wx => ∃ nc : Nat, s5 = .pointer (some ⟨nc, 0, none⟩) ∧ s6 = .bool false ∧ s7 = .bool true ∧ Blk wx nc (prt 2 5 1 ends0) ∧ Blk wx b1 (prt 2 3 0 ends0) ∧ Blk wx nb (prt 2 4 2 ends0) ∧ Below w.heap.size w wx)
    case first =>
      refine wp_region_tail (fun w' => Blk w' nb (prt 2 4 2 ends0)) (fun _ => false) (by kernel_rfl) (by first | exact F2.out.drew) (fun hS => ?_)
      clear hS
      have F1 := Lib.hid F1.out.drew
      have F2 := Lib.hid F2.out.drew
      have BB := Lib.hid BB.out.drew
      obtain ⟨v1, hv⟩ : ∃ v, wc.drew = v := ⟨_, rfl⟩
      rw [hv] at F1 F2 BB ⊢
      clear hv
      refine wpAnyT_take 0 rfl (by kernel_rfl) (by kernel_rfl) (by kernel_rfl) (by kernel_rfl) (fun _ _ _ h => h) (by rfl) (by intro w hSw; (have hl := prt_load hSw); clear hSw; go_simp <;> with_reducible rfl) (by exact F2.out) ?_
      try simp only [Act.put]
      try simp only [List.setIfInBounds_toArray]
      try simp only [List.set]
      refine wpAnyT_two 1 7 rfl rfl (by kernel_rfl) (fun K hK => ?_) (fun K hK => ?_)
      · go_simp
        refine (RU.out _).mono ?_
        rintro e v2 ⟨rfl, hb⟩
        go_simp
        have F1 := Lib.hid (F1.out.on hb)
        have F2 := Lib.hid (F2.out.on hb)
        have BB := Lib.hid (bel_on BB.out hb)
        clear hb
        refine hK.out _ _ (fun _ => F2.out) (fun _ => ?_)
        clear hK K
        try simp only [Act.put]
        try simp only [List.setIfInBounds_toArray]
        try simp only [List.set]
        refine wpAnyT_two 2 7 rfl rfl (by kernel_rfl) (fun K hK => ?_) (fun K hK => ?_)
        · go_simp
          refine (TB.out _).mono ?_
          rintro e v3 ⟨rfl, hb⟩
          go_simp
          have F1 := Lib.hid (F1.out.on hb)
          have F2 := Lib.hid (F2.out.on hb)
          have BB := Lib.hid (bel_on BB.out hb)
          clear hb
          refine hK.out _ _ (fun _ => F2.out) (fun _ => ?_)
          clear hK K
          try simp only [Act.put]
          try simp only [List.setIfInBounds_toArray]
          try simp only [List.set]
          refine wpAnyT_take 3 rfl (by kernel_rfl) (by kernel_rfl) (by kernel_rfl) (by kernel_rfl) (fun _ _ _ h => h) (by rfl) (by intro w hSw; clear hSw; go_simp <;> with_reducible rfl) (by exact F2.out) ?_
          try simp only [Act.put]
          try simp only [List.setIfInBounds_toArray]
          try simp only [List.set]
          refine wpAnyT_take 4 rfl (by kernel_rfl) (by kernel_rfl) (by kernel_rfl) (by kernel_rfl) (fun _ _ _ h => h) (by rfl) (by intro w hSw; clear hSw; go_simp <;> with_reducible rfl) (by exact F2.out) ?_
          try simp only [Act.put]
          try simp only [List.setIfInBounds_toArray]
          try simp only [List.set]
          refine wpAnyT_take 5 rfl (by kernel_rfl) (by kernel_rfl) (by kernel_rfl) (by kernel_rfl) (fun _ _ _ h => h) (by rfl) (by intro w hSw; clear hSw; go_simp <;> with_reducible rfl) (by exact F2.out) ?_
          try simp only [Act.put]
          try simp only [List.setIfInBounds_toArray]
          try simp only [List.set]
          refine wpAnyT_take 6 rfl (by kernel_rfl) (by kernel_rfl) (by kernel_rfl) (by kernel_rfl) (fun _ _ _ h => h) (by rfl) (by intro w hSw; clear hSw; go_simp <;> with_reducible rfl) (by exact F2.out) ?_
          try simp only [Act.put]
          try simp only [List.setIfInBounds_toArray]
          try simp only [List.set]
          refine wpAnyT_one 7 rfl (by kernel_rfl) (fun K hK => ?_)
          go_simp
          have NB : Hid (Blk (v3.alloc (.cells #[.int .i64 0, .int .u32 0, .int .u32 0, .int .u32 0, .int .u32 0, .int .i64 0, .int .i64 0, .int .i64 0, .slice none 0 0, .int .i64 0, .slice none 0 0, .slice none 0 0] 33)) v3.heap.size (prt 0 0 0 ends0)) := Lib.hid (Blk.new v3 (prt 0 0 0 ends0) 33)
          have hF1_0 := F1.out.lt
          have hF2_1 := F2.out.lt
          have hroot := BB.out.size
          have F1 := Lib.hid (F1.out.next (.cells #[.int .i64 0, .int .u32 0, .int .u32 0, .int .u32 0, .int .u32 0, .int .i64 0, .int .i64 0, .int .i64 0, .slice none 0 0, .int .i64 0, .slice none 0 0, .slice none 0 0] 33))
          have F2 := Lib.hid (F2.out.next (.cells #[.int .i64 0, .int .u32 0, .int .u32 0, .int .u32 0, .int .u32 0, .int .i64 0, .int .i64 0, .int .i64 0, .slice none 0 0, .int .i64 0, .slice none 0 0, .slice none 0 0] 33))
          have BB := Lib.hid (BB.out.alloc BB.out.size (.cells #[.int .i64 0, .int .u32 0, .int .u32 0, .int .u32 0, .int .u32 0, .int .i64 0, .int .i64 0, .int .i64 0, .slice none 0 0, .int .i64 0, .slice none 0 0, .slice none 0 0] 33))
          obtain ⟨v4, hv⟩ : ∃ v, v3.alloc (.cells #[.int .i64 0, .int .u32 0, .int .u32 0, .int .u32 0, .int .u32 0, .int .i64 0, .int .i64 0, .int .i64 0, .slice none 0 0, .int .i64 0, .slice none 0 0, .slice none 0 0] 33) = v := ⟨_, rfl⟩
          rw [hv] at F1 F2 BB NB ⊢
          clear hv
          obtain ⟨nc, hb⟩ : ∃ b, v3.heap.size = b := ⟨_, rfl⟩
          rw [hb] at NB hF1_0 hF2_1 hroot ⊢
          clear hb
          refine hK.out _ _ (fun _ => F2.out) (fun _ => ?_)
          clear hK K
          try simp only [Act.put]
          try simp only [List.setIfInBounds_toArray]
          try simp only [List.set]
          refine wpAnyT_one 8 rfl (by kernel_rfl) (fun K hK => ?_)
          have hs := prt_store (st' := 2) (q' := 5) (t' := 1) (x' := ends0) NB.out
          go_simp
          clear hs
          have F1 := Lib.hid (F1.out.beside nc (by omega) (prt 2 5 1 ends0).toArray)
          have F2 := Lib.hid (F2.out.beside nc (by omega) (prt 2 5 1 ends0).toArray)
          have NB := Lib.hid (NB.out.put (prt 2 5 1 ends0))
          have BB := Lib.hid (below_setRow BB.out hroot (prt 2 5 1 ends0).toArray)
          obtain ⟨v5, hv⟩ : ∃ v, v4.setRow nc (prt 2 5 1 ends0).toArray = v := ⟨_, rfl⟩
          rw [hv] at F1 F2 NB BB ⊢
          clear hv
          refine hK.out _ _ (fun _ => F2.out) (fun _ => ?_)
          clear hK K
          try simp only [Act.put]
          try simp only [List.setIfInBounds_toArray]
          try simp only [List.set]
          refine wpAnyT_one 9 rfl (by kernel_rfl) (fun K hK => ?_)
          go_simp
          refine hK.out _ _ (fun _ => F2.out) (fun _ => ?_)
          clear hK K
          try simp only [Act.put]
          try simp only [List.setIfInBounds_toArray]
          try simp only [List.set]
          refine wpAnyT_one 10 rfl (by kernel_rfl) (fun K hK => ?_)
          go_simp
          refine hK.out _ _ (fun _ => F2.out) (fun _ => ?_)
          clear hK K
          try simp only [Act.put]
          try simp only [List.setIfInBounds_toArray]
          try simp only [List.set]
          refine wpAnyT_done (by kernel_rfl) ?_ _
          go_wp2_with fail
          go_meet
          exact ⟨nc, rfl, rfl, rfl, NB.out, F1.out, F2.out, BB.out⟩
        · go_simp
          have NB : Hid (Blk (v2.alloc (.cells #[.int .i64 0, .int .u32 0, .int .u32 0, .int .u32 0, .int .u32 0, .int .i64 0, .int .i64 0, .int .i64 0, .slice none 0 0, .int .i64 0, .slice none 0 0, .slice none 0 0] 33)) v2.heap.size (prt 0 0 0 ends0)) := Lib.hid (Blk.new v2 (prt 0 0 0 ends0) 33)
          have hF1_0 := F1.out.lt
          have hF2_1 := F2.out.lt
          have hroot := BB.out.size
          have F1 := Lib.hid (F1.out.next (.cells #[.int .i64 0, .int .u32 0, .int .u32 0, .int .u32 0, .int .u32 0, .int .i64 0, .int .i64 0, .int .i64 0, .slice none 0 0, .int .i64 0, .slice none 0 0, .slice none 0 0] 33))
          have F2 := Lib.hid (F2.out.next (.cells #[.int .i64 0, .int .u32 0, .int .u32 0, .int .u32 0, .int .u32 0, .int .i64 0, .int .i64 0, .int .i64 0, .slice none 0 0, .int .i64 0, .slice none 0 0, .slice none 0 0] 33))
          have BB := Lib.hid (BB.out.alloc BB.out.size (.cells #[.int .i64 0, .int .u32 0, .int .u32 0, .int .u32 0, .int .u32 0, .int .i64 0, .int .i64 0, .int .i64 0, .slice none 0 0, .int .i64 0, .slice none 0 0, .slice none 0 0] 33))
          obtain ⟨v6, hv⟩ : ∃ v, v2.alloc (.cells #[.int .i64 0, .int .u32 0, .int .u32 0, .int .u32 0, .int .u32 0, .int .i64 0, .int .i64 0, .int .i64 0, .slice none 0 0, .int .i64 0, .slice none 0 0, .slice none 0 0] 33) = v := ⟨_, rfl⟩
          rw [hv] at F1 F2 BB NB ⊢
          clear hv
          obtain ⟨nc, hb⟩ : ∃ b, v2.heap.size = b := ⟨_, rfl⟩
          rw [hb] at NB hF1_0 hF2_1 hroot ⊢
          clear hb
          refine hK.out _ _ (fun _ => F2.out) (fun _ => ?_)
          clear hK K
          try simp only [Act.put]
          try simp only [List.setIfInBounds_toArray]
          try simp only [List.set]
          refine wpAnyT_one 2 rfl (by kernel_rfl) (fun K hK => ?_)
          go_simp
          refine (TB.out _).mono ?_
          rintro e v7 ⟨rfl, hb⟩
          go_simp
          have F1 := Lib.hid (F1.out.on hb)
          have F2 := Lib.hid (F2.out.on hb)
          have NB := Lib.hid (NB.out.on hb)
          have BB := Lib.hid (bel_on BB.out hb)
          clear hb
          refine hK.out _ _ (fun _ => F2.out) (fun _ => ?_)
          clear hK K
          try simp only [Act.put]
          try simp only [List.setIfInBounds_toArray]
          try simp only [List.set]
          refine wpAnyT_take 3 rfl (by kernel_rfl) (by kernel_rfl) (by kernel_rfl) (by kernel_rfl) (fun _ _ _ h => h) (by rfl) (by intro w hSw; clear hSw; go_simp <;> with_reducible rfl) (by exact F2.out) ?_
          try simp only [Act.put]
          try simp only [List.setIfInBounds_toArray]
          try simp only [List.set]
          refine wpAnyT_take 4 rfl (by kernel_rfl) (by kernel_rfl) (by kernel_rfl) (by kernel_rfl) (fun _ _ _ h => h) (by rfl) (by intro w hSw; clear hSw; go_simp <;> with_reducible rfl) (by exact F2.out) ?_
          try simp only [Act.put]
          try simp only [List.setIfInBounds_toArray]
          try simp only [List.set]
          refine wpAnyT_take 5 rfl (by kernel_rfl) (by kernel_rfl) (by kernel_rfl) (by kernel_rfl) (fun _ _ _ h => h) (by rfl) (by intro w hSw; clear hSw; go_simp <;> with_reducible rfl) (by exact F2.out) ?_
          try simp only [Act.put]
          try simp only [List.setIfInBounds_toArray]
          try simp only [List.set]
          refine wpAnyT_take 6 rfl (by kernel_rfl) (by kernel_rfl) (by kernel_rfl) (by kernel_rfl) (fun _ _ _ h => h) (by rfl) (by intro w hSw; clear hSw; go_simp <;> with_reducible rfl) (by exact F2.out) ?_
          try simp only [Act.put]
          try simp only [List.setIfInBounds_toArray]
          try simp only [List.set]
          refine wpAnyT_one 8 rfl (by kernel_rfl) (fun K hK => ?_)
          have hs := prt_store (st' := 2) (q' := 5) (t' := 1) (x' := ends0) NB.out
          go_simp
          clear hs
          have F1 := Lib.hid (F1.out.beside nc (by omega) (prt 2 5 1 ends0).toArray)
          have F2 := Lib.hid (F2.out.beside nc (by omega) (prt 2 5 1 ends0).toArray)
          have NB := Lib.hid (NB.out.put (prt 2 5 1 ends0))
          have BB := Lib.hid (below_setRow BB.out hroot (prt 2 5 1 ends0).toArray)
          obtain ⟨v8, hv⟩ : ∃ v, v7.setRow nc (prt 2 5 1 ends0).toArray = v := ⟨_, rfl⟩
          rw [hv] at F1 F2 NB BB ⊢
          clear hv
          refine hK.out _ _ (fun _ => F2.out) (fun _ => ?_)
          clear hK K
          try simp only [Act.put]
          try simp only [List.setIfInBounds_toArray]
          try simp only [List.set]
          refine wpAnyT_one 9 rfl (by kernel_rfl) (fun K hK => ?_)
          go_simp
          refine hK.out _ _ (fun _ => F2.out) (fun _ => ?_)
          clear hK K
          try simp only [Act.put]
          try simp only [List.setIfInBounds_toArray]
          try simp only [List.set]
          refine wpAnyT_one 10 rfl (by kernel_rfl) (fun K hK => ?_)
          go_simp
          refine hK.out _ _ (fun _ => F2.out) (fun _ => ?_)
          clear hK K
          try simp only [Act.put]
          try simp only [List.setIfInBounds_toArray]
          try simp only [List.set]
          refine wpAnyT_done (by kernel_rfl) ?_ _
          go_wp2_with fail
          go_meet
          exact ⟨nc, rfl, rfl, rfl, NB.out, F1.out, F2.out, BB.out⟩
      · go_simp
        have NB : Hid (Blk (v1.alloc (.cells #[.int .i64 0, .int .u32 0, .int .u32 0, .int .u32 0, .int .u32 0, .int .i64 0, .int .i64 0, .int .i64 0, .slice none 0 0, .int .i64 0, .slice none 0 0, .slice none 0 0] 33)) v1.heap.size (prt 0 0 0 ends0)) := Lib.hid (Blk.new v1 (prt 0 0 0 ends0) 33)
        have hF1_0 := F1.out.lt
        have hF2_1 := F2.out.lt
        have hroot := BB.out.size
        have F1 := Lib.hid (F1.out.next (.cells #[.int .i64 0, .int .u32 0, .int .u32 0, .int .u32 0, .int .u32 0, .int .i64 0, .int .i64 0, .int .i64 0, .slice none 0 0, .int .i64 0, .slice none 0 0, .slice none 0 0] 33))
        have F2 := Lib.hid (F2.out.next (.cells #[.int .i64 0, .int .u32 0, .int .u32 0, .int .u32 0, .int .u32 0, .int .i64 0, .int .i64 0, .int .i64 0, .slice none 0 0, .int .i64 0, .slice none 0 0, .slice none 0 0] 33))
        have BB := Lib.hid (BB.out.alloc BB.out.size (.cells #[.int .i64 0, .int .u32 0, .int .u32 0, .int .u32 0, .int .u32 0, .int .i64 0, .int .i64 0, .int .i64 0, .slice none 0 0, .int .i64 0, .slice none 0 0, .slice none 0 0] 33))
        obtain ⟨v9, hv⟩ : ∃ v, v1.alloc (.cells #[.int .i64 0, .int .u32 0, .int .u32 0, .int .u32 0, .int .u32 0, .int .i64 0, .int .i64 0, .int .i64 0, .slice none 0 0, .int .i64 0, .slice none 0 0, .slice none 0 0] 33) = v := ⟨_, rfl⟩
        rw [hv] at F1 F2 BB NB ⊢
        clear hv
        obtain ⟨nc, hb⟩ : ∃ b, v1.heap.size = b := ⟨_, rfl⟩
        rw [hb] at NB hF1_0 hF2_1 hroot ⊢
        clear hb
        refine hK.out _ _ (fun _ => F2.out) (fun _ => ?_)
        clear hK K
        try simp only [Act.put]
        try simp only [List.setIfInBounds_toArray]
        try simp only [List.set]
        refine wpAnyT_one 1 rfl (by kernel_rfl) (fun K hK => ?_)
        go_simp
        refine (RU.out _).mono ?_
        rintro e v10 ⟨rfl, hb⟩
        go_simp
        have F1 := Lib.hid (F1.out.on hb)
        have F2 := Lib.hid (F2.out.on hb)
        have NB := Lib.hid (NB.out.on hb)
        have BB := Lib.hid (bel_on BB.out hb)
        clear hb
        refine hK.out _ _ (fun _ => F2.out) (fun _ => ?_)
        clear hK K
        try simp only [Act.put]
        try simp only [List.setIfInBounds_toArray]
        try simp only [List.set]
        refine wpAnyT_one 2 rfl (by kernel_rfl) (fun K hK => ?_)
        go_simp
        refine (TB.out _).mono ?_
        rintro e v11 ⟨rfl, hb⟩
        go_simp
        have F1 := Lib.hid (F1.out.on hb)
        have F2 := Lib.hid (F2.out.on hb)
        have NB := Lib.hid (NB.out.on hb)
        have BB := Lib.hid (bel_on BB.out hb)
        clear hb
        refine hK.out _ _ (fun _ => F2.out) (fun _ => ?_)
        clear hK K
        try simp only [Act.put]
        try simp only [List.setIfInBounds_toArray]
        try simp only [List.set]
        refine wpAnyT_take 3 rfl (by kernel_rfl) (by kernel_rfl) (by kernel_rfl) (by kernel_rfl) (fun _ _ _ h => h) (by rfl) (by intro w hSw; clear hSw; go_simp <;> with_reducible rfl) (by exact F2.out) ?_
        try simp only [Act.put]
        try simp only [List.setIfInBounds_toArray]
        try simp only [List.set]
        refine wpAnyT_take 4 rfl (by kernel_rfl) (by kernel_rfl) (by kernel_rfl) (by kernel_rfl) (fun _ _ _ h => h) (by rfl) (by intro w hSw; clear hSw; go_simp <;> with_reducible rfl) (by exact F2.out) ?_
        try simp only [Act.put]
        try simp only [List.setIfInBounds_toArray]
        try simp only [List.set]
        refine wpAnyT_take 5 rfl (by kernel_rfl) (by kernel_rfl) (by kernel_rfl) (by kernel_rfl) (fun _ _ _ h => h) (by rfl) (by intro w hSw; clear hSw; go_simp <;> with_reducible rfl) (by exact F2.out) ?_
        try simp only [Act.put]
        try simp only [List.setIfInBounds_toArray]
        try simp only [List.set]
        refine wpAnyT_take 6 rfl (by kernel_rfl) (by kernel_rfl) (by kernel_rfl) (by kernel_rfl) (fun _ _ _ h => h) (by rfl) (by intro w hSw; clear hSw; go_simp <;> with_reducible rfl) (by exact F2.out) ?_
        try simp only [Act.put]
        try simp only [List.setIfInBounds_toArray]
        try simp only [List.set]
        refine wpAnyT_one 8 rfl (by kernel_rfl) (fun K hK => ?_)
        have hs := prt_store (st' := 2) (q' := 5) (t' := 1) (x' := ends0) NB.out
        go_simp
        clear hs
        have F1 := Lib.hid (F1.out.beside nc (by omega) (prt 2 5 1 ends0).toArray)
        have F2 := Lib.hid (F2.out.beside nc (by omega) (prt 2 5 1 ends0).toArray)
        have NB := Lib.hid (NB.out.put (prt 2 5 1 ends0))
        have BB := Lib.hid (below_setRow BB.out hroot (prt 2 5 1 ends0).toArray)
        obtain ⟨v12, hv⟩ : ∃ v, v11.setRow nc (prt 2 5 1 ends0).toArray = v := ⟨_, rfl⟩
        rw [hv] at F1 F2 NB BB ⊢
        clear hv
        refine hK.out _ _ (fun _ => F2.out) (fun _ => ?_)
        clear hK K
        try simp only [Act.put]
        try simp only [List.setIfInBounds_toArray]
        try simp only [List.set]
        refine wpAnyT_one 9 rfl (by kernel_rfl) (fun K hK => ?_)
        go_simp
        refine hK.out _ _ (fun _ => F2.out) (fun _ => ?_)
        clear hK K
        try simp only [Act.put]
        try simp only [List.setIfInBounds_toArray]
        try simp only [List.set]
        refine wpAnyT_one 10 rfl (by kernel_rfl) (fun K hK => ?_)
        go_simp
        refine hK.out _ _ (fun _ => F2.out) (fun _ => ?_)
        clear hK K
        try simp only [Act.put]
        try simp only [List.setIfInBounds_toArray]
        try simp only [List.set]
        refine wpAnyT_done (by kernel_rfl) ?_ _
        go_wp2_with fail
        go_meet
        exact ⟨nc, rfl, rfl, rfl, NB.out, F1.out, F2.out, BB.out⟩
    case rest =>
      obtain ⟨nc, rfl, rfl, rfl, NN, G0, G1, hB⟩ := hcut
      have hfd : ∀ w : World, (Instr.field 33 (.agg #[.int .i64 2, .int .u32 0, .int .u32 0, .int .u32 0, .int .u32 0, .int .i64 0, .int .i64 1, .int .i64 0, .slice none 0 0, .int .i64 0, .slice none 0 0, .slice none 0 0] : Value) 3).run Try.prog w = .ok (.int .i64 0) w := fun _ => by kernel_rfl
      clear F1 F2 BB
      have F1 := Lib.hid G0
      have F2 := Lib.hid G1
      have F3 := Lib.hid NN
      have BB := Lib.hid hB
      clear G0 G1 NN hB
      go_wp2_with fail
      refine (RU.out _).mono ?_
      rintro e w3 ⟨rfl, hb⟩
      have F1 := Lib.hid (F1.out.on hb)
      have F2 := Lib.hid (F2.out.on hb)
      have F3 := Lib.hid (F3.out.on hb)
      have BB := Lib.hid (bel_on BB.out hb)
      clear hb
      go_wp2_with fail
      refine (TC.out _).mono ?_
      rintro e w4 ⟨rfl, hb⟩
      have F1 := Lib.hid (F1.out.on hb)
      have F2 := Lib.hid (F2.out.on hb)
      have F3 := Lib.hid (F3.out.on hb)
      have BB := Lib.hid (bel_on BB.out hb)
      clear hb
      have hst := prt_new (w := w4) (st := 0) (q := 0) (t := 0) (x := ends0) rfl
      go_upto_region 5 with fail
      clear hst
      have F1 := Lib.hid (F1.out.next (.cells (prt 0 0 0 ends0).toArray 33))
      have F2 := Lib.hid (F2.out.next (.cells (prt 0 0 0 ends0).toArray 33))
      have F3 := Lib.hid (F3.out.next (.cells (prt 0 0 0 ends0).toArray 33))
      have BB := Lib.hid (BB.out.alloc BB.out.size (.cells (prt 0 0 0 ends0).toArray 33))
      obtain ⟨w5, hw5⟩ : ∃ v, w4.alloc (.cells (prt 0 0 0 ends0).toArray 33) = v := ⟨_, rfl⟩
      rw [hw5] at F1 F2 F3 BB ⊢
      clear hw5
      have a5 := F2.out.cell 5 rfl
      have a6 := F2.out.cell 6 rfl
      have b5 := F3.out.cell 5 rfl
      have b6 := F3.out.cell 6 rfl
      have hl1 := prt_load F1.out
      have hl2 := prt_load F2.out
      have hl3 := prt_load F3.out
      go_wp2_with fail
      refine (HE.out _).mono ?_
      rintro e w6 ⟨rfl, hb⟩
      have F1 := Lib.hid (F1.out.on hb)
      have F2 := Lib.hid (F2.out.on hb)
      have F3 := Lib.hid (F3.out.on hb)
      have BB := Lib.hid (bel_on BB.out hb)
      clear hb
      clear a5 a6 b5 b6 hl1 hl2 hl3
      have hl1 := prt_load F1.out
      have hl2 := prt_load F2.out
      have hl3 := prt_load F3.out
      go_wp2_with fail
      refine (DP.out _).mono ?_
      rintro e w7 ⟨rfl, hb⟩
      have F1 := Lib.hid (F1.out.on hb)
      have F2 := Lib.hid (F2.out.on hb)
      have F3 := Lib.hid (F3.out.on hb)
      have BB := Lib.hid (bel_on BB.out hb)
      clear hb
      clear hl1 hl2 hl3
      have hl1 := prt_load F1.out
      have hl2 := prt_load F2.out
      have hl3 := prt_load F3.out
      go_wp2_with fail
      refine (DA.out _).mono ?_
      rintro e w8 ⟨rfl, hb⟩
      have F1 := Lib.hid (F1.out.on hb)
      have F2 := Lib.hid (F2.out.on hb)
      have F3 := Lib.hid (F3.out.on hb)
      have BB := Lib.hid (bel_on BB.out hb)
      clear hb
      clear hl1 hl2 hl3
      go_wp2_with fail
      refine (DZ.out _).mono ?_
      rintro e w9 ⟨rfl, hb⟩
      have F1 := Lib.hid (F1.out.on hb)
      have F2 := Lib.hid (F2.out.on hb)
      have F3 := Lib.hid (F3.out.on hb)
      have BB := Lib.hid (bel_on BB.out hb)
      clear hb
      go_wp2_with fail
      go_ret
      exact ⟨rfl, BB.out⟩
end Go.Proofs.Ytepmlgpllnndlaa
