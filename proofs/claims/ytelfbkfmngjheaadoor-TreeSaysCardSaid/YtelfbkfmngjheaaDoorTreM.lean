/- Contracts of the document's own digits (tree). (CosM with another function.) -/
import Derived.Test.YtelfbkfmngjheaaDoorTreT
import Derived.Test.YtelfbkfmngjheaaDoorRText
import Derived.Test.YtelfbkfmngjheaaDoorUntil
namespace Go.Proofs.YtelfbkfmngjheaaDoor
open Go.RowKit Go.Sort TreF
set_option maxRecDepth 100000 in
theorem tdigits_small (n : Nat) (w : World) (hn : n < 10) : Calls Tryd.prog 40 #[.int .u32 (n : Int)] w fun e w' => e = .returned (.string (str (Lib.decDigits n))) ∧ Below w.heap.size w w' := by
  have d1 : decide ((n : Int) < 10) = true := decide_eq_true (by omega)
  have e1 : IntKind.u32.wrap (48 + (n : Int)) = ((48 + n : Nat) : Int) := by rw [IntKind.wrap_u32]; omega
  have e2 : IntKind.u8.wrap ((48 + n : Nat) : Int) = ((48 + n : Nat) : Int) := by rw [IntKind.wrap_u8]; omega
  obtain ⟨j, hj⟩ : ∃ j, 48 + n = j := ⟨_, rfl⟩
  rw [hj] at e1 e2
  have hc := one_byte w.heap.size j (w.alloc (.cells #[.int .u8 (j : Int)] 5)) (by omega) (Blk.new w [.int .u8 (j : Int)] 5)
  have HD : Hid (Lib.decDigits n = [UInt8.ofNat j]) := Lib.hid (by rw [Lib.decDigits_one hn, hj])
  have HB : Hid (Below w.heap.size w (w.alloc (.cells #[.int .u8 (j : Int)] 5))) := Lib.hid ((Below.refl _ _).alloc (Nat.le_refl _) _)
  clear hn hj
  go_enter Tryd.func40, Tryd.ntmps40
  go_wp2_with fail
  go_ret
  exact ⟨by rw [HD.out]; rfl, HB.out⟩

def TDigOK (N : Nat) : Prop := ∀ n w, n ≤ N → n < 4294967296 → Calls Tryd.prog 40 #[.int .u32 (n : Int)] w fun e w' => e = .returned (.string (str (Lib.decDigits n))) ∧ Below w.heap.size w w'
set_option maxHeartbeats 1000000 in
set_option maxRecDepth 100000 in
theorem tdigits_big (n : Nat) (w : World) (hn : 10 ≤ n) (h32 : n < 4294967296) (ok : ∀ w, Calls Tryd.prog 40 #[.int .u32 ((n / 10 : Nat) : Int)] w fun e w' => e = .returned (.string (str (Lib.decDigits (n / 10)))) ∧ Below w.heap.size w w') :
    Calls Tryd.prog 40 #[.int .u32 (n : Int)] w fun e w' => e = .returned (.string (str (Lib.decDigits n))) ∧ Below w.heap.size w w' := by
  have d1 : decide ((n : Int) < 10) = false := decide_eq_false (by omega)
  have OK := Lib.hid ok
  have HD : Hid (Lib.decDigits n = Lib.decDigits (n / 10) ++ [UInt8.ofNat (48 + n % 10)]) := Lib.hid (by rw [Lib.decDigits, dif_neg (by omega)])
  have HL : Hid ((Lib.decDigits (n / 10)).length ≤ 20) := Lib.hid (by rw [Lib.decDigits_length]; exact Lib.nDigits_le20 _ (by omega))
  have q1 : (n : Int).tdiv 10 = ((n / 10 : Nat) : Int) := by rw [Int.tdiv_eq_ediv_of_nonneg (by omega)]; omega
  have q3 : (n : Int).tmod 10 = ((n % 10 : Nat) : Int) := by rw [Int.tmod_eq_emod_of_nonneg (by omega)]; omega
  have q2 : IntKind.u32.wrap ((n / 10 : Nat) : Int) = ((n / 10 : Nat) : Int) := by rw [IntKind.wrap_u32]; omega
  have e0 : IntKind.u32.wrap ((n % 10 : Nat) : Int) = ((n % 10 : Nat) : Int) := by rw [IntKind.wrap_u32]; omega
  have e1 : IntKind.u32.wrap (48 + ((n % 10 : Nat) : Int)) = ((48 + n % 10 : Nat) : Int) := by rw [IntKind.wrap_u32]; omega
  have e2 : IntKind.u8.wrap ((48 + n % 10 : Nat) : Int) = ((48 + n % 10 : Nat) : Int) := by rw [IntKind.wrap_u8]; omega
  obtain ⟨q, hq⟩ : ∃ q, n / 10 = q := ⟨_, rfl⟩
  obtain ⟨d, hd⟩ : ∃ d, n % 10 = d := ⟨_, rfl⟩
  obtain ⟨j, hj⟩ : ∃ j, 48 + d = j := ⟨_, rfl⟩
  have hsz : ¬ 9223372036854775807 < (str (Lib.decDigits q)).size + (str [UInt8.ofNat j]).size := by
    rw [str_size, str_size, ← hq, List.length_cons, List.length_nil]
    have := HL.out
    omega
  have hcat : str (Lib.decDigits q) ++ str [UInt8.ofNat j] = str (Lib.decDigits q ++ [UInt8.ofNat j]) := str_append _ _
  have HJ : Hid (j < 256) := Lib.hid (by omega)
  rw [hq] at OK HD HL q1 q2
  rw [hd] at q3 e0 e1 e2 HD
  rw [hj] at e1 e2 HD
  clear hn h32 ok hq hd hj
  have s0 := (Below.refl w.heap.size w).drew
  go_enter Tryd.func40, Tryd.ntmps40
  go_upto_region 3 with fail
  refine wp_region_until (fun w' => Below w.heap.size w w') 10 (by kernel_rfl) s0 (fun hS => ?_)
  clear s0
  refine wpAnyU_take 0 rfl (by kernel_rfl) (by kernel_rfl) (by kernel_rfl) (by decide) (by kernel_rfl) (by kernel_rfl) (fun _ _ _ h => h) (by rfl) (by intro w hSw; (try dsimp only at hSw); go_simp <;> with_reducible rfl) (by assumption) ?_
  try simp only [Act.put]
  try simp only [List.setIfInBounds_toArray]
  try simp only [List.set]
  refine wpAnyU_take 1 rfl (by kernel_rfl) (by kernel_rfl) (by kernel_rfl) (by decide) (by kernel_rfl) (by kernel_rfl) (fun _ _ _ h => h) (by rfl) (by intro w hSw; (try dsimp only at hSw); go_simp <;> with_reducible rfl) (by assumption) ?_
  try simp only [Act.put]
  try simp only [List.setIfInBounds_toArray]
  try simp only [List.set]
  refine wpAnyU_take 3 rfl (by kernel_rfl) (by kernel_rfl) (by kernel_rfl) (by decide) (by kernel_rfl) (by kernel_rfl) (fun _ _ _ h => h) (by rfl) (by intro w hSw; (try dsimp only at hSw); go_simp <;> with_reducible rfl) (by assumption) ?_
  try simp only [Act.put]
  try simp only [List.setIfInBounds_toArray]
  try simp only [List.set]
  refine wpAnyU_take 4 rfl (by kernel_rfl) (by kernel_rfl) (by kernel_rfl) (by decide) (by kernel_rfl) (by kernel_rfl) (fun _ _ _ h => h) (by rfl) (by intro w hSw; (try dsimp only at hSw); go_simp <;> with_reducible rfl) (by assumption) ?_
  try simp only [Act.put]
  try simp only [List.setIfInBounds_toArray]
  try simp only [List.set]
  refine wpAnyU_take 5 rfl (by kernel_rfl) (by kernel_rfl) (by kernel_rfl) (by decide) (by kernel_rfl) (by kernel_rfl) (fun _ _ _ h => h) (by rfl) (by intro w hSw; (try dsimp only at hSw); go_simp <;> with_reducible rfl) (by assumption) ?_
  try simp only [Act.put]
  try simp only [List.setIfInBounds_toArray]
  try simp only [List.set]
  refine wpAnyU_take 6 rfl (by kernel_rfl) (by kernel_rfl) (by kernel_rfl) (by decide) (by kernel_rfl) (by kernel_rfl) (fun _ _ _ h => h) (by rfl) (by intro w hSw; (try dsimp only at hSw); go_simp <;> with_reducible rfl) (by assumption) ?_
  try simp only [Act.put]
  try simp only [List.setIfInBounds_toArray]
  try simp only [List.set]
  refine wpAnyU_two 2 7 rfl rfl (by kernel_rfl) (fun K hK => ?_) (fun K hK => ?_)
  · go_simp
    refine (OK.out _).mono ?_
    rintro e w1 ⟨rfl, hb⟩
    go_simp
    have hS' : Below w.heap.size w w1 := bel_on hS hb
    refine hK.out _ _ (fun _ => hS') (fun _ => ?_)
    clear hK K hS
    have hS := hS'
    clear hS'
    try simp only [Act.put]
    try simp only [List.setIfInBounds_toArray]
    try simp only [List.set]
    refine wpAnyU_one 7 rfl (by kernel_rfl) (fun K hK => ?_)
    go_simp
    have hS' : Below w.heap.size w (World.alloc w1 (.cells #[.int .u8 (j : Int)] 5)) := hS.alloc hS.size _
    have hk : Blk (World.alloc w1 (.cells #[.int .u8 (j : Int)] 5)) (World.heap w1).size [.int .u8 (j : Int)] := Blk.new _ _ _
    refine hK.out _ _ (fun _ => hS') (fun _ => ?_)
    clear hK K hS
    have hS := hS'
    clear hS'
    try simp only [Act.put]
    try simp only [List.setIfInBounds_toArray]
    try simp only [List.set]
    refine wpAnyU_one 8 rfl (by kernel_rfl) (fun K hK => ?_)
    have hc := one_byte _ _ _ HJ.out hk
    go_simp
    refine hK.out _ _ (fun _ => hS) (fun _ => ?_)
    clear hK K hc
    try simp only [Act.put]
    try simp only [List.setIfInBounds_toArray]
    try simp only [List.set]
    refine wpAnyU_one 9 rfl (by kernel_rfl) (fun K hK => ?_)
    go_simp
    refine hK.out _ _ (fun _ => hS) (fun _ => ?_)
    clear hK K
    try simp only [Act.put]
    try simp only [List.setIfInBounds_toArray]
    try simp only [List.set]
    refine wpAnyU_one 10 rfl (by kernel_rfl) (fun K hK => ?_)
    go_simp
    refine hK.out _ _ (fun hno => by cases hno) (fun _ => ?_)
    clear hK K
    try simp only [Act.put]
    try simp only [List.setIfInBounds_toArray]
    try simp only [List.set]
    refine wpAnyU_done (by kernel_rfl) ?_ _
    go_wp2_with fail
    go_ret
    exact ⟨by rw [HD.out]; rfl, hS⟩
  · go_simp
    have hS' : Below w.heap.size w (World.alloc w (.cells #[.int .u8 (j : Int)] 5)).drew := ((Below.refl w.heap.size w).alloc (Nat.le_refl _) _).drew
    have hk : Blk (World.alloc w (.cells #[.int .u8 (j : Int)] 5)).drew w.heap.size [.int .u8 (j : Int)] := (Blk.new w _ _).drew
    refine hK.out _ _ (fun _ => hS') (fun _ => ?_)
    clear hK K hS
    have hS := hS'
    clear hS'
    try simp only [Act.put]
    try simp only [List.setIfInBounds_toArray]
    try simp only [List.set]
    refine wpAnyU_two 2 8 rfl rfl (by kernel_rfl) (fun K hK => ?_) (fun K hK => ?_)
    · go_simp
      refine (OK.out _).mono ?_
      rintro e w1 ⟨rfl, hb⟩
      go_simp
      have hS' : Below w.heap.size w w1 := bel_on hS hb
      refine hK.out _ _ (fun _ => hS') (fun _ => ?_)
      clear hK K hS
      have hS := hS'
      clear hS'
      have hk' := hk.on hb
      clear hk
      have hk := hk'
      clear hk'
      try simp only [Act.put]
      try simp only [List.setIfInBounds_toArray]
      try simp only [List.set]
      refine wpAnyU_one 8 rfl (by kernel_rfl) (fun K hK => ?_)
      have hc := one_byte _ _ _ HJ.out hk
      go_simp
      refine hK.out _ _ (fun _ => hS) (fun _ => ?_)
      clear hK K hc
      try simp only [Act.put]
      try simp only [List.setIfInBounds_toArray]
      try simp only [List.set]
      refine wpAnyU_one 9 rfl (by kernel_rfl) (fun K hK => ?_)
      go_simp
      refine hK.out _ _ (fun _ => hS) (fun _ => ?_)
      clear hK K
      try simp only [Act.put]
      try simp only [List.setIfInBounds_toArray]
      try simp only [List.set]
      refine wpAnyU_one 10 rfl (by kernel_rfl) (fun K hK => ?_)
      go_simp
      refine hK.out _ _ (fun hno => by cases hno) (fun _ => ?_)
      clear hK K
      try simp only [Act.put]
      try simp only [List.setIfInBounds_toArray]
      try simp only [List.set]
      refine wpAnyU_done (by kernel_rfl) ?_ _
      go_wp2_with fail
      go_ret
      exact ⟨by rw [HD.out]; rfl, hS⟩
    · have hc := one_byte _ _ _ HJ.out hk
      go_simp
      refine hK.out _ _ (fun _ => hS) (fun _ => ?_)
      clear hK K hc
      try simp only [Act.put]
      try simp only [List.setIfInBounds_toArray]
      try simp only [List.set]
      refine wpAnyU_one 2 rfl (by kernel_rfl) (fun K hK => ?_)
      go_simp
      refine (OK.out _).mono ?_
      rintro e w1 ⟨rfl, hb⟩
      go_simp
      have hS' : Below w.heap.size w w1 := bel_on hS hb
      refine hK.out _ _ (fun _ => hS') (fun _ => ?_)
      clear hK K hS
      have hS := hS'
      clear hS'
      try simp only [Act.put]
      try simp only [List.setIfInBounds_toArray]
      try simp only [List.set]
      refine wpAnyU_one 9 rfl (by kernel_rfl) (fun K hK => ?_)
      go_simp
      refine hK.out _ _ (fun _ => hS) (fun _ => ?_)
      clear hK K
      try simp only [Act.put]
      try simp only [List.setIfInBounds_toArray]
      try simp only [List.set]
      refine wpAnyU_one 10 rfl (by kernel_rfl) (fun K hK => ?_)
      go_simp
      refine hK.out _ _ (fun hno => by cases hno) (fun _ => ?_)
      clear hK K
      try simp only [Act.put]
      try simp only [List.setIfInBounds_toArray]
      try simp only [List.set]
      refine wpAnyU_done (by kernel_rfl) ?_ _
      go_wp2_with fail
      go_ret
      exact ⟨by rw [HD.out]; rfl, hS⟩
theorem tdigOK : ∀ N, TDigOK N
  | 0, n, w, hn, h32 => by
    obtain rfl : n = 0 := by omega
    exact tdigits_small 0 w (by omega)
  | N + 1, n, w, hn, h32 => by
    by_cases h : n < 10
    · exact tdigits_small n w h
    · exact tdigits_big n w (by omega) h32 (fun w => tdigOK N (n / 10) w (by omega) (by omega))
theorem tdigits_any (n : Nat) (w : World) (h32 : n < 4294967296) : Calls Tryd.prog 40 #[.int .u32 (n : Int)] w fun e w' => e = .returned (.string (str (Lib.decDigits n))) ∧ Below w.heap.size w w' :=
  tdigOK n n w (Nat.le_refl _) h32
end Go.Proofs.YtelfbkfmngjheaaDoor
