/- Contracts of the document's own digits (tree). (CosM with another function.) The contract of the document's own text of a tree. -/
import Derived.Test.YtelfbkfmngjheaaDoorTreT
import Derived.Test.YtelfbkfmngjheaaDoorRText
import Derived.Test.YtelfbkfmngjheaaDoorUntil
import Derived.Lib.QuietBelow
namespace Go.Proofs.YtelfbkfmngjheaaDoor
section
open Go.RowKit Go.Sort TreF
set_option maxRecDepth 100000 in
theorem tdigits_small (n : Nat) (w : World) (hn : n < 10) : Calls Tryd.prog 40 #[.int .u32 (n : Int)] w fun e w' => e = .returned (.string (str (Lib.decDigits n))) ∧ Below w.heap.size w w' := by
  have d1 : decide ((n : Int) < 10) = true := decide_eq_true (by omega)
  have e1 : IntKind.u32.wrap (48 + (n : Int)) = ((48 + n : Nat) : Int) := by rw [IntKind.wrap_u32]; omega
  have e2 : IntKind.u8.wrap ((48 + n : Nat) : Int) = ((48 + n : Nat) : Int) := by rw [IntKind.wrap_u8]; omega
  obtain ⟨j, hj⟩ : ∃ j, 48 + n = j := ⟨_, rfl⟩
  rw [hj] at e1 e2
  have hc := one_byte w.heap.size j (w.alloc (.cells #[.int .u8 (j : Int)] 5)) (by omega) (Blk.new w [.int .u8 (j : Int)] 5)
  have HD : Hid (Lib.decDigits n = [UInt8.ofNat j]) := Lib.hid (by rw [Lib.decDigits_one hn, hj])
  have HB : Hid (Below w.heap.size w (w.alloc (.cells #[.int .u8 (j : Int)] 5))) := Lib.hid ((Below.refl _ _).alloc (Nat.le_refl _) _)
  clear hn hj
  go_enter Tryd.func40, Tryd.ntmps40
  go_wp2_with fail
  go_ret
  exact ⟨by rw [HD.out]; rfl, HB.out⟩

def TDigOK (N : Nat) : Prop := ∀ n w, n ≤ N → n < 4294967296 → Calls Tryd.prog 40 #[.int .u32 (n : Int)] w fun e w' => e = .returned (.string (str (Lib.decDigits n))) ∧ Below w.heap.size w w'
set_option maxHeartbeats 1000000 in
set_option maxRecDepth 100000 in
theorem tdigits_big (n : Nat) (w : World) (hn : 10 ≤ n) (h32 : n < 4294967296) (ok : ∀ w, Calls Tryd.prog 40 #[.int .u32 ((n / 10 : Nat) : Int)] w fun e w' => e = .returned (.string (str (Lib.decDigits (n / 10)))) ∧ Below w.heap.size w w') :
    Calls Tryd.prog 40 #[.int .u32 (n : Int)] w fun e w' => e = .returned (.string (str (Lib.decDigits n))) ∧ Below w.heap.size w w' := by
  have d1 : decide ((n : Int) < 10) = false := decide_eq_false (by omega)
  have OK := Lib.hid ok
  have HD : Hid (Lib.decDigits n = Lib.decDigits (n / 10) ++ [UInt8.ofNat (48 + n % 10)]) := Lib.hid (by rw [Lib.decDigits, dif_neg (by omega)])
  have HL : Hid ((Lib.decDigits (n / 10)).length ≤ 20) := Lib.hid (by rw [Lib.decDigits_length]; exact Lib.nDigits_le20 _ (by omega))
  have q1 : (n : Int).tdiv 10 = ((n / 10 : Nat) : Int) := by rw [Int.tdiv_eq_ediv_of_nonneg (by omega)]; omega
  have q3 : (n : Int).tmod 10 = ((n % 10 : Nat) : Int) := by rw [Int.tmod_eq_emod_of_nonneg (by omega)]; omega
  have q2 : IntKind.u32.wrap ((n / 10 : Nat) : Int) = ((n / 10 : Nat) : Int) := by rw [IntKind.wrap_u32]; omega
  have e0 : IntKind.u32.wrap ((n % 10 : Nat) : Int) = ((n % 10 : Nat) : Int) := by rw [IntKind.wrap_u32]; omega
  have e1 : IntKind.u32.wrap (48 + ((n % 10 : Nat) : Int)) = ((48 + n % 10 : Nat) : Int) := by rw [IntKind.wrap_u32]; omega
  have e2 : IntKind.u8.wrap ((48 + n % 10 : Nat) : Int) = ((48 + n % 10 : Nat) : Int) := by rw [IntKind.wrap_u8]; omega
  obtain ⟨q, hq⟩ : ∃ q, n / 10 = q := ⟨_, rfl⟩
  obtain ⟨d, hd⟩ : ∃ d, n % 10 = d := ⟨_, rfl⟩
  obtain ⟨j, hj⟩ : ∃ j, 48 + d = j := ⟨_, rfl⟩
  have hsz : ¬ 9223372036854775807 < (str (Lib.decDigits q)).size + (str [UInt8.ofNat j]).size := by
    rw [str_size, str_size, ← hq, List.length_cons, List.length_nil]
    have := HL.out
    omega
  have hcat : str (Lib.decDigits q) ++ str [UInt8.ofNat j] = str (Lib.decDigits q ++ [UInt8.ofNat j]) := str_append _ _
  have HJ : Hid (j < 256) := Lib.hid (by omega)
  rw [hq] at OK HD HL q1 q2
  rw [hd] at q3 e0 e1 e2 HD
  rw [hj] at e1 e2 HD
  clear hn h32 ok hq hd hj
  have s0 := (Below.refl w.heap.size w).drew
  go_enter Tryd.func40, Tryd.ntmps40
  go_upto_region 3 with fail
  refine wp_region_until (fun w' => Below w.heap.size w w') 10 (by kernel_rfl) s0 (fun hS => ?_)
  clear s0
  refine wpAnyU_take 0 rfl (by kernel_rfl) (by kernel_rfl) (by kernel_rfl) (by decide) (by kernel_rfl) (by kernel_rfl) (fun _ _ _ h => h) (by rfl) (by intro w hSw; (try dsimp only at hSw); go_simp <;> with_reducible rfl) (by assumption) ?_
  try simp only [Act.put]
  try simp only [List.setIfInBounds_toArray]
  try simp only [List.set]
  refine wpAnyU_take 1 rfl (by kernel_rfl) (by kernel_rfl) (by kernel_rfl) (by decide) (by kernel_rfl) (by kernel_rfl) (fun _ _ _ h => h) (by rfl) (by intro w hSw; (try dsimp only at hSw); go_simp <;> with_reducible rfl) (by assumption) ?_
  try simp only [Act.put]
  try simp only [List.setIfInBounds_toArray]
  try simp only [List.set]
  refine wpAnyU_take 3 rfl (by kernel_rfl) (by kernel_rfl) (by kernel_rfl) (by decide) (by kernel_rfl) (by kernel_rfl) (fun _ _ _ h => h) (by rfl) (by intro w hSw; (try dsimp only at hSw); go_simp <;> with_reducible rfl) (by assumption) ?_
  try simp only [Act.put]
  try simp only [List.setIfInBounds_toArray]
  try simp only [List.set]
  refine wpAnyU_take 4 rfl (by kernel_rfl) (by kernel_rfl) (by kernel_rfl) (by decide) (by kernel_rfl) (by kernel_rfl) (fun _ _ _ h => h) (by rfl) (by intro w hSw; (try dsimp only at hSw); go_simp <;> with_reducible rfl) (by assumption) ?_
  try simp only [Act.put]
  try simp only [List.setIfInBounds_toArray]
  try simp only [List.set]
  refine wpAnyU_take 5 rfl (by kernel_rfl) (by kernel_rfl) (by kernel_rfl) (by decide) (by kernel_rfl) (by kernel_rfl) (fun _ _ _ h => h) (by rfl) (by intro w hSw; (try dsimp only at hSw); go_simp <;> with_reducible rfl) (by assumption) ?_
  try simp only [Act.put]
  try simp only [List.setIfInBounds_toArray]
  try simp only [List.set]
  refine wpAnyU_take 6 rfl (by kernel_rfl) (by kernel_rfl) (by kernel_rfl) (by decide) (by kernel_rfl) (by kernel_rfl) (fun _ _ _ h => h) (by rfl) (by intro w hSw; (try dsimp only at hSw); go_simp <;> with_reducible rfl) (by assumption) ?_
  try simp only [Act.put]
  try simp only [List.setIfInBounds_toArray]
  try simp only [List.set]
  refine wpAnyU_two 2 7 rfl rfl (by kernel_rfl) (fun K hK => ?_) (fun K hK => ?_)
  · go_simp
    refine (OK.out _).mono ?_
    rintro e w1 ⟨rfl, hb⟩
    go_simp
    have hS' : Below w.heap.size w w1 := bel_on hS hb
    refine hK.out _ _ (fun _ => hS') (fun _ => ?_)
    clear hK K hS
    have hS := hS'
    clear hS'
    try simp only [Act.put]
    try simp only [List.setIfInBounds_toArray]
    try simp only [List.set]
    refine wpAnyU_one 7 rfl (by kernel_rfl) (fun K hK => ?_)
    go_simp
    have hS' : Below w.heap.size w (World.alloc w1 (.cells #[.int .u8 (j : Int)] 5)) := hS.alloc hS.size _
    have hk : Blk (World.alloc w1 (.cells #[.int .u8 (j : Int)] 5)) (World.heap w1).size [.int .u8 (j : Int)] := Blk.new _ _ _
    refine hK.out _ _ (fun _ => hS') (fun _ => ?_)
    clear hK K hS
    have hS := hS'
    clear hS'
    try simp only [Act.put]
    try simp only [List.setIfInBounds_toArray]
    try simp only [List.set]
    refine wpAnyU_one 8 rfl (by kernel_rfl) (fun K hK => ?_)
    have hc := one_byte _ _ _ HJ.out hk
    go_simp
    refine hK.out _ _ (fun _ => hS) (fun _ => ?_)
    clear hK K hc
    try simp only [Act.put]
    try simp only [List.setIfInBounds_toArray]
    try simp only [List.set]
    refine wpAnyU_one 9 rfl (by kernel_rfl) (fun K hK => ?_)
    go_simp
    refine hK.out _ _ (fun _ => hS) (fun _ => ?_)
    clear hK K
    try simp only [Act.put]
    try simp only [List.setIfInBounds_toArray]
    try simp only [List.set]
    refine wpAnyU_one 10 rfl (by kernel_rfl) (fun K hK => ?_)
    go_simp
    refine hK.out _ _ (fun hno => by cases hno) (fun _ => ?_)
    clear hK K
    try simp only [Act.put]
    try simp only [List.setIfInBounds_toArray]
    try simp only [List.set]
    refine wpAnyU_done (by kernel_rfl) ?_ _
    go_wp2_with fail
    go_ret
    exact ⟨by rw [HD.out]; rfl, hS⟩
  · go_simp
    have hS' : Below w.heap.size w (World.alloc w (.cells #[.int .u8 (j : Int)] 5)).drew := ((Below.refl w.heap.size w).alloc (Nat.le_refl _) _).drew
    have hk : Blk (World.alloc w (.cells #[.int .u8 (j : Int)] 5)).drew w.heap.size [.int .u8 (j : Int)] := (Blk.new w _ _).drew
    refine hK.out _ _ (fun _ => hS') (fun _ => ?_)
    clear hK K hS
    have hS := hS'
    clear hS'
    try simp only [Act.put]
    try simp only [List.setIfInBounds_toArray]
    try simp only [List.set]
    refine wpAnyU_two 2 8 rfl rfl (by kernel_rfl) (fun K hK => ?_) (fun K hK => ?_)
    · go_simp
      refine (OK.out _).mono ?_
      rintro e w1 ⟨rfl, hb⟩
      go_simp
      have hS' : Below w.heap.size w w1 := bel_on hS hb
      refine hK.out _ _ (fun _ => hS') (fun _ => ?_)
      clear hK K hS
      have hS := hS'
      clear hS'
      have hk' := hk.on hb
      clear hk
      have hk := hk'
      clear hk'
      try simp only [Act.put]
      try simp only [List.setIfInBounds_toArray]
      try simp only [List.set]
      refine wpAnyU_one 8 rfl (by kernel_rfl) (fun K hK => ?_)
      have hc := one_byte _ _ _ HJ.out hk
      go_simp
      refine hK.out _ _ (fun _ => hS) (fun _ => ?_)
      clear hK K hc
      try simp only [Act.put]
      try simp only [List.setIfInBounds_toArray]
      try simp only [List.set]
      refine wpAnyU_one 9 rfl (by kernel_rfl) (fun K hK => ?_)
      go_simp
      refine hK.out _ _ (fun _ => hS) (fun _ => ?_)
      clear hK K
      try simp only [Act.put]
      try simp only [List.setIfInBounds_toArray]
      try simp only [List.set]
      refine wpAnyU_one 10 rfl (by kernel_rfl) (fun K hK => ?_)
      go_simp
      refine hK.out _ _ (fun hno => by cases hno) (fun _ => ?_)
      clear hK K
      try simp only [Act.put]
      try simp only [List.setIfInBounds_toArray]
      try simp only [List.set]
      refine wpAnyU_done (by kernel_rfl) ?_ _
      go_wp2_with fail
      go_ret
      exact ⟨by rw [HD.out]; rfl, hS⟩
    · have hc := one_byte _ _ _ HJ.out hk
      go_simp
      refine hK.out _ _ (fun _ => hS) (fun _ => ?_)
      clear hK K hc
      try simp only [Act.put]
      try simp only [List.setIfInBounds_toArray]
      try simp only [List.set]
      refine wpAnyU_one 2 rfl (by kernel_rfl) (fun K hK => ?_)
      go_simp
      refine (OK.out _).mono ?_
      rintro e w1 ⟨rfl, hb⟩
      go_simp
      have hS' : Below w.heap.size w w1 := bel_on hS hb
      refine hK.out _ _ (fun _ => hS') (fun _ => ?_)
      clear hK K hS
      have hS := hS'
      clear hS'
      try simp only [Act.put]
      try simp only [List.setIfInBounds_toArray]
      try simp only [List.set]
      refine wpAnyU_one 9 rfl (by kernel_rfl) (fun K hK => ?_)
      go_simp
      refine hK.out _ _ (fun _ => hS) (fun _ => ?_)
      clear hK K
      try simp only [Act.put]
      try simp only [List.setIfInBounds_toArray]
      try simp only [List.set]
      refine wpAnyU_one 10 rfl (by kernel_rfl) (fun K hK => ?_)
      go_simp
      refine hK.out _ _ (fun hno => by cases hno) (fun _ => ?_)
      clear hK K
      try simp only [Act.put]
      try simp only [List.setIfInBounds_toArray]
      try simp only [List.set]
      refine wpAnyU_done (by kernel_rfl) ?_ _
      go_wp2_with fail
      go_ret
      exact ⟨by rw [HD.out]; rfl, hS⟩
theorem tdigOK : ∀ N, TDigOK N
  | 0, n, w, hn, h32 => by
    obtain rfl : n = 0 := by omega
    exact tdigits_small 0 w (by omega)
  | N + 1, n, w, hn, h32 => by
    by_cases h : n < 10
    · exact tdigits_small n w h
    · exact tdigits_big n w (by omega) h32 (fun w => tdigOK N (n / 10) w (by omega) (by omega))
theorem tdigits_any (n : Nat) (w : World) (h32 : n < 4294967296) : Calls Tryd.prog 40 #[.int .u32 (n : Int)] w fun e w' => e = .returned (.string (str (Lib.decDigits n))) ∧ Below w.heap.size w w' :=
  tdigOK n n w (Nat.le_refl _) h32
end
section
open Go.RowKit Go.Sort TreF
attribute [local go_sem ↓] loadAt_tre storeAt_tre loadAt_ent storeAt_ent

theorem rlet_two (p : Int) : ∃ m : Int, Gives Tryd.prog 32 #[.int .i64 0, .int .i64 p] (.int .i64 m) ∧ Gives Tryd.prog 39 #[.int .i64 m] (.string (str [letP p])) := by
  cases hb : nodeB p with
  | true =>
    obtain ⟨m, rfl, hm⟩ := node_in hb
    refine ⟨NodesF.withN 0 m, fun w => (rwith_in 0 m w hm (by decide) (by decide)).mono fun _ _ ⟨h1, h2⟩ => ⟨h1, h2 ▸ Below.refl _ _⟩, fun w => ?_⟩
    have h := rntext_any (NodesF.withN 0 m) w
    rw [one_text m hm] at h
    rw [show letP (m : Int) = NodesF.letF m by simp [letP, hb]]
    exact h
  | false =>
    refine ⟨0, fun w => (rwith_out 0 p w (node_out hb)).mono fun _ _ ⟨h1, h2⟩ => ⟨h1, h2 ▸ Below.refl _ _⟩, fun w => ?_⟩
    have h := rntext_any 0 w
    rw [no_text] at h
    rw [show letP p = 46 by simp [letP, hb]]
    exact h

set_option maxHeartbeats 4000000 in
theorem rttext_any (t : Tr) (ht : Tre t) (w : World) :
    Calls Tryd.prog 17 #[.agg (treC t).toArray] w fun e w' => e = .returned (.string (str (textT t))) ∧ Below w.heap.size w w' := by
  have HC := Lib.hid ht
  have RE := Lib.hid (rreached_any t ht)
  have UP : Hid (∀ w, Calls Tryd.prog 38 #[.int .i64 (setR t)] w (OwnNats (lisR t) w)) := Lib.hid (fun w => by
    have h := rlist_any (setR t) w
    rw [lis_nodes] at h
    exact h)
  have HX : Hid (textT t = textF t (lisR t)) := Lib.hid rfl
  have HM : Hid ((lisR t).length ≤ 16) := Lib.hid (lis_length t)
  have HN : Hid (∀ x ∈ lisR t, x < 16) := Lib.hid (lis_small t)
  obtain ⟨l, hl⟩ : ∃ l, lisR t = l := ⟨_, rfl⟩
  rw [hl] at UP HX HM HN
  clear hl ht
  go_enter Tryd.func17, Tryd.ntmps17
  go_upto_region 2 with fail
  obtain ⟨B0, BB⟩ := tbox_new w t
  obtain ⟨wa, hwa⟩ : ∃ wa, (w.alloc (.cells (treC t).toArray 26)) = wa := ⟨_, rfl⟩
  rw [hwa] at B0 BB ⊢
  clear hwa
  have hq := tre_load B0 HC.out
  go_wp2_with fail
  refine (RE.out _).mono ?_
  rintro e w0 ⟨rfl, hb⟩
  have B0' := B0.on hb
  have BB' := bel_on BB hb
  clear hq B0 BB hb
  go_wp2_with fail
  refine (UP.out _).mono ?_
  rintro e w1 hown
  obtain ⟨a, cp, rfl, hna, hb⟩ := nats_slice hown
  have K1 := Lib.hid (B0'.on hb)
  have KB := Lib.hid (bel_on BB' hb)
  have KN := Lib.hid hna
  obtain ⟨n, hn⟩ : ∃ n, l.length = n := ⟨_, rfl⟩
  rw [hn] at HM ⊢
  have HNL := Lib.hid hn
  have hn64 : n ≤ 16 := HM.out
  clear hown hna hb B0' BB' hn
  go_wp2_with fail
  go_loopw [10, 3] (fun v s wr => ∃ k : Nat, v = .int .i64 (k : Int) ∧ k ≤ n ∧ s = .string (str (textF t (l.take k))) ∧ Blk wr w.heap.size (treC t) ∧ NatAt wr a w0.heap.size l ∧ Below w.heap.size w wr) (fun v _ _ => (n - intOf v).toNat)
  case atStart => exact ⟨0, rfl, Nat.zero_le _, rfl, K1.out, KN.out, KB.out⟩
  case round =>
    obtain ⟨k, rfl, hk, rfl, k1, na, kb⟩ := hrel
    have HB := Lib.hid kb
    have NA := Lib.hid na
    have B1 := Lib.hid k1
    clear kb na k1
    by_cases hkn : k < n
    · obtain ⟨x, hx⟩ : ∃ x, l[k]? = some x := ⟨_, List.getElem?_eq_getElem (by have := HNL.out; omega)⟩
      obtain ⟨g, rfl, hg, hcell⟩ := NA.out.read hx
      have hx16 : x < 16 := HN.out x (List.mem_of_getElem? hx)
      have hlen : (textF t (l.take k)).length ≤ 208 := by
        have h1 := textF_length HC.out (l.take k) (fun y hy => HN.out y (List.mem_of_mem_take hy))
        have h2 : (l.take k).length ≤ 16 := by rw [List.length_take]; omega
        omega
      obtain ⟨⟨c, p⟩, hxt, hok⟩ := HC.out.at hx16
      obtain ⟨z, hz⟩ : ∃ m, textF t (l.take k) = m := ⟨_, rfl⟩
      have HS : Hid (textF t (l.take (k + 1)) = z ++ ([NodesF.letF x] ++ Lib.decDigits c ++ [letP p] ++ [32])) := Lib.hid (by rw [textF_take t hx, hz, getD_at hxt]; simp [pieceE])
      rw [hz] at hlen ⊢
      have h32 : c < 4294967296 := hok.1
      have hd10 := digits10 c h32
      have DG : Hid (Gives Tryd.prog 40 #[.int .u32 (c : Int)] (.string (str (Lib.decDigits c)))) := Lib.hid (fun w => tdigits_any c w h32)
      obtain ⟨m1, w1, t1⟩ := rlet_two (x : Int)
      rw [show letP (x : Int) = NodesF.letF x by simp [letP, node_nat hx16]] at t1
      obtain ⟨m2, w2, t2⟩ := rlet_two p
      have W1 := Lib.hid w1
      have T1 := Lib.hid t1
      have W2 := Lib.hid w2
      have T2 := Lib.hid t2
      obtain ⟨b, hb⟩ : ∃ b, NodesF.letF x = b := ⟨_, rfl⟩
      rw [hb] at T1 HS
      obtain ⟨f, hf⟩ : ∃ f, letP p = f := ⟨_, rfl⟩
      rw [hf] at T2 HS
      obtain ⟨d, hd⟩ : ∃ d, Lib.decDigits c = d := ⟨_, rfl⟩
      rw [hd] at DG HS hd10
      obtain ⟨s1, hs1⟩ : ∃ s1, str (b :: d) = s1 := ⟨_, rfl⟩
      obtain ⟨s2, hs2⟩ : ∃ s2, str (b :: (d ++ [f])) = s2 := ⟨_, rfl⟩
      obtain ⟨s3, hs3⟩ : ∃ s3, str (b :: (d ++ [f] ++ [32])) = s3 := ⟨_, rfl⟩
      obtain ⟨s4, hs4⟩ : ∃ s4, str (z ++ ([b] ++ d ++ [f] ++ [32])) = s4 := ⟨_, rfl⟩
      have e1 : str [b] ++ str d = s1 := (str_append [b] d).trans hs1
      have e2 : s1 ++ str [f] = s2 := by rw [← hs1]; exact (str_append (b :: d) [f]).trans hs2
      have e3 : s2 ++ (⟨#[32]⟩ : ByteArray) = s3 := by rw [← hs2]; exact (str_append (b :: (d ++ [f])) [32]).trans hs3
      have e4 : str z ++ s3 = s4 := by rw [← hs3]; exact (str_append z (b :: (d ++ [f] ++ [32]))).trans (by rw [← hs4]; simp)
      have z1 : ¬ 9223372036854775807 < (str [b]).size + (str d).size := by
        rw [str_size, str_size, List.length_cons, List.length_nil]; omega
      have z2 : ¬ 9223372036854775807 < s1.size + (str [f]).size := by
        rw [← hs1, str_size, str_size, List.length_cons, List.length_cons, List.length_nil]; omega
      have z3 : ¬ 9223372036854775807 < s2.size + 1 := by
        rw [← hs2, str_size, List.length_cons, List.length_append, List.length_cons, List.length_nil]; omega
      have z3' : ¬ 9223372036854775807 < s2.size + (⟨#[32]⟩ : ByteArray).size := by
        rw [← hs2, str_size, List.length_cons, List.length_append, List.length_cons, List.length_nil, show (⟨#[32]⟩ : ByteArray).size = 1 from rfl]; omega
      have z4 : ¬ 9223372036854775807 < (str z).size + s3.size := by
        rw [← hs3, str_size, str_size, List.length_cons, List.length_append, List.length_append, List.length_cons, List.length_cons, List.length_nil]; omega
      have H4 := Lib.hid hs4
      clear hs1 hs2 hs3 hs4
      have hkn' : (k : Int) < (n : Int) := by omega
      have x0 : (0 : Int) ≤ (x : Int) := by omega
      have x1 : (x : Int) < 16 := by omega
      have HK := Lib.hid hkn
      have HXT := Lib.hid hxt
      have e5 : wrap64 ((k : Int) + 1) = (k : Int) + 1 := IntWalk.wrap64_in _ (by omega)
      clear hx hz hg hkn hx16 hb hf hk h32 hd10 hd hlen hxt hok w1 t1 w2 t2
      go_upto_region 5 with fail
      clear hcell
      have cd := fun dd os => (B1.out.on (below_regrown _ dd os)).cell (x * 2) (treC_dist HXT.out)
      have cp := fun dd os => (B1.out.on (below_regrown _ dd os)).cell (x * 2 + 1) (treC_pred HXT.out)
      refine wp_region_quiet_below (by kernel_rfl) (by kernel_rfl) ?_
      repeat (first | go_big_quiet_step (first | with_reducible exact W1.out.at _ _ _ | with_reducible exact T1.out.at _ _ _ | with_reducible exact W2.out.at _ _ _ | with_reducible exact T2.out.at _ _ _ | with_reducible exact DG.out.at _ _ _) | quiet_step (first | with_reducible exact W1.out.at _ _ _ | with_reducible exact T1.out.at _ _ _ | with_reducible exact W2.out.at _ _ _ | with_reducible exact T2.out.at _ _ _ | with_reducible exact DG.out.at _ _ _))
      refine wpQuiet_nil ?_
      intro _ hw'
      obtain ⟨⟨dq, osq⟩, hw''⟩ := hw'
      subst hw''
      clear cd cp
      have hb := below_regrown wr dq osq
      have B1' := Lib.hid (B1.out.on hb)
      have NA' := Lib.hid (NA.out.on hb)
      have HB' := Lib.hid (bel_on HB.out hb)
      clear hb B1 NA HB
      obtain ⟨wn, hwn⟩ : ∃ v, grow (redrawn wr dq) osq = v := ⟨_, rfl⟩
      rw [hwn] at B1' NA' HB' ⊢
      clear hwn e1 e2 e3 e4 z1 z2 z3 z3' z4 x0 x1
      go_wp2_with fail
      go_roundw
      case rel => exact ⟨k + 1, by go_num, HK.out, by rw [HS.out, H4.out], B1'.out, NA'.out, HB'.out⟩
      case measure => exact meas_up n k _ rfl HK.out
    · obtain rfl : k = n := by omega
      have hlt : l.take k = l := List.take_of_length_le (by rw [HNL.out]; exact Nat.le_refl _)
      rw [hlt]
      clear hlt hk
      go_wp2_with fail
      go_ret
      exact ⟨by rw [HX.out]; rfl, HB.out⟩
end
end Go.Proofs.YtelfbkfmngjheaaDoor
