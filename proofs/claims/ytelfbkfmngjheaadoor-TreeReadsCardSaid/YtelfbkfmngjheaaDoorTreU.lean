/- Contracts of strings.Cut at a blank, and of package tree, part U: node. Contracts of package tree, part V: read (a word). -/
import Derived.Test.YtelfbkfmngjheaaDoorTreD
import Derived.Test.YtelfbkfmngjheaaDoorTreR
import Derived.Test.YtelfbkfmngjheaaDoorNodesE
import Derived.Test.YtelfbkfmngjheaaDoorNodesM
import Derived.Lib.Bytealg
import Derived.Test.YtelfbkfmngjheaaDoorTreT
import Derived.Test.YtelfbkfmngjheaaDoorNumW
import Derived.Test.YtelfbkfmngjheaaDoorFrom
import Derived.Lib.QuietBelow
namespace Go.Proofs.YtelfbkfmngjheaaDoor
section
open Go.RowKit Go.Sort TreF
attribute [local go_sem ↓] loadAt_tre storeAt_tre loadAt_ent storeAt_ent

theorem cut_index : ∀ l : List UInt8, (cutW l = none ∧ Lib.indexByte l 32 = -1) ∨ ∃ i : Nat, i < l.length ∧ cutW l = some (l.take i, l.drop (i + 1)) ∧ Lib.indexByte l 32 = (i : Int)
  | [] => .inl ⟨rfl, rfl⟩
  | x :: l => by
    by_cases hx : x = 32
    · refine .inr ⟨0, by simp, by simp [cutW, hx], by simp [Lib.indexByte, hx]⟩
    · have hb : (x == 32) = false := by simpa using hx
      rcases cut_index l with ⟨h1, h2⟩ | ⟨i, h1, h2, h3⟩
      · refine .inl ⟨by simp [cutW, hx, h1], by simp [Lib.indexByte, hb, h2]⟩
      · refine .inr ⟨i + 1, by simp; omega, by simp [cutW, hx, h2], ?_⟩
        have : ¬ ((i : Int) = -1) := by omega
        simp [Lib.indexByte, hb, h3, this]
set_option maxRecDepth 100000 in
theorem byte_any (s : ByteArray) (w : World) : Calls Tryd.prog 70 #[.string s, .int .u8 32] w fun e w' => e = .returned (.int .i64 (Lib.indexByte s.data.toList 32)) ∧ w' = w := by
  go_enter Tryd.func70, Tryd.ntmps70
  go_wp2
  rw [run_callFunc_extern Tryd.func82 (by kernel_rfl) (by kernel_rfl) (by kernel_rfl) (e := Extern.BytealgIndexByte.indexByte) (by kernel_rfl), Lib.run_indexByteString]
  simp only [Result.andThen]
  rw [Oper.upon_value]
  go_wp2
  go_ret
  exact ⟨rfl, rfl⟩
set_option maxRecDepth 100000 in
theorem index_any (s : ByteArray) (w : World) : Calls Tryd.prog 60 #[.string s, .string ⟨#[32]⟩] w fun e w' => e = .returned (.int .i64 (Lib.indexByte s.data.toList 32)) ∧ Below w.heap.size w w' := by
  have BY := Lib.hid (fun w => byte_any s w)
  obtain ⟨b, hb⟩ : ∃ b, ((⟨#[32]⟩ : ByteArray).toList == s.toList) = b := ⟨_, rfl⟩
  have hb2 : ([32] == s.toList) = b := by rw [← hb]; simp only [Lib.toList_data]
  cases b with
  | true =>
    have HZ : Hid (Lib.indexByte s.data.toList 32 = 0) := Lib.hid (by
      rw [← Lib.toList_data, ← eq_of_beq hb2]; rfl)
    go_enter Tryd.func60, Tryd.ntmps60
    go_wp2_with fail
    go_ret
    exact ⟨by rw [HZ.out]; rfl, Below.refl _ _⟩
  | false =>
    go_enter Tryd.func60, Tryd.ntmps60
    go_wp2_with fail
    refine (BY.out _).mono ?_
    rintro e w1 ⟨rfl, rfl⟩
    go_wp2_with fail
    go_ret
    exact ⟨rfl, Below.refl _ _⟩
set_option maxRecDepth 100000 in
theorem icut_none (s : ByteArray) (w : World) (h : Lib.indexByte s.data.toList 32 = -1) :
    Calls Tryd.prog 51 #[.string s, .string ⟨#[32]⟩] w fun e w' => e = .returned (.tuple #[.string s, .string ⟨#[]⟩, .bool false]) ∧ Below w.heap.size w w' := by
  have IX := Lib.hid (fun w => index_any s w)
  rw [h] at IX
  clear h
  go_enter Tryd.func51, Tryd.ntmps51
  go_wp2_with fail
  refine (IX.out _).mono ?_
  rintro e w1 ⟨rfl, hb⟩
  have HB := Lib.hid hb
  clear hb
  go_wp2_with fail
  go_ret3
  exact ⟨rfl, HB.out⟩
set_option maxRecDepth 100000 in
theorem icut_some (s : ByteArray) (i : Nat) (w : World) (hi : i < s.size) (hs : s.size ≤ 1000) (h : Lib.indexByte s.data.toList 32 = (i : Int)) :
    Calls Tryd.prog 51 #[.string s, .string ⟨#[32]⟩] w fun e w' => e = .returned (.tuple #[.string (str (s.data.toList.take i)), .string (str (s.data.toList.drop (i + 1))), .bool true]) ∧ Below w.heap.size w w' := by
  have IX := Lib.hid (fun w => index_any s w)
  rw [h] at IX
  have x1 := str_take s i
  have x2 := str_drop s (i + 1)
  obtain ⟨y1, hy1⟩ : ∃ y, str (s.data.toList.take i) = y := ⟨_, rfl⟩
  obtain ⟨y2, hy2⟩ : ∃ y, str (s.data.toList.drop (i + 1)) = y := ⟨_, rfl⟩
  rw [hy1] at x1 ⊢
  rw [hy2] at x2 ⊢
  have c0 : (0 : Int) ≤ (i : Int) := by omega
  have c1 : (i : Int) ≤ (s.size : Int) := by omega
  have c2 : wrap64 ((i : Int) + 1) = ((i + 1 : Nat) : Int) := by rw [IntWalk.wrap64_in _ (by omega)]; omega
  have c3 : (0 : Int) ≤ ((i + 1 : Nat) : Int) := by omega
  have c4 : ((i + 1 : Nat) : Int) ≤ (s.size : Int) := by omega
  have z1 : (⟨#[32]⟩ : ByteArray).size = 1 := rfl
  clear h hi hs hy1 hy2
  go_enter Tryd.func51, Tryd.ntmps51
  go_wp2_with fail
  refine (IX.out _).mono ?_
  rintro e w1 ⟨rfl, hb⟩
  have HB := Lib.hid hb
  clear hb
  go_wp2_with fail
  go_quiet (fail)
  go_wp2_with fail
  go_ret3
  exact ⟨rfl, below_drewN HB.out _⟩
theorem cut_none (s : ByteArray) (h : cutW s.data.toList = none) : Gives Tryd.prog 41 #[.string s, .string ⟨#[32]⟩] (.tuple #[.string s, .string ⟨#[]⟩, .bool false]) := fun w => by
  have IC : Hid (Gives Tryd.prog 51 #[.string s, .string ⟨#[32]⟩] (.tuple #[.string s, .string ⟨#[]⟩, .bool false])) := Lib.hid (fun w => by
    rcases cut_index s.data.toList with ⟨_, h2⟩ | ⟨i, _, h2, _⟩
    · exact icut_none s w h2
    · rw [h] at h2; cases h2)
  clear h
  go_enter Tryd.func41, Tryd.ntmps41
  go_wp2_with fail
  refine (IC.out _).mono ?_
  rintro e w1 ⟨rfl, hb⟩
  go_wp2_with fail
  go_ret3
  exact ⟨rfl, hb⟩
theorem cut_some (s : ByteArray) (x r : List UInt8) (hs : s.size ≤ 1000) (h : cutW s.data.toList = some (x, r)) : Gives Tryd.prog 41 #[.string s, .string ⟨#[32]⟩] (.tuple #[.string (str x), .string (str r), .bool true]) := fun w => by
  have IC : Hid (Gives Tryd.prog 51 #[.string s, .string ⟨#[32]⟩] (.tuple #[.string (str x), .string (str r), .bool true])) := Lib.hid (fun w => by
    rcases cut_index s.data.toList with ⟨h1, _⟩ | ⟨i, h1, h2, h3⟩
    · rw [h] at h1; cases h1
    · rw [h] at h2
      cases h2
      exact icut_some s i w (by rw [size_list] at h1; exact h1) hs h3)
  obtain ⟨y1, hy1⟩ : ∃ y, str x = y := ⟨_, rfl⟩
  obtain ⟨y2, hy2⟩ : ∃ y, str r = y := ⟨_, rfl⟩
  rw [hy1, hy2] at IC ⊢
  clear h hs hy1 hy2
  go_enter Tryd.func41, Tryd.ntmps41
  go_wp2_with fail
  refine (IC.out _).mono ?_
  rintro e w1 ⟨rfl, hb⟩
  go_wp2_with fail
  go_ret3
  exact ⟨rfl, hb⟩
theorem tnode_any (s : ByteArray) : Gives Tryd.prog 53 #[.string s] (.int .i64 (nodeL s.data.toList)) := fun w => by
  have PA : Hid (Gives Tryd.prog 63 #[.string s] (.tuple #[.int .i64 (NodesF.parseF s.data.toList).1, .int .i64 (NodesF.parseF s.data.toList).2])) := Lib.hid (fun w => parse_any s w)
  have LO : Hid (∀ w, Calls Tryd.prog 31 #[.int .i64 (NodesF.parseF s.data.toList).1] w fun e w' => e = .returned (.int .i64 (nodeL s.data.toList)) ∧ w = w') := Lib.hid (fun w => low_any _ w)
  obtain ⟨a, ha⟩ : ∃ a, (NodesF.parseF s.data.toList).1 = a := ⟨_, rfl⟩
  obtain ⟨b, hb⟩ : ∃ b, (NodesF.parseF s.data.toList).2 = b := ⟨_, rfl⟩
  obtain ⟨n, hn⟩ : ∃ n, nodeL s.data.toList = n := ⟨_, rfl⟩
  rw [ha, hb] at PA
  rw [ha, hn] at LO
  rw [hn]
  clear ha hb hn
  go_enter Tryd.func53, Tryd.ntmps53
  go_wp2_with fail
  refine (PA.out _).mono ?_
  rintro e w1 ⟨rfl, hb⟩
  go_wp2_with fail
  refine (LO.out _).mono ?_
  rintro e w2 ⟨rfl, rfl⟩
  go_wp2_with fail
  go_ret
  exact ⟨rfl, hb⟩
end
section
open Go.RowKit Go.Sort TreF NumF
attribute [local go_sem ↓] loadAt_tre storeAt_tre loadAt_ent storeAt_ent

namespace TreF
theorem word_mid (d : Nat) (q : Int) (k : Nat) : midL (wordE (d, q) k) = Lib.decDigits d := by
  have hlen : (wordE (d, q) k).length = (Lib.decDigits d).length + 2 := by simp [wordE]
  unfold midL
  rw [hlen, Nat.add_sub_cancel]
  simp [wordE]
/-- What is no number is no distance of an entry, whatever it is taken for. -/
theorem readN_none (t : Tr) (w : List UInt8) (d : Nat) (hd : d < 4294967296) (h : numO (midL w) = none) : readN t w d = t := by
  unfold readN
  split
  · rfl
  · rename_i h1
    split
    · rename_i h2
      exfalso
      rcases node_is (w.take 1) with hj | ⟨a, hj, ha⟩
      · rw [hj] at h1
        exact absurd (high_ge t) h1
      · rw [hj, put_ok _ _ ha] at h2
        by_cases hf : d = farN
        · rw [text_none a ha _ hf] at h2
          exact absurd h2.symm (by simp)
        · rw [text_one a ha _ hf, piece_word] at h2
          have h3 := List.append_cancel_right h2
          rw [← h3, word_mid, num_of d hd] at h
          cases h
    · rfl
end TreF
theorem str_mid (s : ByteArray) (a b : Nat) : s.extract a b = str ((s.data.toList.drop a).take (b - a)) := by
  apply ByteArray.ext
  apply Array.ext'
  rw [ByteArray.data_extract]
  simp only [str, Array.toList_extract, List.extract_eq_take_drop]
theorem rd_new (w : World) (t : Tr) :
    Blk ((w.alloc (.cells (treC t).toArray 26)).alloc (.cells #[.int .u32 0, .int .i64 0, .int .u32 0, .int .i64 0, .int .u32 0, .int .i64 0, .int .u32 0, .int .i64 0, .int .u32 0, .int .i64 0, .int .u32 0, .int .i64 0, .int .u32 0, .int .i64 0, .int .u32 0, .int .i64 0, .int .u32 0, .int .i64 0, .int .u32 0, .int .i64 0, .int .u32 0, .int .i64 0, .int .u32 0, .int .i64 0, .int .u32 0, .int .i64 0, .int .u32 0, .int .i64 0, .int .u32 0, .int .i64 0, .int .u32 0, .int .i64 0] 26)) w.heap.size (treC t) ∧
    Blk ((w.alloc (.cells (treC t).toArray 26)).alloc (.cells #[.int .u32 0, .int .i64 0, .int .u32 0, .int .i64 0, .int .u32 0, .int .i64 0, .int .u32 0, .int .i64 0, .int .u32 0, .int .i64 0, .int .u32 0, .int .i64 0, .int .u32 0, .int .i64 0, .int .u32 0, .int .i64 0, .int .u32 0, .int .i64 0, .int .u32 0, .int .i64 0, .int .u32 0, .int .i64 0, .int .u32 0, .int .i64 0, .int .u32 0, .int .i64 0, .int .u32 0, .int .i64 0, .int .u32 0, .int .i64 0, .int .u32 0, .int .i64 0] 26)) (w.heap.size + 1) (treC zero16) ∧
    Below w.heap.size w ((w.alloc (.cells (treC t).toArray 26)).alloc (.cells #[.int .u32 0, .int .i64 0, .int .u32 0, .int .i64 0, .int .u32 0, .int .i64 0, .int .u32 0, .int .i64 0, .int .u32 0, .int .i64 0, .int .u32 0, .int .i64 0, .int .u32 0, .int .i64 0, .int .u32 0, .int .i64 0, .int .u32 0, .int .i64 0, .int .u32 0, .int .i64 0, .int .u32 0, .int .i64 0, .int .u32 0, .int .i64 0, .int .u32 0, .int .i64 0, .int .u32 0, .int .i64 0, .int .u32 0, .int .i64 0, .int .u32 0, .int .i64 0] 26)) :=
  ⟨(Blk.new w (treC t) _).next _, tzero_newAt (by simp only [World.size_alloc]), ((Below.refl _ w).alloc (Nat.le_refl _) _).alloc (by simp only [World.size_alloc]; omega) _⟩
set_option maxRecDepth 100000 in
theorem tread_short (t : Tr) (s : ByteArray) (w : World) (ht : Tre t) (hs : s.size < 3) :
    Calls Tryd.prog 42 #[.agg (treC t).toArray, .string s] w fun e w' => e = .returned (.agg (treC (readT t s.data.toList)).toArray) ∧ Below w.heap.size w w' := by
  rw [show readT t s.data.toList = t from by unfold readT; rw [if_pos (by rw [size_list]; exact hs)]]
  have d1 : decide ((s.size : Int) < 3) = true := decide_eq_true (by omega)
  have HT := Lib.hid ht
  clear hs ht
  go_enter Tryd.func42, Tryd.ntmps42
  go_upto_region 1 with fail
  obtain ⟨B0, B1, BB⟩ := rd_new w t
  obtain ⟨wr, hwa⟩ : ∃ v, (w.alloc (.cells (treC t).toArray 26)).alloc (.cells #[.int .u32 0, .int .i64 0, .int .u32 0, .int .i64 0, .int .u32 0, .int .i64 0, .int .u32 0, .int .i64 0, .int .u32 0, .int .i64 0, .int .u32 0, .int .i64 0, .int .u32 0, .int .i64 0, .int .u32 0, .int .i64 0, .int .u32 0, .int .i64 0, .int .u32 0, .int .i64 0, .int .u32 0, .int .i64 0, .int .u32 0, .int .i64 0, .int .u32 0, .int .i64 0, .int .u32 0, .int .i64 0, .int .u32 0, .int .i64 0, .int .u32 0, .int .i64 0] 26) = v := ⟨_, rfl⟩
  rw [hwa] at B0 B1 BB ⊢
  clear hwa
  have l0 := tre_load B0 HT.out
  have s0 := tre_store B1 Tre.zero HT.out
  have hv := tre_var (B1.put (treC t)) HT.out
  have HB := below_setRow BB (show w.heap.size ≤ w.heap.size + 1 by omega) (treC t).toArray
  clear B0 B1 BB
  go_wp2_with fail
  exact bodyPost_ret (v := .agg (treC t).toArray) (by simp [results, Tryd.results42, asAddr, hv]) rfl ⟨rfl, HB⟩
/-- What ParseUint answers is an entry's distance, or none. -/
theorem dist_any (t : Tr) (W : List UInt8) (h3 : 3 ≤ W.length) (hs : W.length ≤ 1000) (w : World) (hE : Errs w) :
    Calls Tryd.prog 52 #[.string (str (midL W)), .int .i64 10, .int .i64 32] w fun e w' => ∃ (v : Int) (er : Value) (d : Nat), e = .returned (.tuple #[.int .u64 v, er]) ∧ IntKind.u32.wrap v = (d : Int) ∧ d < 4294967296 ∧ readN t W d = readT t W ∧ Below w.heap.size w w' := by
  have hlen : (str (midL W)).size ≤ 1000 := by rw [str_size]; simp [midL]; omega
  cases hn : numO (midL W) with
  | some u =>
    refine (num_some (str (midL W)) u w hlen (by rw [str_list]; exact hn)).mono ?_
    rintro e w' ⟨rfl, hb⟩
    have hu := num_lt hn
    refine ⟨(u : Int), _, u, rfl, by rw [IntKind.wrap_u32]; omega, hu, ?_, hb⟩
    unfold readT
    rw [if_neg (by omega), hn]
  | none =>
    refine (num_none (str (midL W)) w hlen hE (by rw [str_list]; exact hn)).mono ?_
    rintro e w' ⟨v, ty, pv, rfl, hb⟩
    have h0 : 0 ≤ IntKind.u32.wrap v ∧ IntKind.u32.wrap v < 4294967296 := by rw [IntKind.wrap_u32]; omega
    refine ⟨v, _, (IntKind.u32.wrap v).toNat, rfl, by omega, by omega, ?_, hb⟩
    rw [readN_none t W _ (by omega) hn]
    unfold readT
    rw [if_neg (by omega), hn]

set_option maxRecDepth 100000 in
set_option maxHeartbeats 4000000 in
theorem tread_long (t : Tr) (s : ByteArray) (w : World) (ht : Tre t) (h3 : 3 ≤ s.size) (hs : s.size ≤ 1000) (hT : Tab10 w) (hE : Errs w) :
    Calls Tryd.prog 42 #[.agg (treC t).toArray, .string s] w fun e w' => e = .returned (.agg (treC (readT t s.data.toList)).toArray) ∧ Below w.heap.size w w' := by
  have HT := Lib.hid ht
  have TAB := Lib.hid hT
  have HE := Lib.hid hE
  obtain ⟨W, hW⟩ : ∃ W, s.data.toList = W := ⟨_, rfl⟩
  have hWl : W.length = s.size := by rw [← hW, size_list]
  obtain ⟨m, hm⟩ : ∃ m, s.size = m + 1 := ⟨s.size - 1, by omega⟩
  have PU := Lib.hid (fun w hE => dist_any t W (by omega) (by omega) w hE)
  have x1 := str_mid s 1 m
  rw [hW, show (W.drop 1).take (m - 1) = midL W by unfold midL; rw [hWl, hm]; rfl] at x1
  have x2 := str_take s 1
  rw [hW] at x2
  have x3 := str_drop s m
  rw [hW] at x3
  have N1 : Hid (Gives Tryd.prog 53 #[.string (str (W.take 1))] (.int .i64 (nodeL (W.take 1)))) := Lib.hid (by have h := tnode_any (str (W.take 1)); rw [str_list] at h; exact h)
  have N2 : Hid (Gives Tryd.prog 53 #[.string (str (W.drop m))] (.int .i64 (nodeL (W.drop m)))) := Lib.hid (by have h := tnode_any (str (W.drop m)); rw [str_list] at h; exact h)
  have HQ := Lib.hid (node_ok (W.drop m))
  have HRN : Hid (∀ d, readN t W d = if nodeL (W.take 1) ≤ highV (setR t) then t else if textT (putT far16 (nodeL (W.take 1)) (d, nodeL (W.drop m))) = W ++ [32] then putT t (nodeL (W.take 1)) (d, nodeL (W.drop m)) else t) := Lib.hid (fun d => by
    unfold readN
    rw [hWl, show s.size - 1 = m by omega]
    rfl)
  obtain ⟨y1, hy1⟩ : ∃ y, str (midL W) = y := ⟨_, rfl⟩
  obtain ⟨y2, hy2⟩ : ∃ y, str (W.take 1) = y := ⟨_, rfl⟩
  obtain ⟨y3, hy3⟩ : ∃ y, str (W.drop m) = y := ⟨_, rfl⟩
  obtain ⟨j, hj⟩ : ∃ j, nodeL (W.take 1) = j := ⟨_, rfl⟩
  obtain ⟨q, hq⟩ : ∃ q, nodeL (W.drop m) = q := ⟨_, rfl⟩
  rw [hy1] at x1 PU
  rw [hy2] at x2 N1
  rw [hy3] at x3 N2
  rw [hj] at N1 HRN
  rw [hq] at N2 HQ HRN
  have d1 : decide ((s.size : Int) < 3) = false := decide_eq_false (by omega)
  have e1 : wrap64 ((s.size : Int) - 1) = (m : Int) := by rw [IntWalk.wrap64_in _ (by omega)]; omega
  have c0 : (0 : Int) ≤ (m : Int) := by omega
  have c1 : (1 : Int) ≤ (m : Int) := by omega
  have c2 : (m : Int) ≤ (s.size : Int) := by omega
  have c3 : (1 : Int) ≤ (s.size : Int) := by omega
  have HS2 : Hid (s ++ (⟨#[32]⟩ : ByteArray) = str (W ++ [32])) := Lib.hid (by rw [← hW, ← str_append, str_of]; rfl)
  have HZ : Hid (s.size ≤ 1000) := Lib.hid hs
  obtain ⟨R, hR⟩ : ∃ R, readT t W = R := ⟨_, rfl⟩
  have HRT := Lib.hid hR
  rw [hW, hR]
  clear ht hT hE hW hWl hm hy1 hy2 hy3 hj hq h3 hs hR
  go_enter Tryd.func42, Tryd.ntmps42
  go_upto_region 1 with fail
  obtain ⟨B0, B1, BB⟩ := rd_new w t
  obtain ⟨wr, hwa⟩ : ∃ v, (w.alloc (.cells (treC t).toArray 26)).alloc (.cells #[.int .u32 0, .int .i64 0, .int .u32 0, .int .i64 0, .int .u32 0, .int .i64 0, .int .u32 0, .int .i64 0, .int .u32 0, .int .i64 0, .int .u32 0, .int .i64 0, .int .u32 0, .int .i64 0, .int .u32 0, .int .i64 0, .int .u32 0, .int .i64 0, .int .u32 0, .int .i64 0, .int .u32 0, .int .i64 0, .int .u32 0, .int .i64 0, .int .u32 0, .int .i64 0, .int .u32 0, .int .i64 0, .int .u32 0, .int .i64 0, .int .u32 0, .int .i64 0] 26) = v := ⟨_, rfl⟩
  rw [hwa] at B0 B1 BB ⊢
  clear hwa
  have K0 := Lib.hid B0
  have K1 := Lib.hid B1
  have HB := Lib.hid BB
  clear B0 B1 BB
  go_wp2_with fail
  refine (PU.out _ (HE.out.on HB.out)).mono ?_
  rintro e w1 ⟨v, er, d, rfl, hv, hd, hrd, hb⟩
  have HD := Lib.hid hd
  have HRD := Lib.hid hrd
  clear hd hrd
  have K0' := Lib.hid (K0.out.on hb)
  have K1' := Lib.hid (K1.out.on hb)
  have HB' := Lib.hid (bel_on HB.out hb)
  clear K0 K1 HB hb
  have K0 := K0'
  have K1 := K1'
  have HB := HB'
  clear K0' K1' HB'
  go_wp2_with fail
  refine (N1.out _).mono ?_
  rintro e w2 ⟨rfl, hb⟩
  have K0' := Lib.hid (K0.out.on hb)
  have K1' := Lib.hid (K1.out.on hb)
  have HB' := Lib.hid (bel_on HB.out hb)
  clear K0 K1 HB hb
  have K0 := K0'
  have K1 := K1'
  have HB := HB'
  clear K0' K1' HB'
  go_wp2_with fail
  refine (N2.out _).mono ?_
  rintro e w3 ⟨rfl, hb⟩
  have K0' := Lib.hid (K0.out.on hb)
  have K1' := Lib.hid (K1.out.on hb)
  have HB' := Lib.hid (bel_on HB.out hb)
  clear K0 K1 HB hb
  have K0 := K0'
  have K1 := K1'
  have HB := HB'
  clear K0' K1' HB'
  have hst := new_ent (w := w3) (d := (d : Int)) (p := q) rfl
  go_upto_region 7 with fail
  clear hst
  have KE' := Lib.hid (Blk.new w3 [.int .u32 (d : Int), .int .i64 q] 24)
  have K0' := Lib.hid (K0.out.next (.cells #[.int .u32 (d : Int), .int .i64 q] 24))
  have K1' := Lib.hid (K1.out.next (.cells #[.int .u32 (d : Int), .int .i64 q] 24))
  have HB' := Lib.hid (HB.out.alloc HB.out.size (.cells #[.int .u32 (d : Int), .int .i64 q] 24))
  clear K0 K1 HB
  obtain ⟨wz, hwz⟩ : ∃ v, w3.alloc (.cells #[.int .u32 (d : Int), .int .i64 q] 24) = v := ⟨_, rfl⟩
  rw [hwz] at KE' K0' K1' HB' ⊢
  obtain ⟨g, hg⟩ : ∃ g, w3.heap.size = g := ⟨_, rfl⟩
  rw [hg] at KE' ⊢
  clear hg hwz hv
  have K0 := K0'
  have K1 := K1'
  have KE := KE'
  have HB := HB'
  clear K0' K1' KE' HB'
  have HRR : Hid (R = if j ≤ highV (setR t) then t else if textT (putT far16 j (d, q)) = W ++ [32] then putT t j (d, q) else t) := Lib.hid (by rw [← HRT.out, ← HRD.out, HRN.out])
  have HOK := Lib.hid (ok_node HD.out HQ.out)
  have RE := Lib.hid (treached_any t HT.out)
  have HI : Hid (Gives Tryd.prog 54 #[.int .i64 (setR t)] (.int .i64 (highV (setR t)))) := Lib.hid (fun w => (high_any (setR t) w).mono fun _ _ ⟨h1, h2⟩ => ⟨h1, h2 ▸ Below.refl _ _⟩)
  obtain ⟨hh, hhh⟩ : ∃ h, highV (setR t) = h := ⟨_, rfl⟩
  rw [hhh] at HRR HI
  obtain ⟨sr, hsr⟩ : ∃ h, setR t = h := ⟨_, rfl⟩
  rw [hsr] at RE HI
  clear hhh hsr HRN PU N1 N2 x1 x2 x3 c0 c1 c2 c3 d1 e1 HRD HRT HQ
  obtain ⟨A, hA⟩ : ∃ A, decide (j ≤ hh) = A := ⟨_, rfl⟩
  cases A with
  | true =>
    have HR : Hid (R = t) := Lib.hid (by rw [HRR.out, if_pos (of_decide_eq_true hA)])
    have l0 := fun dd os => tre_load (K0.out.on (below_regrown _ dd os)) HT.out
    refine wp_region_quiet_below (by kernel_rfl) (by kernel_rfl) ?_
    repeat (first | go_big_quiet_step (first | with_reducible exact RE.out.at _ _ _ | with_reducible exact HI.out.at _ _ _) | quiet_step (first | with_reducible exact RE.out.at _ _ _ | with_reducible exact HI.out.at _ _ _))
    refine wpQuiet_nil ?_
    intro _ hw'
    obtain ⟨⟨dq, osq⟩, hw''⟩ := hw'
    subst hw''
    clear l0
    have hb := below_regrown wz dq osq
    have K0' := Lib.hid (K0.out.on hb)
    have K1' := Lib.hid (K1.out.on hb)
    have KE' := Lib.hid (KE.out.on hb)
    have HB' := Lib.hid (bel_on HB.out hb)
    clear K0 K1 KE HB hb
    have K0 := K0'
    have K1 := K1'
    have KE := KE'
    have HB := HB'
    clear K0' K1' KE' HB'
    obtain ⟨wn, hwn⟩ : ∃ v, grow (redrawn wz dq) osq = v := ⟨_, rfl⟩
    rw [hwn] at K0 K1 KE HB ⊢
    clear hwn
    have l0 := tre_load K0.out HT.out
    have s0 := tre_store K1.out Tre.zero HT.out
    have hv := tre_var (K1.out.put (treC t)) HT.out
    have HB' := below_setRow HB.out (show w.heap.size ≤ w.heap.size + 1 by omega) (treC t).toArray
    go_wp2_with fail
    rw [HR.out]
    exact bodyPost_ret (v := .agg (treC t).toArray) (by simp [results, Tryd.results42, asAddr, hv]) rfl ⟨rfl, HB'⟩
  | false =>
    rw [if_neg (of_decide_eq_false hA)] at HRR
    have NW : Hid (Gives Tryd.prog 6 #[.int .i64 (-1)] (.agg (treC far16).toArray)) := Lib.hid (by
      have h := tnew_any (-1)
      rw [show newT (-1) = far16 from put_no _ _ (by decide)] at h
      exact h)
    have PF := Lib.hid (tput_any far16 j d q Tre.far HOK.out)
    have HF := Lib.hid (Tre.far.put j HOK.out)
    have PT := Lib.hid (tput_any t j d q HT.out HOK.out)
    have HP := Lib.hid (HT.out.put j HOK.out)
    obtain ⟨u, hu⟩ : ∃ u, putT far16 j (d, q) = u := ⟨_, rfl⟩
    obtain ⟨n, hn⟩ : ∃ n, putT t j (d, q) = n := ⟨_, rfl⟩
    rw [hu] at PF HF HRR
    rw [hn] at PT HP HRR
    have TX : Hid (From wz Tryd.prog 16 #[.agg (treC u).toArray] (.string (str (textT u)))) := Lib.hid (fun w hb => ttext_any u HF.out w (fun _ _ _ => (TAB.out.on HB.out).on hb))
    have HTL : Hid ((str (textT u)).toList = textT u ∧ (str (W ++ [32])).toList = W ++ [32]) := Lib.hid ⟨by rw [Lib.toList_data, str_list], by rw [Lib.toList_data, str_list]⟩
    have cat := HS2.out
    obtain ⟨x, hx⟩ : ∃ x, str (textT u) = x := ⟨_, rfl⟩
    obtain ⟨z, hz⟩ : ∃ z, str (W ++ [32]) = z := ⟨_, rfl⟩
    rw [hx] at TX HTL
    rw [hz] at cat HTL
    have z1 : ¬ 9223372036854775807 < s.size + 1 := by have := HZ.out; omega
    have z2 : ¬ 9223372036854775807 < s.size + (⟨#[32]⟩ : ByteArray).size := by have := HZ.out; rw [show (⟨#[32]⟩ : ByteArray).size = 1 from rfl]; omega
    obtain ⟨c, hc⟩ : ∃ c, (x.toList == z.toList) = c := ⟨_, rfl⟩
    have hc2 : (x.toList != z.toList) = !c := by rw [← hc]; rfl
    clear hu hn hx hz
    cases c with
    | true =>
      have HR : Hid (R = n) := Lib.hid (by
        have h := eq_of_beq hc
        rw [HTL.out.1, HTL.out.2] at h
        rw [HRR.out, if_pos h])
      have l0 := fun dd os => tre_load (K0.out.on (below_regrown _ dd os)) HT.out
      have l1 := fun dd os => one_load (KE.out.on (below_regrown _ dd os))
      refine wp_region_quiet_below (by kernel_rfl) (by kernel_rfl) ?_
      repeat (first | go_big_quiet_step (first | with_reducible exact RE.out.at _ _ _ | with_reducible exact HI.out.at _ _ _ | with_reducible exact NW.out.at _ _ _ | with_reducible exact PF.out.at _ _ _ | with_reducible exact TX.out.at _ _) | quiet_step (first | with_reducible exact RE.out.at _ _ _ | with_reducible exact HI.out.at _ _ _ | with_reducible exact NW.out.at _ _ _ | with_reducible exact PF.out.at _ _ _ | with_reducible exact TX.out.at _ _))
      refine wpQuiet_nil ?_
      intro _ hw'
      obtain ⟨⟨dq, osq⟩, hw''⟩ := hw'
      subst hw''
      clear l0 l1 cat z1 z2 hc hc2
      have hb := below_regrown wz dq osq
      have K0' := Lib.hid (K0.out.on hb)
      have K1' := Lib.hid (K1.out.on hb)
      have KE' := Lib.hid (KE.out.on hb)
      have HB' := Lib.hid (bel_on HB.out hb)
      clear K0 K1 KE HB hb
      have K0 := K0'
      have K1 := K1'
      have KE := KE'
      have HB := HB'
      clear K0' K1' KE' HB'
      obtain ⟨wn, hwn⟩ : ∃ v, grow (redrawn wz dq) osq = v := ⟨_, rfl⟩
      rw [hwn] at K0 K1 KE HB ⊢
      clear hwn
      have l0 := tre_load K0.out HT.out
      have l1 := one_load KE.out
      go_wp2_with fail
      refine (PT.out _).mono ?_
      rintro e w5 ⟨rfl, hb⟩
      clear l0 l1
      have C1 := K1.out.on hb
      have s0 := tre_store C1 Tre.zero HP.out
      have hv := tre_var (C1.put (treC n)) HP.out
      have HB' := below_setRow (bel_on HB.out hb) (show w.heap.size ≤ w.heap.size + 1 by omega) (treC n).toArray
      clear C1 hb
      go_wp2_with fail
      rw [HR.out]
      exact bodyPost_ret (v := .agg (treC n).toArray) (by simp [results, Tryd.results42, asAddr, hv]) rfl ⟨rfl, HB'⟩
    | false =>
      have HR : Hid (R = t) := Lib.hid (by
        have h := ne_of_beq_false hc
        rw [HTL.out.1, HTL.out.2] at h
        rw [HRR.out, if_neg h])
      have l0 := fun dd os => tre_load (K0.out.on (below_regrown _ dd os)) HT.out
      have l1 := fun dd os => one_load (KE.out.on (below_regrown _ dd os))
      refine wp_region_quiet_below (by kernel_rfl) (by kernel_rfl) ?_
      repeat (first | go_big_quiet_step (first | with_reducible exact RE.out.at _ _ _ | with_reducible exact HI.out.at _ _ _ | with_reducible exact NW.out.at _ _ _ | with_reducible exact PF.out.at _ _ _ | with_reducible exact TX.out.at _ _) | quiet_step (first | with_reducible exact RE.out.at _ _ _ | with_reducible exact HI.out.at _ _ _ | with_reducible exact NW.out.at _ _ _ | with_reducible exact PF.out.at _ _ _ | with_reducible exact TX.out.at _ _))
      refine wpQuiet_nil ?_
      intro _ hw'
      obtain ⟨⟨dq, osq⟩, hw''⟩ := hw'
      subst hw''
      clear l0 l1 cat z1 z2 hc hc2
      have hb := below_regrown wz dq osq
      have K0' := Lib.hid (K0.out.on hb)
      have K1' := Lib.hid (K1.out.on hb)
      have KE' := Lib.hid (KE.out.on hb)
      have HB' := Lib.hid (bel_on HB.out hb)
      clear K0 K1 KE HB hb
      have K0 := K0'
      have K1 := K1'
      have KE := KE'
      have HB := HB'
      clear K0' K1' KE' HB'
      obtain ⟨wn, hwn⟩ : ∃ v, grow (redrawn wz dq) osq = v := ⟨_, rfl⟩
      rw [hwn] at K0 K1 KE HB ⊢
      clear hwn
      have l0 := tre_load K0.out HT.out
      have s0 := tre_store K1.out Tre.zero HT.out
      have hv := tre_var (K1.out.put (treC t)) HT.out
      have HB' := below_setRow HB.out (show w.heap.size ≤ w.heap.size + 1 by omega) (treC t).toArray
      go_wp2_with fail
      rw [HR.out]
      exact bodyPost_ret (v := .agg (treC t).toArray) (by simp [results, Tryd.results42, asAddr, hv]) rfl ⟨rfl, HB'⟩
theorem tread_any (t : Tr) (s : ByteArray) (w : World) (ht : Tre t) (hs : s.size ≤ 1000) (hT : Tab10 w) (hE : Errs w) :
    Calls Tryd.prog 42 #[.agg (treC t).toArray, .string s] w fun e w' => e = .returned (.agg (treC (readT t s.data.toList)).toArray) ∧ Below w.heap.size w w' := by
  by_cases h : s.size < 3
  · exact tread_short t s w ht h
  · exact tread_long t s w ht (by omega) hs hT hE
end
end Go.Proofs.YtelfbkfmngjheaaDoor
