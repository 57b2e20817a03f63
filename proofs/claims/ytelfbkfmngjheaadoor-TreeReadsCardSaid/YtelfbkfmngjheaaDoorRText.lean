/- The document's own letter, and text of a set; one byte as a text. For any seat that has them. -/
import Derived.Test.YtelfbkfmngjheaaDoorRList
import Derived.Test.YtelfbkfmngjheaaDoorNatAt
import Derived.Test.YtelfbkfmngjheaaDoorBlk
import Derived.Test.YtelfbkfmngjheaaDoorMeas
import Derived.Laws.IdiomStrings
namespace Go.Proofs.YtelfbkfmngjheaaDoor
open Go.RowKit
theorem one_byte (g : Nat) (j : Nat) (w : World) (hj : j < 256) (hk : Blk w g [.int .u8 (j : Int)]) :
    (convert 47 9 (.slice (some ⟨g, 0, none⟩) 1 1)).run Tryd.prog w = .ok (.string (str [UInt8.ofNat j])) w := by
  refine run_convert_bytes_back (P := Tryd.prog) w 47 9 5 ⟨g, 0, none⟩ 1 [UInt8.ofNat j] Tryd.underlying47 Tryd.underlying5 Tryd.underlying9 fun i hi => ?_
  have hi0 : i = 0 := by simpa using hi
  subst hi0
  have hadd : (⟨g, 0, none⟩ : Addr).add 0 = ⟨g, 0, none⟩ := by simp [Addr.add]
  rw [hadd, hk.cell 0 rfl]
  have e : (UInt8.ofNat j).toNat = j := by simp; omega
  show some (Value.int .u8 (j : Int)) = some (.int .u8 ((UInt8.ofNat j).toNat : Int))
  rw [e]

set_option maxRecDepth 100000 in
theorem rletter_any (n : Nat) (w : World) (hn : n < 16) : Calls Tryd.prog 50 #[.int .i64 (n : Int)] w fun e w' => e = .returned (.string (str [NodesF.letF n])) ∧ Below w.heap.size w w' := by
  have e1 : wrap64 (97 + (n : Int)) = ((97 + n : Nat) : Int) := by rw [IntWalk.wrap64_in _ (by omega)]; omega
  have e2 : IntKind.u8.wrap ((97 + n : Nat) : Int) = ((97 + n : Nat) : Int) := by rw [IntKind.wrap_u8]; omega
  have HL : Hid (NodesF.letF n = UInt8.ofNat (97 + n)) := Lib.hid rfl
  obtain ⟨j, hj⟩ : ∃ j, 97 + n = j := ⟨_, rfl⟩
  rw [hj] at e1 e2 HL
  have hc := one_byte w.heap.size j (w.alloc (.cells #[.int .u8 (j : Int)] 5)) (by omega) (Blk.new w [.int .u8 (j : Int)] 5)
  have HB : Hid (Below w.heap.size w (w.alloc (.cells #[.int .u8 (j : Int)] 5))) := Lib.hid ((Below.refl _ _).alloc (Nat.le_refl _) _)
  clear hn hj
  go_enter Tryd.func50, Tryd.ntmps50
  go_wp2_with fail
  go_ret
  exact ⟨by rw [HL.out]; rfl, HB.out⟩

set_option maxHeartbeats 1000000 in
theorem rntext_any (s : Int) (w : World) : Calls Tryd.prog 39 #[.int .i64 s] w fun e w' => e = .returned (.string (str (NodesF.textL (NodesF.lowN s)))) ∧ Below w.heap.size w w' := by
  have UP := Lib.hid (fun w => rlist_any s w)
  have HX : Hid (NodesF.textL (NodesF.lowN s) = if NodesF.nodesN (NodesF.lowN s) 16 = [] then [46] else (NodesF.nodesN (NodesF.lowN s) 16).map NodesF.letF) := Lib.hid rfl
  have HM : Hid ((NodesF.nodesN (NodesF.lowN s) 16).length ≤ 16) := Lib.hid (NodesF.nodes_len _ _)
  have HN : Hid (∀ x ∈ NodesF.nodesN (NodesF.lowN s) 16, x < 16) := Lib.hid (fun x hx => (NodesF.nodes_mem _ 16 (Nat.le_refl _) x hx).2.1)
  obtain ⟨l, hl⟩ : ∃ l, NodesF.nodesN (NodesF.lowN s) 16 = l := ⟨_, rfl⟩
  rw [hl] at UP HX HM HN
  clear hl
  go_enter Tryd.func39, Tryd.ntmps39
  go_wp2_with fail
  refine (UP.out _).mono ?_
  rintro e w1 hown
  obtain ⟨a, cp, rfl, hna, hb⟩ := nats_slice hown
  have KB := Lib.hid hb
  have KN := Lib.hid hna
  obtain ⟨n, hn⟩ : ∃ n, l.length = n := ⟨_, rfl⟩
  rw [hn] at HM ⊢
  have HNL := Lib.hid hn
  have hn64 : n ≤ 16 := HM.out
  clear hown hna hb hn
  go_wp2_with fail
  go_loopw [9, 3] (fun v t wr => ∃ k : Nat, v = .int .i64 (k : Int) ∧ k ≤ n ∧ t = .string (str ((l.take k).map NodesF.letF)) ∧ NatAt wr a w.heap.size l ∧ Below w.heap.size w wr) (fun v _ _ => (n - intOf v).toNat)
  case atStart => exact ⟨0, rfl, Nat.zero_le _, rfl, KN.out, KB.out⟩
  case round =>
    obtain ⟨k, rfl, hk, rfl, na, kb⟩ := hrel
    have HB := Lib.hid kb
    have NA := Lib.hid na
    clear kb na
    by_cases hkn : k < n
    · obtain ⟨x, hx⟩ : ∃ x, l[k]? = some x := ⟨_, List.getElem?_eq_getElem (by have := HNL.out; omega)⟩
      obtain ⟨g, rfl, hg, hcell⟩ := NA.out.read hx
      have LT := Lib.hid (fun w => rletter_any x w (HN.out x (List.mem_of_getElem? hx)))
      have HS : Hid (((l.take (k + 1)).map NodesF.letF) = (l.take k).map NodesF.letF ++ [NodesF.letF x]) := Lib.hid (by rw [List.take_add_one, hx]; simp)
      have hlen : ((l.take k).map NodesF.letF).length ≤ 16 := by rw [List.length_map, List.length_take]; omega
      obtain ⟨p, hp⟩ : ∃ p, (l.take k).map NodesF.letF = p := ⟨_, rfl⟩
      rw [hp] at HS hlen ⊢
      obtain ⟨b, hb⟩ : ∃ b, NodesF.letF x = b := ⟨_, rfl⟩
      rw [hb] at LT HS
      have hcat := str_append p [b]
      have hsz : ¬ 9223372036854775807 < (str p).size + (str [b]).size := by
        rw [str_size, str_size, List.length_cons, List.length_nil]; omega
      have hkn' : (k : Int) < (n : Int) := by omega
      have HK := Lib.hid hkn
      have e1 : wrap64 ((k : Int) + 1) = (k : Int) + 1 := IntWalk.wrap64_in _ (by omega)
      clear hx hg hlen hp hb hkn hk
      go_wp2_with fail
      refine (LT.out _).mono ?_
      rintro e wn ⟨rfl, hb⟩
      have NA' := Lib.hid (NA.out.on hb)
      have HB' := Lib.hid (bel_on HB.out hb)
      clear hcell hb
      go_wp2_with fail
      go_roundw
      case rel => exact ⟨k + 1, by go_num, HK.out, by rw [HS.out], NA'.out, HB'.out⟩
      case measure => exact meas_up n k _ rfl HK.out
    · obtain rfl : k = n := by omega
      have hlt : l.take k = l := List.take_of_length_le (by rw [HNL.out]; exact Nat.le_refl _)
      rw [hlt]
      clear hlt hk
      obtain ⟨z, hz⟩ : ∃ z, str (l.map NodesF.letF) = z := ⟨_, rfl⟩
      have hzl : z.toList = l.map NodesF.letF := by rw [Lib.toList_data, ← hz, str_list]
      rw [hz]
      cases l with
      | nil =>
        have h0 : z.toList.isEmpty = true := by rw [hzl]; rfl
        have h1 : (z.toList == []) = true := by rw [hzl]; rfl
        have HZ := Lib.hid hz
        clear hzl hz
        go_wp2_with fail
        go_ret
        exact ⟨by rw [HX.out]; rfl, HB.out⟩
      | cons y l =>
        have h0 : z.toList.isEmpty = false := by rw [hzl]; rfl
        have h1 : (z.toList == []) = false := by rw [hzl]; rfl
        have HZ := Lib.hid hz
        clear hzl hz
        go_wp2_with fail
        go_ret
        exact ⟨by rw [HX.out, if_neg (by simp), HZ.out]; rfl, HB.out⟩
end Go.Proofs.YtelfbkfmngjheaaDoor
