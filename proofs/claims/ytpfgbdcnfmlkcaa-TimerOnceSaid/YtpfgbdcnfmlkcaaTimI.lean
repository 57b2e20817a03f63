/- Contracts of package timer, part I: the example that the statements ask (awake). -/
import Derived.Test.YtpfgbdcnfmlkcaaTimG
import Derived.Test.YtpfgbdcnfmlkcaaTimE
namespace Go.Proofs.Ytpfgbdcnfmlkcaa
open Go.RowKit Go.Sort

theorem own_lit {w : World} {B : Nat} {v : Value} {L : List Alm} (h : alS.Own w B v L) (hn : 0 < L.length) : ∃ g c, v = .slice (some ⟨g, 0, none⟩) L.length c ∧ alS.At w (some ⟨g, 0, none⟩) L.length c L := by
  obtain ⟨a, c, rfl, hat, _⟩ := h.shape
  rcases h.2 with ⟨_, h0⟩ | ⟨g, cap, cur, hv, _⟩
  · omega
  · simp only [Value.slice.injEq] at hv
    obtain ⟨rfl, _, rfl⟩ := hv
    exact ⟨g, _, rfl, hat⟩
theorem al_lit {w : World} {g n c : Nat} {L : List Alm} (h : alS.At w (some ⟨g, 0, none⟩) n c L) (i j : Nat) {x : Alm} (hx : L[i]? = some x) {v : Value} (hv : x.cells[j]? = some v) : w.cell? ⟨g, i * 3 + j, none⟩ = some v := by
  obtain ⟨b, hb, hf'⟩ := h.2.2.2.2 i x hx
  obtain rfl := Option.some.inj hb
  have hf : ∀ k v, x.cells[k]? = some v → w.cell? (((⟨g, 0, none⟩ : Addr).add (i * 3)).add k) = some v := hf'
  have := hf j v hv
  rwa [Rec.add_lit, show (⟨g, i * 3, none⟩ : Addr).add j = ⟨g, i * 3 + j, none⟩ by unfold Addr.add; split <;> simp_all] at this

set_option maxRecDepth 100000 in
set_option maxHeartbeats 2000000 in
theorem tawake_any : Gives Try.prog 8 #[] (.bool true) := by
  intro w
  have EQ : ∀ w, (binOp .eql 23 (.agg #[.int .i64 1, .int .i64 5, .int .i64 0] : Value) (.agg #[.int .i64 1, .int .i64 5, .int .i64 0] : Value)).run Try.prog w = .ok (.bool true) w := fun w => run_al_eq ⟨1, 5, 0⟩ ⟨1, 5, 0⟩ w
  have EH := Lib.hid EQ
  clear EQ
  go_enter Try.func8, Try.ntmps8
  go_wp2_with fail
  refine (set_ok ⟨2, 1, 2⟩ none 0 0 [] _ (Shp.At.nil _) (by omega) (by decide)).mono ?_
  rintro e w1 ⟨v1, rfl, ho, hb⟩
  have e1 : setL [] ⟨2, 1, 2⟩ = [⟨2, 1, 2⟩] := by decide
  rw [e1] at ho
  obtain ⟨g1, c1, rfl, hat⟩ := own_lit ho (by decide)
  have TL := Lib.hid hat
  have HH := Lib.hid hb
  clear ho hat hb e1
  go_wp2_with fail
  refine (set_ok ⟨1, 5, 1⟩ _ 1 c1 [⟨2, 1, 2⟩] _ TL.out (by omega) (by decide)).mono ?_
  rintro e w2 ⟨v2, rfl, ho, hb⟩
  have e1 : setL [⟨2, 1, 2⟩] ⟨1, 5, 1⟩ = [⟨1, 5, 1⟩, ⟨2, 1, 2⟩] := by decide
  rw [e1] at ho
  obtain ⟨g2, c2, rfl, hat⟩ := own_lit ho (by decide)
  have TL2 := Lib.hid hat
  have HH2 := Lib.hid (bel_on HH.out hb)
  clear ho hat hb e1 TL HH
  go_wp2_with fail
  refine (set_ok ⟨2, 1, 3⟩ _ 2 c2 [⟨1, 5, 1⟩, ⟨2, 1, 2⟩] _ TL2.out (by omega) (by decide)).mono ?_
  rintro e w3 ⟨v3, rfl, ho, hb⟩
  have e1 : setL [⟨1, 5, 1⟩, ⟨2, 1, 2⟩] ⟨2, 1, 3⟩ = [⟨1, 5, 1⟩, ⟨2, 1, 3⟩] := by decide
  rw [e1] at ho
  obtain ⟨g3, c3, rfl, hat⟩ := own_lit ho (by decide)
  have TL3 := Lib.hid hat
  have HH3 := Lib.hid (bel_on HH2.out hb)
  clear ho hat hb e1 TL2 HH2
  go_wp2_with fail
  refine (set_bad ⟨4, 1, 3⟩ _ 2 c3 [⟨1, 5, 1⟩, ⟨2, 1, 3⟩] _ TL3.out (by omega) (by decide)).mono ?_
  rintro e w4 ⟨v4, rfl, ho, hb⟩
  have TL4 := Lib.hid (TL3.out.on hb)
  have HH4 := Lib.hid (bel_on HH3.out hb)
  clear ho hb TL3 HH3
  go_wp2_with fail
  refine (tick_any _ 2 c3 [⟨1, 5, 1⟩, ⟨2, 1, 3⟩] _ TL4.out (by omega) (by
    intro a ha
    simp only [List.mem_cons, List.not_mem_nil, or_false] at ha
    rcases ha with rfl | rfl <;> decide)).mono ?_
  rintro e w5 ⟨u, v, rfl, hu, hv, _, hb⟩
  have e1 : tickOn [⟨1, 5, 1⟩, ⟨2, 1, 3⟩] = [⟨2, 1, 2⟩] := by decide
  have e2 : tickOff [⟨1, 5, 1⟩, ⟨2, 1, 3⟩] = [⟨1, 5, 0⟩] := by decide
  rw [e1] at hu
  rw [e2] at hv
  obtain ⟨gu, cu, rfl, hu2⟩ := own_lit hu (by decide)
  obtain ⟨gv, cv, rfl, hv2⟩ := own_lit hv (by decide)
  have TL5 := Lib.hid (TL4.out.on hb)
  have TU := Lib.hid hu2
  have HH5 := Lib.hid (bel_on HH4.out hb)
  have k0 : w5.cell? ⟨g3, 0, none⟩ = some (.int .i64 1) := al_lit TL5.out 0 0 rfl rfl
  have k1 : w5.cell? ⟨g3, 5, none⟩ = some (.int .i64 3) := al_lit TL5.out 1 2 rfl rfl
  have k2 : w5.cell? ⟨gv, 0, none⟩ = some (.int .i64 1) := al_lit hv2 0 0 rfl rfl
  have k3 : w5.cell? ⟨gv, 1, none⟩ = some (.int .i64 5) := al_lit hv2 0 1 rfl rfl
  have k4 : w5.cell? ⟨gv, 2, none⟩ = some (.int .i64 0) := al_lit hv2 0 2 rfl rfl
  have k5 : w5.cell? ⟨gu, 2, none⟩ = some (.int .i64 2) := al_lit hu2 0 2 rfl rfl
  have EQ := EH.out
  clear e1 e2 hu hv hb hu2 hv2 TL4 HH4
  go_wp2_with fail
  refine (left_any 2 1 _ 2 c3 [⟨1, 5, 1⟩, ⟨2, 1, 3⟩] _ TL5.out (by omega)).mono ?_
  rintro e w6 ⟨rfl, hb⟩
  rw [show leftL [⟨1, 5, 1⟩, ⟨2, 1, 3⟩] 2 1 = 3 by decide]
  have TL6 := Lib.hid (TL5.out.on hb)
  have TU6 := Lib.hid (TU.out.on hb)
  have HH6 := Lib.hid (bel_on HH5.out hb)
  clear hb TL5 TU HH5 k0 k1 k2 k3 k4 k5 EQ
  go_wp2_with fail
  refine (left_any 2 2 _ 2 c3 [⟨1, 5, 1⟩, ⟨2, 1, 3⟩] _ TL6.out (by omega)).mono ?_
  rintro e w7 ⟨rfl, hb⟩
  rw [show leftL [⟨1, 5, 1⟩, ⟨2, 1, 3⟩] 2 2 = 0 by decide]
  have TL7 := Lib.hid (TL6.out.on hb)
  have TU7 := Lib.hid (TU6.out.on hb)
  have HH7 := Lib.hid (bel_on HH6.out hb)
  clear hb TL6 TU6 HH6
  go_wp2_with fail
  refine (stop_any 1 5 _ 2 c3 [⟨1, 5, 1⟩, ⟨2, 1, 3⟩] _ TL7.out (by omega)).mono ?_
  rintro e w8 ⟨vs, rfl, ho, hb⟩
  rw [show stopL [⟨1, 5, 1⟩, ⟨2, 1, 3⟩] 1 5 = [⟨2, 1, 3⟩] by decide] at ho
  obtain ⟨gs, cs, rfl, _⟩ := own_lit ho (by decide)
  have TL8 := Lib.hid (TL7.out.on hb)
  have TU8 := Lib.hid (TU7.out.on hb)
  have HH8 := Lib.hid (bel_on HH7.out hb)
  clear hb ho TL7 TU7 HH7
  go_wp2_with fail
  refine (same_is _ _ 2 c3 2 c3 _ _ true _ TL8.out TL8.out (by decide)).mono ?_
  rintro e w9 ⟨rfl, hb⟩
  have TL9 := Lib.hid (TL8.out.on hb)
  have TU9 := Lib.hid (TU8.out.on hb)
  have HH9 := Lib.hid (bel_on HH8.out hb)
  clear hb TL8 TU8 HH8
  go_wp2_with fail
  refine (same_is _ _ 2 c3 1 cu _ _ false _ TL9.out TU9.out (by decide)).mono ?_
  rintro e w10 ⟨rfl, hb⟩
  have HH10 := Lib.hid (bel_on HH9.out hb)
  clear hb TL9 TU9 HH9
  go_wp2_with fail
  go_ret
  exact ⟨rfl, HH10.out⟩
end Go.Proofs.Ytpfgbdcnfmlkcaa
