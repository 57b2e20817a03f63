/- Contracts of package resend, part A: rules, within, Right, slices.Clone; how what was sent lies in cells. -/
import Derived.Test.YtmgmgffgbkenkaaDoorResF
import Derived.Test.YtmgmgffgbkenkaaDoorRecs
import Derived.Test.YtmgmgffgbkenkaaDoorQuiet
import Derived.Test.YtmgmgffgbkenkaaDoorSerA
namespace Go.Proofs.YtmgmgffgbkenkaaDoor
open Go.RowKit Go.Sort

theorem sent_info : (Tryd.prog.info? 37).map (fun i => (i.zero, i.size, i.bytes)) = some (some (.agg #[.int .i64 0, .string ByteArray.empty, .int .i64 0, .int .i64 0] : Value), 4, 40) := by kernel_rfl
/-- How what was sent lies in cells. -/
def snS : Shp Snt where
  K := 4
  T := 37
  S := 27
  Z := (.agg #[.int .i64 0, .string ByteArray.empty, .int .i64 0, .int .i64 0] : Value)
  bytes := 40
  cells := Snt.cells
  pos := by decide
  zsz := rfl
  len := fun _ => rfl
  one := fun x u hu => by
    simp only [Snt.cells, List.mem_cons, List.not_mem_nil, or_false] at hu
    rcases hu with rfl | rfl | rfl | rfl <;> rfl
  und := Tryd.underlying27
  inf := sent_info
  low := by decide
theorem text_info : (Tryd.prog.info? 9).map (fun i => (i.zero, i.size, i.bytes)) = some (some (.string ByteArray.empty), 1, 16) := by kernel_rfl
/-- How a text lies in a cell. -/
def txS : Shp ByteArray where
  K := 1
  T := 9
  S := 31
  Z := .string ByteArray.empty
  bytes := 16
  cells := fun y => [.string y]
  pos := by decide
  zsz := rfl
  len := fun _ => rfl
  one := fun x u hu => by
    simp only [List.mem_cons, List.not_mem_nil, or_false] at hu
    rcases hu with rfl; rfl
  und := Tryd.underlying31
  inf := text_info
  low := by decide
/-- The cells of what was sent, as the walk asks for them. -/
theorem sn_at {w : World} {a : Option Addr} {n c i : Nat} {L : List Snt} {x : Snt} (h : snS.At w a n c L) (hx : L[i]? = some x) :
    ∃ b q, a = some b ∧ b.add (i * 4) = q ∧ w.cell? q = some (.int .i64 x.s) ∧ w.cell? ⟨q.block, q.off + 1, none⟩ = some (.string x.y) ∧ w.cell? ⟨q.block, q.off + 2, none⟩ = some (.int .i64 x.t) ∧ w.cell? ⟨q.block, q.off + 3, none⟩ = some (.int .i64 x.l) := by
  obtain ⟨b, hb, hf'⟩ := h.2.2.2.2 i x hx
  have hf : ∀ k v, x.cells[k]? = some v → w.cell? ((b.add (i * 4)).add k) = some v := hf'
  have h0 := hf 0 _ rfl
  have h1 := hf 1 _ rfl
  have h2 := hf 2 _ rfl
  have h3 := hf 3 _ rfl
  refine ⟨b, _, hb, rfl, ?_, ?_, ?_, ?_⟩
  · simpa [Addr.add] using h0
  · simpa [Addr.add] using h1
  · simpa [Addr.add] using h2
  · simpa [Addr.add] using h3
theorem Shp.Own.lit {α : Type} {S : Shp α} {w : World} {B : Nat} {v : Value} {L : List α} (h : S.Own w B v L) (hn : 0 < L.length) : ∃ g c, v = .slice (some ⟨g, 0, none⟩) L.length c ∧ S.At w (some ⟨g, 0, none⟩) L.length c L ∧ B ≤ g ∧ g < w.heap.size := by
  obtain ⟨a, c, rfl, hat, _⟩ := h.shape
  have hlt := h.lt
  rcases h.2 with ⟨_, h0⟩ | ⟨g, cap, cur, hv, _⟩
  · omega
  · simp only [Value.slice.injEq] at hv
    obtain ⟨rfl, _, rfl⟩ := hv
    have := hlt g rfl
    exact ⟨g, _, rfl, hat, this⟩
theorem sn_lit {w : World} {g n c : Nat} {L : List Snt} (h : snS.At w (some ⟨g, 0, none⟩) n c L) (i j : Nat) {x : Snt} (hx : L[i]? = some x) {v : Value} (hv : x.cells[j]? = some v) : w.cell? ⟨g, i * 4 + j, none⟩ = some v := by
  obtain ⟨b, hb, hf'⟩ := h.2.2.2.2 i x hx
  obtain rfl := Option.some.inj hb
  have hf : ∀ k v, x.cells[k]? = some v → w.cell? (((⟨g, 0, none⟩ : Addr).add (i * 4)).add k) = some v := hf'
  have := hf j v hv
  rwa [Rec.add_lit, show (⟨g, i * 4, none⟩ : Addr).add j = ⟨g, i * 4 + j, none⟩ by unfold Addr.add; split <;> simp_all] at this

theorem rules_gives : Gives Tryd.prog 4 #[] (.agg #[.int .i64 2, .int .i64 8, .int .i64 2, .int .i64 3] : Value) := by
  intro w
  have HB : Hid (Below w.heap.size w ((w.alloc (.cells #[.int .i64 0, .int .i64 0, .int .i64 0, .int .i64 0] 24)))) := Lib.hid ((Below.refl _ _).alloc (Nat.le_refl _) _)
  go_enter Tryd.func4, Tryd.ntmps4
  go_wp2
  refine bodyPost_ret (v := (.agg #[.int .i64 2, .int .i64 8, .int .i64 2, .int .i64 3] : Value)) (by simp [results, Tryd.results4, go_sem]) rfl ⟨rfl, ?_⟩
  exact (Below.refl _ _).alloc (Nat.le_refl _) _

theorem within_any (n a b : Int) (w : World) : Calls Tryd.prog 18 #[.int .i64 n, .int .i64 a, .int .i64 b] w fun e w' => e = .returned (.bool (decide (a ≤ n) && decide (n ≤ b))) ∧ w = w' := by
  obtain ⟨p, hp⟩ : ∃ p, decide (a ≤ n) = p := ⟨_, rfl⟩
  obtain ⟨q, hq⟩ : ∃ q, decide (n ≤ b) = q := ⟨_, rfl⟩
  rw [hp, hq]
  cases p
  · go_enter Tryd.func18, Tryd.ntmps18
    go_wp2
    go_ret
    exact ⟨rfl, rfl⟩
  · go_enter Tryd.func18, Tryd.ntmps18
    go_wp2
    go_ret
    exact ⟨by rw [Bool.true_and]; rfl, rfl⟩

theorem rright_ok : Gives Tryd.prog 12 #[(.agg #[.int .i64 2, .int .i64 8, .int .i64 2, .int .i64 3] : Value)] (.bool true) := by
  intro w
  have W := Lib.hid within_any
  have HB : Hid (Below w.heap.size w (w.alloc (.cells #[.int .i64 2, .int .i64 8, .int .i64 2, .int .i64 3] 24))) := Lib.hid ((Below.refl _ _).alloc (Nat.le_refl _) _)
  go_enter Tryd.func12, Tryd.ntmps12
  go_wp2_with fail
  refine (W.out _ _ _ _).mono ?_
  rintro e w1 ⟨rfl, rfl⟩
  go_wp2_with fail
  refine (W.out _ _ _ _).mono ?_
  rintro e w1 ⟨rfl, rfl⟩
  go_wp2_with fail
  refine (W.out _ _ _ _).mono ?_
  rintro e w1 ⟨rfl, rfl⟩
  go_wp2_with fail
  go_ret
  exact ⟨rfl, HB.out⟩
theorem rright_no : Gives Tryd.prog 12 #[(.agg #[.int .i64 0, .int .i64 0, .int .i64 0, .int .i64 0] : Value)] (.bool false) := by
  intro w
  have W := Lib.hid within_any
  have HB : Hid (Below w.heap.size w (w.alloc (.cells #[.int .i64 0, .int .i64 0, .int .i64 0, .int .i64 0] 24))) := Lib.hid ((Below.refl _ _).alloc (Nat.le_refl _) _)
  go_enter Tryd.func12, Tryd.ntmps12
  go_wp2_with fail
  refine (W.out _ _ _ _).mono ?_
  rintro e w1 ⟨rfl, rfl⟩
  go_wp2_with fail
  go_ret
  exact ⟨rfl, HB.out⟩

theorem snil_eql (w : World) (a : Option Addr) (n c n' c' : Nat) : (binOp .eql 27 (.slice a n c) (.slice none n' c')).run Tryd.prog w = .ok (.bool a.isNone) w := Lib.run_eql_slice_nil w _ _ a n c n' c' Tryd.underlying27

set_option maxHeartbeats 400000 in
theorem sclone_any (a : Option Addr) (n c : Nat) (L : List Snt) (w : World) (h : snS.At w a n c L) (hn : n ≤ 1000000) :
    Calls Tryd.prog 9 #[.slice a n c] w (snS.Got L w) := by
  have q := snil_eql
  have H := Lib.hid h
  cases a with
  | none =>
    have h0 := h.2.2.2.1 rfl
    have h1 := h.2.1
    obtain rfl : n = 0 := by omega
    subst h0
    obtain rfl := List.eq_nil_of_length_eq_zero h.1
    clear h h1 hn
    go_enter Tryd.func9, Tryd.ntmps9
    go_wp2
    go_ret
    exact ⟨_, rfl, Shp.Own.none_ _ _, Below.refl _ _⟩
  | some b =>
    have HO : Hid (snS.Own (w.alloc (.cells #[] 37)) w.heap.size (.slice (some ⟨w.heap.size, 0, none⟩) 0 0) []) := Lib.hid (World.ownsRow_made w #[] 0 (Nat.le_refl _) (Nat.zero_le _) rfl)
    clear h
    go_enter Tryd.func9, Tryd.ntmps9
    go_wp2_with (at_builtin; go_must (refine rec_app (S := snS) rfl _ _ 27 rfl rfl w.heap.size _ [] L (some b) n c rfl rfl HO.out (H.out.next _) (by simp; omega) (by simp only [World.size_alloc]; omega) ?_); intro v' w1 hown hgrow _)
    go_wp2
    go_ret
    exact ⟨_, rfl, hown, ((Below.refl _ w).alloc (Nat.le_refl _) _).grown hgrow (by simp) (fun k hk => by have e : some w.heap.size = some k := hk; cases e; exact Nat.le_refl _)⟩
end Go.Proofs.YtmgmgffgbkenkaaDoor
