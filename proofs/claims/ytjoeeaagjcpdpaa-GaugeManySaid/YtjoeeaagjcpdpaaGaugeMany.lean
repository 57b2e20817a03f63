/- GaugeMany: for every two slices of floats GaugeMany answers true and leaves its arguments as they were. No condition. -/
import Derived.Test.YtjoeeaagjcpdpaaRows
import Derived.Test.YtjoeeaagjcpdpaaGaugeAw
import Derived.Test.YtjoeeaagjcpdpaaGaugeQ
import Derived.ProofKit
import Derived.Deep.Slices
import Derived.OpenShut
import Derived.ShutString
import Derived.ChangeOld
import Derived.Carry
namespace Go.Proofs.Ytjoeeaagjcpdpaa.gaugeMany
open Go.ChangeShapes Go.WideShapes Go.ChangeAt Go.RowKit
open Go.ChangeMaps (open_string shut_string)

theorem own : ownKnob Try.prog.godebug = none := by kernel_rfl
theorem laidOut : laidOutB Try.prog = true := by kernel_rfl

theorem open_fls {H : Type} {enc : TypeId × Value → H} {P : Program} {w : World} {base : Nat} {spare : Nat → Bool} {held : Bool} {r : Reach} {b0 : Nat} {t e : TypeId} {v : Value} {d : DataW H} {ps : List MemPlace} (ht : P.underlying t = some (.slice e)) (he : P.underlying e = some (.float .f64)) (hc : P.cellsOf e = 1)
    (hval : Value.okWide P w r b0 t v) (hd : DataW.Trod enc P w base spare held t v d ps) : ∃ a c l, v = .slice a l.length c ∧ FlAt w a l ∧ (a = none → c = 0) := by
  obtain ⟨a0, len, cap, rfl⟩ := Go.WideShapes.okWide_slice ht hval
  obtain ⟨fuel, hf⟩ := hd
  rcases Go.Deep.open_slice1 ht hc hf with ⟨hcs, _⟩ | ⟨a, len', cap', m, n, V, D, Pl, hcs, _, hl, _, hm, _, hx⟩
  · simp [Value.cells] at hcs
    obtain ⟨rfl, rfl, rfl⟩ := hcs
    exact ⟨none, 0, [], rfl, fun i x hi => by simp at hi, fun _ => rfl⟩
  · simp [Value.cells] at hcs
    obtain ⟨rfl, rfl, rfl⟩ := hcs
    have hlm : len ≤ m := by rw [hm]; split <;> omega
    have each : ∀ i, i < len → ∃ x, V i = .float .f64 x ∧ x < 18446744073709551616 := fun i hi => by
      obtain ⟨_, h2⟩ := hx i (by omega)
      cases n with
      | zero => simp [DataW.trod] at h2
      | succ n =>
        simp only [DataW.trod, he] at h2
        cases hv : V i <;> rw [hv] at h2 <;> simp at h2
        rename_i k b
        cases k <;> simp at h2
        · exact ⟨_, rfl, by
            have := h2.1
            simpa [Lit.wf] using this⟩
    obtain ⟨B, hB⟩ := Go.Deep.choose_lt (α := Nat) (p := fun i x => V i = .float .f64 x ∧ x < 18446744073709551616) each
    refine ⟨some a, cap, (List.range len).map B, by simp, fun i x hi => ?_, fun h => by cases h⟩
    have hlt : i < len := by have := (List.getElem?_eq_some_iff.1 hi).1; simpa using this
    rw [List.getElem?_map, List.getElem?_range hlt] at hi
    simp only [Option.map_some, Option.some.injEq] at hi
    subst hi
    obtain ⟨h1, h2⟩ := hB i hlt
    exact ⟨h2, a, rfl, by rw [← h1]; exact (hx i (by omega)).1⟩

theorem sorted_arg (a : Option Addr) (c : Nat) (l : List Nat) (w : World) (hl : FlAt w a l) (hn : a = none → c = 0) (hsz : l.length ≤ 1000) : Calls Try.prog 15 #[.slice a l.length c] w (SortedTo l w) := by
  cases a with
  | none =>
    have e : l = [] := by
      cases l with
      | nil => rfl
      | cons x l => obtain ⟨_, b, hb, _⟩ := hl 0 x rfl; cases hb
    subst e
    rw [hn rfl]
    exact sorted_none w
  | some b => exact sorted_some b c l w hl hsz

/-- The bins' numbers, as both have them. -/
def BinL (l es L : List Nat) : Prop := (¬ Ris es ∧ L = []) ∨ (Ris es ∧ L = binsL l es)
def RowTo (l es : List Nat) (w : World) (e : Ending) (w' : World) : Prop := ∃ v L, e = .returned v ∧ BinL l es L ∧ w'.ownsRow w.heap.size 3 1 v L.length (inV L) ∧ Below w.heap.size w w'
theorem row_of {l es : List Nat} {w w' : World} {e : Ending} (h : BinsTo l es w e w') : RowTo l es w e w' := by
  obtain ⟨hb, ⟨h1, rfl⟩ | ⟨h1, v, rfl, h2⟩⟩ := h
  · exact ⟨_, [], rfl, .inl ⟨h1, rfl⟩, World.ownsRow_nil _ _ _ _, hb⟩
  · exact ⟨v, binsL l es, rfl, .inr ⟨h1, rfl⟩, by rw [binsL_length]; exact h2, hb⟩
theorem bins_row (a a2 : Option Addr) (c c2 : Nat) (l es : List Nat) (w : World) (hl : FlAt w a l) (hl2 : FlAt w a2 es) (hsz : l.length ≤ 1000) (hsz2 : es.length ≤ 1000) :
    Calls Try.prog 21 #[.slice a l.length c, .slice a2 es.length c2] w (RowTo l es w) := by
  by_cases hr : Ris es
  · exact (bins_yes a a2 c c2 l es w hl hl2 hsz hsz2 hr).mono fun _ _ h => row_of h
  · refine (bins_no a a2 c c2 l.length es w hl2 hsz2 hr).mono fun e w' h => ?_
    obtain ⟨rfl, rfl⟩ := h
    exact row_of ⟨Below.refl _ _, .inl ⟨hr, rfl⟩⟩
theorem refbins_row (a a2 : Option Addr) (c c2 : Nat) (l es : List Nat) (w : World) (hl : FlAt w a l) (hl2 : FlAt w a2 es) (hsz : l.length ≤ 1000) (hsz2 : es.length ≤ 1000) :
    Calls Try.prog 22 #[.slice a l.length c, .slice a2 es.length c2] w (RowTo l es w) :=
  (refbins_any a a2 c c2 l es w hl hl2 hsz hsz2).mono fun _ _ h => row_of h
theorem binL_eq {l es L L' : List Nat} (h : BinL l es L) (h' : BinL l es L') : L = L' := by
  rcases h with ⟨h1, rfl⟩ | ⟨h1, rfl⟩ <;> rcases h' with ⟨h2, rfl⟩ | ⟨h2, rfl⟩
  · rfl
  · exact absurd h2 h1
  · exact absurd h1 h2
  · rfl

/-- How many are numbers. -/
def numN (l : List Nat) : Nat := l.countP fun x => !GaugeF.nanB x
theorem sum_one (a : Nat) : ∀ n, ((List.range n).map fun j => if (a == j) = true then 1 else 0).sum = if a < n then 1 else 0
  | 0 => rfl
  | n + 1 => by
    rw [List.range_succ, List.map_append, List.sum_append, sum_one a n]
    by_cases h1 : a < n
    · rw [if_pos h1, if_pos (by omega)]
      simp; omega
    · rw [if_neg h1]
      by_cases h2 : a = n
      · subst h2; simp
      · rw [if_neg (by omega)]; simp; omega
theorem sum_add (f g : Nat → Nat) : ∀ l : List Nat, (l.map fun j => f j + g j).sum = (l.map f).sum + (l.map g).sum
  | [] => rfl
  | x :: l => by simp only [List.map_cons, List.sum_cons, sum_add f g l]; omega
theorem sum_bins (es : List Nat) : ∀ l : List Nat, (binsL l es).sum = numN l
  | [] => by rw [binsL_nil]; simp [numN]
  | x :: l => by
    have ih := sum_bins es l
    unfold binsL at ih ⊢
    cases hn : GaugeF.nanB x
    · have e : (fun j => binN (x :: l) es j) = fun j => binN l es j + (if (atN es x == j) = true then 1 else 0) := by
        funext j; unfold binN; rw [List.countP_cons]; simp [hn]
      have e2 : numN (x :: l) = numN l + 1 := by unfold numN; rw [List.countP_cons]; simp [hn]
      rw [show binN (x :: l) es = fun j => binN (x :: l) es j from rfl, e, sum_add, sum_one, if_pos (by have := (atN_is es x).1; omega), e2]
      exact congrArg (· + 1) ih
    · have e : binN (x :: l) es = binN l es := by funext j; unfold binN; rw [List.countP_cons]; simp [hn]
      have e2 : numN (x :: l) = numN l := by unfold numN; rw [List.countP_cons]; simp [hn]
      rw [e, e2]; exact ih
theorem binL_sum {l es L : List Nat} (h : BinL l es L) (h0 : L ≠ []) : L.sum = numN l := by
  rcases h with ⟨_, rfl⟩ | ⟨_, rfl⟩
  · exact absurd rfl h0
  · exact sum_bins es l
theorem take_sum {L : List Nat} {k d : Nat} (h : L[k]? = some d) : (L.take (k + 1)).sum = (L.take k).sum + d := by
  rw [List.take_add_one, h]; simp
theorem take_le (L : List Nat) (k : Nat) : (L.take k).sum ≤ L.sum := by
  have := List.sum_append (l₁ := L.take k) (l₂ := L.drop k)
  rw [List.take_append_drop] at this
  omega
theorem num_step {l : List Nat} {k x : Nat} (h : l[k]? = some x) : numN (l.take (k + 1)) = numN (l.take k) + (if GaugeF.nanB x = true then 0 else 1) := by
  have ht : l.take (k + 1) = l.take k ++ [x] := by rw [List.take_add_one, h]; rfl
  unfold numN
  rw [ht, List.countP_append]
  cases hb : GaugeF.nanB x <;> simp [hb]
theorem sort_at {l s : List Nat} (h : IsSort l s) {i x y : Nat} (h0 : 0 < i) (hy : s[i - 1]? = some y) (hx : s[i]? = some x) : GaugeF.key y ≤ GaugeF.key x := by
  have hp := h.2
  rw [List.pairwise_iff_getElem] at hp
  have h1 := (List.getElem?_eq_some_iff.1 hx)
  have h2 := (List.getElem?_eq_some_iff.1 hy)
  have := hp (i - 1) i (by simpa using h2.1) (by simpa using h1.1) (by omega)
  simp only [List.getElem_map] at this
  rw [h1.2, h2.2] at this
  exact this
theorem same_at {l s s' : List Nat} (h : IsSort l s) (h' : IsSort l s') {i x y : Nat} (hx : s[i]? = some x) (hy : s'[i]? = some y) : GaugeF.sameB x y = true := by
  have hk := sort_keys h h'
  have e1 : (s.map GaugeF.key)[i]? = some (GaugeF.key x) := by rw [List.getElem?_map, hx]; rfl
  have e2 : (s'.map GaugeF.key)[i]? = some (GaugeF.key y) := by rw [List.getElem?_map, hy]; rfl
  rw [hk, e2] at e1
  exact decide_eq_true (Option.some.inj e1).symm
theorem ordV_le {x y : Nat} (h : GaugeF.key x ≤ GaugeF.key y) : ∃ v, GaugeF.ordV x y = v ∧ v ≤ 0 := by
  unfold GaugeF.ordV
  split
  · exact ⟨-1, rfl, by decide⟩
  · rw [if_neg (by omega)]; exact ⟨0, rfl, by decide⟩

set_option maxRecDepth 100000 in
set_option maxHeartbeats 1000000 in
theorem many_awake (a a2 : Option Addr) (c c2 n m : Nat) (w : World) (h : 60 < n ∨ (n ≤ 60 ∧ 20 < m)) :
    Calls Try.prog 6 #[.slice a n c, .slice a2 m c2] w fun e w' => e = .returned (.bool true) ∧ Below w.heap.size w w' := by
  rcases h with h | ⟨h1, h2⟩
  all_goals
    go_enter Try.func6, Try.ntmps6
    go_wp2_with fail
    refine (gawake_any _).mono ?_
    rintro e w1 ⟨rfl, h1⟩
    go_wp2_with fail
    go_ret
    exact ⟨rfl, h1⟩

set_option maxRecDepth 100000 in
set_option maxHeartbeats 4000000 in
theorem many_go (a a2 : Option Addr) (c c2 : Nat) (l es : List Nat) (w : World) (hl : FlAt w a l) (hl2 : FlAt w a2 es) (hn : a = none → c = 0) (hsz : l.length ≤ 60) (hsz2 : es.length ≤ 20) :
    Calls Try.prog 6 #[.slice a l.length c, .slice a2 es.length c2] w fun e w' => e = .returned (.bool true) ∧ Below w.heap.size w w' := by
  have SA := Lib.hid (fun w0 (h0 : FlAt w0 a l) => sorted_arg a c l w0 h0 hn (by omega))
  have RS := Lib.hid (fun w0 (h0 : FlAt w0 a l) => refsorted_any a c l w0 h0 (by omega))
  have MI := Lib.hid (fun w0 (h0 : FlAt w0 a l) => middle_any a c l w0 h0 (by omega))
  have RM := Lib.hid (fun w0 (h0 : FlAt w0 a l) => refmiddle_any a c l w0 h0 (by omega))
  have ME := Lib.hid (fun w0 (h0 : FlAt w0 a l) => mean_any a c l w0 h0 (by omega))
  have RE := Lib.hid (fun w0 (h0 : FlAt w0 a l) => refmean_any a c l w0 h0 (by omega))
  have BI := Lib.hid (fun w0 (h0 : FlAt w0 a l) (h1 : FlAt w0 a2 es) => bins_row a a2 c c2 l es w0 h0 h1 (by omega) (by omega))
  have RB := Lib.hid (fun w0 (h0 : FlAt w0 a l) (h1 : FlAt w0 a2 es) => refbins_row a a2 c c2 l es w0 h0 h1 (by omega) (by omega))
  obtain ⟨n, hnn⟩ : ∃ n, l.length = n := ⟨_, rfl⟩
  obtain ⟨m, hmm⟩ : ∃ m, es.length = m := ⟨_, rfl⟩
  rw [hnn] at SA RS MI RM ME RE BI RB hsz ⊢
  rw [hmm] at BI RB hsz2 ⊢
  have HN := Lib.hid hnn
  have HMM := Lib.hid hmm
  have HL := Lib.hid hl
  have HL2 := Lib.hid hl2
  clear hnn hmm hl hl2 hn
  go_enter Try.func6, Try.ntmps6
  go_wp2_with fail
  ((with_reducible refine (SA.out _ HL.out).mono ?_); skip)
  rintro e w1 ⟨v1, s1, rfl, hs1, o1, b1⟩
  obtain ⟨a1, c1, rfl⟩ := own_slice o1
  have hl1 : s1.length = n := hs1.1.length_eq.trans HN.out
  rw [hl1] at o1 ⊢
  have Z1 := Lib.hid hl1
  have S1 := Lib.hid hs1
  have O1 := Lib.hid o1
  have B1 := Lib.hid b1
  have F1 := Lib.hid (flAt_later HL.out b1)
  clear hl1 hs1 o1 b1
  go_wp2_with fail
  ((with_reducible refine (RS.out _ F1.out).mono ?_); skip)
  rintro e w2 ⟨v2, s2, rfl, hs2, o2, b2⟩
  obtain ⟨a3, c3, rfl⟩ := own_slice o2
  have hl3 : s2.length = n := hs2.1.length_eq.trans HN.out
  rw [hl3] at o2 ⊢
  have Z2 := Lib.hid hl3
  have S2 := Lib.hid hs2
  have O2 := Lib.hid o2
  have P1 := Lib.hid (own_below O1.out b2)
  have B2 := Lib.hid (bel_on B1.out b2)
  have F2 := Lib.hid (flAt_later F1.out b2)
  clear hl3 hs2 o2 b2 O1 B1 F1
  go_wp2_with fail
  ((with_reducible refine (MI.out _ F2.out).mono ?_); skip)
  rintro e w3 ⟨x, bo, rfl, hm1, b3⟩
  have M1 := Lib.hid hm1
  have P13 := Lib.hid (own_below P1.out b3)
  have P23 := Lib.hid (own_below O2.out b3)
  have B3 := Lib.hid (bel_on B2.out b3)
  have F3 := Lib.hid (flAt_later F2.out b3)
  clear hm1 b3 P1 O2 B2 F2
  go_wp2_with fail
  ((with_reducible refine (RM.out _ F3.out).mono ?_); skip)
  rintro e w4 ⟨y, bo', rfl, hm2, b4⟩
  obtain ⟨hxy, rfl⟩ := mid_same M1.out hm2
  have hxl := mid_lt M1.out
  have hyl := mid_lt hm2
  have HXY := Lib.hid hxy
  have P14 := Lib.hid (own_below P13.out b4)
  have P24 := Lib.hid (own_below P23.out b4)
  have B4 := Lib.hid (bel_on B3.out b4)
  have F4 := Lib.hid (flAt_later F3.out b4)
  clear hm2 hxy b4 P13 P23 B3 F3 M1
  go_wp2_with fail
  ((with_reducible refine (ME.out _ F4.out).mono ?_); skip)
  rintro e w5 ⟨u, bu, rfl, hu1, b5⟩
  have U1 := Lib.hid hu1
  have P15 := Lib.hid (own_below P14.out b5)
  have P25 := Lib.hid (own_below P24.out b5)
  have B5 := Lib.hid (bel_on B4.out b5)
  have F5 := Lib.hid (flAt_later F4.out b5)
  clear hu1 b5 P14 P24 B4 F4
  go_wp2_with fail
  ((with_reducible refine (RE.out _ F5.out).mono ?_); skip)
  rintro e w6 ⟨u', bu', rfl, hu2, b6⟩
  obtain ⟨rfl, rfl⟩ := mean_same U1.out hu2
  have hul := mean_lt U1.out
  have P16 := Lib.hid (own_below P15.out b6)
  have P26 := Lib.hid (own_below P25.out b6)
  have B6 := Lib.hid (bel_on B5.out b6)
  have F6 := Lib.hid (flAt_later F5.out b6)
  clear hu2 b6 P15 P25 B5 F5 U1
  go_wp2_with fail
  ((with_reducible refine (BI.out _ F6.out (flAt_later HL2.out B6.out)).mono ?_); skip)
  rintro e w7 ⟨vp, L, rfl, hL, op, b7⟩
  obtain ⟨ap, cp, rfl⟩ := own_slice op
  have LL := Lib.hid hL
  have OP := Lib.hid op
  have P17 := Lib.hid (own_below P16.out b7)
  have P27 := Lib.hid (own_below P26.out b7)
  have B7 := Lib.hid (bel_on B6.out b7)
  have F7 := Lib.hid (flAt_later F6.out b7)
  clear hL op b7 P16 P26 B6 F6
  go_wp2_with fail
  ((with_reducible refine (RB.out _ F7.out (flAt_later HL2.out B7.out)).mono ?_); skip)
  rintro e w8 ⟨vq, L', rfl, hL', oq, b8⟩
  obtain rfl := binL_eq hL' LL.out
  obtain ⟨aq, cq, rfl⟩ := own_slice oq
  have OQ := Lib.hid oq
  have OP8 := Lib.hid (own_below OP.out b8)
  have P18 := Lib.hid (own_below P17.out b8)
  have P28 := Lib.hid (own_below P27.out b8)
  have B8 := Lib.hid (bel_on B7.out b8)
  have F8 := Lib.hid (flAt_later F7.out b8)
  clear hL' oq b8 P17 P27 B7 F7 OP
  obtain ⟨N, hN⟩ : ∃ N, L'.length = N := ⟨_, rfl⟩
  rw [hN] at OQ OP8 ⊢
  have HNN := Lib.hid hN
  have hN21 : N ≤ 21 := by
    rcases LL.out with ⟨_, h1⟩ | ⟨_, h1⟩
    · rw [h1] at hN; simp at hN; omega
    · have := binsL_length l es
      rw [← h1, hN, HMM.out] at this
      omega
  have hbo : (bo != bo) = false := by cases bo <;> rfl
  have hbu : (bu != bu) = false := by cases bu <;> rfl
  have hsum : L'.sum ≤ 60 := by
    by_cases h0 : L' = []
    · subst h0; simp
    · rw [binL_sum LL.out h0]
      exact Nat.le_trans List.countP_le_length (by rw [HN.out]; exact hsz)
  have HU := Lib.hid (show GaugeF.sameB u u = true from decide_eq_true rfl)
  clear hN SA RS MI RM ME RE BI RB
  go_wp2_with fail
  ((with_reducible refine (same_is _ hxl hyl HXY.out).mono ?_); skip)
  rintro e w9 ⟨rfl, rfl⟩
  go_wp2_with fail
  ((with_reducible refine (same_is _ hul hul HU.out).mono ?_); skip)
  rintro e w9 ⟨rfl, rfl⟩
  go_wp2_with fail
  go_loopw [17, 103] (fun s v wr => ∃ (i S q : Nat), v = .int .i64 (i : Int) ∧ i ≤ N ∧ s = .int .i64 (S : Int) ∧ S ≤ 60 ∧ Hid ((L'.take i).sum = S) ∧ wr = w8.drewN q)
    (fun _ v _ => (N - intOf v).toNat)
  case atStart => exact ⟨0, 0, 0, rfl, by omega, rfl, by omega, Lib.hid rfl, rfl⟩
  case round =>
    obtain ⟨i, S, q, rfl, hi, rfl, hS60, HS, rfl⟩ := hrel
    by_cases h : i < N
    · obtain ⟨dv, hd⟩ : ∃ dv, L'[i]? = some dv := ⟨_, List.getElem?_eq_getElem (by rw [HNN.out]; exact h)⟩
      obtain ⟨gp, cp', hgp⟩ := own_some OP8.out (by omega)
      simp only [Value.slice.injEq, true_and] at hgp
      obtain ⟨rfl, rfl⟩ := hgp
      obtain ⟨gq, cq', hgq⟩ := own_some OQ.out (by omega)
      simp only [Value.slice.injEq, true_and] at hgq
      obtain ⟨rfl, rfl⟩ := hgq
      have cp1 : w8.cell? ⟨gp, i, none⟩ = some (.int .i64 (dv : Int)) := (OP8.out.cellAt i (by omega)).trans (inV_at hd)
      have cq1 : w8.cell? ⟨gq, i, none⟩ = some (.int .i64 (dv : Int)) := (OQ.out.cellAt i (by omega)).trans (inV_at hd)
      have hS2 := take_sum hd
      have hS3 := take_le L' (i + 1)
      rw [hS2, HS.out] at hS3
      have hSd : S + dv ≤ 60 := by omega
      have HS2 := Lib.hid (hS2.trans (by rw [HS.out]))
      have i0 : (0 : Int) ≤ (i : Int) := by omega
      have i1 : (i : Int) < (N : Int) := by omega
      have hdd : ((dv : Int) != (dv : Int)) = false := by simp
      clear hd hS2 hS3
      go_wp2_with fail
      go_quiet (fail)
      go_wp2_with fail
      go_roundw
      case rel => exact ⟨i + 1, S + dv, _, by go_num, by omega, by go_num, hSd, HS2, rfl⟩
      case measure => simp [intOf]; omega
    · obtain rfl : N = i := by omega
      have hS := HS.out
      rw [List.take_of_length_le (by rw [HNN.out]; exact Nat.le_refl _)] at hS
      have HS2 := Lib.hid hS
      clear hS HS hi h
      go_wp2_with fail
      go_loopw [18, 124] (fun s v wr => ∃ (i K q : Nat), v = .int .i64 (i : Int) ∧ i ≤ n ∧ s = .int .i64 (K : Int) ∧ K ≤ i ∧ Hid (numN (l.take i) = K) ∧ wr = w8.drewN q)
        (fun _ v _ => (n - intOf v).toNat)
      case atStart => exact ⟨0, 0, q, rfl, by omega, rfl, by omega, Lib.hid rfl, rfl⟩
      case round =>
        obtain ⟨i, K, q, rfl, hi, rfl, hKi, HK, hwr⟩ := hrel
        by_cases h : i < n
        · obtain ⟨x1, hx1⟩ : ∃ x1, s1[i]? = some x1 := ⟨_, List.getElem?_eq_getElem (by rw [Z1.out]; exact h)⟩
          obtain ⟨x2, hx2⟩ : ∃ x2, s2[i]? = some x2 := ⟨_, List.getElem?_eq_getElem (by rw [Z2.out]; exact h)⟩
          obtain ⟨z, hz⟩ : ∃ z, l[i]? = some z := ⟨_, List.getElem?_eq_getElem (by rw [HN.out]; exact h)⟩
          obtain ⟨hzl, bz, rfl, hcz⟩ := F8.out i z hz
          replace hcz : wr.cell? (bz.add i) = some (.float .f64 z) := by rw [hwr]; exact hcz
          have wf1 : ∀ t ∈ s1, t < 18446744073709551616 := fun t ht => by
            obtain ⟨j, hj⟩ := List.mem_iff_getElem?.1 (S1.out.1.mem_iff.1 ht)
            exact (F8.out j t hj).1
          have wf2 : ∀ t ∈ s2, t < 18446744073709551616 := fun t ht => by
            obtain ⟨j, hj⟩ := List.mem_iff_getElem?.1 (S2.out.1.mem_iff.1 ht)
            exact (F8.out j t hj).1
          have hx1l := wf1 x1 (List.mem_of_getElem? hx1)
          have hx2l := wf2 x2 (List.mem_of_getElem? hx2)
          obtain ⟨g1, c1', hg1⟩ := own_some P18.out (by omega)
          simp only [Value.slice.injEq, true_and] at hg1
          obtain ⟨rfl, rfl⟩ := hg1
          obtain ⟨g2, c2', hg2⟩ := own_some P28.out (by omega)
          simp only [Value.slice.injEq, true_and] at hg2
          obtain ⟨rfl, rfl⟩ := hg2
          have cx1 : wr.cell? ⟨g1, i, none⟩ = some (.float .f64 x1) := by
            rw [hwr]; exact (P18.out.cellAt i (by omega)).trans (flV_at hx1)
          have cx2 : wr.cell? ⟨g2, i, none⟩ = some (.float .f64 x2) := by
            rw [hwr]; exact (P28.out.cellAt i (by omega)).trans (flV_at hx2)
          have HSM := Lib.hid (same_at S1.out S2.out hx1 hx2)
          have i0 : (0 : Int) ≤ (i : Int) := by omega
          have i1 : (i : Int) < (n : Int) := by omega
          have NS := Lib.hid (num_step hz)
          have LE : Hid (∀ y, 0 < i → s1[i - 1]? = some y → y < 18446744073709551616 ∧ wr.cell? ⟨g1, i - 1, none⟩ = some (.float .f64 y) ∧ ∃ v, GaugeF.ordV y x1 = v ∧ v ≤ 0) := Lib.hid fun y h0 hy =>
            ⟨wf1 y (List.mem_of_getElem? hy), by rw [hwr]; exact (P18.out.cellAt (i - 1) (by omega)).trans (flV_at hy), ordV_le (sort_at S1.out h0 hy hx1)⟩
          have HY0 : Hid (0 < i → ∃ y, s1[i - 1]? = some y) := Lib.hid fun h0 => ⟨_, List.getElem?_eq_getElem (by rw [Z1.out]; omega)⟩
          have HWR := Lib.hid hwr
          clear hx1 hx2 hz wf1 wf2 hwr
          by_cases h0 : i = 0
          · subst h0
            have hc0 : wr.cell? bz = some (.float .f64 z) := hcz
            have hgj : decide (0 < 0) = false := rfl
            clear LE HY0
            cases hnan : GaugeF.nanB z
            · have H1 := Lib.hid hnan
              rw [hnan] at NS
              clear hnan
              go_wp2_with fail
              go_quiet ((go_at_call 8; exact Calls.quiet_of_same ((same_is _ hx1l hx2l HSM.out).mono fun _ _ ⟨a, b⟩ => ⟨a, b.symm⟩)))
              go_wp2_with fail
              ((with_reducible refine (isnan_is _ hzl H1.out).mono ?_); skip)
              rintro e w9 ⟨rfl, rfl⟩
              go_wp2_with fail
              go_roundw
              case rel => exact ⟨1, K + 1, q + nq, by go_num, by omega, by go_num, by omega, Lib.hid (by have := NS.out; rw [HK.out] at this; exact this), by rw [HWR.out, World.drewN_drewN]⟩
              case measure => simp [intOf]; omega
            · have H1 := Lib.hid hnan
              rw [hnan] at NS
              clear hnan
              go_wp2_with fail
              go_quiet ((go_at_call 8; exact Calls.quiet_of_same ((same_is _ hx1l hx2l HSM.out).mono fun _ _ ⟨a, b⟩ => ⟨a, b.symm⟩)))
              go_wp2_with fail
              ((with_reducible refine (isnan_is _ hzl H1.out).mono ?_); skip)
              rintro e w9 ⟨rfl, rfl⟩
              go_wp2_with fail
              go_roundw
              case rel => exact ⟨1, K, q + nq, by go_num, by omega, rfl, by omega, Lib.hid (by have := NS.out; rw [HK.out] at this; exact this), by rw [HWR.out, World.drewN_drewN]⟩
              case measure => simp [intOf]; omega
          · obtain ⟨y, hy⟩ := HY0.out (by omega)
            obtain ⟨hyl, cy, v, hv, hv0⟩ := LE.out y (by omega) hy
            obtain ⟨p, hp⟩ : ∃ p, i - 1 = p := ⟨_, rfl⟩
            rw [hp] at cy
            have ep : (i : Int) - 1 = (p : Int) := by omega
            have epw : IntKind.i64.wrap ((i : Int) - 1) = (p : Int) := by rw [IntWalk.i64_in _ (by omega)]; exact ep
            have p0 : (0 : Int) ≤ (p : Int) := by omega
            have p1 : (p : Int) < (n : Int) := by omega
            have hgi : decide ((0 : Int) < (i : Int)) = true := decide_eq_true (by omega)
            have hgj : decide (0 < i) = true := decide_eq_true (by omega)
            have hvd : decide ((0 : Int) < v) = false := decide_eq_false (by omega)
            have HV := Lib.hid hv
            clear hy hv hp LE HY0
            cases hnan : GaugeF.nanB z
            · have H1 := Lib.hid hnan
              rw [hnan] at NS
              clear hnan
              go_wp2_with fail
              go_quiet ((first | (go_at_call 8; exact Calls.quiet_of_same ((same_is _ hx1l hx2l HSM.out).mono fun _ _ ⟨a, b⟩ => ⟨a, b.symm⟩)) | (go_at_call 7; exact Calls.quiet_of_same ((order_is _ hyl hx1l HV.out).mono fun _ _ ⟨a, b⟩ => ⟨a, b.symm⟩))))
              go_wp2_with fail
              ((with_reducible refine (isnan_is _ hzl H1.out).mono ?_); skip)
              rintro e w9 ⟨rfl, rfl⟩
              go_wp2_with fail
              go_roundw
              case rel => exact ⟨i + 1, K + 1, q + nq, by go_num, by omega, by go_num, by omega, Lib.hid (by rw [NS.out, HK.out]; rfl), by rw [HWR.out, World.drewN_drewN]⟩
              case measure => simp [intOf]; omega
            · have H1 := Lib.hid hnan
              rw [hnan] at NS
              clear hnan
              go_wp2_with fail
              go_quiet ((first | (go_at_call 8; exact Calls.quiet_of_same ((same_is _ hx1l hx2l HSM.out).mono fun _ _ ⟨a, b⟩ => ⟨a, b.symm⟩)) | (go_at_call 7; exact Calls.quiet_of_same ((order_is _ hyl hx1l HV.out).mono fun _ _ ⟨a, b⟩ => ⟨a, b.symm⟩))))
              go_wp2_with fail
              ((with_reducible refine (isnan_is _ hzl H1.out).mono ?_); skip)
              rintro e w9 ⟨rfl, rfl⟩
              go_wp2_with fail
              go_roundw
              case rel => exact ⟨i + 1, K, q + nq, by go_num, by omega, rfl, by omega, Lib.hid (by rw [NS.out, HK.out]; rfl), by rw [HWR.out, World.drewN_drewN]⟩
              case measure => simp [intOf]; omega
        · obtain rfl : n = i := by omega
          have hK := HK.out
          rw [← HN.out, List.take_length] at hK
          have HK2 := Lib.hid hK
          have BW : Hid (Below w.heap.size w wr) := Lib.hid (by rw [hwr]; exact below_drewN B8.out _)
          clear hwr
          by_cases h0 : N = 0
          · have hz : ((N : Int) == 0) = true := by subst h0; rfl
            clear h0 hK
            go_wp2_with fail
            refine (gawake_any _).mono ?_
            rintro e w9 ⟨rfl, h9⟩
            go_wp2_with fail
            go_ret
            exact ⟨rfl, bel_on BW.out h9⟩
          · have hz : ((N : Int) == 0) = false := beq_eq_false_iff_ne.2 (by omega)
            obtain rfl : K = S := by
              have := binL_sum LL.out (fun e => h0 (by rw [← HNN.out, e]; rfl))
              rw [HS2.out, HK2.out] at this
              exact this.symm
            have hkk : ((K : Int) == (K : Int)) = true := by simp
            clear h0 hK
            go_wp2_with fail
            refine (gawake_any _).mono ?_
            rintro e w9 ⟨rfl, h9⟩
            go_wp2_with fail
            go_ret
            exact ⟨rfl, bel_on BW.out h9⟩

theorem walk (a a2 : Option Addr) (c c2 : Nat) (l es : List Nat) (w : World) (hl : FlAt w a l) (hl2 : FlAt w a2 es) (hn : a = none → c = 0) :
    Calls Try.prog 6 #[.slice a l.length c, .slice a2 es.length c2] w fun e w' => e = .returned (.bool true) ∧ Below w.heap.size w w' := by
  by_cases h1 : 60 < l.length
  · exact many_awake a a2 c c2 _ _ w (.inl h1)
  · by_cases h2 : 20 < es.length
    · exact many_awake a a2 c c2 _ _ w (.inr ⟨by omega, h2⟩)
    · exact many_go a a2 c c2 l es w hl hl2 hn (by omega) (by omega)


set_option maxRecDepth 100000 in
theorem lifted (os : Os) (started : os.Started) (H : Type) (enc : TypeId × Value → H) :
    ReturnsInHanded {} Try.checked os 6 .any (Rows.gaugeManySpec.pre6 enc Try.prog Try.f6 Rows.gaugeManyRow.domain false) (Rows.gaugeManySpec.post enc Try.prog Try.f6 false true false false) := by
  refine returnsInHanded_of_change (C := Try.checked) own started (by kernel_rfl) Try.func6
    (ChangeSpec.witness6 (enc := enc) (C := Try.checked) false ⟨#[], #[.slice none 0 0, .slice none 0 0], []⟩ 8 (by kernel_rfl) (by kernel_rfl) (by kernel_rfl) (by kernel_rfl)) ?_
  intro W base args ds gs before hval0 hW hcnd _
  have hval : ∀ (j : Nat) t v, Try.f6.params[j]? = some t → args[j]? = some v → Value.okWide Try.prog W .any base t v := hval0
  have hW' := hW
  obtain ⟨p, q, hA0, hV, rfl, hfz, hnd⟩ := hW
  have hA : DataW.TrodAll enc Try.prog W 0 (fun _ => true) true Try.f6.params.toList args.toList ds p := hA0
  rw [Try.params6] at hA hval
  obtain ⟨v0, vs0, d0, ds0, p0, q0, hargs, rfl, rfl, h0, r0⟩ := trodAll_cons hA
  obtain ⟨v1, vs1, d1, ds1, p1, q1, rfl, rfl, rfl, h1, r1⟩ := trodAll_cons r0
  obtain ⟨rfl, rfl, rfl⟩ := trodAll_nil r1
  obtain rfl : args = #[v0, v1] := by cases args; simp_all
  obtain ⟨rfl, rfl⟩ := trodVars_none hV
  have k0 := h0
  have lt0 : ∀ x ∈ p0, x.block < W.heap.size := by obtain ⟨m, hm⟩ := k0; exact DataW.trod_lt m _ _ _ hm
  have k1 := h1
  have lt1 : ∀ x ∈ p1, x.block < W.heap.size := by obtain ⟨m, hm⟩ := k1; exact DataW.trod_lt m _ _ _ hm
  obtain ⟨al, cl, ll, rfl, hll, hnl⟩ := open_fls Try.underlying37 Try.underlying22 (by kernel_rfl) (hval 0 37 v0 rfl rfl) h0
  obtain ⟨ae, ce, le, rfl, hle, hne⟩ := open_fls Try.underlying37 Try.underlying22 (by kernel_rfl) (hval 1 37 v1 rfl rfl) h1
  clear hA0 hval0
  refine (walk al ae cl ce ll le W hll hle hnl).mono fun e W' ⟨he, bel⟩ => ?_
  subst he
  exact ⟨_, rfl, _, _, _, [], _, [], hW', trodAll_mk1 (shut_bool Try.underlying4 _),
    (trodAll_cons_mk (Below.trod laidOut (by kernel_rfl) (of_decide_eq_true (by kernel_rfl)) k0 bel lt0)
    (trodAll_cons_mk (Below.trod laidOut (by kernel_rfl) (of_decide_eq_true (by kernel_rfl)) k1 bel lt1)
    trodAll_mk0)), rfl, bel.frame _, fun h => by cases h⟩

theorem proved : Rows.GaugeManySaid :=
  OpenClaim.holds_of_wide 6 Try.f6 rfl rfl rfl rfl rfl rfl rfl ⟨rfl, rfl, rfl, rfl, rfl⟩ rfl rfl rfl rfl rfl (by kernel_rfl) Try.func6 (by kernel_rfl)
    (of_decide_eq_true (by kernel_rfl)) (by unfold Func.isWrapper; first | (rw [if_pos (by decide +kernel)]; kernel_rfl) | (rw [if_neg (by decide +kernel)]; exact ⟨rfl, rfl⟩))
    (fun os started H enc _ => lifted os started H enc)
end Go.Proofs.Ytjoeeaagjcpdpaa.gaugeMany
