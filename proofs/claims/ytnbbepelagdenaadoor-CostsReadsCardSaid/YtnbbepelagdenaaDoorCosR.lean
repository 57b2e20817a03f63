/- Plain functions of package costs: a text of links read, by words and byte by byte. No program is named here. -/
import Derived.Test.YtnbbepelagdenaaDoorCosK
import Derived.Test.YtnbbepelagdenaaDoorCosL
import Derived.Test.YtnbbepelagdenaaDoorNodesG
import Derived.Lib.ParseIntB
import Derived.Shelf.Strings.FieldsAny
namespace Go.Proofs.YtnbbepelagdenaaDoor
namespace CosF
open NodesF

/-- The number that a text of digits spells, if 32 bits hold it. -/
def numO (l : List UInt8) : Option Nat := match Lib.parseUintB 32 l with
  | .ok u => some u
  | _ => none
/-- The node of a word's letter, or -1. -/
def nodeW (w : List UInt8) : Int := nextG (lowN (parseF (w.take 1)).1) 15 16
/-- A word read. -/
def readV (c : Pt) (w : List UInt8) : Pt × Int := match numO (w.drop 1) with
  | none => (c, 3)
  | some u => (setC c (nodeW w) u, setE (nodeW w) u)
def readsF : List (List UInt8) → Pt → Option Pt
  | [], c => some c
  | w :: r, c => if (readV c w).2 = 0 then readsF r (readV c w).1 else none
def doneV (s : List UInt8) : Option Pt → Pt × Int
  | none => (none16, 3)
  | some c => if textC c = s then (c, 0) else (none16, 3)
theorem done_none (s : List UInt8) : doneV s none = (none16, 3) := rfl
theorem done_yes {s : List UInt8} {c : Pt} (h : textC c = s) : doneV s (some c) = (c, 0) := if_pos h
theorem done_no {s : List UInt8} {c : Pt} (h : ¬ textC c = s) : doneV s (some c) = (none16, 3) := if_neg h
/-- What Parse answers. -/
def parseP (s : List UInt8) : Pt × Int := if 300 < s.length then (none16, 4) else doneV s (readsF (Lib.fieldsD s) none16)

/-- One byte read: the links so far, the node whose cost is read (-1: none), and the cost so far. -/
def stepR (c : Pt) (node : Int) (n : Nat) (x : UInt8) : Option (Pt × Int × Nat) :=
  if (97 ≤ x.toNat ∧ x.toNat ≤ 112) ∧ node < 0 then some (c, ((x.toNat - 97 : Nat) : Int), 0)
  else if ((48 ≤ x.toNat ∧ x.toNat ≤ 57) ∧ 0 ≤ node) ∧ n ≤ 65536 then some (c, node, 10 * n + (x.toNat - 48))
  else if x.toNat = 32 ∧ 0 ≤ node then (if okB node n then some (setC c node n, -1, n) else none)
  else none
def runR : List UInt8 → Pt → Int → Nat → Option Pt
  | [], c, _, _ => some c
  | x :: l, c, node, n => match stepR c node n x with
    | none => none
    | some (c', node', n') => runR l c' node' n'
def parseD (s : List UInt8) : Pt × Int := if 300 < s.length then (none16, 4) else doneV s (runR s none16 (-1) 0)

/-! What is read byte by byte. -/
theorem digit_byte (d : Nat) (h : d < 10) : (UInt8.ofNat (48 + d)).toNat = 48 + d := by simp; omega
theorem run_digits (node : Nat) : ∀ (v : Nat) (c : Pt) (l : List UInt8) (n0 : Nat), v ≤ 65536 → n0 = 0 → runR (Lib.decDigits v ++ l) c (node : Int) n0 = runR l c (node : Int) v := by
  intro v
  induction v using Nat.strongRecOn with
  | _ v ih =>
    intro c l n0 hv h0
    subst h0
    by_cases h : v < 10
    · rw [Lib.decDigits, dif_pos h]
      have hd := digit_byte v h
      simp only [List.cons_append, List.nil_append, runR, stepR]
      rw [if_neg (by rw [hd]; omega), if_pos (by rw [hd]; omega), hd]
      simp
    · rw [Lib.decDigits, dif_neg h, List.append_assoc, ih (v / 10) (by omega) c _ 0 (by omega) rfl]
      have hd := digit_byte (v % 10) (by omega)
      simp only [List.cons_append, List.nil_append, runR, stepR]
      rw [if_neg (by rw [hd]; omega), if_pos (by rw [hd]; omega), hd]
      show runR l c (node : Int) (10 * (v / 10) + (48 + v % 10 - 48)) = _
      congr 1
      omega
theorem run_piece (c s : Pt) (x : Nat) (l : List UInt8) (n0 : Nat) (hx : x < 16) (ho : okB (x : Int) (ofC c (x : Int)) = true) :
    runR (pieceF c x ++ l) s (-1) n0 = runR l (setC s (x : Int) (ofC c (x : Int))) (-1) (ofC c (x : Int)) := by
  obtain ⟨_, _, _, _, h2⟩ := ok_in ho
  have hl := letF_nat x hx
  simp only [pieceF, List.cons_append, List.append_assoc, runR, stepR]
  rw [if_pos (by rw [hl]; omega), hl, show 97 + x - 97 = x by omega]
  show runR (Lib.decDigits (ofC c (x : Int)) ++ ([32] ++ l)) s (x : Int) 0 = _
  rw [run_digits x _ s _ 0 h2 rfl]
  have h32 : (32 : UInt8).toNat = 32 := rfl
  simp only [List.cons_append, List.nil_append, runR, stepR]
  rw [if_neg (by rw [h32]; omega), if_neg (by rw [h32]; omega), if_pos (by rw [h32]; omega), if_pos ho]
theorem run_text (c : Pt) : ∀ (l : List Nat) (s : Pt) (n0 : Nat) (t : Pt), (∀ x ∈ l, x < 16) → againF c l s = some t → runR (textF c l) s (-1) n0 = some t
  | [], s, n0, t, _, h => h
  | x :: l, s, n0, t, hx, h => by
    rw [againF] at h
    cases ho : okB (x : Int) (ofC c (x : Int)) with
    | false => rw [ho, if_neg (by decide)] at h; cases h
    | true =>
      rw [ho, if_pos rfl] at h
      rw [textF, run_piece c s x _ n0 (hx x (by simp)) ho]
      exact run_text c l _ _ t (fun y hy => hx y (by simp [hy])) h
theorem up_small (c : Pt) : ∀ x ∈ upC c, x < 16 := fun x hx => (nodes_mem _ 16 (Nat.le_refl _) x hx).2.1
theorem sound_again (c : Pt) (hc : c.2.length = 16) (h : soundF c = true) : againF c (upC c) none16 = some c := by
  rw [← sound_same c hc] at h
  unfold soundP at h
  cases ha : againF c (upC c) none16 with
  | none => rw [ha] at h; cases h
  | some s =>
    rw [ha] at h
    simp only [Bool.and_eq_true, decide_eq_true_eq] at h
    rw [show s = c from Prod.ext h.1 h.2]
theorem run_sound (c : Pt) (hc : c.2.length = 16) (h : soundF c = true) : runR (textC c) none16 (-1) 0 = some c :=
  run_text c _ _ _ _ (up_small c) (sound_again c hc h)
/-- What was read byte by byte is sound. -/
theorem run_keeps : ∀ (l : List UInt8) (c : Pt) (node : Int) (n : Nat) (t : Pt), Cos c → soundF c = true → runR l c node n = some t → Cos t ∧ soundF t = true
  | [], c, _, _, t, hc, hs, h => by cases h; exact ⟨hc, hs⟩
  | x :: l, c, node, n, t, hc, hs, h => by
    rw [runR] at h
    cases hst : stepR c node n x with
    | none => rw [hst] at h; cases h
    | some q =>
      obtain ⟨c', node', n'⟩ := q
      rw [hst] at h
      have hk : Cos c' ∧ soundF c' = true := by
        unfold stepR at hst
        split at hst
        · cases hst; exact ⟨hc, hs⟩
        · split at hst
          · cases hst; exact ⟨hc, hs⟩
          · split at hst
            · split at hst
              · cases hst
                exact ⟨hc.set _ _, sound_set c hc.1 _ _ hs⟩
              · cases hst
            · cases hst
      exact run_keeps l c' node' n' t hk.1 hk.2 h

/-! What is read by words. -/
theorem num_digits : ∀ (v : Nat) (a : Nat) (r : List UInt8), a = 0 → v < 4294967296 → Lib.parseUintM 4294967295 a (Lib.decDigits v ++ r) = Lib.parseUintM 4294967295 v r := by
  intro v
  induction v using Nat.strongRecOn with
  | _ v ih =>
    intro a r ha hv
    subst ha
    by_cases h : v < 10
    · rw [Lib.decDigits, dif_pos h]
      have hd := digit_byte v h
      simp only [List.cons_append, List.nil_append, Lib.parseUintM]
      rw [if_pos (by rw [hd]; omega), if_neg (by omega), if_neg (by rw [hd]; omega), hd]
      congr 1
      omega
    · rw [Lib.decDigits, dif_neg h, List.append_assoc, ih (v / 10) (by omega) 0 _ rfl (by omega)]
      have hd := digit_byte (v % 10) (by omega)
      simp only [List.cons_append, List.nil_append, Lib.parseUintM]
      rw [if_pos (by rw [hd]; omega), if_neg (by omega), if_neg (by rw [hd]; omega), hd]
      congr 1
      omega
theorem digits_ne (v : Nat) : Lib.decDigits v ≠ [] := by
  intro h
  have := Lib.decDigits_length v
  rw [h] at this
  have := Lib.nDigits_pos v
  simp at *
  omega
theorem num_of (v : Nat) (hv : v < 4294967296) : numO (Lib.decDigits v) = some v := by
  unfold numO Lib.parseUintB
  have h := num_digits v 0 [] rfl hv
  rw [List.append_nil] at h
  rw [if_neg (digits_ne v), show (2 : Nat) ^ 32 - 1 = 4294967295 from rfl, h]
  rfl
theorem node_letter (x : Nat) (hx : x < 16) (r : List UInt8) : nodeW (letF x :: r) = (x : Int) := by
  unfold nodeW
  rw [List.take_succ_cons, List.take_zero]
  rcases n16 x hx with h | h | h | h | h | h | h | h | h | h | h | h | h | h | h | h <;> subst h <;> decide +kernel
def wordF (c : Pt) (x : Nat) : List UInt8 := letF x :: Lib.decDigits (ofC c (x : Int))
theorem read_word (c s : Pt) (x : Nat) (hx : x < 16) (hv : ofC c (x : Int) < 4294967296) : readV s (wordF c x) = (setC s (x : Int) (ofC c (x : Int)), setE (x : Int) (ofC c (x : Int))) := by
  unfold readV wordF
  rw [List.drop_succ_cons, List.drop_zero, num_of _ hv, node_letter x hx]
theorem reads_words (c : Pt) (hc : Cos c) : ∀ (l : List Nat) (s t : Pt), (∀ x ∈ l, x < 16) → againF c l s = some t → readsF (l.map (wordF c)) s = some t
  | [], s, t, _, h => h
  | x :: l, s, t, hx, h => by
    rw [againF] at h
    cases ho : okB (x : Int) (ofC c (x : Int)) with
    | false => rw [ho, if_neg (by decide)] at h; cases h
    | true =>
      rw [ho, if_pos rfl] at h
      rw [List.map_cons, readsF, read_word c s x (hx x (by simp)) (hc.of _)]
      rw [if_pos (show setE (x : Int) (ofC c (x : Int)) = 0 by simp [setE, ho])]
      exact reads_words c hc l _ t (fun y hy => hx y (by simp [hy])) h
theorem digit_plain (v : Nat) : ∀ b ∈ Lib.decDigits v, 48 ≤ b.toNat ∧ b.toNat ≤ 57 := by
  induction v using Nat.strongRecOn with
  | _ v ih =>
    intro b hb
    rw [Lib.decDigits] at hb
    split at hb
    · rename_i h
      obtain rfl : b = UInt8.ofNat (48 + v) := by simpa using hb
      rw [digit_byte v h]; omega
    · rcases List.mem_append.1 hb with hb | hb
      · exact ih (v / 10) (by omega) b hb
      · obtain rfl : b = UInt8.ofNat (48 + v % 10) := by simpa using hb
        rw [digit_byte _ (by omega)]; omega
theorem no_space (b : UInt8) (h : 33 ≤ b.toNat) : Lib.isSp b = false := by
  unfold Lib.isSp
  have hne : ∀ k : UInt8, k.toNat < 33 → (b == k) = false := fun k hk => by
    rw [beq_eq_false_iff_ne]
    intro e
    subst e
    omega
  rw [hne 9 (by decide), hne 10 (by decide), hne 11 (by decide), hne 12 (by decide), hne 13 (by decide), hne 32 (by decide)]
  rfl
theorem fields_word : ∀ (w cur r : List UInt8), (∀ b ∈ w, Lib.isSp b = false) → Lib.fieldsGo cur (w ++ r) = Lib.fieldsGo (cur ++ w) r
  | [], cur, r, _ => by simp
  | b :: w, cur, r, h => by
    rw [List.cons_append, Lib.fieldsGo_more cur b _ (h b (by simp)), fields_word w (cur ++ [b]) r (fun x hx => h x (by simp [hx]))]
    simp
theorem word_plain (c : Pt) (x : Nat) (hx : x < 16) : ∀ b ∈ wordF c x, 33 ≤ b.toNat ∧ b.toNat < 128 := by
  intro b hb
  rcases List.mem_cons.1 hb with rfl | hb
  · rw [letF_nat x hx]; omega
  · have := digit_plain _ b hb
    omega
theorem fields_text (c : Pt) : ∀ l : List Nat, (∀ x ∈ l, x < 16) → Lib.fieldsGo [] (textF c l) = l.map (wordF c)
  | [], _ => rfl
  | x :: l, hx => by
    have hw := word_plain c x (hx x (by simp))
    have e : textF c (x :: l) = wordF c x ++ (32 :: textF c l) := by simp [textF, pieceF, wordF]
    rw [e, fields_word _ _ _ (fun b hb => no_space b (hw b hb).1), List.nil_append,
      Lib.fieldsGo_end _ 32 _ (by decide) (by simp [wordF]), fields_text c l (fun y hy => hx y (by simp [hy]))]
    rfl
theorem text_plain (c : Pt) : ∀ l : List Nat, (∀ x ∈ l, x < 16) → ∀ b ∈ textF c l, b.toNat < 128
  | [], _, b, hb => by simp [textF] at hb
  | x :: l, hx, b, hb => by
    have hw := word_plain c x (hx x (by simp))
    have e : textF c (x :: l) = wordF c x ++ (32 :: textF c l) := by simp [textF, pieceF, wordF]
    rw [e] at hb
    rcases List.mem_append.1 hb with hb | hb
    · exact (hw b hb).2
    · rcases List.mem_cons.1 hb with rfl | hb
      · decide
      · exact text_plain c l (fun y hy => hx y (by simp [hy])) b hb
theorem reads_sound (c : Pt) (hc : Cos c) (h : soundF c = true) : readsF (Lib.fieldsD (textC c)) none16 = some c := by
  show readsF (Lib.fieldsD (textF c (upC c))) none16 = some c
  rw [Lib.fieldsD_ascii _ (text_plain c _ (up_small c))]
  show readsF (Lib.fieldsGo [] (textF c (upC c))) none16 = some c
  rw [fields_text c _ (up_small c)]
  exact reads_words c hc _ _ _ (up_small c) (sound_again c hc.1 h)
theorem reads_keeps : ∀ (l : List (List UInt8)) (c t : Pt), Cos c → soundF c = true → readsF l c = some t → Cos t ∧ soundF t = true
  | [], c, t, hc, hs, h => by cases h; exact ⟨hc, hs⟩
  | w :: l, c, t, hc, hs, h => by
    rw [readsF] at h
    split at h
    · rename_i h0
      have hk : Cos (readV c w).1 ∧ soundF (readV c w).1 = true := by
        unfold readV
        cases numO (w.drop 1) with
        | none => exact ⟨hc, hs⟩
        | some u => exact ⟨hc.set _ _, sound_set c hc.1 _ _ hs⟩
      exact reads_keeps l _ t hk.1 hk.2 h
    · cases h

/-- Both read alike. -/
theorem parse_same (s : List UInt8) : parseP s = parseD s := by
  unfold parseP parseD
  split
  · rfl
  · have key : ∀ c, (readsF (Lib.fieldsD s) none16 = some c ∧ textC c = s) ↔ (runR s none16 (-1) 0 = some c ∧ textC c = s) := fun c => by
      constructor
      · rintro ⟨h, ht⟩
        obtain ⟨hc, hs⟩ := reads_keeps _ _ _ Cos.zero sound_zero h
        exact ⟨by rw [← ht]; exact run_sound c hc.1 hs, ht⟩
      · rintro ⟨h, ht⟩
        obtain ⟨hc, hs⟩ := run_keeps _ _ _ _ _ Cos.zero sound_zero h
        exact ⟨by rw [← ht]; exact reads_sound c hc hs, ht⟩
    cases h1 : readsF (Lib.fieldsD s) none16 with
    | none =>
      cases h2 : runR s none16 (-1) 0 with
      | none => rfl
      | some d =>
        rw [done_none, done_no]
        intro ht
        have := ((key d).2 ⟨h2, ht⟩).1
        rw [h1] at this
        cases this
    | some c =>
      by_cases ht : textC c = s
      · rw [((key c).1 ⟨h1, ht⟩).1]
      · cases h2 : runR s none16 (-1) 0 with
        | none => rw [done_none, done_no ht]
        | some d =>
          by_cases hd : textC d = s
          · have := ((key d).2 ⟨h2, hd⟩).1
            rw [h1] at this
            cases this
            exact absurd hd ht
          · rw [done_no ht, done_no hd]
theorem parse_ok (s : List UInt8) (h : (parseP s).2 = 0) : Cos (parseP s).1 ∧ soundF (parseP s).1 = true ∧ textC (parseP s).1 = s := by
  unfold parseP at h ⊢
  split at h
  · cases h
  · rename_i hl
    rw [if_neg hl]
    cases h1 : readsF (Lib.fieldsD s) none16 with
    | none => rw [h1] at h; cases h
    | some c =>
      rw [h1] at h
      by_cases ht : textC c = s
      · rw [done_yes ht]
        obtain ⟨hc, hs⟩ := reads_keeps _ _ _ Cos.zero sound_zero h1
        exact ⟨hc, hs, ht⟩
      · rw [done_no ht] at h
        cases h
theorem parse_cos (s : List UInt8) : Cos (parseP s).1 := by
  unfold parseP
  split
  · exact Cos.zero
  · cases h1 : readsF (Lib.fieldsD s) none16 with
    | none => exact Cos.zero
    | some c =>
      by_cases ht : textC c = s
      · rw [done_yes ht]
        exact (reads_keeps _ _ _ Cos.zero sound_zero h1).1
      · rw [done_no ht]
        exact Cos.zero
/-- What is told of sound links is read. -/
theorem parse_text (c : Pt) (hc : Cos c) (h : soundF c = true) (hl : (textC c).length ≤ 300) : parseP (textC c) = (c, 0) := by
  unfold parseP
  rw [if_neg (by omega), reads_sound c hc h, done_yes rfl]
end CosF
end Go.Proofs.YtnbbepelagdenaaDoor
