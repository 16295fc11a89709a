/-
  DERIVED. Actions, plainly: an action that may be is read again from its text, and what is read has its text.
-/
import Derived.Test.YtnkimfbdcghgpaaDoorAa
namespace Go.Proofs.YtnkimfbdcghgpaaDoor
namespace Ac
open Go

theorem word_nb (k : Nat) : nb (wordOf k) := by
  unfold wordOf nb
  split <;> decide
theorem kind_word (k : Nat) (h : k < 13) : kindOf (wordOf k) = some k := by
  match k, h with
  | 0, _ => decide
  | 1, _ => decide
  | 2, _ => decide
  | 3, _ => decide
  | 4, _ => decide
  | 5, _ => decide
  | 6, _ => decide
  | 7, _ => decide
  | 8, _ => decide
  | 9, _ => decide
  | 10, _ => decide
  | 11, _ => decide
  | 12, _ => decide
/-- Where a kind is told, its word stands there. -/
theorem kindGo_some : ∀ (w : List UInt8) (n k j : Nat), kindGo w n k = some j → k ≤ j ∧ j < k + n ∧ wordOf j = w
  | _, 0, _, _, h => by cases h
  | w, n + 1, k, j, h => by
    unfold kindGo at h
    split at h
    · injection h with h; subst h; rename_i e; exact ⟨by omega, by omega, e⟩
    · obtain ⟨h1, h2, h3⟩ := kindGo_some w n (k + 1) j h
      exact ⟨by omega, by omega, h3⟩
theorem wordOf_ne (k : Nat) (h : k < 13) : wordOf k ≠ [] := by
  match k, h with
  | 0, _ => decide
  | 1, _ => decide
  | 2, _ => decide
  | 3, _ => decide
  | 4, _ => decide
  | 5, _ => decide
  | 6, _ => decide
  | 7, _ => decide
  | 8, _ => decide
  | 9, _ => decide
  | 10, _ => decide
  | 11, _ => decide
  | 12, _ => decide

/-- One part that is a number, behind a blank, is read as it stands. -/
theorem rd_num (p : Nat) (hp : p = 1 ∨ p = 2 ∨ p = 3 ∨ p = 4 ∨ p = 5 ∨ p = 6 ∨ p = 7 ∨ p = 8) (n : Int) (h0 : -1 ≤ n) (h1 : n ≤ 999999999) (r : List UInt8) (b : Acn) :
    rd p (numT p n ++ 32 :: r, b) = (r, setNum p b n) := by
  have h2 := cutAt_at r (numT_nb p n)
  have h3 := numberOf_numT p h0 h1
  rcases hp with rfl | rfl | rfl | rfl | rfl | rfl | rfl | rfl <;> simp [rd, h2, h3]
theorem rd_end (p : Nat) (hp : p = 8) (n : Int) (h0 : -1 ≤ n) (h1 : n ≤ 999999999) (b : Acn) :
    rd p (numT p n, b) = ([], setNum p b n) := by
  have h2 := cutAt_end (numT_nb p n)
  have h3 := numberOf_numT p h0 h1
  subst hp
  simp [rd, h2, h3]
theorem rd_left (o : Opd) (h : opOk o = true) (r : List UInt8) (b : Acn) : rd 9 (opT o ++ 32 :: r, b) = (r, { b with l := o }) := by
  have h2 := cutAt_at r (opT_nb h)
  simp [rd, h2, operandOf_opT h]
theorem rd_right (o : Opd) (h : opOk o = true) (r : List UInt8) (b : Acn) : rd 10 (opT o ++ 32 :: r, b) = (r, { b with r := o }) := by
  have h2 := cutAt_at r (opT_nb h)
  simp [rd, h2, operandOf_opT h]
theorem rd_sense (s : Bool) (r : List UInt8) (b : Acn) : rd 13 ((if s then yesW else noW) ++ 32 :: r, b) = (r, { b with sense := s }) := by
  cases s
  · have h2 := cutAt_at r no_nb
    simp [rd, h2]; decide
  · have h2 := cutAt_at r yes_nb
    simp [rd, h2]
theorem rd_order (op : Int) (h0 : 0 ≤ op) (h1 : op ≤ 1) (r : List UInt8) (b : Acn) (hb : b.op = 0) : rd 12 (ordOf op ++ 32 :: r, b) = (r, { b with op := op }) := by
  have : op = 0 ∨ op = 1 := by omega
  rcases this with rfl | rfl
  · have h2 := cutAt_at (w := ordOf 0) r (by intro c hc; simp [ordOf] at hc; subst hc; decide)
    cases b
    simp only at hb
    subst hb
    simp only [rd, h2]
    rfl
  · have h2 := cutAt_at (w := ordOf 1) r (by intro c hc; simp [ordOf] at hc; subst hc; decide)
    simp only [rd, h2]
    rfl
theorem rd_more0 (n : Int) (b : Acn) (hn : 0 ≤ n) (hb : b.op = 0) : rd 11 (numT 8 n, b) = (numT 8 n, b) := by
  have h1 : (numT 8 n).head? = some 64 := by unfold numT; rw [if_neg (by omega)]; rfl
  cases b
  simp only at hb
  subst hb
  simp [rd, h1]
theorem rd_more (op : Int) (h0 : 1 ≤ op) (h1 : op ≤ 2) (o : Opd) (h : opOk o = true) (r : List UInt8) (b : Acn) :
    rd 11 (sumOf op ++ 32 :: (opT o ++ 32 :: r), b) = (r, { b with op := op, r := o }) := by
  have : op = 1 ∨ op = 2 := by omega
  have h2 := cutAt_at r (opT_nb h)
  have h3 := operandOf_opT h
  rcases this with rfl | rfl
  · have h4 : cutAt ([43] ++ 32 :: (opT o ++ 32 :: r)) = ([43], opT o ++ 32 :: r) := cutAt_at _ (by intro c hc; simp at hc; subst hc; decide)
    simp only [List.singleton_append] at h4
    simp [rd, sumOf, h4, h2, h3]
  · have h4 : cutAt ([45] ++ 32 :: (opT o ++ 32 :: r)) = ([45], opT o ++ 32 :: r) := cutAt_at _ (by intro c hc; simp at hc; subst hc; decide)
    simp only [List.singleton_append] at h4
    simp [rd, sumOf, h4, h2, h3]

/-- What a kind has may be, and nothing else is there: told by the kind. -/
theorem rights_k {a : Acn} (h : rights a = true) : 0 ≤ a.kind ∧ a.kind < 13 ∧ goR (formOf a.kind.toNat) { a with kind := 0 } = true := by
  unfold rights at h
  simp only [Bool.and_eq_true, decide_eq_true_eq] at h
  exact ⟨h.1.1, h.1.2, h.2⟩
theorem within_iff {n lo hi : Int} : within n lo hi = true ↔ lo ≤ n ∧ n ≤ hi := by
  unfold within; simp
theorem opTk_ok {o : Opd} (h1 : (opTk o).1 = true) (h2 : (opTk o).2 = ⟨0, 0⟩) : opOk o = true := by
  unfold opOk; simp [h1, h2]
theorem opTk_ok1 {o : Opd} (h1 : (opTk o).1 = true) : opOk o = true ∧ (opTk o).2 = ⟨0, 0⟩ := by
  have : (opTk o).2 = ⟨0, 0⟩ := by
    unfold opTk at h1 ⊢
    split
    · rfl
    · rename_i e; rw [if_neg e] at h1; simp at h1; simp [h1.2]
  exact ⟨opTk_ok h1 this, this⟩

theorem back_k (k : Nat) (hk : k < 13) (a : Acn) (ha : a.kind = k) (h : goR (formOf k) { a with kind := 0 } = true) :
    guess k (wordOf k ++ txts (formOf k) a) = a := by
  obtain ⟨kind, x, y, f, t, pl, op, l, r, sense⟩ := a
  simp only at ha
  subst ha
  unfold guess
  match k, hk with
  | 0, _ =>
    simp [formOf, goR, tk, numOf, setNum, loOf, hiOf, within_iff, Acn.zero, and_assoc] at h
    repeat (obtain ⟨_, h⟩ := h)
    subst_vars
    simp only [formOf, txts, txt, numOf, List.append_nil, cutAt_at _ (word_nb 0), rds, rd_end 8 rfl pl (by omega) (by omega)]
    simp [rd, setNum, Acn.zero]
  | 1, _ =>
    simp [formOf, goR, tk, numOf, setNum, loOf, hiOf, within_iff, Acn.zero, and_assoc] at h
    repeat (obtain ⟨_, h⟩ := h)
    subst_vars
    simp only [formOf, txts, txt, numOf, List.append_nil, List.cons_append, cutAt_at _ (word_nb 1), rds, rd_num 1 (by decide) x (by omega) (by omega), rd_end 8 rfl pl (by omega) (by omega)]
    simp [rd, setNum, Acn.zero]
  | 2, _ =>
    simp [formOf, goR, tk, numOf, setNum, loOf, hiOf, within_iff, Acn.zero, and_assoc] at h
    repeat (obtain ⟨_, h⟩ := h)
    subst_vars
    simp only [formOf, txts, txt, numOf, List.append_nil, List.cons_append, cutAt_at _ (word_nb 2), rds, rd_num 1 (by decide) x (by omega) (by omega), rd_num 2 (by decide) y (by omega) (by omega), rd_end 8 rfl pl (by omega) (by omega)]
    simp [rd, setNum, Acn.zero]
  | 3, _ =>
    simp [formOf, goR, tk, numOf, setNum, loOf, hiOf, within_iff, Acn.zero, and_assoc] at h
    repeat (obtain ⟨_, h⟩ := h)
    subst_vars
    simp only [formOf, txts, txt, numOf, List.append_nil, List.cons_append, cutAt_at _ (word_nb 3), rds, rd_num 1 (by decide) x (by omega) (by omega), rd_num 2 (by decide) y (by omega) (by omega), rd_num 6 (by decide) f (by omega) (by omega), rd_end 8 rfl pl (by omega) (by omega)]
    simp [rd, setNum, Acn.zero]
  | 4, _ =>
    simp [formOf, goR, tk, numOf, setNum, loOf, hiOf, within_iff, Acn.zero, and_assoc] at h
    repeat (obtain ⟨_, h⟩ := h)
    subst_vars
    simp only [formOf, txts, txt, numOf, List.append_nil, List.cons_append, cutAt_at _ (word_nb 4), rds, rd_num 1 (by decide) x (by omega) (by omega), rd_num 6 (by decide) f (by omega) (by omega), rd_end 8 rfl pl (by omega) (by omega)]
    simp [rd, setNum, Acn.zero]
  | 5, _ =>
    simp [formOf, goR, tk, numOf, setNum, loOf, hiOf, within_iff, Acn.zero, and_assoc] at h
    repeat (obtain ⟨_, h⟩ := h)
    subst_vars
    simp only [formOf, txts, txt, numOf, List.append_nil, List.cons_append, cutAt_at _ (word_nb 5), rds, rd_num 1 (by decide) x (by omega) (by omega), rd_num 6 (by decide) f (by omega) (by omega), rd_num 2 (by decide) y (by omega) (by omega), rd_end 8 rfl pl (by omega) (by omega)]
    simp [rd, setNum, Acn.zero]
  | 6, _ =>
    simp [formOf, goR, tk, numOf, setNum, loOf, hiOf, within_iff, Acn.zero, and_assoc] at h
    repeat (obtain ⟨_, h⟩ := h)
    subst_vars
    simp only [formOf, txts, txt, numOf, List.append_nil, List.cons_append, cutAt_at _ (word_nb 6), rds, rd_num 1 (by decide) x (by omega) (by omega), rd_num 7 (by decide) t (by omega) (by omega), rd_end 8 rfl pl (by omega) (by omega)]
    simp [rd, setNum, Acn.zero]
  | 7, _ =>
    simp [formOf, goR, tk, numOf, setNum, loOf, hiOf, within_iff, Acn.zero, and_assoc] at h
    repeat (obtain ⟨_, h⟩ := h)
    subst_vars
    simp only [formOf, txts, txt, numOf, List.append_nil, List.cons_append, cutAt_at _ (word_nb 7), rds, rd_num 1 (by decide) x (by omega) (by omega), rd_end 8 rfl pl (by omega) (by omega)]
    simp [rd, setNum, Acn.zero]
  | 8, _ =>
    simp [formOf, goR, tk, numOf, setNum, loOf, hiOf, within_iff, Acn.zero, and_assoc] at h
    repeat (obtain ⟨_, h⟩ := h)
    subst_vars
    simp only [formOf, txts, txt, numOf, List.append_nil, List.cons_append, cutAt_at _ (word_nb 8), rds, rd_num 3 (by decide) x (by omega) (by omega), rd_num 4 (by decide) y (by omega) (by omega), rd_sense sense, rd_end 8 rfl pl (by omega) (by omega)]
    simp [rd, setNum, Acn.zero]
  | 9, _ =>
    simp [formOf, goR, tk, numOf, setNum, loOf, hiOf, within_iff, Acn.zero, and_assoc] at h
    repeat (obtain ⟨_, h⟩ := h)
    subst_vars
    simp only [formOf, txts, txt, numOf, List.append_nil, List.cons_append, cutAt_at _ (word_nb 9), rds, rd_sense sense, rd_end 8 rfl pl (by omega) (by omega)]
    simp [rd, setNum, Acn.zero]
  | 10, _ =>
    simp [formOf, goR, tk, numOf, setNum, loOf, hiOf, within_iff, Acn.zero, and_assoc] at h
    repeat (obtain ⟨_, h⟩ := h)
    subst_vars
    simp only [formOf, txts, txt, numOf, List.append_nil, List.cons_append, cutAt_at _ (word_nb 10), rds, rd_num 5 (by decide) x (by omega) (by omega), rd_end 8 rfl pl (by omega) (by omega)]
    simp [rd, setNum, Acn.zero]
  | 11, _ =>
    by_cases h0 : op = 0
    · subst h0
      simp [formOf, goR, tk, numOf, setNum, loOf, hiOf, within_iff, Acn.zero, and_assoc] at h
      repeat (obtain ⟨_, h⟩ := h)
      subst_vars
      have hl : opOk l = true := opTk_ok ‹_› ‹_›
      simp only [formOf, txts, txt, numOf, if_true, List.append_nil, List.cons_append, List.nil_append, cutAt_at _ (word_nb 11), rds, rd_num 5 (by decide) x (by omega) (by omega), rd_left l hl, setNum]
      rw [rd_more0 pl _ (by omega) rfl, rd_end 8 rfl pl (by omega) (by omega)]
      simp [rd, setNum, Acn.zero]
    · by_cases hw : within op 0 2 = true
      · simp [formOf, goR, tk, numOf, setNum, loOf, hiOf, hw, h0, Acn.zero] at h
        simp only [within_iff] at h hw
        simp only [and_assoc] at h
        repeat (obtain ⟨_, h⟩ := h)
        obtain ⟨hw1, hw2⟩ := hw
        subst_vars
        have hl : opOk l = true := opTk_ok ‹_› ‹_›
        have hr : opOk r = true := opTk_ok ‹_› ‹_›
        simp only [formOf, txts, txt, numOf, if_neg h0, List.append_nil, List.cons_append, List.append_assoc, cutAt_at _ (word_nb 11), rds, rd_num 5 (by decide) x (by omega) (by omega), rd_left l hl, rd_more op (by omega) hw2 r hr, rd_end 8 rfl pl (by omega) (by omega)]
        simp [rd, setNum, Acn.zero]
      · simp [formOf, goR, tk, numOf, setNum, loOf, hiOf, hw] at h
  | 12, _ =>
    simp [formOf, goR, tk, numOf, setNum, loOf, hiOf, within_iff, Acn.zero, and_assoc] at h
    repeat (obtain ⟨_, h⟩ := h)
    subst_vars
    have hl : opOk l = true := opTk_ok ‹_› ‹_›
    have hr : opOk r = true := opTk_ok ‹_› ‹_›
    simp only [formOf, txts, txt, numOf, Acn.zero, List.append_nil, List.cons_append, cutAt_at _ (word_nb 12), rds, rd_left l hl, rd_order op (by omega) (by omega), rd_right r hr, rd_sense sense, rd_end 8 rfl pl (by omega) (by omega)]
    simp [setNum]

theorem back (a : Acn) (h : rights a = true) : parse (text a) = some a := by
  obtain ⟨h1, h2, h3⟩ := rights_k h
  obtain ⟨k, hk⟩ : ∃ k : Nat, a.kind = k := ⟨a.kind.toNat, by omega⟩
  have e : a.kind.toNat = k := by omega
  have hk' : k < 13 := by omega
  rw [e] at h3
  have hb := back_k k hk' a hk h3
  have ht : text a = wordOf k ++ txts (formOf k) a := by unfold text; rw [if_pos h, e]
  have hc : ∃ r, txts (formOf k) a = 32 :: r := by
    match k, hk' with
    | 0, _ => exact ⟨_, rfl⟩
    | 1, _ => exact ⟨_, rfl⟩
    | 2, _ => exact ⟨_, rfl⟩
    | 3, _ => exact ⟨_, rfl⟩
    | 4, _ => exact ⟨_, rfl⟩
    | 5, _ => exact ⟨_, rfl⟩
    | 6, _ => exact ⟨_, rfl⟩
    | 7, _ => exact ⟨_, rfl⟩
    | 8, _ => exact ⟨_, rfl⟩
    | 9, _ => exact ⟨_, rfl⟩
    | 10, _ => exact ⟨_, rfl⟩
    | 11, _ => exact ⟨_, rfl⟩
    | 12, _ => exact ⟨_, rfl⟩
  obtain ⟨r, hr⟩ := hc
  unfold parse
  have hw : (cutAt (text a)).1 = wordOf k := by rw [ht, hr, cutAt_at _ (word_nb k)]
  have hg : guess k (text a) = a := by rw [ht]; exact hb
  rw [hw, kind_word k hk']
  show (if text (guess k (text a)) = text a then some (guess k (text a)) else none) = some a
  rw [hg, if_pos rfl]
theorem text_ne (a : Acn) : text a = [] ↔ rights a = false := by
  unfold text
  by_cases h : rights a = true
  · rw [if_pos h]
    obtain ⟨h1, h2, _⟩ := rights_k h
    have := wordOf_ne a.kind.toNat (by omega)
    simp [h, this]
  · rw [if_neg h]; simpa using h
theorem parse_nil : parse [] = none := by decide
theorem parse_some {s : List UInt8} {c : Acn} (h : parse s = some c) : text c = s ∧ rights c = true := by
  have h0 : s ≠ [] := by rintro rfl; rw [parse_nil] at h; cases h
  unfold parse at h
  split at h
  · cases h
  · split at h
    · injection h with h
      rename_i e
      rw [h] at e
      refine ⟨e, ?_⟩
      cases hr : rights c
      · exact absurd ((text_ne c).2 hr) (by rw [e]; exact h0)
      · rfl
    · cases h
end Ac
end Go.Proofs.YtnkimfbdcghgpaaDoor
