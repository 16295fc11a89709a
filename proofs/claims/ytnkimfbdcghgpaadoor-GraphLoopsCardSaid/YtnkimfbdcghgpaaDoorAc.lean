/-
  DERIVED. Actions, plainly: the document's answer of what may be, and its text, kind by kind, and that they are the program's.
-/
import Derived.Test.YtnkimfbdcghgpaaDoorAb
namespace Go.Proofs.YtnkimfbdcghgpaaDoor
namespace Ac
open Go

/-- Which things a kind has: X, Y, F, T, Op, L, R, Sense. -/
def hasOf (k op : Int) : Bool × Bool × Bool × Bool × Bool × Bool × Bool × Bool :=
  if k = 1 ∨ k = 7 ∨ k = 10 then (true, false, false, false, false, false, false, false)
  else if k = 2 then (true, true, false, false, false, false, false, false)
  else if k = 3 ∨ k = 5 then (true, true, true, false, false, false, false, false)
  else if k = 4 then (true, false, true, false, false, false, false, false)
  else if k = 6 then (true, false, false, true, false, false, false, false)
  else if k = 8 then (true, true, false, false, false, false, false, true)
  else if k = 9 then (false, false, false, false, false, false, false, true)
  else if k = 11 then (true, false, false, false, true, true, decide (0 < op), false)
  else if k = 12 then (false, false, false, false, true, true, true, true)
  else (false, false, false, false, false, false, false, false)
def numB (n lim : Int) : Bool := decide (0 ≤ n) && decide (n < lim)
def operB (o : Opd) : Bool := if o.v = -1 then decide (0 ≤ o.n) && decide (o.n ≤ 999999999) else numB o.v 24 && decide (o.n = 0)
def xB (h : Bool) (lo x : Int) : Bool := (!h && decide (x = 0)) || (h && decide (lo ≤ x) && decide (x < 24))
def fB (h : Bool) (x lim : Int) : Bool := (!h && decide (x = 0)) || (h && numB x lim)
def oB (h : Bool) (o : Opd) : Bool := (!h && decide (o = ⟨0, 0⟩)) || (h && operB o)
def leastOf (k : Int) : Int := if k = 8 then -1 else 0
def mostOf (k : Int) : Int := if k = 12 then 2 else 3
def rRight (a : Acn) : Bool :=
  if a.kind < 0 ∨ 12 < a.kind ∨ a.pl < 0 ∨ 65536 < a.pl then false
  else
    let h := hasOf a.kind a.op
    xB h.1 (leastOf a.kind) a.x && xB h.2.1 (leastOf a.kind) a.y && fB h.2.2.1 a.f 8 && fB h.2.2.2.1 a.t 8 && fB h.2.2.2.2.1 a.op (mostOf a.kind)
      && oB h.2.2.2.2.2.1 a.l && oB h.2.2.2.2.2.2.1 a.r && (h.2.2.2.2.2.2.2 || !a.sense)

theorem operB_iff (o : Opd) : operB o = (opTk o).1 := by
  unfold operB opTk within numB
  split
  · rfl
  · rw [Bool.eq_iff_iff]; simp; omega
theorem opTk_zero {o : Opd} (h : (opTk o).1 = true) : (opTk o).2 = ⟨0, 0⟩ := (opTk_ok1 h).2
theorem b_and {a b : Bool} {P : Prop} [Decidable P] (h : a = true → P) : (a = true ∧ P ∧ b = true ↔ a = true ∧ b = true) := ⟨fun x => ⟨x.1, x.2.2⟩, fun x => ⟨x.1, h x.1, x.2⟩⟩

theorem right_k (k : Nat) (hk : k < 13) (a : Acn) (ha : a.kind = k) : rRight a = goR (formOf k) { a with kind := 0 } := by
  obtain ⟨kind, x, y, f, t, pl, op, l, r, sense⟩ := a
  simp only at ha
  subst ha
  have hl := @opTk_zero l
  have hr := @opTk_zero r
  match k, hk with
  | 0, _ =>
    rw [Bool.eq_iff_iff]
    simp [rRight, hasOf, formOf, goR, tk, numOf, setNum, loOf, hiOf, within_iff, Acn.zero, xB, fB, oB, numB, leastOf, mostOf, operB_iff]
    grind
  | 1, _ =>
    rw [Bool.eq_iff_iff]
    simp [rRight, hasOf, formOf, goR, tk, numOf, setNum, loOf, hiOf, within_iff, Acn.zero, xB, fB, oB, numB, leastOf, mostOf, operB_iff]
    grind
  | 2, _ =>
    rw [Bool.eq_iff_iff]
    simp [rRight, hasOf, formOf, goR, tk, numOf, setNum, loOf, hiOf, within_iff, Acn.zero, xB, fB, oB, numB, leastOf, mostOf, operB_iff]
    grind
  | 3, _ =>
    rw [Bool.eq_iff_iff]
    simp [rRight, hasOf, formOf, goR, tk, numOf, setNum, loOf, hiOf, within_iff, Acn.zero, xB, fB, oB, numB, leastOf, mostOf, operB_iff]
    grind
  | 4, _ =>
    rw [Bool.eq_iff_iff]
    simp [rRight, hasOf, formOf, goR, tk, numOf, setNum, loOf, hiOf, within_iff, Acn.zero, xB, fB, oB, numB, leastOf, mostOf, operB_iff]
    grind
  | 5, _ =>
    rw [Bool.eq_iff_iff]
    simp [rRight, hasOf, formOf, goR, tk, numOf, setNum, loOf, hiOf, within_iff, Acn.zero, xB, fB, oB, numB, leastOf, mostOf, operB_iff]
    grind
  | 6, _ =>
    rw [Bool.eq_iff_iff]
    simp [rRight, hasOf, formOf, goR, tk, numOf, setNum, loOf, hiOf, within_iff, Acn.zero, xB, fB, oB, numB, leastOf, mostOf, operB_iff]
    grind
  | 7, _ =>
    rw [Bool.eq_iff_iff]
    simp [rRight, hasOf, formOf, goR, tk, numOf, setNum, loOf, hiOf, within_iff, Acn.zero, xB, fB, oB, numB, leastOf, mostOf, operB_iff]
    grind
  | 8, _ =>
    rw [Bool.eq_iff_iff]
    simp [rRight, hasOf, formOf, goR, tk, numOf, setNum, loOf, hiOf, within_iff, Acn.zero, xB, fB, oB, numB, leastOf, mostOf, operB_iff]
    grind
  | 9, _ =>
    rw [Bool.eq_iff_iff]
    simp [rRight, hasOf, formOf, goR, tk, numOf, setNum, loOf, hiOf, within_iff, Acn.zero, xB, fB, oB, numB, leastOf, mostOf, operB_iff]
    grind
  | 10, _ =>
    rw [Bool.eq_iff_iff]
    simp [rRight, hasOf, formOf, goR, tk, numOf, setNum, loOf, hiOf, within_iff, Acn.zero, xB, fB, oB, numB, leastOf, mostOf, operB_iff]
    grind
  | 11, _ =>
    rw [Bool.eq_iff_iff]
    by_cases h0 : op = 0
    · subst h0
      simp [rRight, hasOf, formOf, goR, tk, numOf, setNum, loOf, hiOf, within_iff, Acn.zero, xB, fB, oB, numB, leastOf, mostOf, operB_iff]
      grind
    · by_cases hw : within op 0 2 = true
      · have hw' := within_iff.1 hw
        have hp : 0 < op := by omega
        simp [rRight, hasOf, formOf, goR, tk, numOf, setNum, loOf, hiOf, hw, h0, hp, within_iff, Acn.zero, xB, fB, oB, numB, leastOf, mostOf, operB_iff]
        grind
      · have hw' : ¬ (0 ≤ op ∧ op ≤ 2) := fun e => hw (within_iff.2 e)
        simp [rRight, hasOf, formOf, goR, tk, numOf, setNum, loOf, hiOf, hw, Acn.zero, xB, fB, oB, numB, leastOf, mostOf, operB_iff]
        grind
  | 12, _ =>
    rw [Bool.eq_iff_iff]
    simp [rRight, hasOf, formOf, goR, tk, numOf, setNum, loOf, hiOf, within_iff, Acn.zero, xB, fB, oB, numB, leastOf, mostOf, operB_iff]
    grind
theorem right_eq (a : Acn) : rRight a = rights a := by
  by_cases h : 0 ≤ a.kind ∧ a.kind < 13
  · obtain ⟨k, hk⟩ : ∃ k : Nat, a.kind = k := ⟨a.kind.toNat, by omega⟩
    rw [right_k k (by omega) a hk]
    unfold rights
    have e : a.kind.toNat = k := by omega
    simp [h, e]
  · unfold rights rRight
    rw [if_pos (by omega)]
    by_cases h1 : 0 ≤ a.kind
    · have h2 : ¬ a.kind < 13 := fun e => h ⟨h1, e⟩
      simp [h1, h2]
    · simp [h1]
end Ac
end Go.Proofs.YtnkimfbdcghgpaaDoor
