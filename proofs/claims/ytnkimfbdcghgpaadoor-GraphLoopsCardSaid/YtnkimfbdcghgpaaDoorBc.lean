/-
  DERIVED. When actions are alike; the walk of Right.
-/
import Derived.Test.YtnkimfbdcghgpaaDoorLa
import Derived.Laws.StructEq
import Derived.Outline
import Derived.Deep.DeepCutAuto
namespace Go.Proofs.YtnkimfbdcghgpaaDoor
open Go.RowKit Go.Sort
open Ac

theorem take_any (g p : Nat) (hp : p ≤ 13) (a : Acn) (w : World) (h : Bk w g 32 a.cs) (hG : Gl w) : Calls Tryd.prog 32 #[.int .u8 (p : Int), .pointer (some ⟨g, 0, none⟩)] w fun e w' => TkPost w g p a e w' := by
  have hc : p = 0 ∨ (1 ≤ p ∧ p ≤ 8) ∨ p = 9 ∨ p = 10 ∨ p = 11 ∨ p = 12 ∨ p = 13 := by omega
  rcases hc with rfl | h1 | rfl | rfl | rfl | rfl | rfl
  · exact take_none g a w h
  · exact take_num g p h1 a w h hG
  · exact take_left g a w h
  · exact take_right g a w h
  · exact take_more g a w h
  · exact take_order g a w h
  · exact take_sense g a w h

theorem agg_opd {w : World} (d : Nat) (o q : Opd) : (Op.equalIn (d + 2) 30 (.agg #[.int .i64 o.v, .int .i64 o.n]) (.agg #[.int .i64 q.v, .int .i64 q.n])).run Tryd.prog w = .ok (decide (o = q)) w := by
  have e : decide (o = q) = (decide (o.v = q.v) && decide (o.n = q.n)) := by
    obtain ⟨a, b⟩ := o; obtain ⟨c, d⟩ := q
    rw [Bool.eq_iff_iff]; simp
  rw [e]
  by_cases h1 : o.v = q.v
  · by_cases h2 : o.n = q.n
    · simp [go_sem, h1, h2]
    · simp [go_sem, h1, h2]
  · simp [go_sem, h1]
set_option maxHeartbeats 1600000 in
set_option maxRecDepth 100000 in
theorem agg_acn {w : World} (a b : Acn) : (Op.equalIn 10000 32 (.agg a.cs) (.agg b.cs)).run Tryd.prog w = .ok (decide (a = b)) w := by
  obtain ⟨k, x, y, f, t, pl, op, ⟨lv, ln⟩, ⟨rv, rn⟩, s⟩ := a
  obtain ⟨k', x', y', f', t', pl', op', ⟨lv', ln'⟩, ⟨rv', rn'⟩, s'⟩ := b
  unfold Acn.cs
  by_cases h : k = k'
  case neg =>
    have e : decide ((⟨k, x, y, f, t, pl, op, ⟨lv, ln⟩, ⟨rv, rn⟩, s⟩ : Acn) = ⟨k', x', y', f', t', pl', op', ⟨lv', ln'⟩, ⟨rv', rn'⟩, s'⟩) = false := by rw [decide_eq_false_iff_not]; intro e; simp at e; exact h (by simp [e])
    rw [e]
    simp [go_sem, h]
  subst h
  by_cases h : x = x'
  case neg =>
    have e : decide ((⟨k, x, y, f, t, pl, op, ⟨lv, ln⟩, ⟨rv, rn⟩, s⟩ : Acn) = ⟨k, x', y', f', t', pl', op', ⟨lv', ln'⟩, ⟨rv', rn'⟩, s'⟩) = false := by rw [decide_eq_false_iff_not]; intro e; simp at e; exact h (by simp [e])
    rw [e]
    simp [go_sem, h]
  subst h
  by_cases h : y = y'
  case neg =>
    have e : decide ((⟨k, x, y, f, t, pl, op, ⟨lv, ln⟩, ⟨rv, rn⟩, s⟩ : Acn) = ⟨k, x, y', f', t', pl', op', ⟨lv', ln'⟩, ⟨rv', rn'⟩, s'⟩) = false := by rw [decide_eq_false_iff_not]; intro e; simp at e; exact h (by simp [e])
    rw [e]
    simp [go_sem, h]
  subst h
  by_cases h : f = f'
  case neg =>
    have e : decide ((⟨k, x, y, f, t, pl, op, ⟨lv, ln⟩, ⟨rv, rn⟩, s⟩ : Acn) = ⟨k, x, y, f', t', pl', op', ⟨lv', ln'⟩, ⟨rv', rn'⟩, s'⟩) = false := by rw [decide_eq_false_iff_not]; intro e; simp at e; exact h (by simp [e])
    rw [e]
    simp [go_sem, h]
  subst h
  by_cases h : t = t'
  case neg =>
    have e : decide ((⟨k, x, y, f, t, pl, op, ⟨lv, ln⟩, ⟨rv, rn⟩, s⟩ : Acn) = ⟨k, x, y, f, t', pl', op', ⟨lv', ln'⟩, ⟨rv', rn'⟩, s'⟩) = false := by rw [decide_eq_false_iff_not]; intro e; simp at e; exact h (by simp [e])
    rw [e]
    simp [go_sem, h]
  subst h
  by_cases h : pl = pl'
  case neg =>
    have e : decide ((⟨k, x, y, f, t, pl, op, ⟨lv, ln⟩, ⟨rv, rn⟩, s⟩ : Acn) = ⟨k, x, y, f, t, pl', op', ⟨lv', ln'⟩, ⟨rv', rn'⟩, s'⟩) = false := by rw [decide_eq_false_iff_not]; intro e; simp at e; exact h (by simp [e])
    rw [e]
    simp [go_sem, h]
  subst h
  by_cases h : op = op'
  case neg =>
    have e : decide ((⟨k, x, y, f, t, pl, op, ⟨lv, ln⟩, ⟨rv, rn⟩, s⟩ : Acn) = ⟨k, x, y, f, t, pl, op', ⟨lv', ln'⟩, ⟨rv', rn'⟩, s'⟩) = false := by rw [decide_eq_false_iff_not]; intro e; simp at e; exact h (by simp [e])
    rw [e]
    simp [go_sem, h]
  subst h
  by_cases h : lv = lv'
  case neg =>
    have e : decide ((⟨k, x, y, f, t, pl, op, ⟨lv, ln⟩, ⟨rv, rn⟩, s⟩ : Acn) = ⟨k, x, y, f, t, pl, op, ⟨lv', ln'⟩, ⟨rv', rn'⟩, s'⟩) = false := by rw [decide_eq_false_iff_not]; intro e; simp at e; exact h (by simp [e])
    rw [e]
    simp [go_sem, h]
  subst h
  by_cases h : ln = ln'
  case neg =>
    have e : decide ((⟨k, x, y, f, t, pl, op, ⟨lv, ln⟩, ⟨rv, rn⟩, s⟩ : Acn) = ⟨k, x, y, f, t, pl, op, ⟨lv, ln'⟩, ⟨rv', rn'⟩, s'⟩) = false := by rw [decide_eq_false_iff_not]; intro e; simp at e; exact h (by simp [e])
    rw [e]
    simp [go_sem, h]
  subst h
  by_cases h : rv = rv'
  case neg =>
    have e : decide ((⟨k, x, y, f, t, pl, op, ⟨lv, ln⟩, ⟨rv, rn⟩, s⟩ : Acn) = ⟨k, x, y, f, t, pl, op, ⟨lv, ln⟩, ⟨rv', rn'⟩, s'⟩) = false := by rw [decide_eq_false_iff_not]; intro e; simp at e; exact h (by simp [e])
    rw [e]
    simp [go_sem, h]
  subst h
  by_cases h : rn = rn'
  case neg =>
    have e : decide ((⟨k, x, y, f, t, pl, op, ⟨lv, ln⟩, ⟨rv, rn⟩, s⟩ : Acn) = ⟨k, x, y, f, t, pl, op, ⟨lv, ln⟩, ⟨rv, rn'⟩, s'⟩) = false := by rw [decide_eq_false_iff_not]; intro e; simp at e; exact h (by simp [e])
    rw [e]
    simp [go_sem, h]
  subst h
  by_cases h : s = s'
  case neg =>
    have e : decide ((⟨k, x, y, f, t, pl, op, ⟨lv, ln⟩, ⟨rv, rn⟩, s⟩ : Acn) = ⟨k, x, y, f, t, pl, op, ⟨lv, ln⟩, ⟨rv, rn⟩, s'⟩) = false := by rw [decide_eq_false_iff_not]; intro e; simp at e; exact h (by simp [e])
    rw [e]
    simp [go_sem, h]
  subst h
  simp [go_sem]
theorem eql_acn {w : World} (a b : Acn) : (binOp .eql 32 (.agg a.cs) (.agg b.cs)).run Tryd.prog w = .ok (.bool (decide (a = b))) w := by
  rw [run_eql_struct, agg_acn]; rfl
theorem neq_acn {w : World} (a b : Acn) : (binOp .neq 32 (.agg a.cs) (.agg b.cs)).run Tryd.prog w = .ok (.bool (!decide (a = b))) w := by
  rw [run_neq_struct, agg_acn]; rfl

/-- The parts of a kind, by value. -/
def fcs (k : Nat) : Array Value := ((formOf k).map fun (p : Nat) => Value.int .u8 (p : Int)).toArray
theorem form_len (k : Nat) (h : k < 13) : (formOf k).length = 5 := by
  match k, h with
  | 0, _ => rfl
  | 1, _ => rfl
  | 2, _ => rfl
  | 3, _ => rfl
  | 4, _ => rfl
  | 5, _ => rfl
  | 6, _ => rfl
  | 7, _ => rfl
  | 8, _ => rfl
  | 9, _ => rfl
  | 10, _ => rfl
  | 11, _ => rfl
  | 12, _ => rfl
theorem form_le (k : Nat) : ∀ p ∈ formOf k, p ≤ 13 := by unfold formOf; split <;> decide
theorem fcs_size (k : Nat) (h : k < 13) : (fcs k).size = 5 := by simp [fcs, form_len k h]
theorem fcs_at (k j : Nat) (h : k < 13) (hj : j < 5) : (fcs k)[j]? = some (.int .u8 (((formOf k).getD j 0 : Nat) : Int)) := by
  have hl := form_len k h
  unfold fcs
  simp [List.getElem?_eq_getElem (show j < (formOf k).length by omega)]
theorem form_row {w : World} (hG : Gl w) (k : Nat) (h : k < 13) : w.rangeAt 0 (k * 5) (fcs k).toList := by
  intro j v hv
  have hj : j < 5 := by
    have := (List.getElem?_eq_some_iff.1 hv).1
    have e := fcs_size k h
    rw [Array.length_toList] at this; omega
  rw [hG.forms k h j hj, ← fcs_at k j h hj]
  simpa using hv
theorem form_drop (k j : Nat) (h : k < 13) (hj : j < 5) : (formOf k).drop j = (formOf k).getD j 0 :: (formOf k).drop (j + 1) := by
  have hl := form_len k h
  rw [List.drop_eq_getElem_cons (by omega)]
  simp [List.getElem?_eq_getElem (show j < (formOf k).length by omega)]
theorem form_get_le (k j : Nat) (h : k < 13) (hj : j < 5) : (formOf k).getD j 0 ≤ 13 := by
  have hl := form_len k h
  refine form_le k _ ?_
  simp [List.getElem?_eq_getElem (show j < (formOf k).length by omega)]
theorem size25 : (Tryd.prog.info? 32).map (·.size) = some 12 := by kernel_rfl
theorem size35 : (Tryd.prog.info? 72).map (·.size) = some 5 := by kernel_rfl
theorem cs_size (a : Acn) : a.cs.size = 12 := rfl
theorem cs_one (a : Acn) : a.cs.all (·.oneCell') = true := by simp [Acn.cs, Value.oneCell']
end Go.Proofs.YtnkimfbdcghgpaaDoor
