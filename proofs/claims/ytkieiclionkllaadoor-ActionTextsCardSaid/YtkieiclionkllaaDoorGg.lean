/-
  DERIVED. What may be has its numbers within their bounds; the document's text, kind by kind.
-/
import Derived.Test.YtkieiclionkllaaDoorGe
import Derived.Test.YtkieiclionkllaaDoorGf
namespace Go.Proofs.YtkieiclionkllaaDoor
open Go.RowKit Go.Sort
open Ac

theorem rright_any (a : Acn) (w : World) : Calls Tryd.prog 6 #[.agg a.cs] w fun e w' => e = .returned (.bool (rights a)) ∧ Below w.heap.size w w' := by
  rw [← right_eq]
  by_cases h : a.kind < 0 ∨ 12 < a.kind ∨ a.pl < 0 ∨ 65536 < a.pl
  · exact rright_out a h w
  by_cases h8 : a.kind = 8
  · exact rright_same a h h8 w
  by_cases h12 : a.kind = 12
  · exact rright_test a h h12 w
  exact rright_else a h h8 h12 w
namespace Ac
/-- The bounds of what may be. -/
structure Bds (a : Acn) : Prop where
  x : -1 ≤ a.x ∧ a.x ≤ 23
  y : -1 ≤ a.y ∧ a.y ≤ 23
  f : 0 ≤ a.f ∧ a.f ≤ 7
  t : 0 ≤ a.t ∧ a.t ≤ 7
  pl : 0 ≤ a.pl ∧ a.pl ≤ 65536
  op : 0 ≤ a.op ∧ a.op ≤ 2
  x0 : a.kind ≠ 8 → 0 ≤ a.x
  l : a.kind = 11 ∨ a.kind = 12 → opOk a.l = true
  r : a.kind = 12 ∨ (a.kind = 11 ∧ 0 < a.op) → opOk a.r = true
  o12 : a.kind = 12 → a.op ≤ 1
theorem has_l (k op : Int) (h : k = 11 ∨ k = 12) : (hasOf k op).2.2.2.2.2.1 = true := by rcases h with rfl | rfl <;> rfl
theorem has_r (k op : Int) (h : k = 12 ∨ (k = 11 ∧ 0 < op)) : (hasOf k op).2.2.2.2.2.2.1 = true := by
  rcases h with rfl | ⟨rfl, h⟩
  · rfl
  · show decide (0 < op) = true; exact decide_eq_true h
theorem has_o (op : Int) : (hasOf 12 op).2.2.2.2.1 = true := rfl
theorem bounds (a : Acn) (h0 : rights a = true) : Bds a := by
  rw [← right_eq] at h0
  unfold rRight at h0
  split at h0
  · cases h0
  · rename_i hn
    have hl := has_l a.kind a.op
    have hr := has_r a.kind a.op
    have ho := has_o a.op
    have hlo : leastOf a.kind = if a.kind = 8 then -1 else 0 := rfl
    have hmo : mostOf a.kind = if a.kind = 12 then 2 else 3 := rfl
    have h12 : a.kind = 12 → (hasOf a.kind a.op).2.2.2.2.1 = true := fun e => by rw [e]; rfl
    generalize hasOf a.kind a.op = h at *
    obtain ⟨x1, x2, x3, x4, x5, x6, x7, x8⟩ := h
    simp only [Bool.and_eq_true, xB, fB, oB, numB, Bool.or_eq_true, Bool.not_eq_true', decide_eq_true_eq] at h0
    simp only at hl hr h12
    obtain ⟨⟨⟨⟨⟨⟨⟨hx, hy⟩, hf⟩, ht⟩, hop⟩, hL⟩, hR⟩, _⟩ := h0
    have hlo2 : -1 ≤ leastOf a.kind := by rw [hlo]; split <;> omega
    have hmo2 : mostOf a.kind ≤ 3 := by rw [hmo]; split <;> omega
    refine ⟨by omega, by omega, by omega, by omega, by omega, by omega, fun e => ?_, fun e => ?_, fun e => ?_, fun e => ?_⟩
    · rw [if_neg e] at hlo; omega
    · have := hl e
      subst this
      rcases hL with ⟨e1, _⟩ | ⟨_, e1⟩
      · cases e1
      · rw [operB_iff] at e1; exact (opTk_ok1 e1).1
    · have := hr e
      subst this
      rcases hR with ⟨e1, _⟩ | ⟨_, e1⟩
      · cases e1
      · rw [operB_iff] at e1; exact (opTk_ok1 e1).1
    · have := h12 e
      rw [if_pos e] at hmo
      subst this
      rcases hop with ⟨e1, _⟩ | ⟨_, e1⟩
      · cases e1
      · omega
theorem numT_2 (n : Int) : numT 2 n = numT 1 n := rfl
theorem numT_3 (n : Int) : numT 3 n = numT 1 n := rfl
theorem numT_4 (n : Int) : numT 4 n = numT 1 n := rfl
theorem numT_pos (p : Nat) (n : Int) (h : 0 ≤ n) : numT p n = sgOf p :: Lib.itoa n := by unfold numT; rw [if_neg (by omega)]
theorem numT_size (n : Int) (h0 : -1 ≤ n) (h1 : n ≤ 23) : (bt (32 :: numT 1 n)).size ≤ 30 := by
  have := itoa_size n (by omega) (by omega)
  rw [bt_size] at this ⊢
  unfold numT
  split
  · simp [nullW]
  · simp; omega
theorem opOk_size {o : Opd} (h : opOk o = true) : (bt (32 :: opT o)).size ≤ 30 := by
  have h1 := opOk_cases h
  have h2 : (opT o).length ≤ 22 := opT_size ⟨by omega, by omega⟩ ⟨by omega, by omega⟩
  rw [bt_size]; simp; omega
end Ac
end Go.Proofs.YtkieiclionkllaaDoor
