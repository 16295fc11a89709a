/-
  DERIVED. Plain: what a row of one's own holds lies in the new memory.
-/
import Derived.Test.YtpbjnjnmbglllaaRpP
namespace Go.Proofs.Ytpbjnjnmbglllaa
open Go.RowKit Go.Sort

theorem flat_at {α : Type} (f : α → List Value) (n : Nat) (hf : ∀ x, (f x).length = n) : ∀ (l : List α) (k : Nat) (x : α), l[k]? = some x → ∀ (j : Nat) (v : Value), (f x)[j]? = some v → (l.flatMap f)[k * n + j]? = some v
  | a :: l, 0, x, hx, j, v, hv => by
    simp only [List.getElem?_cons_zero, Option.some.injEq] at hx
    subst hx
    rw [List.flatMap_cons, Nat.zero_mul, Nat.zero_add, List.getElem?_append_left (List.getElem?_eq_some_iff.1 hv).1]; exact hv
  | a :: l, k + 1, x, hx, j, v, hv => by
    rw [List.getElem?_cons_succ] at hx
    rw [List.flatMap_cons, List.getElem?_append_right (by rw [hf]; rw [Nat.add_mul]; omega), hf, show (k + 1) * n + j - n = k * n + j by rw [Nat.add_mul]; omega]
    exact flat_at f n hf l k x hx j v hv
  | [], k, x, hx, _, _, _ => by simp at hx
theorem flat_len {α : Type} (f : α → List Value) (n : Nat) (hf : ∀ x, (f x).length = n) : ∀ (l : List α), (l.flatMap f).length = l.length * n
  | [] => by simp
  | a :: l => by rw [List.flatMap_cons, List.length_append, hf, flat_len f n hf l, List.length_cons, Nat.add_mul]; omega
/-- What a row of one's own holds lies in the new memory. -/
theorem own_lies {α : Type} {w : World} {B : Nat} {e : TypeId} {n : Nat} {v : Value} {l : List α} {f : α → List Value} (hf : ∀ x, (f x).length = n) (h : w.ownsRow B e n v l.length (l.flatMap f)) :
    ∃ (p : Option Addr) (c : Nat), v = .slice p l.length c ∧ (l = [] ∨ ∃ b o, p = some ⟨b, o, none⟩ ∧ B ≤ b ∧ v.ownBlock = some b ∧ ∀ k x, l[k]? = some x → (fresh B w).rangeAt b (o + k * n) (f x)) := by
  rcases h.2 with ⟨rfl, h0⟩ | ⟨g, cap, cur, rfl, hg, hr⟩
  · have hl : l = [] := List.length_eq_zero_iff.1 h0
    subst hl
    exact ⟨_, _, rfl, .inl rfl⟩
  · refine ⟨_, _, rfl, .inr ⟨g, 0, rfl, hg, rfl, fun k x hx j u hu => ?_⟩⟩
    have hat := flat_at f n hf l k x hx j u hu
    have hlt := (List.getElem?_eq_some_iff.1 hat).1
    rw [flat_len f n hf] at hlt
    unfold fresh
    rw [mask_cell, if_neg (by simp; omega), Nat.zero_add, h.cellAt _ hlt]
    exact hat

end Go.Proofs.Ytpbjnjnmbglllaa
