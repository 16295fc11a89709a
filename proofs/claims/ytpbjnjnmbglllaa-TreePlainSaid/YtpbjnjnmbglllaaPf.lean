/-
  DERIVED. Plain: structs stored whole; rows to which items are added as they are.
-/
import Derived.Test.YtpbjnjnmbglllaaPe
namespace Go.Proofs.Ytpbjnjnmbglllaa
open Go.RowKit Go.Sort

theorem storeCells_cons (P : Program) (w : World) (a : Addr) (v : Value) (rest : List Value) (i : Nat) : (storeCells a (v :: rest) i).run P w = ((store (a.add i) v).run P w).andThen fun _ w' => (storeCells a rest (i + 1)).run P w' := by
  simp [storeCells]
theorem st_list {P : Program} {g o : Nat} : ∀ (vs : List Value) (i : Nat) (w : World), Mine w g → (∀ j, j < vs.length → (w.cell? ⟨g, o + i + j, none⟩).isSome = true) → (∀ u ∈ vs, u.oneCell' = true) →
    ∃ w', (storeCells ⟨g, o, none⟩ vs i).run P w = .ok () w' ∧ Only w g (o + i) vs.length w' ∧ w'.rangeAt g (o + i) vs
  | [], i, w, hm, _, _ => ⟨w, by simp [storeCells], Only.refl hm, fun j v hv => by simp at hv⟩
  | v :: rest, i, w, hm, hc, h1 => by
    have h0 := hc 0 (by simp)
    rw [Nat.add_zero] at h0
    obtain ⟨u, hu⟩ := Option.isSome_iff_exists.1 h0
    have ho : Only w g (o + i) (rest.length + 1) (w.setCell ⟨g, o + i, none⟩ v) := Only.setCell hm (Nat.le_refl _) (by omega) v
    obtain ⟨w', hr, h2, h3⟩ := st_list rest (i + 1) (w.setCell ⟨g, o + i, none⟩ v) ho.mine (fun j hj => by
      have := hc (j + 1) (by simp only [List.length_cons]; omega)
      obtain ⟨z, hz⟩ := Option.isSome_iff_exists.1 this
      rw [show o + (i + 1) + j = o + i + (j + 1) by omega, World.cell?_setCell_other _ _ _ _ (by intro e; injection e with _ e; omega), hz]; rfl) (fun u hu => h1 u (List.mem_cons_of_mem _ hu))
    refine ⟨w', ?_, ho.trans (h2.wide (by omega) (by omega)), fun j x hx => ?_⟩
    · rw [storeCells_cons, Addr.add_lit, run_store P w ⟨g, o + i, none⟩ v _ (h1 v (by simp)), hu, if_neg (by rw [hm.frozen]; simp)]
      exact hr
    · cases j with
      | zero =>
        simp only [List.getElem?_cons_zero, Option.some.injEq] at hx
        subst hx
        rw [Nat.add_zero]
        exact h2.cell (World.cell?_setCell_same _ _ _ hu) (.inl (by omega))
      | succ j =>
        rw [List.getElem?_cons_succ] at hx
        have := h3 j x hx
        rwa [show o + (i + 1) + j = o + i + (j + 1) by omega] at this
/-- A struct's cells go into the midst of a block. -/
theorem st_put {P : Program} {w : World} {g o : Nat} (cs : Array Value) (old : List Value) (hm : Mine w g) (hr : w.rangeAt g o old) (hl : old.length = cs.size) (h1 : ∀ u ∈ cs.toList, u.oneCell' = true) :
    ∃ w', (storeCells ⟨g, o, none⟩ cs.toList 0).run P w = .ok () w' ∧ Only w g o cs.size w' ∧ w'.rangeAt g o cs.toList := by
  have h := st_list (P := P) (g := g) (o := o) cs.toList 0 w hm (fun j hj => by rw [Nat.add_zero]; exact hr.isSome j (by rw [hl]; simpa using hj)) h1
  simpa using h
/-- A struct's cells go into the block that was made last. -/
theorem st_new {P : Program} (w : World) (t : TypeId) (c cs : Array Value) (hc : c.size = cs.size) (h1 : ∀ u ∈ cs.toList, u.oneCell' = true) :
    (storeCells ⟨w.heap.size, 0, none⟩ cs.toList 0).run P (w.alloc (.cells c t)) = .ok () (w.alloc (.cells cs t)) := by
  have h := run_storeCells_from (P := P) w.heap.size t cs.toList 0 c (w.alloc (.cells c t)) (heap_alloc_new _ _) (by simpa using hc.symm) h1
  rw [h]
  simp [World.setRow_alloc_new]

theorem fresh_new {B X : Nat} {w w' : World} (h : Below w.heap.size w w') (hX : w.heap.size ≤ X) : Ext (fresh B w) (rest B (some X) w') := Ext.of_mask fun b hb hlt => by
  simp only [Bool.or_eq_false_iff, decide_eq_false_iff_not] at hb ⊢
  exact ⟨⟨hb, by intro e; injection e with e; omega⟩, h.block b hlt⟩
/-- From beside one's own block to beside an older row. -/
theorem rest_older {B B' X : Nat} {r : Option Nat} {w : World} (hB : B' ≤ B) (hr : ∀ g, r = some g → g < B) : Ext (rest B (some X) w) (rest B' r w) := Ext.of_mask fun b hb _ => by
  simp only [Bool.or_eq_false_iff, decide_eq_false_iff_not] at hb ⊢
  exact ⟨⟨by omega, by intro e; have := hr b e.symm; omega⟩, trivial⟩
theorem rest_newer {B B' X : Nat} {r : Option Nat} {w : World} (hB : B ≤ B') (hX : X < B') : Ext (rest B' r w) (rest B (some X) w) := Ext.of_mask fun b hb _ => by
  simp only [Bool.or_eq_false_iff, decide_eq_false_iff_not] at hb ⊢
  exact ⟨⟨by omega, by intro e; injection e with e; omega⟩, trivial⟩
theorem rest_beside {B g q n : Nat} {r : Option Nat} {w w' : World} (h : Only w g q n w') (hg : g < B) : Ext (rest B r w) (rest B r w') := Ext.of_mask fun b hb hlt => by
  simp only [Bool.or_eq_false_iff, decide_eq_false_iff_not] at hb ⊢
  exact ⟨hb, h.1.block b hlt (by intro e; injection e with e; omega)⟩
/-- The block of one's own as a range. -/
theorem Bk.range {w : World} {g : Nat} {t : TypeId} {cs : Array Value} (h : Bk w g t cs) : w.rangeAt g 0 cs.toList := fun j v hv => by
  rw [Nat.zero_add, h.cell]; simpa using hv
theorem Bk.mine {w : World} {g : Nat} {t : TypeId} {cs : Array Value} (h : Bk w g t cs) : Mine w g := ⟨_, _, h⟩

namespace Kd
variable {α : Type} {K : Kd α}
theorem Grows.only {B k g q n : Nat} {l : List α} {v : Value} {w w' : World} (h : K.Grows B l k v w) (ho : Only w g q n w') (hg : g < B) : K.Grows B l k v w' := by
  obtain ⟨ys, h1, h2, h3, h4, h5⟩ := h
  refine ⟨ys, h1, h2, h3, h4.kept ho.1 ?_, fun y hy => K.ext y (rest_beside ho hg) (h5 y hy)⟩
  cases hv : v.ownBlock with
  | none => exact .inl rfl
  | some b => right; intro e; injection e with e; have := (h4.lt b hv).1; omega
theorem Grows.lt {B k : Nat} {l : List α} {v : Value} {w : World} (h : K.Grows B l k v w) : ∀ g, v.ownBlock = some g → g < w.heap.size := by
  obtain ⟨ys, h1, h2, h3, h4, h5⟩ := h
  exact fun g hg => (h4.lt g hg).2
/-- One item is added as it is. -/
theorem add {B k g cap : Nat} {l ys : List α} {v : Value} {w w1 : World} {x y : α} (h1 : ys.length = k) (h2 : ys.map K.er = (l.take k).map K.er) (h3 : ∀ y ∈ ys, K.flat y) (h5 : ∀ y ∈ ys, K.R (rest B v.ownBlock w) y) (hx : l[k]? = some x)
    (hg : w.grownBy w1 v.ownBlock) (hat : v.ownBlock = some g ∨ g = w.heap.size)
    (ho : w1.ownsRow B K.T K.size (.slice (some ⟨g, 0, none⟩) (k + 1) cap) (k + 1) (ys.flatMap K.cells ++ K.cells y))
    (hy : K.er y = K.er x) (hf : K.flat y) (hR : K.R (rest B v.ownBlock w) y) : K.Grows B l (k + 1) (.slice (some ⟨g, 0, none⟩) (k + 1) cap) w1 := by
  refine ⟨ys ++ [y], by simp [h1], ?_, ?_, ?_, ?_⟩
  · obtain ⟨hk, rfl⟩ := List.getElem?_eq_some_iff.1 hx
    rw [List.take_succ_eq_append_getElem hk, List.map_append, List.map_append, h2, List.map_cons, List.map_nil, hy]; rfl
  · intro z hz
    rcases List.mem_append.1 hz with hz | hz
    · exact h3 z hz
    · rw [List.mem_singleton.1 hz]; exact hf
  · rw [List.flatMap_append, List.flatMap_singleton]; exact ho
  · intro z hz
    rcases List.mem_append.1 hz with hz | hz
    · exact K.ext z (rest_grown hg hat) (h5 z hz)
    · rw [List.mem_singleton.1 hz]; exact K.ext y (rest_grown hg hat) hR
end Kd

end Go.Proofs.Ytpbjnjnmbglllaa
