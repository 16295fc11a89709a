/-
  DERIVED. A row of numbers that stands somewhere in a block of one's own: a queue; a number more at its end.
-/
import Derived.Test.YtnkimfbdcghgpaaDoorXl
import Derived.Deep.AppendSrc
import Derived.Deep.Upon
import Derived.SizedLaws
namespace Go.Proofs.YtnkimfbdcghgpaaDoor
open Go.RowKit Go.Sort
theorem info3 : (Tryd.prog.info? 3).map (fun i => (i.zero, i.size, i.bytes)) = some (some (.int .i64 0), 1, 8) := by kernel_rfl
theorem und23 : Tryd.prog.underlying 23 = some (.slice 3) := Tryd.underlying23
theorem putC_eq : ∀ (vs l : List Value) (o : Nat), o + vs.length ≤ l.length → putC l o vs = l.take o ++ vs ++ l.drop (o + vs.length)
 | [], l, o, _ => by simp [putC]
 | v :: r, l, o, h => by
  simp only [List.length_cons] at h
  have ho : o < l.length := by omega
  have hA : (l.take o).length = o := by rw [List.length_take]; omega
  have hs : l.set o v = l.take o ++ v :: l.drop (o + 1) := by rw [List.set_eq_take_append_cons_drop, if_pos ho]
  have e1 : (l.set o v).take (o + 1) = l.take o ++ [v] := by
   rw [hs, List.take_append, hA, List.take_of_length_le (by omega), show o + 1 - o = 1 by omega]; rfl
  have e2 : (l.set o v).drop (o + 1 + r.length) = l.drop (o + (r.length + 1)) := by
   rw [hs, List.drop_append, hA, List.drop_of_length_le (by omega), List.nil_append, show o + 1 + r.length - o = r.length + 1 by omega, List.drop_succ_cons, List.drop_drop, show o + 1 + r.length = o + (r.length + 1) by omega]
  rw [putC, putC_eq r (l.set o v) (o + 1) (by rw [List.length_set]; omega), e1, e2]
  simp only [List.length_cons, List.append_assoc, List.singleton_append]
/-- A row of numbers somewhere in a block of one's own. -/
def OT (w : World) (B : Nat) (v : Value) (xs : List Int) : Prop :=
 (v = .slice none 0 0 ∧ xs = []) ∨ ∃ g off cap, ∃ cur : List Value, v = .slice (some ⟨g, off, none⟩) xs.length cap ∧ B ≤ g ∧ Bk w g 3 cur.toArray ∧ xs.length ≤ cap ∧ cap ≤ maxLen ∧ off + cap ≤ cur.length ∧ (cur.drop off).take xs.length = xs.map iv
theorem OT.shape {w : World} {B : Nat} {v : Value} {xs : List Int} (h : OT w B v xs) : ∃ a c, v = .slice a xs.length c := by
 rcases h with ⟨rfl, rfl⟩ | ⟨g, off, cap, cur, rfl, _⟩
 ·exact ⟨_, _, rfl⟩
 ·exact ⟨_, _, rfl⟩
theorem OT.lt {w : World} {B : Nat} {v : Value} {xs : List Int} (h : OT w B v xs) (q : Nat) (hq : v.ownBlock = some q) : B ≤ q ∧ q < w.heap.size := by
 rcases h with ⟨rfl, _⟩ | ⟨g, off, cap, cur, rfl, hb, hg, _⟩
 ·cases hq
 ·injection hq with hq; subst hq; exact ⟨hb, hg.lt⟩
theorem OT.same {w w' : World} {B : Nat} {v : Value} {xs : List Int} (h : OT w B v xs) (hh : ∀ q, v.ownBlock = some q → w'.heap[q]? = w.heap[q]?) : OT w' B v xs := by
 rcases h with h | ⟨g, off, cap, cur, rfl, hb, hg, hr⟩
 ·exact .inl h
 ·exact .inr ⟨g, off, cap, cur, rfl, hb, (hh g rfl).trans hg, hr⟩
theorem OT.below {w w' : World} {B : Nat} {v : Value} {xs : List Int} (h : OT w B v xs) (hb : Below w.heap.size w w') : OT w' B v xs := h.same fun q hq => hb.block q (h.lt q hq).2
theorem OT.put {w : World} {B : Nat} {v : Value} {xs : List Int} (h : OT w B v xs) {a : Addr} {u : Value} (ha : a.block < B) : OT (w.setCell a u) B v xs := h.same fun q hq => Below.heap_setCell w a u q (by have := (h.lt q hq).1; omega)
/-- The head of a row that is not empty. -/
theorem OT.head {w : World} {B : Nat} {v : Value} {x : Int} {xs : List Int} (h : OT w B v (x :: xs)) : ∃ g off c, v = .slice (some ⟨g, off, none⟩) (xs.length + 1) (c + 1) ∧ w.cell? ⟨g, off, none⟩ = some (.int .i64 x) ∧ OT w B (.slice (if c = 0 then some ⟨g, off, none⟩ else some ⟨g, off + 1, none⟩) xs.length c) xs := by
 rcases h with ⟨_, h⟩ | ⟨g, off, cap, cur, rfl, hb, hg, hn, hc, hs, ht⟩
 ·cases h
 ·rw [List.length_cons] at hn ht
  have hlt : off < cur.length := by omega
  rw [List.drop_eq_getElem_cons hlt, List.take_succ_cons, List.map_cons] at ht
  injection ht with ht1 ht2
  obtain ⟨c, rfl⟩ : ∃ c, cap = c + 1 := ⟨cap - 1, by omega⟩
  refine ⟨g, off, c, by rw [List.length_cons], ?_, ?_⟩
  ·rw [hg.cell]
   simp only [List.getElem?_toArray, List.getElem?_eq_getElem hlt, ht1]; rfl
  ·by_cases h0 : c = 0
   ·rw [if_pos h0]
    subst h0
    have hx : xs = [] := List.length_eq_zero_iff.1 (by omega)
    subst hx
    exact .inr ⟨g, off, 0, cur, rfl, hb, hg, Nat.le_refl _, Nat.zero_le _, by omega, by simp⟩
   ·rw [if_neg h0]
    exact .inr ⟨g, off + 1, c, cur, rfl, hb, hg, by omega, by omega, by omega, ht2⟩
theorem grown_ot (w : World) (xs ys : List Int) (c B : Nat) (hB : B ≤ w.heap.size) (hl : xs.length + ys.length ≤ 100000000) (z : Value) (hz : z.cells = #[z]) :
  OT (w.drew.alloc (.cells ((xs.map iv ++ ys.map iv).toArray ++ Builtin.zeroCells z.cells (grownCap w (xs.length + ys.length) c 3 - (xs.length + ys.length))) 3)) B (.slice (some ⟨w.heap.size, 0, none⟩) (xs.length + ys.length) (grownCap w (xs.length + ys.length) c 3)) (xs ++ ys) := by
 have hge := grownCap_ge w (xs.length + ys.length) c 3
 have hcm : grownCap w (xs.length + ys.length) c 3 ≤ maxLen := grownCap_le_maxLen w _ c 3 (by unfold maxLen; omega)
 refine .inr ⟨w.heap.size, 0, _, ((xs.map iv ++ ys.map iv).toArray ++ Builtin.zeroCells z.cells (grownCap w (xs.length + ys.length) c 3 - (xs.length + ys.length))).toList, by rw [List.length_append], hB, ?_, by rw [List.length_append]; exact hge, hcm, ?_, ?_⟩
 ·rw [Array.toArray_toList]
  exact heap_alloc_new w.drew _
 ·generalize grownCap w (xs.length + ys.length) c 3 = G at hge ⊢
  obtain ⟨D, hD⟩ : ∃ D, D = G - (xs.length + ys.length) := ⟨_, rfl⟩
  rw [← hD, Array.length_toList, Array.size_append, size_zeroCells, hz]
  simp only [List.size_toArray, List.length_append, List.length_map, List.length_cons, List.length_nil]
  omega
 ·rw [List.drop_zero, Array.toList_append, List.length_append, List.map_append]
  apply List.take_left'
  simp
theorem OT.app {w : World} {B : Nat} {v vy : Value} {xs ys : List Int} (ty : TypeId) (h : OT w B v xs) (hB : B ≤ w.heap.size) (hsrc : Src Tryd.prog 1 23 vy ys.length (ys.map iv) w) (hl : xs.length + ys.length ≤ 100000000) :
  ∃ v' w', (Builtin.append_ #[23, 23] ty #[v, vy]).run Tryd.prog w = .ok v' w' ∧ OT w' B v' (xs ++ ys) ∧ w.grownBy w' v.ownBlock ∧ RowTo w v v' := by
 obtain ⟨i0, hi0, hz0, hz1, hz2⟩ := info_parts info3
 rcases h with ⟨rfl, rfl⟩ | ⟨g, off, cap, cur, rfl, hb, hg, hn, hc, hs, ht⟩
 ·by_cases h0 : ys.length = 0
  ·have : ys = [] := List.length_eq_zero_iff.1 h0
   subst this
   refine ⟨_, _, run_append_nothing w 23 23 ty 3 i0 und23 hi0 none 0 0 (Nat.le_refl _) vy (by rw [hz1]; exact hsrc), .inl ⟨rfl, rfl⟩, ⟨rfl, rfl, rfl, Nat.le_refl _, fun _ _ _ => rfl⟩, .inl rfl⟩
  ·have hr := run_append_grow_src w 23 23 ty 3 i0 (.int .i64 0) und23 hi0 hz0 none 0 0 [] (run_firstCells_none _ _ _ _ _) vy ys.length (ys.map iv) (by rw [hz1]; exact hsrc) (by omega) (by omega) (growslice_fits (by omega) (by rw [hz2]; omega))
   have hg := grown_ot w [] ys 0 B hB hl (.int .i64 0) rfl
   simp only [List.map_nil, List.length_nil] at hg
   exact ⟨_, _, hr, hg, ⟨rfl, rfl, rfl, by simp, fun k hk _ => Below.heap_alloc w.drew _ k hk⟩, .inr ⟨_, Nat.le_refl _, rfl⟩⟩
 ·have hcell : ∀ j, j < cur.length → w.cell? ⟨g, j, none⟩ = cur[j]? := by
   intro j _
   rw [hg.cell]; simp
  by_cases hroom : xs.length + ys.length ≤ cap
  ·have hr := run_append_room_src w 23 23 ty 3 i0 und23 hi0 g off xs.length cap vy ys.length (ys.map iv) (by rw [hz1]; exact hsrc) hroom
    (by
     intro j hj
     rw [List.length_map] at hj
     rw [hz1, Nat.mul_one, hcell _ (by omega), List.getElem?_eq_getElem (by omega)]; rfl)
    (by intro j _; exact hg.frozen _)
   rw [hz1, Nat.mul_one] at hr
   have hset := Bk.setCells (ys.map iv) (off + xs.length) w cur hg
   refine ⟨_, _, hr, .inr ⟨g, off, cap, _, by rw [List.length_append], hb, hset.1, by rw [List.length_append]; exact hroom, hc, ?_, ?_⟩, hset.2, .inl rfl⟩
   ·rw [putC_eq _ _ _ (by rw [List.length_map]; omega)]
    simp only [List.length_append, List.length_take, List.length_map, List.length_drop]
    omega
   ·rw [putC_eq _ _ _ (by rw [List.length_map]; omega), List.append_assoc, List.drop_append_of_le_length (by rw [List.length_take]; omega), List.drop_take, Nat.add_sub_cancel_left, ht, ← List.append_assoc, ← List.map_append]
    apply List.take_left'
    simp
  ·have hr := run_append_grow_src w 23 23 ty 3 i0 (.int .i64 0) und23 hi0 hz0 (some ⟨g, off, none⟩) xs.length cap (xs.map iv)
    (run_firstCells_some w.drew i0.size xs.length ⟨g, off, none⟩ xs.length cap (xs.map iv) (by rw [hz1]; simp) (by
     intro j u hu
     have hj : j < xs.length := by
      have := (List.getElem?_eq_some_iff.1 hu).1
      simpa using this
     have h1 : ((cur.drop off).take xs.length)[j]? = some u := by rw [ht]; exact hu
     rw [List.getElem?_take, if_pos hj, List.getElem?_drop] at h1
     have h2 := hcell (off + j) (by omega)
     rw [h1] at h2
     rw [Addr.add_lit]
     exact h2)) vy ys.length (ys.map iv) (by rw [hz1]; exact hsrc) (by omega) (by omega) (growslice_fits (by omega) (by rw [hz2]; omega))
   have hg2 := grown_ot w xs ys cap B hB hl (.int .i64 0) rfl
   exact ⟨_, _, hr, hg2, ⟨rfl, rfl, rfl, by simp, fun k hk _ => Below.heap_alloc w.drew _ k hk⟩, .inr ⟨_, Nat.le_refl _, rfl⟩⟩

theorem one_src (w : World) (y : Int) : Src Tryd.prog 1 23 (.slice (some ⟨w.heap.size, 0, none⟩) 1 1) 1 [.int .i64 y] (w.alloc (.cells #[.int .i64 y] 3)) := by
  refine Src.ofSlice _ und23 ⟨w.heap.size, 0, none⟩ 1 1 [.int .i64 y] (by simp) ?_ (by intro u hu; simp at hu; subst hu; rfl)
  intro j u hu
  have := World.news_of_block (heap_alloc_new w (.cells #[.int .i64 y] 3)) j u (by simpa using hu)
  simpa using this
theorem OT.alloc {w : World} {B : Nat} {v : Value} {xs : List Int} (h : OT w B v xs) (o : Obj) : OT (w.alloc o) B v xs := h.below ((Below.refl _ _).alloc (Nat.le_refl _) o)
/-- 'append(s, y)' onto a queue, in the fenced calculus. -/
theorem wpListIn_app_ot {F : Fence} {n : Nat} {ops : Array Oper} {rest : List Oper} {o : Oper} {a : Act} {w : World} {Q : Exit → Act → World → Prop} (hgd : o.guard = none) (s x : Operand)
    (hop : o.op = .call { callee := .builtin .append, args := #[s, x], argTypes := #[23, 23] }) (B : Nat) (xs : List Int) (v : Value) (hs : a.eval s = v) (hG : OT w B v xs) (hB : B ≤ w.heap.size) (y : Int) (hx : a.eval x = .slice (some ⟨w.heap.size, 0, none⟩) 1 1) (hl : xs.length ≤ 100000)
    (h : ∀ v' w', OT w' B v' (xs ++ [y]) → (w.alloc (.cells #[.int .i64 y] 3)).grownBy w' v.ownBlock → RowTo w v v' → (∃ p c, v' = .slice p (xs.length + 1) c) → wpListIn F n Tryd.prog ops Q rest (a.put o.dst v') w') : wpListIn F n Tryd.prog ops Q (o :: rest) a (w.alloc (.cells #[.int .i64 y] 3)) := by
  obtain ⟨v', w', hrun, h1, h2, h3⟩ := OT.app (ys := [y]) o.type (hG.alloc (.cells #[.int .i64 y] 3)) (by simp; omega) (one_src w y) (by simp; omega)
  refine wpListIn_plain hgd fun K' hK' => ?_
  unfold Oper.wpIn
  refine ⟨?_, ?_⟩
  · simp [Oper.about, hop, resolve, Target.leads, Sem.run_pure]
  · rw [Oper.semAt_plain F _ _ (by rw [hop]; intro c hc'; cases hc')]
    simp [execOp, hop, resolve, invoke, builtin, hs, hx, hrun, Result.andThen]
    exact hK' _ _ (h v' w' h1 h2 (by rcases h3 with h3 | ⟨k, hk, h3⟩; exact .inl h3; exact .inr ⟨k, by simp at hk; omega, h3⟩) (by have := h1.shape; rwa [List.length_append] at this))
end Go.Proofs.YtnkimfbdcghgpaaDoor
