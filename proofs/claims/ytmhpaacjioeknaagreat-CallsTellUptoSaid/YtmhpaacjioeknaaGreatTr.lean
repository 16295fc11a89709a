/-
  DERIVED. A number more in a row of one's own: what was told of the old row stands.
-/
import Derived.Test.YtmhpaacjioeknaaGreatTq
import Derived.Deep.Upon
namespace Go.Proofs.YtmhpaacjioeknaaGreat
open Go.RowKit Go.Maps Go.Sort Go.WideMaps
namespace Tj

theorem one_or (w : World) (y : Int) : OR (w.alloc (.cells #[.int .i64 y] 3)) w.heap.size (.slice (some ⟨w.heap.size, 0, none⟩) 1 1) [y] :=
  ⟨rfl, .inr ⟨w.heap.size, 1, #[.int .i64 y], rfl, Nat.le_refl _, heap_alloc_new w _, Nat.le_refl _, by unfold maxLen; omega, rfl, rfl⟩⟩
theorem one_src (w : World) (y : Int) : Src Tryz.prog 1 33 (.slice (some ⟨w.heap.size, 0, none⟩) 1 1) 1 [.int .i64 y] (w.alloc (.cells #[.int .i64 y] 3)) := by
  refine Src.ofSlice _ und33 ⟨w.heap.size, 0, none⟩ 1 1 [.int .i64 y] (by simp) ?_ (by intro u hu; simp at hu; subst hu; rfl)
  intro j u hu
  have := World.news_of_block (heap_alloc_new w (.cells #[.int .i64 y] 3)) j u (by simpa using hu)
  simpa using this
theorem came_or {w : World} {B : Nat} {v : Value} {xs : List Int} (h : OR w B v xs) : ∃ ao b cap, v = .slice ao xs.length cap ∧ Came w 1 ao b 0 xs.length cap (xs.map iv) ∧ (∀ q, q < w.heap.size → q = b → v.ownBlock = some q) := by
  rcases h.2 with ⟨rfl, h0⟩ | ⟨g, cap, cur, rfl, hb, hg, hn, hc, hs, ht⟩
  · have : xs = [] := List.length_eq_zero_iff.1 h0
    subst this
    exact ⟨none, w.heap.size, 0, rfl, ⟨Nat.le_refl _, fun q => absurd q (by omega), fun q => absurd q (by omega), by simp, fun j u hu => by simp at hu, fun j hj => absurd hj (by simp)⟩, fun q h1 h2 => by omega⟩
  · refine ⟨some ⟨g, 0, none⟩, g, cap, rfl, ⟨hn, fun _ => rfl, fun _ => (Array.getElem?_eq_some_iff.1 hg).1, by simp, fun j u hu => ?_, fun j hj => ?_⟩, fun q _ e => by rw [e]; rfl⟩
    · have hj : j < xs.length := by
        have := (List.getElem?_eq_some_iff.1 hu).1
        simpa using this
      have h2 := World.ownsRow.cellAt h j (by omega)
      rw [Nat.zero_add, h2]; exact hu
    · rw [Nat.mul_one] at hs hj
      have hc2 : w.cell? ⟨g, 0 + xs.length * 1 + j, none⟩ = cur[0 + xs.length * 1 + j]? := cell_of_row w g _ cur 3 (0, 0) hg
      rw [hc2]
      exact ⟨by rw [Array.getElem?_eq_getElem (by omega)]; rfl, frozen_of_row w g _ cur 3 hg⟩
/-- 'append(s, y)': the old row's cells hold what they held, wherever the new row lies. -/
theorem app_keep {w : World} {B : Nat} {v : Value} {xs : List Int} (ty : TypeId) (hG : OR w B v xs) (hB : B ≤ w.heap.size) (y : Int) (hb : xs.length ≤ 100000000) :
    ∃ g cap w', (Builtin.append_ #[33, 33] ty #[v, .slice (some ⟨w.heap.size, 0, none⟩) 1 1]).run Tryz.prog (w.alloc (.cells #[.int .i64 y] 3)) = .ok (.slice (some ⟨g, 0, none⟩) (xs.length + 1) cap) w' ∧
      OR w' B (.slice (some ⟨g, 0, none⟩) (xs.length + 1) cap) (xs ++ [y]) ∧ w.grownBy w' v.ownBlock ∧ RowTo w v (.slice (some ⟨g, 0, none⟩) (xs.length + 1) cap) ∧
      ∀ (q j : Nat) (u : Value), w.cell? ⟨q, j, none⟩ = some u → (v.ownBlock = some q → j < xs.length) → w'.cell? ⟨q, j, none⟩ = some u := by
  obtain ⟨i0, hi0, hz0, hz1, hz2⟩ := info_parts info3
  have hm : Below w.heap.size w (w.alloc (.cells #[.int .i64 y] 3)) := (Below.refl _ _).alloc (Nat.le_refl _) _
  have hA : OR (w.alloc (.cells #[.int .i64 y] 3)) B v xs := hG.alloc _
  obtain ⟨g, cap, w', hr, ho, hg, hat, -⟩ := run_append_lies (P := Tryz.prog) (w := w.alloc (.cells #[.int .i64 y] 3)) 33 ty B 3 i0 (.int .i64 0) 1 8 und33 hi0 hz0 hz1 hz2 rfl (by decide) v xs.length _ hA ⟨w.heap.size, 0, none⟩ 1 1 [.int .i64 y] rfl
    (by have := World.news_of_block (heap_alloc_new w (.cells #[.int .i64 y] 3)); simpa using this) (by intro u hu; simp at hu; subst hu; rfl) (by decide) (by unfold maxLen; omega) (by omega) (Nat.le_trans hB hm.size) _ rfl
  obtain ⟨ao, b, c0, rfl, hcm, hbo⟩ := came_or hA
  obtain ⟨v2, w2, hr2, hu⟩ := run_append_upon (P := Tryz.prog) hcm 33 33 ty i0 (.int .i64 0) 8 und33 hi0 hz0 hz1 hz2 rfl (Upon.start (e := 3) hcm) _ 1 _ (one_src w y) (by unfold maxLen; omega) (by omega)
  rw [hr] at hr2
  injection hr2 with e1 e2
  subst e1; subst e2
  refine ⟨g, cap, w', hr, ?_, below_grown hm hg, ?_, ?_⟩
  · unfold OR
    rw [List.length_append, List.length_singleton, List.map_append]
    exact ho
  · rcases hat with hat | hat
    · exact .inl hat.symm
    · exact .inr ⟨g, by rw [hat]; simp, rfl⟩
  · intro q j u hc hq
    have hqs := World.block_lt_of_cell? w ⟨q, j, none⟩ hc
    have hlt : q < (w.alloc (.cells #[.int .i64 y] 3)).heap.size := Nat.lt_of_lt_of_le hqs hm.size
    rw [hu.old hlt (fun k _ e => by
      have h1 := hq (hbo q hlt e.1)
      have h2 := e.2
      omega)]
    exact (hm.cell hqs).trans hc
theorem wpList_app_keep {ops : Array Oper} {rest : List Oper} {o : Oper} {a : Act} {w : World} {Q : Exit → Act → World → Prop} (hgd : o.guard = none) (s x : Operand) (ho : o.op = .call { callee := .builtin .append, args := #[s, x], argTypes := #[33, 33] })
    (B : Nat) (xs : List Int) (v : Value) (hs : a.eval s = v) (hG : OR w B v xs) (hB : B ≤ w.heap.size) (y : Int) (hx : a.eval x = .slice (some ⟨w.heap.size, 0, none⟩) 1 1) (hb : xs.length ≤ 100000000)
    (h : ∀ g cap w', OR w' B (.slice (some ⟨g, 0, none⟩) (xs.length + 1) cap) (xs ++ [y]) → w.grownBy w' v.ownBlock → RowTo w v (.slice (some ⟨g, 0, none⟩) (xs.length + 1) cap) →
      (∀ (q j : Nat) (u : Value), w.cell? ⟨q, j, none⟩ = some u → (v.ownBlock = some q → j < xs.length) → w'.cell? ⟨q, j, none⟩ = some u) → wpList Tryz.prog ops Q rest (a.put o.dst (.slice (some ⟨g, 0, none⟩) (xs.length + 1) cap)) w') : wpList Tryz.prog ops Q (o :: rest) a (w.alloc (.cells #[.int .i64 y] 3)) := by
  obtain ⟨g, cap, w', hr, h1, h2, h3, h4⟩ := app_keep o.type hG hB y hb
  refine wpList_plain hgd fun K' hK' => ?_
  unfold Oper.wp
  simp [execOp, ho, resolve, invoke, builtin, hs, hx, hr, Result.andThen]
  exact hK' _ _ (h g cap w' h1 h2 h3 h4)
end Tj
end Go.Proofs.YtmhpaacjioeknaaGreat
