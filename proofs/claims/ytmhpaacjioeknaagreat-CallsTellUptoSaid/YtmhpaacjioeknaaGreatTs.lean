/-
  DERIVED. The walk of the web's reach.
-/
import Derived.Test.YtmhpaacjioeknaaGreatTr
namespace Go.Proofs.YtmhpaacjioeknaaGreat
open Go.RowKit Go.Maps Go.Sort Go.WideMaps
namespace Tj

/-- A piece of numbers that stays as it is: the open ones. -/
def Op (w : World) (mb : Nat) (fv : Value) (fn_ : Nat) (so : Value) (os : List Int) : Prop :=
  ∃ ao co, so = .slice ao os.length co ∧ (os = [] ∨ ∃ ob off, ao = some ⟨ob, off, none⟩ ∧ ob ≠ mb ∧ (∀ j x, os[j]? = some x → w.cell? ⟨ob, off + j, none⟩ = some (.int .i64 x)) ∧ (fv.ownBlock = some ob → off + os.length ≤ fn_))
structure Rr (w0 w : World) (XS : List (List Int)) (mb bw wb : Nat) (vs : List Value) (i : Nat) (fv : Value) (bs : List Bool) (fs os nw : List Int) (so : Value) (ol : List Int) : Prop where
  web : Rws w0 bw wb vs XS
  fr : Below mb w0 w
  mbe : mb = w0.heap.size
  met : Bk w mb 4 (bs.map Value.bool).toArray
  row : OR w (mb + 1) fv fs
  op : Op w mb fv fs.length so ol
  ly : Ly XS i bs fs os nw
theorem Rr.cell {w0 w : World} {XS : List (List Int)} {mb bw wb : Nat} {vs : List Value} {i : Nat} {fv : Value} {bs : List Bool} {fs os nw : List Int} {so : Value} {ol : List Int} (h : Rr w0 w XS mb bw wb vs i fv bs fs os nw so ol) {a : Nat} {xs : List Int} (hx : XS[a]? = some xs) :
    ∃ ar cr, w.cell? ⟨wb, a, none⟩ = some (.slice ar xs.length cr) ∧ OR w bw (.slice ar xs.length cr) xs := by
  obtain ⟨v, -, hv, hc, -⟩ := h.web.at_ hx
  have hf : Below w0.heap.size w0 w := by have := h.fr; rwa [h.mbe] at this
  have h1 : OR w bw v xs := own_below hv hf
  have h2 : w.cell? ⟨wb, a, none⟩ = some v := (hf.cell (block_lt_of_cell hc)).trans hc
  obtain ⟨ar, cr, rfl⟩ := h1.shape
  exact ⟨ar, cr, h2, h1⟩
/-- A number is met and laid behind those that were found. -/
theorem Rr.hit {w0 w w' : World} {XS : List (List Int)} {mb bw wb : Nat} {vs : List Value} {i : Nat} {fv fv' : Value} {bs : List Bool} {fs os nw : List Int} {so : Value} {ol : List Int} (h : Rr w0 w XS mb bw wb vs i fv bs fs os nw so ol) {x t : Nat} (hx : (x : Int) ∈ os) (ht : (t : Int) ∈ XS.getD x []) (hn : t < XS.length) (hb : bs[t]? = some false)
    (hO : OR w' (mb + 1) fv' (fs ++ [(t : Int)])) (hg : (w.setCell ⟨mb, t, none⟩ (.bool true)).grownBy w' fv.ownBlock) (hto : RowTo (w.setCell ⟨mb, t, none⟩ (.bool true)) fv fv')
    (hk : ∀ (q j : Nat) (u : Value), (w.setCell ⟨mb, t, none⟩ (.bool true)).cell? ⟨q, j, none⟩ = some u → (fv.ownBlock = some q → j < fs.length) → w'.cell? ⟨q, j, none⟩ = some u) :
    Rr w0 w' XS mb bw wb vs i fv' (bs.set t true) (fs ++ [(t : Int)]) os (nw ++ [(t : Int)]) so ol := by
  have g1 := grownBy_setC w ⟨mb, t, none⟩ (.bool true)
  have hmet : Bk (w.setCell ⟨mb, t, none⟩ (.bool true)) mb 4 ((bs.set t true).map Value.bool).toArray := by
    have h1 := h.met.set_ t (.bool true)
    rw [List.setIfInBounds_toArray] at h1
    rw [List.map_set]
    exact h1
  have hown : ∀ q, fv.ownBlock = some q → mb + 1 ≤ q ∧ q < w.heap.size := fun q hq => h.row.lt q hq
  refine ⟨h.web, (h.fr.trans ⟨g1.os, g1.tape, g1.output, g1.size, fun j hj => g1.block j (Nat.lt_trans hj h.met.lt) (fun e => by
    have e2 : mb = j := by injection e with e3; exact e3.symm
    omega)⟩).trans ⟨hg.os, hg.tape, hg.output, hg.size, fun j hj => hg.block j (by have := h.met.lt; have := g1.size; omega) (fun e => by have := (hown j e.symm).1; omega)⟩, h.mbe, hmet.grown hg (fun q hq e => by have := (hown q hq).1; omega), hO, ?_, h.ly.hit hx ht hn hb⟩
  obtain ⟨ao, co, hso, hop⟩ := h.op
  refine ⟨ao, co, hso, ?_⟩
  by_cases hol : ol = []
  · exact .inl hol
  rcases hop with hop | ⟨ob, off, hao, hne, hc, hin⟩
  · exact .inl hop
  · refine .inr ⟨ob, off, hao, hne, fun j y hy => ?_, fun e => ?_⟩
    · have hj : j < ol.length := (List.getElem?_eq_some_iff.1 hy).1
      have h1 := g1.cell (hc j y hy) (by show some ob ≠ some mb; intro e; injection e with e; exact hne e)
      exact hk ob (off + j) _ h1 (fun e => by have := hin e; omega)
    · rw [List.length_append]
      rcases hto with q | ⟨k, hk1, hk2⟩
      · rw [q] at e
        have := hin e
        exact Nat.le_trans this (Nat.le_add_right _ _)
      · rw [hk2] at e
        injection e with e
        subst e
        obtain ⟨y, hy⟩ : ∃ y, ol[0]? = some y := ⟨_, List.getElem?_eq_getElem (List.length_pos_iff.2 hol)⟩
        have h4 := World.block_lt_of_cell? w _ (hc 0 y hy)
        have h5 := g1.size
        exfalso
        simp at h4
        omega
end Tj
end Go.Proofs.YtmhpaacjioeknaaGreat
