/-
  DERIVED. Plain: three rows of one's own that grow by turns. The walk of the parser's program.
-/
import Derived.Test.YtlpnkllhpienhaaDoorQn
namespace Go.Proofs.YtlpnkllhpienhaaDoor
open Go.RowKit Go.Sort

namespace Pr
section
variable {t : List Tk}
theorem fields_fwd : ∀ (n : Nat) (acc : List Dc) (u : St) {l : List Dc} {v : St}, fields t n acc u = .ok (l, v) → Fwd 1 u v
  | 0, acc, u, l, v, h => by cases h
  | n + 1, acc, u, l, v, h => by
    unfold fields at h
    split at h
    · injection h with h; injection h with _ h; subst h; exact Fwd.go u
    · obtain ⟨a, u1, h1, h⟩ := th_ok h
      obtain ⟨b, u2, h2, h⟩ := th_ok h
      exact (((pointer_fwd h1).tr (must_fwd h2)).tr (fields_fwd n _ _ h)).le (by omega)
theorem structure_fwd {u v : St} {x : Sr} (h : structure_ t u = .ok (x, v)) : Fwd 1 u v := by
  obtain ⟨a, u1, h1, h⟩ := th_ok h
  obtain ⟨b, u2, h2, h⟩ := th_ok h
  obtain ⟨c, u3, h3, h⟩ := th_ok h
  obtain ⟨d, u4, h4, h⟩ := th_ok h
  injection h with h; injection h with _ h; subst h
  exact ((((must_fwd h1).tr (name_fwd h2)).tr (must_fwd h3)).tr (fields_fwd _ _ _ h4)).le (by omega)
theorem locals_fwd : ∀ (n : Nat) (acc : List Dc) (u : St) {l : List Dc} {v : St}, locals t n acc u = .ok (l, v) → Fwd 0 u v
  | 0, acc, u, l, v, h => by cases h
  | n + 1, acc, u, l, v, h => by
    unfold locals at h
    split at h
    · obtain ⟨a, u1, h1, h⟩ := th_ok h
      exact ((decl_fwd h1).tr (locals_fwd n _ _ h)).le (by omega)
    · injection h with h; injection h with _ h; subst h; exact Fwd.refl u
theorem proc_stp {u v : St} {x : Pc} (h : proc t u = .ok (x, v)) : Stp 1 u v := by
  obtain ⟨a, u1, h1, h⟩ := th_ok h
  obtain ⟨b, u2, h2, h⟩ := th_ok h
  obtain ⟨c, u3, h3, h⟩ := th_ok h
  obtain ⟨d, u4, h4, h⟩ := th_ok h
  obtain ⟨e, u5, h5, h⟩ := th_ok h
  obtain ⟨f, u6, h6, h⟩ := th_ok h
  obtain ⟨g, u7, h7, h⟩ := th_ok h
  injection h with h; injection h with _ h; subst h
  exact ((((((must_fwd h1).tr (name_fwd h2)).tr (listed_fwd (fun _ _ _ h => variable_fwd h) h3)).tr (must_fwd h4)).tr (locals_fwd _ _ _ h5)).stp.tr ((stmts_stp _ _ _ _ h6).tr (must_fwd h7).stp)).le (by omega)
theorem program_end {n : Nat} {ss : List Sr} {gs : List Dc} {ps : List Pc} {u : St} (h : (sg t u.i).kind = 0) : program t (n + 1) ss gs ps u = .ok (⟨⟨none, 0, ss⟩, ⟨none, 0, gs⟩, ⟨none, 0, ps⟩⟩, u) := by rw [program, if_pos h]
theorem program_1 {n : Nat} {ss : List Sr} {gs : List Dc} {ps : List Pc} {u : St} (h : (sg t u.i).kind ≠ 0) (h1 : is t u.i ⟨#[115, 116, 114, 117, 99, 116]⟩ = true) : program t (n + 1) ss gs ps u = th (structure_ t u) fun x u => program t n (ss ++ [x]) gs ps u := by rw [program, if_neg h, if_pos h1]
theorem program_3 {n : Nat} {ss : List Sr} {gs : List Dc} {ps : List Pc} {u : St} (h : (sg t u.i).kind ≠ 0) (h1 : is t u.i ⟨#[115, 116, 114, 117, 99, 116]⟩ = false) (h2 : is t u.i ⟨#[118, 111, 105, 100]⟩ = true) : program t (n + 1) ss gs ps u = th (proc t u) fun x u => program t n ss gs (ps ++ [x]) u := by rw [program, if_neg h, if_neg (by rw [h1]; simp), if_pos h2]
theorem program_2 {n : Nat} {ss : List Sr} {gs : List Dc} {ps : List Pc} {u : St} (h : (sg t u.i).kind ≠ 0) (h1 : is t u.i ⟨#[115, 116, 114, 117, 99, 116]⟩ = false) (h2 : is t u.i ⟨#[118, 111, 105, 100]⟩ = false) : program t (n + 1) ss gs ps u = th (decl t u) fun x u => program t n ss (gs ++ [x]) ps u := by rw [program, if_neg h, if_neg (by rw [h1]; simp), if_neg (by rw [h2]; simp)]
end
end Pr
/-- All but what was there, and three blocks. -/
def M3 (B : Nat) (r1 r2 r3 : Option Nat) (w : World) : World := mask (fun b => decide (b < B) || (decide (some b = r1) || (decide (some b = r2) || decide (some b = r3)))) w
theorem M3.par {B g : Nat} {r1 r2 r3 : Option Nat} {w w' : World} (h : w.grownBy w' (some g)) (hg : g < B) : Ext (M3 B r1 r2 r3 w) (M3 B r1 r2 r3 w') := Ext.of_mask fun b hb hlt => by
  refine ⟨hb, h.block b hlt ?_⟩
  simp only [Bool.or_eq_false_iff, decide_eq_false_iff_not] at hb
  intro e; injection e with e; omega
theorem M3.below {B : Nat} {r1 r2 r3 : Option Nat} {w w' : World} (h : Below w.heap.size w w') : Ext (M3 B r1 r2 r3 w) (M3 B r1 r2 r3 w') := Ext.of_mask fun b hb hlt => ⟨hb, h.block b hlt⟩
theorem M3.of_fresh {B B' : Nat} {r1 r2 r3 : Option Nat} {w : World} (hB : B ≤ B') (h1 : ∀ q, r1 = some q → q < B') (h2 : ∀ q, r2 = some q → q < B') (h3 : ∀ q, r3 = some q → q < B') : Ext (fresh B' w) (M3 B r1 r2 r3 w) := Ext.of_mask fun b hb _ => by
  simp only [Bool.or_eq_false_iff, decide_eq_false_iff_not] at hb ⊢
  exact ⟨⟨by omega, fun e => by have := h1 b e.symm; omega, fun e => by have := h2 b e.symm; omega, fun e => by have := h3 b e.symm; omega⟩, trivial⟩
theorem M3.fresh {B : Nat} {r1 r2 r3 : Option Nat} {w : World} : Ext (M3 B r1 r2 r3 w) (YtlpnkllhpienhaaDoor.fresh B w) := Ext.of_mask fun b hb _ => by
  simp only [Bool.or_eq_false_iff, decide_eq_false_iff_not] at hb ⊢
  exact ⟨hb.1, trivial⟩
theorem M3.push1 {B g : Nat} {r1 r2 r3 : Option Nat} {w w' : World} (h : w.grownBy w' r1) (hat : r1 = some g ∨ w.heap.size ≤ g) : Ext (M3 B r1 r2 r3 w) (M3 B (some g) r2 r3 w') := Ext.of_mask fun b hb hlt => by
  simp only [Bool.or_eq_false_iff, decide_eq_false_iff_not] at hb ⊢
  obtain ⟨h0, h1, h2, h3⟩ := hb
  refine ⟨⟨h0, ?_, h2, h3⟩, h.block b hlt h1⟩
  rcases hat with rfl | hat
  · exact h1
  · intro e; injection e with e; omega
theorem M3.push2 {B g : Nat} {r1 r2 r3 : Option Nat} {w w' : World} (h : w.grownBy w' r2) (hat : r2 = some g ∨ w.heap.size ≤ g) : Ext (M3 B r1 r2 r3 w) (M3 B r1 (some g) r3 w') := Ext.of_mask fun b hb hlt => by
  simp only [Bool.or_eq_false_iff, decide_eq_false_iff_not] at hb ⊢
  obtain ⟨h0, h1, h2, h3⟩ := hb
  refine ⟨⟨h0, h1, ?_, h3⟩, h.block b hlt h2⟩
  rcases hat with rfl | hat
  · exact h2
  · intro e; injection e with e; omega
theorem M3.push3 {B g : Nat} {r1 r2 r3 : Option Nat} {w w' : World} (h : w.grownBy w' r3) (hat : r3 = some g ∨ w.heap.size ≤ g) : Ext (M3 B r1 r2 r3 w) (M3 B r1 r2 (some g) w') := Ext.of_mask fun b hb hlt => by
  simp only [Bool.or_eq_false_iff, decide_eq_false_iff_not] at hb ⊢
  obtain ⟨h0, h1, h2, h3⟩ := hb
  refine ⟨⟨h0, h1, h2, ?_⟩, h.block b hlt h3⟩
  rcases hat with rfl | hat
  · exact h3
  · intro e; injection e with e; omega
/-- A row of one's own, its items' parts in a world of their own. -/
def Kd.Row {α : Type} (K : Kd α) (B : Nat) (xs : List α) (v : Value) (wm w : World) : Prop := ∃ ys : List α, ys.map K.er = xs ∧ w.ownsRow B K.T K.size v xs.length (ys.flatMap K.cells) ∧ ∀ y ∈ ys, K.R wm y
theorem Kd.Row.lt {α : Type} {K : Kd α} {B : Nat} {xs : List α} {v : Value} {wm w : World} (h : K.Row B xs v wm w) : ∀ q, v.ownBlock = some q → B ≤ q ∧ q < w.heap.size := by obtain ⟨ys, _, h, _⟩ := h; exact fun q hq => h.lt q hq
theorem Kd.Row.shape {α : Type} {K : Kd α} {B : Nat} {xs : List α} {v : Value} {wm w : World} (h : K.Row B xs v wm w) : ∃ a c, v = .slice a xs.length c := by obtain ⟨ys, _, h, _⟩ := h; exact own_shape h
theorem Kd.Row.to {α : Type} {K : Kd α} {B : Nat} {xs : List α} {v : Value} {wm w wm' w' : World} (h : K.Row B xs v wm w) (hx : Ext wm wm') {r : Option Nat} (hg : w.grownBy w' r) (hr : ∀ q, v.ownBlock = some q → r ≠ some q) : K.Row B xs v wm' w' := by
  obtain ⟨ys, h1, h2, h3⟩ := h
  refine ⟨ys, h1, h2.kept hg ?_, fun y hy => K.ext y hx (h3 y hy)⟩
  cases hv : v.ownBlock with
  | none => exact .inl rfl
  | some q => right; intro e; exact hr q hv e.symm
theorem Kd.Row.add {α : Type} {K : Kd α} {B g cap : Nat} {xs ys : List α} {y : α} {wm' w' : World} (h1 : ys.map K.er = xs) (h3 : ∀ y ∈ ys, K.R wm' y) (hy : K.R wm' y)
    (ho : w'.ownsRow B K.T K.size (.slice (some ⟨g, 0, none⟩) (xs.length + 1) cap) (xs.length + 1) (ys.flatMap K.cells ++ K.cells y)) : K.Row B (xs ++ [K.er y]) (.slice (some ⟨g, 0, none⟩) (xs.length + 1) cap) wm' w' := by
  refine ⟨ys ++ [y], by rw [List.map_append, h1]; rfl, by rw [List.flatMap_append, List.flatMap_singleton, List.length_append, List.length_singleton]; exact ho, fun z hz => ?_⟩
  rcases List.mem_append.1 hz with hz | hz
  · exact h3 z hz
  · rw [List.mem_singleton.1 hz]; exact hy
theorem Kd.Row.fin {α : Type} {K : Kd α} {B : Nat} {xs : List α} {v : Value} {wm w : World} (hl : xs.length * K.bytes ≤ 140737488351232) (hx : Ext wm (YtlpnkllhpienhaaDoor.fresh B w)) (h : K.Row B xs v wm w) :
    ∃ s : Sl α, v = .slice s.p s.l.length s.cap ∧ s.l.map K.er = xs ∧ K.Ly (YtlpnkllhpienhaaDoor.fresh B w) s.p s.l := by
  obtain ⟨ys, h1, h2, h3⟩ := h
  subst h1
  rw [List.length_map] at h2 hl
  obtain ⟨p, c, rfl, hp⟩ := own_lies K.len h2
  refine ⟨⟨p, c, ys⟩, rfl, rfl, hl, ?_⟩
  rcases hp with hp | ⟨b, o, rfl, hB, _, hk⟩
  · exact .inl hp
  · exact .inr ⟨b, o, rfl, fun k x hj => ⟨hk k x hj, K.ext x hx (h3 x (List.mem_of_getElem? hj))⟩⟩
/-- At a step of a region that draws: an item goes to the end of a row; what is known is told raw. -/
theorem Kd.step_pushR {α : Type} (K : Kd α) {P : Program} {ops : Array Oper} {o : Oper} {a : Act} {w : World} {R : Act → World → Prop} {Q : Exit → Act → World → Prop} {E : Prop} (hgd : o.guard = none) (t : TypeId) (i : TypeInfo) (z : Value) (hI : K.Inf P t i z) (s x : Operand)
    (ho : o.op = .call { callee := .builtin .append, args := #[s, x], argTypes := #[t, t] })
    (B n : Nat) (cs : List Value) (v : Value) (hs : a.eval s = v) (h2 : w.ownsRow B K.T K.size v n cs) (hB : B ≤ w.heap.size) (y : α) (hx : a.eval x = .slice (some ⟨w.heap.size, 0, none⟩) 1 1)
    (h63 : n + 1 ≤ maxLen) (hb : (n + 1) * K.bytes ≤ 140737488355328)
    (h : ∀ g cap w', w'.ownsRow B K.T K.size (.slice (some ⟨g, 0, none⟩) (n + 1) cap) (n + 1) (cs ++ K.cells y) → w.grownBy w' v.ownBlock → (v.ownBlock = some g ∨ w.heap.size ≤ g) → R (a.put o.dst (.slice (some ⟨g, 0, none⟩) (n + 1) cap)) w') :
    if Region.wanted o (yielded ops a.tmps) = true then Oper.wp P o a (w.alloc (.cells (K.cells y).toArray K.T)) R Q else E := by
  have hw : Region.wanted o (yielded ops a.tmps) = true := by simp [Region.wanted, hgd]
  rw [if_pos hw]
  have hm : Below w.heap.size w (w.alloc (.cells (K.cells y).toArray K.T)) := (Below.refl _ _).alloc (Nat.le_refl _) _
  refine wp_append_lies _ s x t ho B K.T i z K.size K.bytes hI.und hI.info hI.zero hI.size hI.bytes hI.cells hI.pos v n _ hs (h2.alloc _) ⟨w.heap.size, 0, none⟩ 1 1 (K.cells y) hx (by rw [K.len, Nat.one_mul]) ?_ (one_of (K.one y)) (by decide) h63 hb (Nat.le_trans hB hm.size) _ rfl ?_
  · have := World.news_of_block (heap_alloc_new w (.cells (K.cells y).toArray K.T))
    simpa using this
  · intro g cap w' ho2 hg2 hat hlt
    exact h g cap w' ho2 (below_grown hm hg2) (hat.imp id (fun e => by rw [e]; simp))
/-- Three rows of one's own: structs, globals, procedures. -/
structure P3 (B : Nat) (w : World) (v1 v2 v3 : Value) (ss : List Sr) (gs : List Dc) (ps : List Pc) : Prop where
  a : kSr.Row B ss v1 (M3 B v1.ownBlock v2.ownBlock v3.ownBlock w) w
  b : kDc.Row B gs v2 (M3 B v1.ownBlock v2.ownBlock v3.ownBlock w) w
  c : kPc.Row B ps v3 (M3 B v1.ownBlock v2.ownBlock v3.ownBlock w) w
  d12 : ∀ q, v1.ownBlock = some q → v2.ownBlock ≠ some q
  d13 : ∀ q, v1.ownBlock = some q → v3.ownBlock ≠ some q
  d23 : ∀ q, v2.ownBlock = some q → v3.ownBlock ≠ some q
section
variable {B : Nat} {w w' : World} {v1 v2 v3 : Value} {ss : List Sr} {gs : List Dc} {ps : List Pc}
theorem P3.par {g : Nat} (h : P3 B w v1 v2 v3 ss gs ps) (hg : w.grownBy w' (some g)) (hB : g < B) : P3 B w' v1 v2 v3 ss gs ps :=
  ⟨h.a.to (M3.par hg hB) hg (fun q hq e => by have := (h.a.lt q hq).1; injection e with e; omega), h.b.to (M3.par hg hB) hg (fun q hq e => by have := (h.b.lt q hq).1; injection e with e; omega), h.c.to (M3.par hg hB) hg (fun q hq e => by have := (h.c.lt q hq).1; injection e with e; omega), h.d12, h.d13, h.d23⟩
theorem P3.below (h : P3 B w v1 v2 v3 ss gs ps) (hb : Below w.heap.size w w') : P3 B w' v1 v2 v3 ss gs ps :=
  ⟨h.a.to (M3.below hb) (grownBy_of hb none) (fun _ _ e => by cases e), h.b.to (M3.below hb) (grownBy_of hb none) (fun _ _ e => by cases e), h.c.to (M3.below hb) (grownBy_of hb none) (fun _ _ e => by cases e), h.d12, h.d13, h.d23⟩
theorem P3.nil (B : Nat) (w : World) : P3 B w (.slice none 0 0) (.slice none 0 0) (.slice none 0 0) [] [] [] :=
  ⟨⟨[], rfl, World.ownsRow_nil _ _ _ _, by simp⟩, ⟨[], rfl, World.ownsRow_nil _ _ _ _, by simp⟩, ⟨[], rfl, World.ownsRow_nil _ _ _ _, by simp⟩, (fun _ h => by cases h), (fun _ h => by cases h), (fun _ h => by cases h)⟩
theorem P3.fresh (h : P3 B w v1 v2 v3 ss gs ps) {B' : Nat} (hB : w.heap.size ≤ B') : Ext (YtlpnkllhpienhaaDoor.fresh B' w') (M3 B v1.ownBlock v2.ownBlock v3.ownBlock w') ∨ B' < B := by
  by_cases hl : B' < B
  · exact .inr hl
  · exact .inl (M3.of_fresh (by omega) (fun q hq => by have := (h.a.lt q hq).2; omega) (fun q hq => by have := (h.b.lt q hq).2; omega) (fun q hq => by have := (h.c.lt q hq).2; omega))
theorem P3.push1 {g cap : Nat} {y : Sr} {ys : List Sr} (h : P3 B w v1 v2 v3 ss gs ps) (h1 : ys.map Sr.er = ss) (h3 : ∀ y ∈ ys, kSr.R (M3 B v1.ownBlock v2.ownBlock v3.ownBlock w) y) (hy : kSr.R (M3 B v1.ownBlock v2.ownBlock v3.ownBlock w) y)
    (ho : w'.ownsRow B 61 3 (.slice (some ⟨g, 0, none⟩) (ss.length + 1) cap) (ss.length + 1) (ys.flatMap Sr.cells ++ y.cells)) (hg : w.grownBy w' v1.ownBlock) (hat : v1.ownBlock = some g ∨ w.heap.size ≤ g) : P3 B w' (.slice (some ⟨g, 0, none⟩) (ss.length + 1) cap) v2 v3 (ss ++ [y.er]) gs ps := by
  have hx : Ext (M3 B v1.ownBlock v2.ownBlock v3.ownBlock w) (M3 B (some g) v2.ownBlock v3.ownBlock w') := M3.push1 hg hat
  refine ⟨Kd.Row.add (K := kSr) h1 (fun z hz => kSr.ext z hx (h3 z hz)) (kSr.ext y hx hy) ho, h.b.to hx hg (fun q hq e => h.d12 q e hq), h.c.to hx hg (fun q hq e => h.d13 q e hq), ?_, ?_, h.d23⟩
  · intro q hq e
    injection hq with hq; subst hq
    rcases hat with hat | hat
    · exact h.d12 _ hat e
    · have := (h.b.lt _ e).2; simp only at this; omega
  · intro q hq e
    injection hq with hq; subst hq
    rcases hat with hat | hat
    · exact h.d13 _ hat e
    · have := (h.c.lt _ e).2; simp only at this; omega
theorem P3.push2 {g cap : Nat} {y : Dc} {ys : List Dc} (h : P3 B w v1 v2 v3 ss gs ps) (h1 : ys.map Dc.er = gs) (h3 : ∀ y ∈ ys, kDc.R (M3 B v1.ownBlock v2.ownBlock v3.ownBlock w) y) (hy : kDc.R (M3 B v1.ownBlock v2.ownBlock v3.ownBlock w) y)
    (ho : w'.ownsRow B 85 3 (.slice (some ⟨g, 0, none⟩) (gs.length + 1) cap) (gs.length + 1) (ys.flatMap Dc.cells ++ y.cells)) (hg : w.grownBy w' v2.ownBlock) (hat : v2.ownBlock = some g ∨ w.heap.size ≤ g) : P3 B w' v1 (.slice (some ⟨g, 0, none⟩) (gs.length + 1) cap) v3 ss (gs ++ [y.er]) ps := by
  have hx : Ext (M3 B v1.ownBlock v2.ownBlock v3.ownBlock w) (M3 B v1.ownBlock (some g) v3.ownBlock w') := M3.push2 hg hat
  refine ⟨h.a.to hx hg (fun q hq e => h.d12 q hq e), Kd.Row.add (K := kDc) h1 (fun z hz => kDc.ext z hx (h3 z hz)) (kDc.ext y hx hy) ho, h.c.to hx hg (fun q hq e => h.d23 q e hq), ?_, h.d13, ?_⟩
  · intro q hq e
    injection e with e; subst e
    rcases hat with hat | hat
    · exact h.d12 _ hq hat
    · have := (h.a.lt _ hq).2; simp only at this; omega
  · intro q hq e
    injection hq with hq; subst hq
    rcases hat with hat | hat
    · exact h.d23 _ hat e
    · have := (h.c.lt _ e).2; simp only at this; omega
theorem P3.push3 {g cap : Nat} {y : Pc} {ys : List Pc} (h : P3 B w v1 v2 v3 ss gs ps) (h1 : ys.map Pc.er = ps) (h3 : ∀ y ∈ ys, kPc.R (M3 B v1.ownBlock v2.ownBlock v3.ownBlock w) y) (hy : kPc.R (M3 B v1.ownBlock v2.ownBlock v3.ownBlock w) y)
    (ho : w'.ownsRow B 63 6 (.slice (some ⟨g, 0, none⟩) (ps.length + 1) cap) (ps.length + 1) (ys.flatMap Pc.cells ++ y.cells)) (hg : w.grownBy w' v3.ownBlock) (hat : v3.ownBlock = some g ∨ w.heap.size ≤ g) : P3 B w' v1 v2 (.slice (some ⟨g, 0, none⟩) (ps.length + 1) cap) ss gs (ps ++ [y.er]) := by
  have hx : Ext (M3 B v1.ownBlock v2.ownBlock v3.ownBlock w) (M3 B v1.ownBlock v2.ownBlock (some g) w') := M3.push3 hg hat
  refine ⟨h.a.to hx hg (fun q hq e => h.d13 q hq e), h.b.to hx hg (fun q hq e => h.d23 q hq e), Kd.Row.add (K := kPc) h1 (fun z hz => kPc.ext z hx (h3 z hz)) (kPc.ext y hx hy) ho, h.d12, ?_, ?_⟩
  · intro q hq e
    injection e with e; subst e
    rcases hat with hat | hat
    · exact h.d13 _ hq hat
    · have := (h.a.lt _ hq).2; simp only at this; omega
  · intro q hq e
    injection e with e; subst e
    rcases hat with hat | hat
    · exact h.d23 _ hq hat
    · have := (h.b.lt _ hq).2; simp only at this; omega
end
def kPg : Kd Pg := ⟨33, 3, 72, Pg.cells, Pg.er, pgLies, fun _ => rfl, fun _ => by simp [Value.oneCell'], fun _ h k => pgLies_ext h k⟩
theorem size33 : (Tryd.prog.info? 33).map (·.size) = some 3 := by kernel_rfl
end Go.Proofs.YtlpnkllhpienhaaDoor

namespace Go.Proofs.YtlpnkllhpienhaaDoor
open Go.RowKit Go.Sort

attribute [local go_sem] field79_0 field79_1 field79_2 field79_3
section
variable {pb sb cap : Nat} {l : List Tx.Sg}
set_option maxHeartbeats 6400000 in
set_option maxRecDepth 100000 in
theorem program_any (w : World) (u : Pr.St) (h : PS w pb sb cap l u.i u.o u.b) (hg : Good l) (hT : Tex l) (hi : Pr.Inv u) :
    Calls Tryd.prog 11 #[.pointer (some ⟨pb, 0, none⟩)] w (Outc (kPg.Val w.heap.size) w pb sb cap l (Pr.program (l.map Pr.tk) ((l.map Pr.tk).length + 1) [] [] [] u)) := by
  obtain ⟨r, hr⟩ : ∃ r, r = Pr.program (l.map Pr.tk) ((l.map Pr.tk).length + 1) [] [] [] u := ⟨_, rfl⟩
  rw [← hr]
  have HR := Lib.hid hr
  have HL := Lib.hid hg
  have HTX := Lib.hid hT
  have HI0 := Lib.hid hi
  have hn : Below w.heap.size w (w.alloc (.cells #[.slice none 0 0, .slice none 0 0, .slice none 0 0] 33)) := (Below.refl _ _).alloc (Nat.le_refl _) _
  have HK : Hid (Bk (w.alloc (.cells #[.slice none 0 0, .slice none 0 0, .slice none 0 0] 33)) w.heap.size 33 #[.slice none 0 0, .slice none 0 0, .slice none 0 0]) := Lib.hid (heap_alloc_new _ _)
  have HNE : Hid (w.heap.size ≠ pb ∧ w.heap.size ≠ sb ∧ pb < w.heap.size ∧ sb < w.heap.size) := Lib.hid ⟨fun e => by have := h.pb_lt; omega, fun e => by have := h.sb_lt; omega, h.pb_lt, h.sb_lt⟩
  have HZ : Hid ((w.alloc (.cells #[.slice none 0 0, .slice none 0 0, .slice none 0 0] 33)).heap.size = w.heap.size + 1) := Lib.hid (by simp)
  have HG : Hid (w.grownBy (w.alloc (.cells #[.slice none 0 0, .slice none 0 0, .slice none 0 0] 33)) (some pb)) := Lib.hid (grownBy_of hn _)
  have HP := Lib.hid (h.below hn)
  have HLL : Hid ((l.map Pr.tk).length = l.length ∧ l.length ≤ 6000000) := Lib.hid ⟨List.length_map _, hg.len⟩
  generalize hwA : w.alloc (.cells #[.slice none 0 0, .slice none 0 0, .slice none 0 0] 33) = wA at HK HG HP HZ
  have hm : Below wA.heap.size wA (wA.alloc (.cells #[.slice none 0 0, .slice none 0 0, .slice none 0 0] 33)) := (Below.refl _ _).alloc (Nat.le_refl _) _
  have HP1 := Lib.hid (HP.out.below hm); have HK1 := Lib.hid (HK.out.below hm HK.out.lt); have HG1 := Lib.hid (grownBy_below HG.out hm)
  have HS1 : Hid (Bk (wA.alloc (.cells #[.slice none 0 0, .slice none 0 0, .slice none 0 0] 33)) wA.heap.size 33 #[.slice none 0 0, .slice none 0 0, .slice none 0 0]) := Lib.hid (heap_alloc_new _ _)
  have HSZ : Hid ((wA.alloc (.cells #[.slice none 0 0, .slice none 0 0, .slice none 0 0] 33)).heap.size = wA.heap.size + 1) := Lib.hid (by simp)
  obtain ⟨S, hS⟩ : ∃ S, S = wA.heap.size := ⟨_, rfl⟩
  have HSN : Hid (S ≠ pb ∧ S ≠ sb ∧ w.heap.size ≠ S ∧ w.heap.size ≤ S ∧ pb < S ∧ sb < S) := Lib.hid ⟨by have := HP.out.pb_lt; omega, by have := HP.out.sb_lt; omega, by have := HK.out.lt; omega, by have := HK.out.lt; omega, by have := HP.out.pb_lt; omega, by have := HP.out.sb_lt; omega⟩
  generalize hwB : wA.alloc (.cells #[.slice none 0 0, .slice none 0 0, .slice none 0 0] 33) = wB at HP1 HK1 HG1 HS1 HSZ
  rw [← hS] at HS1 HSZ
  have HSE := Lib.hid hS
  clear hm HP HK HG hS
  clear h hg hr hn hT hi
  go_enter Tryd.func11, Tryd.ntmps11
  go_wp2_with fail
  (try rw [show w.alloc (.cells #[.slice none 0 0, .slice none 0 0, .slice none 0 0] 33) = wA from hwA])
  (try rw [show wA.alloc (.cells #[.slice none 0 0, .slice none 0 0, .slice none 0 0] 33) = wB from hwB])
  rw [← HSE.out]
  clear hwA hwB
  obtain ⟨j1, hJ1⟩ := infSr
  obtain ⟨j2, hJ2⟩ := infDc
  obtain ⟨j3, hJ3⟩ := infPc
  have HJ1 := Lib.hid hJ1; have HJ2 := Lib.hid hJ2; have HJ3 := Lib.hid hJ3
  clear hJ1 hJ2 hJ3
  go_loopg [] ((l.map Pr.tk).length + 1) (fun g wr => ∃ (ss : List Sr) (gs : List Dc) (ps : List Pc) (v1 v2 v3 : Value) (un : Pr.St), l.length < un.i + g ∧ ss.length + gs.length + ps.length ≤ un.i ∧ Hid (Pr.Inv un) ∧ Hid (Pr.program (l.map Pr.tk) g ss gs ps un = Pr.program (l.map Pr.tk) ((l.map Pr.tk).length + 1) [] [] [] u) ∧ Hid (P3 wB.heap.size wr v1 v2 v3 ss gs ps) ∧ Hid (Bk wr S 33 #[v1, v2, v3]) ∧ Hid (PS wr pb sb cap l un.i un.o un.b) ∧ Hid (Bk wr w.heap.size 33 #[.slice none 0 0, .slice none 0 0, .slice none 0 0]) ∧ Hid (w.grownBy wr (some pb)) ∧ Hid (wB.heap.size ≤ wr.heap.size))
  case atStart => exact ⟨[], [], [], .slice none 0 0, .slice none 0 0, .slice none 0 0, u, by rw [HLL.out.1]; omega, Nat.zero_le _, HI0, Lib.hid rfl, Lib.hid (P3.nil _ _), HS1, HP1, HK1, HG1, Lib.hid (Nat.le_refl _)⟩
  case round =>
    obtain ⟨ss, gs, ps, v1, v2, v3, un, hlt, hacc, HIU, HH, HGr, HSr, HPr, HKr, HGw, HLE⟩ := hrel
    obtain ⟨b1, c1, rfl⟩ := HGr.out.a.shape
    obtain ⟨b2, c2, rfl⟩ := HGr.out.b.shape
    obtain ⟨b3, c3, rfl⟩ := HGr.out.c.shape
    have HUL : Hid (un.i < l.length) := Lib.hid HPr.out.lt
    obtain ⟨gj, hgj⟩ : ∃ k, gk = k + 1 := ⟨gk - 1, by have := HUL.out; omega⟩
    have HGJ := Lib.hid hgj
    clear hgj
    obtain ⟨x, hx⟩ := HPr.out.at
    have HX := Lib.hid hx
    have HSG := Lib.hid (Pr.sg_tk hx)
    have HT1 : Hid (Pr.is (l.map Pr.tk) un.i ⟨#[115, 116, 114, 117, 99, 116]⟩ = (x.text.toList == [115, 116, 114, 117, 99, 116])) := Lib.hid (by rw [Pr.is_tk hx]; rw [show (⟨#[115, 116, 114, 117, 99, 116]⟩ : ByteArray).toList = [115, 116, 114, 117, 99, 116] from Lib.toList_data _])
    have HT2 : Hid (Pr.is (l.map Pr.tk) un.i ⟨#[118, 111, 105, 100]⟩ = (x.text.toList == [118, 111, 105, 100])) := Lib.hid (by rw [Pr.is_tk hx]; rw [show (⟨#[118, 111, 105, 100]⟩ : ByteArray).toList = [118, 111, 105, 100] from Lib.toList_data _])
    clear hx
    go_wp2_with fail
    refine (ahead_any x wr HPr.out HL.out HX.out).mono ?_; rintro en w4 ⟨rfl, hb⟩
    have HP4 := Lib.hid (HPr.out.below hb); have HK4 := Lib.hid (HKr.out.below hb HKr.out.lt); have HS4 := Lib.hid (HSr.out.below hb HSr.out.lt); have HG4 := Lib.hid (grownBy_below HGw.out hb); have HGr4 := Lib.hid (HGr.out.below hb); have HLE4 := Lib.hid (Nat.le_trans HLE.out hb.size)
    clear hb HPr HKr HSr HGw HGr HLE
    by_cases hk : x.kind = 0
    · have hkd : (x.kind != 0) = false := by rw [hk]; rfl
      have HRS : Hid (r = .ok (⟨⟨none, 0, ss⟩, ⟨none, 0, gs⟩, ⟨none, 0, ps⟩⟩, un)) := Lib.hid (by rw [HR.out, ← HH.out, HGJ.out, Pr.program_end (by rw [HSG.out]; exact hk)])
      clear hk
      obtain ⟨s1, h1, e1, y1⟩ := HGr4.out.a.fin (by have := HLL.out.2; have := HUL.out; show ss.length * 48 ≤ _; omega) M3.fresh
      obtain ⟨s2, h2, e2, y2⟩ := HGr4.out.b.fin (by have := HLL.out.2; have := HUL.out; show gs.length * 40 ≤ _; omega) M3.fresh
      obtain ⟨s3, h3, e3, y3⟩ := HGr4.out.c.fin (by have := HLL.out.2; have := HUL.out; show ps.length * 104 ≤ _; omega) M3.fresh
      have HS5 : Hid (Bk w4 S 33 (Pg.cells ⟨s1, s2, s3⟩).toArray) := Lib.hid (by have := HS4.out; rw [h1, h2, h3] at this; exact this)
      have HE1 := Lib.hid e1; have HE2 := Lib.hid e2; have HE3 := Lib.hid e3
      have HLY : Hid (pgLies (fresh wB.heap.size w4) ⟨s1, s2, s3⟩) := Lib.hid ⟨y1, y2, y3⟩
      clear h1 h2 h3 e1 e2 e3 y1 y2 y3 HS4 HGr4
      go_wp2_with (first | ((with_reducible show wpList _ _ _ (Oper.mk (some 36) (Op.load 33 (Operand.tmp 3)) _ _ _ _ :: _) _ _); refine wpList_load_bk rfl 33 (.tmp 3) rfl S 33 (Pg.cells ⟨s1, s2, s3⟩).toArray rfl _ HS5.out Tryd.underlying33 rfl size33 ?_) | ((with_reducible show wpList _ _ _ (Oper.mk none (Op.store 33 (Operand.tmp 2) (Operand.tmp 36)) _ _ _ _ :: _) _ _); refine wpList_store_bk rfl 33 (.tmp 2) (.tmp 36) rfl w.heap.size 33 _ (Pg.cells ⟨s1, s2, s3⟩).toArray rfl rfl HK4.out size33 rfl (kPg.one _) ?_; intro wZ hB hF))
      exact bodyPost_ret (results_cell_row Tryd.results11 _ wZ w.heap.size 33 (Pg.cells ⟨s1, s2, s3⟩).toArray (0, 0) _ rfl hB Tryd.underlying33 rfl size33) rfl (Outc.ok (u := un) (a := ⟨⟨none, 0, ss⟩, ⟨none, 0, gs⟩, ⟨none, 0, ps⟩⟩) HRS.out (grownBy_mine HG4.out hF) ⟨⟨s1, s2, s3⟩, rfl, by show Pg.er _ = _; simp only [Pg.er, Sl.er]; rw [show s1.l.map Sr.er = ss from HE1.out, show s2.l.map Dc.er = gs from HE2.out, show s3.l.map Pc.er = ps from HE3.out], pgLies_ext ((fresh_par hF (by have := HSZ.out; have := HSN.out; omega)).trans (fresh_mono (by have := HSZ.out; have := HSN.out; omega) _)) HLY.out⟩ (HP4.out.far hF HNE.out.1 HNE.out.2.1))
    have hkd : (x.kind != 0) = true := by rw [bne_iff_ne]; exact hk
    have HKD : Hid ((Pr.sg (l.map Pr.tk) un.i).kind ≠ 0) := Lib.hid (by rw [HSG.out]; exact hk)
    clear hk
    go_wp2_with fail
    refine (ahead_any x w4 HP4.out HL.out HX.out).mono ?_; rintro en w5 ⟨rfl, hb⟩
    have HP5 := Lib.hid (HP4.out.below hb); have HK5 := Lib.hid (HK4.out.below hb HK4.out.lt); have HS5 := Lib.hid (HS4.out.below hb HS4.out.lt); have HG5 := Lib.hid (grownBy_below HG4.out hb); have HGr5 := Lib.hid (HGr4.out.below hb); have HLE5 := Lib.hid (Nat.le_trans HLE4.out hb.size)
    clear hb HP4 HK4 HS4 HG4 HGr4 HLE4 hkd
    have HB1 : Hid (ss.length + gs.length + ps.length + 1 ≤ 6000000) := Lib.hid (by have := HLL.out.2; have := HUL.out; omega)
    rcases q1 : (x.text.toList == [115, 116, 114, 117, 99, 116]) with _ | _
    case true =>
      have HQ1 := Lib.hid (HT1.out.trans q1)
      have s2 : w5.cell? ⟨S, 0, none⟩ = some (.slice b1 ss.length c1) := HS5.out.cell 0
      go_wp2_with fail
      have HPD : Hid (PS w5.drew pb sb cap l un.i un.o un.b) := Lib.hid (HP5.out.below (below_drew (Below.refl _ _)))
      have HKK : Hid (Bk w5.drew w.heap.size 33 #[.slice none 0 0, .slice none 0 0, .slice none 0 0]) := Lib.hid HK5.out
      have HSD : Hid (Bk w5.drew S 33 #[.slice b1 ss.length c1, .slice b2 gs.length c2, .slice b3 ps.length c3]) := Lib.hid HS5.out
      have HGD : Hid (w.grownBy w5.drew (some pb)) := Lib.hid (grownBy_drew HG5.out)
      have HGrD := Lib.hid (HGr5.out.below (below_drew (Below.refl _ _)))
      have HLED : Hid (wB.heap.size ≤ w5.drew.heap.size) := Lib.hid HLE5.out
      have HPB : Hid (pb < wB.heap.size ∧ S < wB.heap.size ∧ sb < wB.heap.size ∧ w.heap.size < wB.heap.size) := Lib.hid (by have := HSZ.out; have := HSN.out; omega)
      clear HP5 HK5 HS5 HG5 HGr5 HLE5
      go_region_law (first
        | (go_simp; go_at_call 25; (with_reducible refine (structure_any _ un HPD.out HL.out).mono ?_); intro en w7 ho; rcases hm7 : Pr.structure_ (l.map Pr.tk) un with n | ⟨a7, u7⟩; (· obtain ⟨p, rfl, g⟩ := ho.of_err hm7; exact ⟨rfl, Outc.err (by rw [HR.out, ← HH.out, HGJ.out, Pr.program_1 HKD.out HQ1.out, hm7]; rfl) (grownBy_tr HGD.out g)⟩); obtain ⟨v, rfl, ⟨z, rfl, hz, hlie⟩, h, g⟩ := ho.of_ok hm7; have HZE : Hid (kSr.er z = a7) := Lib.hid hz; have HM7 := Lib.hid hm7; have HP7 := Lib.hid h; have HK7 := Lib.hid (HKK.out.kept g HNE.out.1); have HS7 := Lib.hid (HSD.out.kept g HSN.out.1); have HG7 := Lib.hid (grownBy_tr HGD.out g); have HGr7 := Lib.hid (HGrD.out.par g HPB.out.1); have HLE7 := Lib.hid (Nat.le_trans HLED.out g.size); have HZL : Hid (kSr.R (M3 wB.heap.size (.slice b1 ss.length c1 : Value).ownBlock (.slice b2 gs.length c2 : Value).ownBlock (.slice b3 ps.length c3 : Value).ownBlock w7) z) := Lib.hid (kSr.ext z (M3.of_fresh HLED.out (fun q hq => (HGrD.out.a.lt q hq).2) (fun q hq => (HGrD.out.b.lt q hq).2) (fun q hq => (HGrD.out.c.lt q hq).2)) hlie); obtain ⟨ys, hy1, hy2, hy3⟩ := HGr7.out.a; have HY1 := Lib.hid hy1; have HY2 := Lib.hid hy2; have HY3 := Lib.hid hy3; have s27 : w7.cell? ⟨S, 0, none⟩ = some (.slice b1 ss.length c1) := HS7.out.cell 0; have s27a : ∀ ob, (w7.alloc ob).cell? ⟨S, 0, none⟩ = some (.slice b1 ss.length c1) := (fun ob => (World.cell?_alloc_lt _ _ _ HS7.out.lt).trans s27); clear h g ho hz hm7 hy1 hy2 hy3 hlie; dsimp only [kSr, kPc]; (try dsimp only))
        | (refine Kd.step_pushR kSr rfl 29 j1 _ HJ1.out (.tmp 21) (.tmp 24) rfl wB.heap.size ss.length _ (.slice b1 ss.length c1) rfl HY2.out HLE7.out z rfl (by have := HB1.out; unfold maxLen; omega) (by have := HB1.out; show (ss.length + 1) * 48 ≤ _; omega) ?_; intro gg cc w8 ho8 hgr8 hat8; have hown8 : ∀ q, (.slice b1 ss.length c1 : Value).ownBlock = some q → wB.heap.size ≤ q := (fun q hq => (HGr7.out.a.lt q hq).1); have HGr8 := Lib.hid (HGr7.out.push1 HY1.out HY3.out HZL.out ho8 hgr8 hat8); have HP8 := Lib.hid (HP7.out.grown hgr8 (fun q hq => by have := hown8 q hq; have := HPB.out; omega)); have HK8 := Lib.hid (HK7.out.grown hgr8 (fun q hq => by have := hown8 q hq; have := HPB.out; omega)); have HS8 := Lib.hid (HS7.out.grown hgr8 (fun q hq => by have := hown8 q hq; have := HPB.out; omega)); have HG8 := Lib.hid (grownBy_up HG7.out hgr8 (fun q hq => by have := hown8 q hq; have := HPB.out; omega)); have HLE8 : Hid (wB.heap.size ≤ w8.heap.size) := Lib.hid (Nat.le_trans HLE7.out hgr8.size); have s28 : w8.cell? ⟨S, 0, none⟩ = some (.slice b1 ss.length c1) := HS8.out.cell 0; have f28 : w8.frozen? ⟨S, 0, none⟩ = false := HS8.out.frozen 0; clear ho8 hgr8 hat8 hown8))
      all_goals
        have gS := grownBy_setC w8 ⟨S, 0, none⟩ (.slice (some ⟨gg, 0, none⟩) (ss.length + 1) cc)
        have HP9 := Lib.hid (HP8.out.far gS HSN.out.1 HSN.out.2.1)
        have HK9 := Lib.hid (HK8.out.kept gS HSN.out.2.2.1)
        have HS9 : Hid (Bk (w8.setCell ⟨S, 0, none⟩ (.slice (some ⟨gg, 0, none⟩) (ss.length + 1) cc)) S 33 #[.slice (some ⟨gg, 0, none⟩) (ss.length + 1) cc, .slice b2 gs.length c2, .slice b3 ps.length c3]) := Lib.hid (HS8.out.set_ 0 _)
        have HG9 := Lib.hid (grownBy_under HG8.out gS HSN.out.2.2.2.1)
        have HGr9 := Lib.hid (HGr8.out.par gS (by have := HPB.out; show S < _; omega))
        have HLE9 := Lib.hid (Nat.le_trans HLE8.out gS.size)
        clear gS s28 f28 s27 s27a s2 HP8 HK8 HS8 HG8 HLE8 HGr8 HP7 HK7 HS7 HG7 HLE7 HGr7 HY1 HY2 HY3 HZL
        generalize w8.setCell ⟨S, 0, none⟩ (.slice (some ⟨gg, 0, none⟩) (ss.length + 1) cc) = w9 at HP9 HK9 HS9 HG9 HGr9 HLE9 ⊢
        have HFE : Hid (Pr.program (l.map Pr.tk) gk ss gs ps un = Pr.program (l.map Pr.tk) gj (ss ++ [a7]) gs ps u7) := Lib.hid (by rw [HGJ.out, Pr.program_1 HKD.out HQ1.out, HM7.out]; rfl)
        have HF7 := Lib.hid ((Pr.structure_fwd HM7.out).stp)
        go_wp2_with fail
        go_roundg gj
        case measure => have := HGJ.out; omega
        case rel => exact ⟨ss ++ [a7], gs, ps, .slice (some ⟨gg, 0, none⟩) (ss.length + 1) cc, .slice b2 gs.length c2, .slice b3 ps.length c3, u7, by have := HF7.out.1; have := HGJ.out; omega, by have := HF7.out.1; simp only [List.length_append, List.length_singleton]; omega, Lib.hid (HF7.out.2.2 HIU.out), Lib.hid (by rw [← HFE.out, HH.out]), by rw [← HZE.out]; exact HGr9, HS9, HP9, HK9, HG9, HLE9⟩
    have HQ1 := Lib.hid (HT1.out.trans q1)
    rcases q2 : (x.text.toList == [118, 111, 105, 100]) with _ | _
    case true =>
      have HQ2 := Lib.hid (HT2.out.trans q2)
      have s2 : w5.cell? ⟨S, 2, none⟩ = some (.slice b3 ps.length c3) := HS5.out.cell 2
      go_wp2_with fail
      have HPD : Hid (PS w5.drew pb sb cap l un.i un.o un.b) := Lib.hid (HP5.out.below (below_drew (Below.refl _ _)))
      have HKK : Hid (Bk w5.drew w.heap.size 33 #[.slice none 0 0, .slice none 0 0, .slice none 0 0]) := Lib.hid HK5.out
      have HSD : Hid (Bk w5.drew S 33 #[.slice b1 ss.length c1, .slice b2 gs.length c2, .slice b3 ps.length c3]) := Lib.hid HS5.out
      have HGD : Hid (w.grownBy w5.drew (some pb)) := Lib.hid (grownBy_drew HG5.out)
      have HGrD := Lib.hid (HGr5.out.below (below_drew (Below.refl _ _)))
      have HLED : Hid (wB.heap.size ≤ w5.drew.heap.size) := Lib.hid HLE5.out
      have HPB : Hid (pb < wB.heap.size ∧ S < wB.heap.size ∧ sb < wB.heap.size ∧ w.heap.size < wB.heap.size) := Lib.hid (by have := HSZ.out; have := HSN.out; omega)
      clear HP5 HK5 HS5 HG5 HGr5 HLE5
      go_region_law (first
        | (go_simp; go_at_call 26; (with_reducible refine (proc_any _ un HPD.out HL.out HTX.out HIU.out).mono ?_); intro en w7 ho; rcases hm7 : Pr.proc (l.map Pr.tk) un with n | ⟨a7, u7⟩; (· obtain ⟨p, rfl, g⟩ := ho.of_err hm7; exact ⟨rfl, Outc.err (by rw [HR.out, ← HH.out, HGJ.out, Pr.program_3 HKD.out HQ1.out HQ2.out, hm7]; rfl) (grownBy_tr HGD.out g)⟩); obtain ⟨v, rfl, ⟨z, rfl, hz, hlie⟩, h, g⟩ := ho.of_ok hm7; have HZE : Hid (kPc.er z = a7) := Lib.hid hz; have HM7 := Lib.hid hm7; have HP7 := Lib.hid h; have HK7 := Lib.hid (HKK.out.kept g HNE.out.1); have HS7 := Lib.hid (HSD.out.kept g HSN.out.1); have HG7 := Lib.hid (grownBy_tr HGD.out g); have HGr7 := Lib.hid (HGrD.out.par g HPB.out.1); have HLE7 := Lib.hid (Nat.le_trans HLED.out g.size); have HZL : Hid (kPc.R (M3 wB.heap.size (.slice b1 ss.length c1 : Value).ownBlock (.slice b2 gs.length c2 : Value).ownBlock (.slice b3 ps.length c3 : Value).ownBlock w7) z) := Lib.hid (kPc.ext z (M3.of_fresh HLED.out (fun q hq => (HGrD.out.a.lt q hq).2) (fun q hq => (HGrD.out.b.lt q hq).2) (fun q hq => (HGrD.out.c.lt q hq).2)) hlie); obtain ⟨ys, hy1, hy2, hy3⟩ := HGr7.out.c; have HY1 := Lib.hid hy1; have HY2 := Lib.hid hy2; have HY3 := Lib.hid hy3; have s27 : w7.cell? ⟨S, 2, none⟩ = some (.slice b3 ps.length c3) := HS7.out.cell 2; have s27a : ∀ ob, (w7.alloc ob).cell? ⟨S, 2, none⟩ = some (.slice b3 ps.length c3) := (fun ob => (World.cell?_alloc_lt _ _ _ HS7.out.lt).trans s27); clear h g ho hz hm7 hy1 hy2 hy3 hlie; dsimp only [kSr, kPc]; (try dsimp only))
        | (refine Kd.step_pushR kPc rfl 31 j3 _ HJ3.out (.tmp 30) (.tmp 33) rfl wB.heap.size ps.length _ (.slice b3 ps.length c3) rfl HY2.out HLE7.out z rfl (by have := HB1.out; unfold maxLen; omega) (by have := HB1.out; show (ps.length + 1) * 104 ≤ _; omega) ?_; intro gg cc w8 ho8 hgr8 hat8; have hown8 : ∀ q, (.slice b3 ps.length c3 : Value).ownBlock = some q → wB.heap.size ≤ q := (fun q hq => (HGr7.out.c.lt q hq).1); have HGr8 := Lib.hid (HGr7.out.push3 HY1.out HY3.out HZL.out ho8 hgr8 hat8); have HP8 := Lib.hid (HP7.out.grown hgr8 (fun q hq => by have := hown8 q hq; have := HPB.out; omega)); have HK8 := Lib.hid (HK7.out.grown hgr8 (fun q hq => by have := hown8 q hq; have := HPB.out; omega)); have HS8 := Lib.hid (HS7.out.grown hgr8 (fun q hq => by have := hown8 q hq; have := HPB.out; omega)); have HG8 := Lib.hid (grownBy_up HG7.out hgr8 (fun q hq => by have := hown8 q hq; have := HPB.out; omega)); have HLE8 : Hid (wB.heap.size ≤ w8.heap.size) := Lib.hid (Nat.le_trans HLE7.out hgr8.size); have s28 : w8.cell? ⟨S, 2, none⟩ = some (.slice b3 ps.length c3) := HS8.out.cell 2; have f28 : w8.frozen? ⟨S, 2, none⟩ = false := HS8.out.frozen 2; clear ho8 hgr8 hat8 hown8))
      all_goals
        have gS := grownBy_setC w8 ⟨S, 2, none⟩ (.slice (some ⟨gg, 0, none⟩) (ps.length + 1) cc)
        have HP9 := Lib.hid (HP8.out.far gS HSN.out.1 HSN.out.2.1)
        have HK9 := Lib.hid (HK8.out.kept gS HSN.out.2.2.1)
        have HS9 : Hid (Bk (w8.setCell ⟨S, 2, none⟩ (.slice (some ⟨gg, 0, none⟩) (ps.length + 1) cc)) S 33 #[.slice b1 ss.length c1, .slice b2 gs.length c2, .slice (some ⟨gg, 0, none⟩) (ps.length + 1) cc]) := Lib.hid (HS8.out.set_ 2 _)
        have HG9 := Lib.hid (grownBy_under HG8.out gS HSN.out.2.2.2.1)
        have HGr9 := Lib.hid (HGr8.out.par gS (by have := HPB.out; show S < _; omega))
        have HLE9 := Lib.hid (Nat.le_trans HLE8.out gS.size)
        clear gS s28 f28 s27 s27a s2 HP8 HK8 HS8 HG8 HLE8 HGr8 HP7 HK7 HS7 HG7 HLE7 HGr7 HY1 HY2 HY3 HZL
        generalize w8.setCell ⟨S, 2, none⟩ (.slice (some ⟨gg, 0, none⟩) (ps.length + 1) cc) = w9 at HP9 HK9 HS9 HG9 HGr9 HLE9 ⊢
        have HFE : Hid (Pr.program (l.map Pr.tk) gk ss gs ps un = Pr.program (l.map Pr.tk) gj ss gs (ps ++ [a7]) u7) := Lib.hid (by rw [HGJ.out, Pr.program_3 HKD.out HQ1.out HQ2.out, HM7.out]; rfl)
        have HF7 := Lib.hid (Pr.proc_stp HM7.out)
        go_wp2_with fail
        go_roundg gj
        case measure => have := HGJ.out; omega
        case rel => exact ⟨ss, gs, ps ++ [a7], .slice b1 ss.length c1, .slice b2 gs.length c2, .slice (some ⟨gg, 0, none⟩) (ps.length + 1) cc, u7, by have := HF7.out.1; have := HGJ.out; omega, by have := HF7.out.1; simp only [List.length_append, List.length_singleton]; omega, Lib.hid (HF7.out.2.2 HIU.out), Lib.hid (by rw [← HFE.out, HH.out]), by rw [← HZE.out]; exact HGr9, HS9, HP9, HK9, HG9, HLE9⟩
    have HQ2 := Lib.hid (HT2.out.trans q2)
    have s2 : w5.cell? ⟨S, 1, none⟩ = some (.slice b2 gs.length c2) := HS5.out.cell 1
    go_wp2_with fail
    have HPD : Hid (PS w5.drew pb sb cap l un.i un.o un.b) := Lib.hid (HP5.out.below (below_drew (Below.refl _ _)))
    have HKK : Hid (Bk w5.drew w.heap.size 33 #[.slice none 0 0, .slice none 0 0, .slice none 0 0]) := Lib.hid HK5.out
    have HSD : Hid (Bk w5.drew S 33 #[.slice b1 ss.length c1, .slice b2 gs.length c2, .slice b3 ps.length c3]) := Lib.hid HS5.out
    have HGD : Hid (w.grownBy w5.drew (some pb)) := Lib.hid (grownBy_drew HG5.out)
    have HGrD := Lib.hid (HGr5.out.below (below_drew (Below.refl _ _)))
    have HLED : Hid (wB.heap.size ≤ w5.drew.heap.size) := Lib.hid HLE5.out
    have HPB : Hid (pb < wB.heap.size ∧ S < wB.heap.size ∧ sb < wB.heap.size ∧ w.heap.size < wB.heap.size) := Lib.hid (by have := HSZ.out; have := HSN.out; omega)
    clear HP5 HK5 HS5 HG5 HGr5 HLE5
    go_region_law (first
      | (go_simp; go_at_call 27; (with_reducible refine (decl_any _ un HPD.out HL.out).mono ?_); intro en w7 ho; rcases hm7 : Pr.decl (l.map Pr.tk) un with n | ⟨a7, u7⟩; (· obtain ⟨p, rfl, g⟩ := ho.of_err hm7; exact ⟨rfl, Outc.err (by rw [HR.out, ← HH.out, HGJ.out, Pr.program_2 HKD.out HQ1.out HQ2.out, hm7]; rfl) (grownBy_tr HGD.out g)⟩); obtain ⟨v, rfl, ⟨z, rfl, hz⟩, h, g⟩ := ho.of_ok hm7; have HZE : Hid (kDc.er z = a7) := Lib.hid hz; have HM7 := Lib.hid hm7; have HP7 := Lib.hid h; have HK7 := Lib.hid (HKK.out.kept g HNE.out.1); have HS7 := Lib.hid (HSD.out.kept g HSN.out.1); have HG7 := Lib.hid (grownBy_tr HGD.out g); have HGr7 := Lib.hid (HGrD.out.par g HPB.out.1); have HLE7 := Lib.hid (Nat.le_trans HLED.out g.size); have HZL : Hid (kDc.R (M3 wB.heap.size (.slice b1 ss.length c1 : Value).ownBlock (.slice b2 gs.length c2 : Value).ownBlock (.slice b3 ps.length c3 : Value).ownBlock w7) z) := Lib.hid (kDc.ext z (M3.of_fresh HLED.out (fun q hq => (HGrD.out.a.lt q hq).2) (fun q hq => (HGrD.out.b.lt q hq).2) (fun q hq => (HGrD.out.c.lt q hq).2)) trivial); obtain ⟨ys, hy1, hy2, hy3⟩ := HGr7.out.b; have HY1 := Lib.hid hy1; have HY2 := Lib.hid hy2; have HY3 := Lib.hid hy3; have s27 : w7.cell? ⟨S, 1, none⟩ = some (.slice b2 gs.length c2) := HS7.out.cell 1; have s27a : ∀ ob, (w7.alloc ob).cell? ⟨S, 1, none⟩ = some (.slice b2 gs.length c2) := (fun ob => (World.cell?_alloc_lt _ _ _ HS7.out.lt).trans s27); clear h g ho hz hm7 hy1 hy2 hy3 ; (try dsimp only))
      | (refine Kd.step_pushR kDc rfl 30 j2 _ HJ2.out (.tmp 12) (.tmp 15) rfl wB.heap.size gs.length _ (.slice b2 gs.length c2) rfl HY2.out HLE7.out z rfl (by have := HB1.out; unfold maxLen; omega) (by have := HB1.out; show (gs.length + 1) * 40 ≤ _; omega) ?_; intro gg cc w8 ho8 hgr8 hat8; have hown8 : ∀ q, (.slice b2 gs.length c2 : Value).ownBlock = some q → wB.heap.size ≤ q := (fun q hq => (HGr7.out.b.lt q hq).1); have HGr8 := Lib.hid (HGr7.out.push2 HY1.out HY3.out HZL.out ho8 hgr8 hat8); have HP8 := Lib.hid (HP7.out.grown hgr8 (fun q hq => by have := hown8 q hq; have := HPB.out; omega)); have HK8 := Lib.hid (HK7.out.grown hgr8 (fun q hq => by have := hown8 q hq; have := HPB.out; omega)); have HS8 := Lib.hid (HS7.out.grown hgr8 (fun q hq => by have := hown8 q hq; have := HPB.out; omega)); have HG8 := Lib.hid (grownBy_up HG7.out hgr8 (fun q hq => by have := hown8 q hq; have := HPB.out; omega)); have HLE8 : Hid (wB.heap.size ≤ w8.heap.size) := Lib.hid (Nat.le_trans HLE7.out hgr8.size); have s28 : w8.cell? ⟨S, 1, none⟩ = some (.slice b2 gs.length c2) := HS8.out.cell 1; have f28 : w8.frozen? ⟨S, 1, none⟩ = false := HS8.out.frozen 1; clear ho8 hgr8 hat8 hown8))
    all_goals
      have gS := grownBy_setC w8 ⟨S, 1, none⟩ (.slice (some ⟨gg, 0, none⟩) (gs.length + 1) cc)
      have HP9 := Lib.hid (HP8.out.far gS HSN.out.1 HSN.out.2.1)
      have HK9 := Lib.hid (HK8.out.kept gS HSN.out.2.2.1)
      have HS9 : Hid (Bk (w8.setCell ⟨S, 1, none⟩ (.slice (some ⟨gg, 0, none⟩) (gs.length + 1) cc)) S 33 #[.slice b1 ss.length c1, .slice (some ⟨gg, 0, none⟩) (gs.length + 1) cc, .slice b3 ps.length c3]) := Lib.hid (HS8.out.set_ 1 _)
      have HG9 := Lib.hid (grownBy_under HG8.out gS HSN.out.2.2.2.1)
      have HGr9 := Lib.hid (HGr8.out.par gS (by have := HPB.out; show S < _; omega))
      have HLE9 := Lib.hid (Nat.le_trans HLE8.out gS.size)
      clear gS s28 f28 s27 s27a s2 HP8 HK8 HS8 HG8 HLE8 HGr8 HP7 HK7 HS7 HG7 HLE7 HGr7 HY1 HY2 HY3 HZL
      generalize w8.setCell ⟨S, 1, none⟩ (.slice (some ⟨gg, 0, none⟩) (gs.length + 1) cc) = w9 at HP9 HK9 HS9 HG9 HGr9 HLE9 ⊢
      have HFE : Hid (Pr.program (l.map Pr.tk) gk ss gs ps un = Pr.program (l.map Pr.tk) gj ss (gs ++ [a7]) ps u7) := Lib.hid (by rw [HGJ.out, Pr.program_2 HKD.out HQ1.out HQ2.out, HM7.out]; rfl)
      have HF7 := Lib.hid ((Pr.decl_fwd HM7.out).stp)
      go_wp2_with fail
      go_roundg gj
      case measure => have := HGJ.out; omega
      case rel => exact ⟨ss, gs ++ [a7], ps, .slice b1 ss.length c1, .slice (some ⟨gg, 0, none⟩) (gs.length + 1) cc, .slice b3 ps.length c3, u7, by have := HF7.out.1; have := HGJ.out; omega, by have := HF7.out.1; simp only [List.length_append, List.length_singleton]; omega, Lib.hid (HF7.out.2.2 HIU.out), Lib.hid (by rw [← HFE.out, HH.out]), by rw [← HZE.out]; exact HGr9, HS9, HP9, HK9, HG9, HLE9⟩
end
end Go.Proofs.YtlpnkllhpienhaaDoor
