/-
  DERIVED. Plain: rows of the call's own that are written again, in place.
-/
import Derived.Test.YtpbjnjnmbglllaaPlS
import Derived.Great.BuildSlice
namespace Go.Proofs.Ytpbjnjnmbglllaa
open Go.RowKit Go.Sort

/-- Block g is the call's own: cells, none frozen. -/
def Mine (w : World) (g : Nat) : Prop := ∃ cs t, w.heap[g]? = some (.cells cs t (0, 0))
/-- Of the blocks that were there only g has turned, and of it only the cells from q on, n of them. -/
def Only (w : World) (g q n : Nat) (w' : World) : Prop :=
  w.grownBy w' (some g) ∧ ∃ cs t cs', w.heap[g]? = some (.cells cs t (0, 0)) ∧ w'.heap[g]? = some (.cells cs' t (0, 0)) ∧ cs'.size = cs.size ∧ ∀ j, j < q ∨ q + n ≤ j → cs'[j]? = cs[j]?
theorem grownBy_trans {a b c : World} {r : Option Nat} (h : a.grownBy b r) (k : b.grownBy c r) : a.grownBy c r :=
  ⟨k.os.trans h.os, k.tape.trans h.tape, k.output.trans h.output, Nat.le_trans h.size k.size, fun i hi hne => (k.block i (Nat.lt_of_lt_of_le hi h.size) hne).trans (h.block i hi hne)⟩
theorem grownBy_below {a b : World} (h : Below a.heap.size a b) (r : Option Nat) : a.grownBy b r := ⟨h.os, h.tape, h.output, h.size, fun i hi _ => h.block i hi⟩
section
variable {w w' : World} {g q n : Nat}
theorem Mine.lt (h : Mine w g) : g < w.heap.size := by obtain ⟨cs, t, h⟩ := h; exact (Array.getElem?_eq_some_iff.1 h).1
theorem Mine.below (h : Mine w g) (hb : Below w.heap.size w w') : Mine w' g := by
  have hl := h.lt
  obtain ⟨cs, t, h⟩ := h; exact ⟨cs, t, (hb.block g hl).trans h⟩
theorem Mine.frozen (h : Mine w g) (i : Nat) : w.frozen? ⟨g, i, none⟩ = false := by obtain ⟨cs, t, h⟩ := h; exact frozen_of_row w g i cs t h
theorem Only.mine (h : Only w g q n w') : Mine w' g := by obtain ⟨_, _, t, cs', _, h, _⟩ := h; exact ⟨cs', t, h⟩
theorem Only.size (h : Only w g q n w') : w.heap.size ≤ w'.heap.size := h.1.size
theorem Only.refl (h : Mine w g) : Only w g q n w := by
  obtain ⟨cs, t, h⟩ := h
  exact ⟨⟨rfl, rfl, rfl, Nat.le_refl _, fun _ _ _ => rfl⟩, cs, t, cs, h, h, rfl, fun _ _ => rfl⟩
theorem Only.trans {w'' : World} (h : Only w g q n w') (k : Only w' g q n w'') : Only w g q n w'' := by
  obtain ⟨h0, cs, t, cs', h1, h2, h3, h4⟩ := h
  obtain ⟨k0, ds, t', ds', k1, k2, k3, k4⟩ := k
  rw [h2] at k1
  injection k1 with k1
  injection k1 with e1 e2
  subst e1; subst e2
  exact ⟨grownBy_trans h0 k0, cs, t, ds', h1, k2, k3.trans h3, fun j hj => (k4 j hj).trans (h4 j hj)⟩
theorem Only.wide {q' n' : Nat} (h : Only w g q n w') (h1 : q' ≤ q) (h2 : q + n ≤ q' + n') : Only w g q' n' w' := by
  obtain ⟨h0, cs, t, cs', ha, hb, hc, hd⟩ := h
  exact ⟨h0, cs, t, cs', ha, hb, hc, fun j hj => hd j (by omega)⟩
theorem Only.below (hm : Mine w g) (h : Below w.heap.size w w') : Only w g q n w' := by
  have hl := hm.lt
  obtain ⟨cs, t, hm⟩ := hm
  exact ⟨grownBy_below h _, cs, t, cs, hm, (h.block g hl).trans hm, rfl, fun _ _ => rfl⟩
theorem Only.setCell (hm : Mine w g) {i : Nat} (h1 : q ≤ i) (h2 : i < q + n) (u : Value) : Only w g q n (w.setCell ⟨g, i, none⟩ u) := by
  obtain ⟨cs, t, hm⟩ := hm
  refine ⟨grownBy_setC w ⟨g, i, none⟩ u, cs, t, cs.setIfInBounds i u, hm, Bk.set_ hm i u, by simp, fun j hj => ?_⟩
  rw [Array.getElem?_setIfInBounds_ne (by omega)]
theorem Only.range (h : Only w g q n w') {b o : Nat} {cs : List Value} (hr : w.rangeAt b o cs) (hd : b ≠ g ∨ o + cs.length ≤ q ∨ q + n ≤ o) : w'.rangeAt b o cs := fun j v hv => by
  have hc := hr j v hv
  obtain ⟨h0, ds, t, ds', ha, hb, _, he⟩ := h
  by_cases hbg : b = g
  · subst hbg
    have hj := (List.getElem?_eq_some_iff.1 hv).1
    rw [cell_of_row _ _ _ _ _ _ ha] at hc
    rw [cell_of_row _ _ _ _ _ _ hb, he _ (by omega)]
    exact hc
  · exact h0.cell hc (by simpa using hbg)
theorem Only.cell (h : Only w g q n w') {i : Nat} {v : Value} (hr : w.cell? ⟨g, i, none⟩ = some v) (hd : i < q ∨ q + n ≤ i) : w'.cell? ⟨g, i, none⟩ = some v := by
  obtain ⟨h0, ds, t, ds', ha, hb, _, he⟩ := h
  rw [cell_of_row _ _ _ _ _ _ ha] at hr
  rw [cell_of_row _ _ _ _ _ _ hb, he _ hd]
  exact hr
/-- What lies beside the block still does. -/
theorem Only.hole (h : Only w g q n w') : Ext (hole (some g) w) (hole (some g) w') := hole_grown h.1 (.inl rfl)
/-- Old things lie beside a block that is new. -/
theorem ext_hole {w0 : World} (h : Below w0.heap.size w0 w) (hg : w0.heap.size ≤ g) : Ext w0 (hole (some g) w) := fun b o v hc => by
  have hlt := World.block_lt_of_cell? w0 _ hc
  simp only at hlt
  unfold Ytpbjnjnmbglllaa.hole
  rw [mask_cell, if_neg (by simp; omega)]
  exact (h.cell (p := ⟨b, o, none⟩) hlt).trans hc
theorem Only.of_drew (h : Only w.drew g q n w') : Only w g q n w' := ⟨⟨h.1.os, h.1.tape, h.1.output, h.1.size, h.1.block⟩, h.2⟩
theorem Only.to_below {B : Nat} (h : Only w g q n w') (hB : B ≤ g) (hw : B ≤ w.heap.size) : Below B w w' :=
  ⟨h.1.os, h.1.tape, h.1.output, h.1.size, fun k hk => h.1.block k (by omega) (by intro e; injection e with e; omega)⟩
theorem own_mine {B : Nat} {e : TypeId} {size k cap : Nat} {xs : List Value} (h : w.ownsRow B e size (.slice (some ⟨g, 0, none⟩) (k + 1) cap) (k + 1) xs) : Mine w g := by
  rcases h.2 with ⟨hh, _⟩ | ⟨g', cap', cur, hv, _, hg, _⟩
  · cases hh
  · injection hv with e1 e2 e3
    injection e1 with e1
    injection e1 with e1 _ _
    subst e1
    exact ⟨_, _, hg⟩
theorem own_last {B : Nat} {e : TypeId} {size k cap : Nat} {xs c : List Value} (h : w.ownsRow B e size (.slice (some ⟨g, 0, none⟩) (k + 1) cap) (k + 1) (xs ++ c)) (hx : xs.length = k * size) (hc : c.length = size) : w.rangeAt g (k * size) c := fun j v hj => by
  have hjl := (List.getElem?_eq_some_iff.1 hj).1
  rw [h.cellAt _ (by rw [Nat.add_mul, Nat.one_mul]; omega), List.getElem?_append_right (by omega), hx, show k * size + j - k * size = j by omega]
  exact hj
theorem ext_below (h : Below w.heap.size w w') : Ext w w' := fun b o _ hc => (h.cell (p := ⟨b, o, none⟩) (World.block_lt_of_cell? w _ hc)).trans hc
/-- One's own row, its last item turned. -/
theorem own_turned {B : Nat} {e : TypeId} {size k cap : Nat} {xs c c' : List Value} (h : w.ownsRow B e size (.slice (some ⟨g, 0, none⟩) (k + 1) cap) (k + 1) (xs ++ c)) (hx : xs.length = k * size) (hc' : c'.length = size)
    (ho : Only w g (k * size) size w') (hr : w'.rangeAt g (k * size) c') : w'.ownsRow B e size (.slice (some ⟨g, 0, none⟩) (k + 1) cap) (k + 1) (xs ++ c') := by
  obtain ⟨h0, hh⟩ := h
  rcases hh with ⟨hh, _⟩ | ⟨g', cap', cur, hv, hB, hg, hn, hm, hs, ht⟩
  · cases hh
  · injection hv with e1 e2 e3
    injection e1 with e1
    injection e1 with e1 _ _
    subst e1; subst e3
    obtain ⟨_, cs, t, cs', ha, hb, hsz, he⟩ := ho
    rw [hg] at ha
    injection ha with ha
    injection ha with e1 e2
    subst e1; subst e2
    refine ⟨by simp only [List.length_append, hx, hc']; rw [Nat.add_mul, Nat.one_mul], .inr ⟨g, cap, cs', rfl, hB, hb, hn, hm, by rw [hsz, hs], ?_⟩⟩
    have hks : (k + 1) * size = k * size + size := by rw [Nat.add_mul, Nat.one_mul]
    have hfit : (k + 1) * size ≤ cur.size := by rw [hs]; exact Nat.mul_le_mul_right _ hn
    apply List.ext_getElem?
    intro j
    rw [List.getElem?_take]
    have htj : ∀ j, j < (k + 1) * size → cur[j]? = (xs ++ c)[j]? := fun j hj => by
      rw [← ht, List.getElem?_take, if_pos hj]; simp
    by_cases hj : j < (k + 1) * size
    · rw [if_pos hj]
      by_cases hjk : j < k * size
      · have h1 := he j (.inl hjk)
        have h2 := htj j hj
        rw [List.getElem?_append_left (by omega)] at h2 ⊢
        rw [← h2, ← h1]; simp
      · have hjc : j - k * size < c'.length := by omega
        have h1 := hr (j - k * size) _ (List.getElem?_eq_getElem hjc)
        rw [cell_of_row _ _ _ _ _ _ hb, show k * size + (j - k * size) = j by omega] at h1
        rw [List.getElem?_append_right (by omega), hx, List.getElem?_eq_getElem hjc, ← h1]; simp
    · rw [if_neg hj, List.getElem?_eq_none (by simp only [List.length_append, hx, hc']; omega)]
end

/-- A slice literal of one struct, its cells not looked at. -/
theorem wpList_one {P : Program} {ops : Array Oper} {rest : List Oper} {o : Oper} {a : Act} {w : World} {Q : Exit → Act → World → Prop} (hg : o.guard = none) (t e : TypeId) (x : Operand) (ho : o.op = .buildSlice t 1 #[(0, x)])
    (cs : Array Value) (hx : a.eval x = .agg cs) (hu : P.underlying t = some (.slice e)) (ie : TypeInfo) (z : Value) (n : Nat) (hie : P.info? e = some ie) (hz : ie.zero = some z) (hn : ie.size = n) (h0 : 0 < n) (h24 : n ≤ 16777216) (hcs : n = cs.size)
    (h : wpList P ops Q rest (a.put o.dst (.slice (some ⟨w.heap.size, 0, none⟩) 1 1)) (w.alloc (.cells cs e))) : wpList P ops Q (o :: rest) a w := by
  subst hn
  refine wpList_buildSlice hg t e 1 #[(0, x)] ho cs ie z hu hie hz (by omega) (by omega) ?_ h
  have hf := Great.fill_whole h0 [Value.agg cs] ((Array.range (1 * ie.size)).map (z.cells[· % z.cells.size]!)) (by intro v hv; rw [List.mem_singleton.1 hv]; exact hcs.symm) (by simp)
  simp only [List.zipIdx_cons, List.zipIdx_nil, List.map_cons, List.map_nil] at hf
  simp only [List.map_toArray, List.map_cons, List.map_nil, hx]
  rw [hf]
  simp [Value.cells]

/-- What kind of items a list has. -/
structure Kd (α : Type) where
  T : TypeId
  size : Nat
  bytes : Nat
  cells : α → List Value
  er : α → α
  flat : α → Prop
  R : World → α → Prop
  len : ∀ x, (cells x).length = size
  one : ∀ x, (cells x).toArray.all (·.oneCell') = true
  ext : ∀ {w w' : World} (x : α), Ext w w' → R w x → R w' x

/-- All but what was there, and one block. -/
def rest (B : Nat) (r : Option Nat) (w : World) : World := mask (fun b => decide (b < B) || decide (some b = r)) w
theorem rest_below {B : Nat} {r : Option Nat} {w w' : World} (h : Below w.heap.size w w') : Ext (rest B r w) (rest B r w') := Ext.of_mask fun b hb hlt => ⟨hb, h.block b hlt⟩
theorem rest_fresh {B : Nat} {r : Option Nat} {w : World} : Ext (rest B r w) (fresh B w) := Ext.of_mask fun b hb _ => by
  simp only [Bool.or_eq_false_iff, decide_eq_false_iff_not] at hb ⊢
  exact ⟨hb.1, trivial⟩
theorem rest_grown {B g : Nat} {v : Value} {w w' : World} (h : w.grownBy w' v.ownBlock) (hat : v.ownBlock = some g ∨ g = w.heap.size) : Ext (rest B v.ownBlock w) (rest B (some g) w') := Ext.of_mask fun b hb hlt => by
  simp only [Bool.or_eq_false_iff, decide_eq_false_iff_not] at hb ⊢
  refine ⟨⟨hb.1, ?_⟩, h.block b hlt hb.2⟩
  rcases hat with hat | hat
  · rw [← hat]; exact hb.2
  · intro e; injection e with e; omega
theorem rest_only {B g q n : Nat} {w w' : World} (h : Only w g q n w') : Ext (rest B (some g) w) (rest B (some g) w') := Ext.of_mask fun b hb hlt => by
  simp only [Bool.or_eq_false_iff, decide_eq_false_iff_not] at hb ⊢
  exact ⟨hb, h.1.block b hlt hb.2⟩
theorem fresh_rest {B g : Nat} {w0 w : World} (hB : B ≤ w0.heap.size) (hg : g < w0.heap.size) : Ext (fresh w0.heap.size w) (rest B (some g) w) := Ext.of_mask fun b hb _ => by
  simp only [decide_eq_false_iff_not, Bool.or_eq_false_iff] at hb ⊢
  exact ⟨⟨by omega, by intro e; injection e with e; omega⟩, trivial⟩

namespace Kd
variable {α : Type} (K : Kd α)
/-- A list lies in memory. -/
def Ly (w : World) (p : Option Addr) (l : List α) : Prop :=
  l.length * K.bytes ≤ 140737488351232 ∧ (l = [] ∨ ∃ b o, p = some ⟨b, o, none⟩ ∧ ∀ k x, l[k]? = some x → w.rangeAt b (o + k * K.size) (K.cells x) ∧ K.R w x)
theorem Ly.ext {K : Kd α} {w w' : World} {p : Option Addr} {l : List α} (h : K.Ly w p l) (hx : Ext w w') : K.Ly w' p l := by
  obtain ⟨h0, h⟩ := h
  refine ⟨h0, ?_⟩
  rcases h with h | ⟨b, o, hp, h⟩
  · exact .inl h
  · exact .inr ⟨b, o, hp, fun k x hk => ⟨rangeAt_ext hx (h k x hk).1, K.ext x hx (h k x hk).2⟩⟩
/-- Some items of the list are there, made plain. -/
def Grows (B : Nat) (l : List α) (k : Nat) (v : Value) (w : World) : Prop :=
  ∃ ys : List α, ys.length = k ∧ ys.map K.er = (l.take k).map K.er ∧ (∀ y ∈ ys, K.flat y) ∧ w.ownsRow B K.T K.size v k (ys.flatMap K.cells) ∧ ∀ y ∈ ys, K.R (rest B v.ownBlock w) y
theorem Grows.nil {B : Nat} {l : List α} {v : Value} {w : World} (h : w.ownsRow B K.T K.size v 0 []) : K.Grows B l 0 v w := ⟨[], rfl, rfl, by simp, h, by simp⟩
theorem Grows.below {K : Kd α} {B k : Nat} {l : List α} {v : Value} {w w' : World} (h : K.Grows B l k v w) (hb : Below w.heap.size w w') : K.Grows B l k v w' := by
  obtain ⟨ys, h1, h2, h3, h4, h5⟩ := h
  exact ⟨ys, h1, h2, h3, own_below h4 hb, fun y hy => K.ext y (rest_below hb) (h5 y hy)⟩
theorem step {B k g cap : Nat} {l ys : List α} {v : Value} {w w1 w2 : World} {x y : α} (h1 : ys.length = k) (h2 : ys.map K.er = (l.take k).map K.er) (h3 : ∀ y ∈ ys, K.flat y) (h5 : ∀ y ∈ ys, K.R (rest B v.ownBlock w) y) (hx : l[k]? = some x)
    (hB : B ≤ w.heap.size) (hg : w.grownBy w1 v.ownBlock) (hat : v.ownBlock = some g ∨ g = w.heap.size)
    (ho : w1.ownsRow B K.T K.size (.slice (some ⟨g, 0, none⟩) (k + 1) cap) (k + 1) (ys.flatMap K.cells ++ K.cells x))
    (hy : K.er y = K.er x) (hf : K.flat y) (hr : w2.rangeAt g (k * K.size) (K.cells y)) (hR : K.R (fresh w1.heap.size w2) y) (h : Only w1 g (k * K.size) K.size w2) : K.Grows B l (k + 1) (.slice (some ⟨g, 0, none⟩) (k + 1) cap) w2 := by
  have hlt : g < w1.heap.size := (ho.lt g rfl).2
  refine ⟨ys ++ [y], by simp [h1], ?_, ?_, ?_, ?_⟩
  · obtain ⟨hk, rfl⟩ := List.getElem?_eq_some_iff.1 hx
    rw [List.take_succ_eq_append_getElem hk, List.map_append, List.map_append, h2, List.map_cons, List.map_nil, hy]; rfl
  · intro z hz
    rcases List.mem_append.1 hz with hz | hz
    · exact h3 z hz
    · rw [List.mem_singleton.1 hz]; exact hf
  · rw [List.flatMap_append, List.flatMap_singleton]
    exact own_turned ho (by rw [flat_len K.cells K.size K.len, h1]) (K.len y) h hr
  · intro z hz
    rcases List.mem_append.1 hz with hz | hz
    · exact K.ext z ((rest_grown hg hat).trans (rest_only h)) (h5 z hz)
    · rw [List.mem_singleton.1 hz]; exact K.ext y (fresh_rest (Nat.le_trans hB hg.size) hlt) hR
/-- All of them. -/
theorem fin {B : Nat} {l : List α} {v : Value} {w : World} (hl : l.length * K.bytes ≤ 140737488351232) (h : K.Grows B l l.length v w) :
    ∃ (p : Option Addr) (c : Nat) (l' : List α), v = .slice p l'.length c ∧ l'.map K.er = l.map K.er ∧ (∀ y ∈ l', K.flat y) ∧ K.Ly (fresh B w) p l' := by
  obtain ⟨ys, h1, h2, h3, h4, h5⟩ := h
  rw [List.take_length] at h2
  rw [← h1] at h4
  obtain ⟨p, c, rfl, hp⟩ := own_lies K.len h4
  refine ⟨p, c, ys, rfl, h2, h3, by rw [h1]; exact hl, ?_⟩
  rcases hp with hp | ⟨b, o, rfl, hB, _, hx⟩
  · exact .inl hp
  · exact .inr ⟨b, o, rfl, fun k x hk => ⟨hx k x hk, K.ext x rest_fresh (h5 x (List.mem_of_getElem? hk))⟩⟩
/-- What the function that makes one item plain, in place, does. -/
def Body (F : FuncId) (x : α) : Prop := ∀ (g q : Nat) (w : World), Mine w g → w.rangeAt g q (K.cells x) → K.R (hole (some g) w) x →
  Calls Try.prog F #[.pointer (some ⟨g, q, none⟩)] w fun e w' => e = .returned (.tuple #[]) ∧ ∃ y, K.er y = K.er x ∧ K.flat y ∧ w'.rangeAt g q (K.cells y) ∧ K.R (fresh w.heap.size w') y ∧ Only w g q K.size w'
/-- What the function that makes a list plain tells. -/
def All (G F : FuncId) (l : List α) : Prop := ∀ (p : Option Addr) (c : Nat) (w : World), K.Ly w p l →
  Calls Try.prog G #[.slice p l.length c, .func (.func F) #[] #[]] w fun e w' => ∃ (p' : Option Addr) (c' : Nat) (l' : List α), e = .returned (.slice p' l'.length c') ∧ l'.map K.er = l.map K.er ∧ (∀ y ∈ l', K.flat y) ∧ K.Ly (fresh w.heap.size w') p' l' ∧ Below w.heap.size w w'
end Kd

def kHp : Kd Hp := ⟨85, 2, 24, Hp.cells, Hp.er, Hp.flat, fun _ _ => True, fun _ => rfl, fun _ => by simp [Value.oneCell'], fun _ _ _ => trivial⟩
def kDc : Kd Dc := ⟨45, 3, 40, Dc.cells, Dc.er, Dc.flat, fun _ _ => True, fun _ => rfl, fun _ => by simp [Value.oneCell'], fun _ _ _ => trivial⟩
def kSr : Kd Sr := ⟨65, 3, 48, Sr.cells, Sr.er, Sr.flat, fun w x => declsLie w x.fields, fun _ => rfl, fun _ => by simp [Value.oneCell'], fun _ h k => declsLie_ext h k⟩
def kPc : Kd Pc := ⟨43, 6, 104, Pc.cells, Pc.er, Pc.flat, pcLies, fun _ => rfl, fun _ => by simp [Value.oneCell'], fun _ h k => pcLies_ext h k⟩
def kVl : Kd Vl := ⟨52, 12, 144, Vl.cells, Vl.er, Vl.flat, vlLies, fun _ => rfl, fun _ => by simp [Value.oneCell'], fun _ h k => vlLies_ext h k⟩
def kIt : Kd It := ⟨57, 48, 608, It.cells, It.er, It.flat, itLies, fun _ => rfl, fun _ => scells_one _ _ _ _ _ _ _, fun _ h k => itLies_ext h k⟩

end Go.Proofs.Ytpbjnjnmbglllaa
