/-
  DERIVED. Words of one's own: blocks known whole; worlds in which a few blocks have turned; rows of items that each hold a block of their own.
-/
import Derived.Test.YtocgallcmgnmgaaPl
import Derived.Deep.QuietTactic
import Derived.Maps.AppendAt
import Derived.Maps.Ext
import Derived.Maps.OwnOps
import Derived.Maps.RangeWalk
import Derived.Deep.AppendLies
import Derived.Laws.Tables
import Derived.StillTailTactics
import Derived.Deep.RegionHeld3
import Derived.Deep.DeepMust
import Derived.Outline
import Derived.Laws.Pointers
import Derived.WalkSpells
namespace Go.Proofs.Ytocgallcmgnmgaa
open Go.RowKit

theorem below_drewN_ {B : Nat} {a w : World} (h : Below B a w) (n : Nat) : Below B a (w.drewN n) := ⟨h.os, h.tape, h.output, h.size, h.block⟩
theorem below_drew {B : Nat} {w w' : World} (h : Below B w w') : Below B w w'.drew := below_drewN_ h 1
/-- A block that is the call's own, whole. -/
def Bk (w : World) (g : Nat) (t : TypeId) (cs : Array Value) : Prop := w.heap[g]? = some (.cells cs t (0, 0))
theorem Bk.set_ {w : World} {g : Nat} {t : TypeId} {cs : Array Value} (h : Bk w g t cs) (i : Nat) (u : Value) : Bk (w.setCell ⟨g, i, none⟩ u) g t (cs.setIfInBounds i u) := by
  unfold Bk at h ⊢
  simp [World.setCell, Array.getElem?_modify, h]
theorem Bk.far {w : World} {g : Nat} {t : TypeId} {cs : Array Value} (h : Bk w g t cs) {p : Addr} (hp : g ≠ p.block) (u : Value) : Bk (w.setCell p u) g t cs := (Below.heap_setCell w p u g hp).trans h
theorem Bk.cell {w : World} {g : Nat} {t : TypeId} {cs : Array Value} (h : Bk w g t cs) (i : Nat) : w.cell? ⟨g, i, none⟩ = cs[i]? := cell_of_row w g i cs t (0, 0) h
theorem Bk.frozen {w : World} {g : Nat} {t : TypeId} {cs : Array Value} (h : Bk w g t cs) (i : Nat) : w.frozen? ⟨g, i, none⟩ = false := frozen_of_row w g i cs t h
theorem Bk.below {B : Nat} {w w' : World} {g : Nat} {t : TypeId} {cs : Array Value} (h : Bk w g t cs) (hb : Below B w w') (hg : g < B) : Bk w' g t cs := (hb.block g hg).trans h
theorem Bk.lt {w : World} {g : Nat} {t : TypeId} {cs : Array Value} (h : Bk w g t cs) : g < w.heap.size := (Array.getElem?_eq_some_iff.1 h).1
theorem grownBy_setC (w : World) (a : Addr) (v : Value) : w.grownBy (w.setCell a v) (some a.block) :=
  ⟨rfl, rfl, rfl, by simp [World.setCell], fun i _ hne => Below.heap_setCell w a v i (fun e => hne (by rw [e]))⟩

/-- Of the blocks that were there, these alone have turned. -/
structure Gr (w w' : World) (S : Nat → Prop) : Prop where
  os : w'.os = w.os
  tape : w'.tape = w.tape
  output : w'.output = w.output
  size : w.heap.size ≤ w'.heap.size
  block : ∀ k, k < w.heap.size → ¬ S k → w'.heap[k]? = w.heap[k]?
theorem Gr.refl (w : World) (S : Nat → Prop) : Gr w w S := ⟨rfl, rfl, rfl, Nat.le_refl _, fun _ _ _ => rfl⟩
theorem Gr.trans {a b c : World} {S : Nat → Prop} (h : Gr a b S) (k : Gr b c S) : Gr a c S :=
  ⟨k.os.trans h.os, k.tape.trans h.tape, k.output.trans h.output, Nat.le_trans h.size k.size, fun i hi hS => (k.block i (Nat.lt_of_lt_of_le hi h.size) hS).trans (h.block i hi hS)⟩
theorem Gr.mono {a b : World} {S S' : Nat → Prop} (h : Gr a b S) (hS : ∀ k, k < a.heap.size → S k → S' k) : Gr a b S' := ⟨h.os, h.tape, h.output, h.size, fun i hi hn => h.block i hi (fun e => hn (hS i hi e))⟩
/-- A second step whose blocks are new, or among the first one's. -/
theorem Gr.then {a b c : World} {S S' : Nat → Prop} (h : Gr a b S) (k : Gr b c S') (hS : ∀ i, i < a.heap.size → S' i → S i) : Gr a c S :=
  ⟨k.os.trans h.os, k.tape.trans h.tape, k.output.trans h.output, Nat.le_trans h.size k.size, fun i hi hn => (k.block i (Nat.lt_of_lt_of_le hi h.size) (fun e => hn (hS i hi e))).trans (h.block i hi hn)⟩
theorem Gr.of_grown {a b : World} {r : Option Nat} (h : a.grownBy b r) : Gr a b (fun k => some k = r) := ⟨h.os, h.tape, h.output, h.size, fun i hi hn => h.block i hi hn⟩
theorem Gr.of_below {a b : World} {S : Nat → Prop} (h : Below a.heap.size a b) : Gr a b S := ⟨h.os, h.tape, h.output, h.size, fun i hi _ => h.block i hi⟩
theorem Gr.grown {a b c : World} {S : Nat → Prop} {r : Option Nat} (h : Gr a b S) (k : b.grownBy c r) (hS : ∀ i, i < a.heap.size → some i = r → S i) : Gr a c S := h.then (Gr.of_grown k) hS
theorem Gr.alloc {a b : World} {S : Nat → Prop} (h : Gr a b S) (o : Obj) : Gr a (b.alloc o) S := h.then (Gr.of_below ((Below.refl _ _).alloc (Nat.le_refl _) o)) (fun _ _ h => h)
theorem Gr.drewN {a b : World} {S : Nat → Prop} (h : Gr a b S) (n : Nat) : Gr a (b.drewN n) S := ⟨h.os, h.tape, h.output, h.size, h.block⟩
theorem Gr.drew {a b : World} {S : Nat → Prop} (h : Gr a b S) : Gr a b.drew S := ⟨h.os, h.tape, h.output, h.size, h.block⟩
theorem Gr.setCell {a b : World} {S : Nat → Prop} (h : Gr a b S) {p : Addr} (hp : p.block < a.heap.size → S p.block) (v : Value) : Gr a (b.setCell p v) S :=
  h.grown (grownBy_setC b p v) (fun i hi e => by injection e with e; subst e; exact hp hi)
theorem Gr.below {a b : World} {S : Nat → Prop} {N : Nat} (h : Gr a b S) (hN : N ≤ a.heap.size) (hS : ∀ k, S k → N ≤ k) : Below N a b :=
  ⟨h.os, h.tape, h.output, h.size, fun i hi => h.block i (Nat.lt_of_lt_of_le hi hN) (fun e => by have := hS i e; omega)⟩
theorem Gr.bk {a b : World} {S : Nat → Prop} (h : Gr a b S) {g : Nat} {t : TypeId} {cs : Array Value} (k : Bk a g t cs) (hS : ¬ S g) : Bk b g t cs := (h.block g k.lt hS).trans k
theorem Gr.range {a b : World} {S : Nat → Prop} (h : Gr a b S) {g o : Nat} {cs : List Value} (k : a.rangeAt g o cs) (hS : ¬ S g) : b.rangeAt g o cs := fun j v hv => by
  have := k j v hv
  exact (World.cell?_of_block (a := ⟨g, o + j, none⟩) (h.block g (World.block_lt_of_cell? a _ this) hS)).trans this
theorem cell_at {w : World} {b q : Nat} {cs : List Value} (h : w.rangeAt b q cs) (j : Nat) (v : Value) (hv : cs[j]? = some v) : w.cell? ⟨b, q + j, none⟩ = some v := h j v hv


/-- Items of a row, each with what it holds besides. -/
structure Kin (α β : Type) where
  T : TypeId
  sz : Nat
  pos : 0 < sz
  cells : α → β → List Value
  len : ∀ a b, (cells a b).length = sz
  blk : β → Option Nat
  sub : World → α → β → Prop
  has : ∀ w a b m, sub w a b → blk b = some m → m < w.heap.size
  keep : ∀ w w' a b, sub w a b → w.heap.size ≤ w'.heap.size → (∀ m, blk b = some m → w'.heap[m]? = w.heap[m]?) → sub w' a b

structure Kin.At {α β : Type} (K : Kin α β) (w : World) (R : Nat → Prop) (g cap : Nat) (cur : Array Value) (fm : Nat → β) (xs : List α) : Prop where
  row : Bk w g K.T cur
  mine : R g
  room : xs.length ≤ cap
  most : cap ≤ maxLen
  size : cur.size = cap * K.sz
  cell : ∀ i x, xs[i]? = some x → ∀ j, j < K.sz → cur[i * K.sz + j]? = (K.cells x (fm i))[j]?
  sub : ∀ i x, xs[i]? = some x → K.sub w x (fm i)
  own : ∀ i m, i < xs.length → K.blk (fm i) = some m → R m ∧ m ≠ g
  apart : ∀ i j m, i < j → j < xs.length → K.blk (fm i) = some m → K.blk (fm j) ≠ some m

namespace Kin
variable {α β : Type} {K : Kin α β} {w w' : World} {R R' S : Nat → Prop} {g cap : Nat} {cur cur' : Array Value} {fm : Nat → β} {xs : List α}

theorem At.gr (h : K.At w R g cap cur fm xs) (hg : Gr w w' S) (hS : ∀ k, R k → ¬ S k) : K.At w' R g cap cur fm xs where
  row := hg.bk h.row (hS g h.mine)
  mine := h.mine
  room := h.room
  most := h.most
  size := h.size
  cell := h.cell
  sub i x hi := K.keep w w' x _ (h.sub i x hi) hg.size fun m hm => hg.block m (K.has w x _ m (h.sub i x hi) hm) (hS m (h.own i m (List.getElem?_eq_some_iff.1 hi).1 hm).1)
  own := h.own
  apart := h.apart
theorem At.mono (h : K.At w R g cap cur fm xs) (hR : ∀ k, R k → R' k) : K.At w R' g cap cur fm xs where
  row := h.row
  mine := hR _ h.mine
  room := h.room
  most := h.most
  size := h.size
  cell := h.cell
  sub := h.sub
  own i m hi hm := ⟨hR _ (h.own i m hi hm).1, (h.own i m hi hm).2⟩
  apart := h.apart
theorem At.range (h : K.At w R g cap cur fm xs) {i : Nat} {x : α} (hi : xs[i]? = some x) : w.rangeAt g (i * K.sz) (K.cells x (fm i)) := fun j v hv => by
  have hj : j < K.sz := by rw [← K.len x (fm i)]; exact (List.getElem?_eq_some_iff.1 hv).1
  rw [h.row.cell, h.cell i x hi j hj, hv]
theorem At.at_cell (h : K.At w R g cap cur fm xs) {i : Nat} {x : α} (hi : xs[i]? = some x) (j : Nat) (v : Value) (hv : (K.cells x (fm i))[j]? = some v) : w.cell? ⟨g, i * K.sz + j, none⟩ = some v := h.range hi j v hv
theorem item_apart {n i k j : Nat} (hne : k ≠ i) (hj : j < n) : k * n + j < i * n ∨ i * n + n ≤ k * n + j := by
  rcases Nat.lt_or_ge k i with h | h
  · left
    have := Nat.mul_le_mul_right n (Nat.succ_le_of_lt h)
    rw [Nat.succ_mul] at this
    omega
  · right
    have := Nat.mul_le_mul_right n (Nat.succ_le_of_lt (Nat.lt_of_le_of_ne h (Ne.symm hne)))
    rw [Nat.succ_mul] at this
    omega

/-- One item has become another one. -/
theorem At.put (h : K.At w R g cap cur fm xs) {i : Nat} {x x' : α} {b' : β} (hi : xs[i]? = some x) (hg : Gr w w' S) (hrow : Bk w' g K.T cur') (hsz : cur'.size = cur.size)
    (hin : ∀ j, j < K.sz → cur'[i * K.sz + j]? = (K.cells x' b')[j]?) (hout : ∀ j, (j < i * K.sz ∨ i * K.sz + K.sz ≤ j) → cur'[j]? = cur[j]?) (hsub : K.sub w' x' b')
    (hS : ∀ k, k < w.heap.size → S k → k = g ∨ K.blk (fm i) = some k) (hR : ∀ k, R k → R' k) (hRl : ∀ k, R k → k < w.heap.size)
    (hb : K.blk b' = K.blk (fm i) ∨ K.blk b' = none ∨ ∃ m, K.blk b' = some m ∧ w.heap.size ≤ m ∧ R' m) : K.At w' R' g cap cur' (fun k => if k = i then b' else fm k) (xs.set i x') where
  row := hrow
  mine := hR _ h.mine
  room := by rw [List.length_set]; exact h.room
  most := h.most
  size := hsz.trans h.size
  cell k y hk j hj := by
    rw [List.getElem?_set] at hk
    by_cases e : i = k
    · subst e
      have hl : i < xs.length := (List.getElem?_eq_some_iff.1 hi).1
      rw [if_pos rfl, if_pos hl] at hk
      injection hk with hk; subst hk
      simp only [if_pos]
      exact hin j hj
    · rw [if_neg e] at hk
      simp only [if_neg (Ne.symm e)]
      rw [hout _ (item_apart (Ne.symm e) hj)]
      exact h.cell k y hk j hj
  sub k y hk := by
    rw [List.getElem?_set] at hk
    by_cases e : i = k
    · subst e
      have hl : i < xs.length := (List.getElem?_eq_some_iff.1 hi).1
      rw [if_pos rfl, if_pos hl] at hk
      injection hk with hk; subst hk
      simp only [if_pos]
      exact hsub
    · rw [if_neg e] at hk
      simp only [if_neg (Ne.symm e)]
      have hkl : k < xs.length := (List.getElem?_eq_some_iff.1 hk).1
      have hil : i < xs.length := (List.getElem?_eq_some_iff.1 hi).1
      refine K.keep w w' y _ (h.sub k y hk) hg.size fun m hm => hg.block m (K.has w y _ m (h.sub k y hk) hm) fun hs => ?_
      rcases hS m (K.has w y _ m (h.sub k y hk) hm) hs with e1 | e1
      · exact (h.own k m hkl hm).2 e1
      · rcases Nat.lt_or_gt_of_ne e with hlt | hlt
        · exact h.apart i k m hlt hkl e1 hm
        · exact h.apart k i m hlt hil hm e1
  own k m hk hm := by
    rw [List.length_set] at hk
    by_cases e : k = i
    · subst e
      simp only [if_pos] at hm
      rcases hb with hb | hb | ⟨m', hb, h1, h2⟩
      · exact ⟨hR _ (h.own k m hk (hb ▸ hm)).1, (h.own k m hk (hb ▸ hm)).2⟩
      · rw [hb] at hm; cases hm
      · rw [hb] at hm; injection hm with hm; subst hm
        exact ⟨h2, fun e => by have := h.row.lt; omega⟩
    · simp only [if_neg e] at hm
      exact ⟨hR _ (h.own k m hk hm).1, (h.own k m hk hm).2⟩
  apart k j m hkj hj hm hm' := by
    rw [List.length_set] at hj
    have hil : i < xs.length := (List.getElem?_eq_some_iff.1 hi).1
    by_cases e : k = i
    · subst e
      have e' : j ≠ k := by omega
      simp only [if_pos] at hm
      simp only [if_neg e'] at hm'
      rcases hb with hb | hb | ⟨m', hb, h1, _⟩
      · exact h.apart k j m hkj hj (hb ▸ hm) hm'
      · rw [hb] at hm; cases hm
      · rw [hb] at hm; injection hm with hm; subst hm
        have := hRl _ (h.own j m' hj hm').1; omega
    · simp only [if_neg e] at hm
      by_cases e' : j = i
      · subst e'
        simp only [if_pos] at hm'
        rcases hb with hb | hb | ⟨m', hb, h1, _⟩
        · exact h.apart k j m hkj hj hm (hb ▸ hm')
        · rw [hb] at hm'; cases hm'
        · rw [hb] at hm'; injection hm' with hm'; subst hm'
          have := hRl _ (h.own k m' (by omega) hm).1; omega
      · simp only [if_neg e'] at hm'
        exact h.apart k j m hkj hj hm hm'

/-- Items lie in a slice. -/
def Lie (K : Kin α β) (w : World) (R : Nat → Prop) (v : Value) (xs : List α) : Prop :=
  (∀ k, R k → k < w.heap.size) ∧ ((v = .slice none 0 0 ∧ xs = []) ∨ ∃ g cap cur fm, v = .slice (some ⟨g, 0, none⟩) xs.length cap ∧ K.At w R g cap cur fm xs)
theorem Lie.gr {v : Value} (h : K.Lie w R v xs) (hg : Gr w w' S) (hS : ∀ k, R k → ¬ S k) : K.Lie w' R v xs := by
  refine ⟨fun k hk => Nat.lt_of_lt_of_le (h.1 k hk) hg.size, ?_⟩
  rcases h.2 with h2 | ⟨g, cap, cur, fm, hv, ha⟩
  · exact .inl h2
  · exact .inr ⟨g, cap, cur, fm, hv, ha.gr hg hS⟩
theorem Lie.below {v : Value} (h : K.Lie w R v xs) (hb : Below w.heap.size w w') : K.Lie w' R v xs := h.gr (Gr.of_below (S := fun _ => False) hb) (fun _ _ h => h)
theorem Lie.mono {v : Value} (h : K.Lie w R v xs) (hR : ∀ k, R k → R' k) (hl : ∀ k, R' k → k < w.heap.size) : K.Lie w R' v xs := by
  refine ⟨hl, ?_⟩
  rcases h.2 with h2 | ⟨g, cap, cur, fm, hv, ha⟩
  · exact .inl h2
  · exact .inr ⟨g, cap, cur, fm, hv, ha.mono hR⟩
theorem Lie.nil (K : Kin α β) (w : World) (hl : ∀ k, R k → k < w.heap.size) : K.Lie w R (.slice none 0 0) [] := ⟨hl, .inl ⟨rfl, rfl⟩⟩

/-- As the append's law wants it. -/
theorem Lie.owns {v : Value} {base : Nat} (h : K.Lie w R v xs) (hb : ∀ k, R k → base ≤ k) : ∃ ys : List Value, w.ownsRow base K.T K.sz v xs.length ys ∧ ys.length = xs.length * K.sz ∧
    ((v = .slice none 0 0 ∧ xs = []) ∨ ∃ g cap cur fm, v = .slice (some ⟨g, 0, none⟩) xs.length cap ∧ K.At w R g cap cur fm xs ∧ ∀ j, j < xs.length * K.sz → ys[j]? = cur[j]?) := by
  rcases h.2 with ⟨hv, hx⟩ | ⟨g, cap, cur, fm, hv, ha⟩
  · subst hx
    exact ⟨[], ⟨by simp, .inl ⟨hv, rfl⟩⟩, by simp, .inl ⟨hv, rfl⟩⟩
  · have hle : xs.length * K.sz ≤ cur.size := by rw [ha.size]; exact Nat.mul_le_mul_right _ ha.room
    have hlen : (cur.toList.take (xs.length * K.sz)).length = xs.length * K.sz := by rw [List.length_take]; simp; omega
    refine ⟨cur.toList.take (xs.length * K.sz), ⟨hlen, .inr ⟨g, cap, cur, hv, hb g ha.mine, ha.row, ha.room, ha.most, ha.size, rfl⟩⟩, hlen, .inr ⟨g, cap, cur, fm, hv, ha, fun j hj => ?_⟩⟩
    rw [List.getElem?_take, if_pos hj]; simp

/-- One item more, at the end. -/
theorem Lie.push {v : Value} {base H g' cap' : Nat} {x' : α} {b' : β} {ys : List Value} (h : K.Lie w R v xs)
    (hys : (v = .slice none 0 0 ∧ xs = []) ∨ ∃ g cap cur fm, v = .slice (some ⟨g, 0, none⟩) xs.length cap ∧ K.At w R g cap cur fm xs ∧ ∀ j, j < xs.length * K.sz → ys[j]? = cur[j]?) (hyl : ys.length = xs.length * K.sz)
    (hown : w'.ownsRow base K.T K.sz (.slice (some ⟨g', 0, none⟩) (xs.length + 1) cap') (xs.length + 1) (ys ++ K.cells x' b')) (hg : w.grownBy w' v.ownBlock) (hat : v.ownBlock = some g' ∨ g' = H) (hH : w.heap.size ≤ H)
    (hsub : K.sub w' x' b') (hb : ∀ m, K.blk b' = some m → ¬ R m ∧ m ≠ g' ∧ R' m) (hR : ∀ k, R k → R' k) (hg' : R' g') (hRl : ∀ k, R' k → k < w'.heap.size) :
    K.Lie w' R' (.slice (some ⟨g', 0, none⟩) (xs.length + 1) cap') (xs ++ [x']) := by
  rcases hown.2 with ⟨e, _⟩ | ⟨g1, cap1, cur', e, _, hrow, hrm, hms, hsz, htk⟩
  · cases e
  · injection e with e1 e2 e3
    injection e1 with e1
    injection e1 with e1
    subst e1; subst e3
    have hcell : ∀ j, j < (xs.length + 1) * K.sz → cur'[j]? = (ys ++ K.cells x' b')[j]? := fun j hj => by
      rw [← htk, List.getElem?_take, if_pos hj]; simp
    have hnew : ∀ j, j < K.sz → cur'[xs.length * K.sz + j]? = (K.cells x' b')[j]? := fun j hj => by
      rw [hcell _ (by rw [Nat.succ_mul]; omega), List.getElem?_append_right (by omega), hyl, Nat.add_sub_cancel_left]
    rcases hys with ⟨hv, hx⟩ | ⟨g, cap, cur, fm, hv, ha, hcur⟩
    · subst hx
      refine ⟨hRl, .inr ⟨g', cap', cur', fun _ => b', by simp, hrow, hg', by simpa using hrm, hms, hsz, fun i x hi j hj => ?_, fun i x hi => ?_, fun i m hi hm => ⟨(hb m hm).2.2, (hb m hm).2.1⟩, fun i j m hij hj => by simp at hj; omega⟩⟩
      · rcases i with _ | i
        · simp at hi; subst hi; exact hnew j hj
        · simp at hi
      · rcases i with _ | i
        · simp at hi; subst hi; exact hsub
        · simp at hi
    · refine ⟨hRl, .inr ⟨g', cap', cur', fun k => if k = xs.length then b' else fm k, by simp, hrow, hg', by simpa using hrm, hms, hsz, fun i x hi j hj => ?_, fun i x hi => ?_, fun i m hi hm => ?_, fun i j m hij hj hm hm' => ?_⟩⟩
      · by_cases e : i = xs.length
        · subst e
          simp at hi; subst hi
          simp only [if_pos]; exact hnew j hj
        · have hil : i < xs.length := by have := (List.getElem?_eq_some_iff.1 hi).1; simp at this; omega
          rw [List.getElem?_append_left hil] at hi
          simp only [if_neg e]
          have hlt : i * K.sz + j < xs.length * K.sz := by
            have := Nat.mul_le_mul_right K.sz (Nat.succ_le_of_lt hil)
            rw [Nat.succ_mul] at this; omega
          rw [hcell _ (by rw [Nat.succ_mul]; omega), List.getElem?_append_left (by omega), hcur _ hlt]
          exact ha.cell i x hi j hj
      · by_cases e : i = xs.length
        · subst e
          simp at hi; subst hi
          simp only [if_pos]; exact hsub
        · have hil : i < xs.length := by have := (List.getElem?_eq_some_iff.1 hi).1; simp at this; omega
          rw [List.getElem?_append_left hil] at hi
          simp only [if_neg e]
          refine K.keep w w' x _ (ha.sub i x hi) hg.size fun m hm => hg.block m (K.has w x _ m (ha.sub i x hi) hm) ?_
          rw [hv]
          intro e1
          exact (ha.own i m hil hm).2 (by simpa [Value.ownBlock] using e1)
      · by_cases e : i = xs.length
        · simp only [if_pos e] at hm
          exact ⟨(hb m hm).2.2, (hb m hm).2.1⟩
        · have hil : i < xs.length := by simp at hi; omega
          simp only [if_neg e] at hm
          have hRm := (ha.own i m hil hm).1
          refine ⟨hR _ hRm, fun e1 => ?_⟩
          rcases hat with h1 | h1
          · rw [hv] at h1
            exact (ha.own i m hil hm).2 (by rw [e1]; simpa [Value.ownBlock] using h1.symm)
          · have := h.1 m hRm; omega
      · have hjl : j < xs.length + 1 := by simpa using hj
        have e : i ≠ xs.length := by omega
        simp only [if_neg e] at hm
        by_cases e' : j = xs.length
        · simp only [if_pos e'] at hm'
          exact (hb m hm').1 (ha.own i m (by omega) hm).1
        · simp only [if_neg e'] at hm'
          exact ha.apart i j m hij (by omega) hm hm'
end Kin
end Go.Proofs.Ytocgallcmgnmgaa
