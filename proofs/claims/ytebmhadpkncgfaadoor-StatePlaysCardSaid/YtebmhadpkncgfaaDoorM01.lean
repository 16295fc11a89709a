/-
  PLAIN: a heap's cells, and what is done with them. Words of one's own: blocks known whole; worlds in which a few blocks have turned; rows of items that each hold a block of their own. How the program's heap lies, and what tells its length and its cells. Where a field of a cell leads; a field made to
-/
import Derived.Test.YtebmhadpkncgfaaDoorRows
import Derived.Lib.Hide
import Derived.Deep.QuietTactic
import Derived.Maps.AppendAt
import Derived.Maps.Ext
import Derived.Maps.OwnOps
import Derived.Maps.RangeWalk
import Derived.Deep.AppendLies
import Derived.Laws.Tables
import Derived.StillTailTactics
import Derived.Deep.RegionHeld3
import Derived.Deep.DeepMust
import Derived.Outline
import Derived.Laws.Pointers
import Derived.WalkSpells
import Derived.WalkKit
import Derived.Deep.MidRow
import Derived.Deep.WholeRow
import Derived.Lib.QuietBelow
import Derived.BigQuiet
import Derived.Laws.CopyOwn
import Derived.Laws.MakeOwn
import Derived.Deep.OwnRows
set_option maxHeartbeats 40000000
set_option maxRecDepth 100000
namespace Go.Proofs.YtebmhadpkncgfaaDoor
theorem hdn {p : Prop} (h : p) : Go.RowKit.Hid p := Go.Lib.hid h
end Go.Proofs.YtebmhadpkncgfaaDoor
namespace Go.Proofs.YtebmhadpkncgfaaDoor
/-- A cell. -/
structure PC where
  ty : Int
  fr : Bool
  to : List Int
def PC.at (c : PC) (k : Nat) : Int := c.to.getD k 0
def zeros (F : Nat) : List Int := List.replicate F 0
def newC (F : Nat) (t : Int) : PC := ⟨t, false, zeros F⟩
def isCell (n : Nat) (x : Int) : Bool := decide (1 ≤ x) && decide (x ≤ n)
def okTo (n : Nat) (x : Int) : Int := if isCell n x = true then x else 0
def isField (F : Nat) (f : Int) : Bool := decide (0 ≤ f) && decide (f < F)
/-- What is wrong with a cell that is wanted: 1: null; 2: freed. -/
def faultC (cs : List PC) (c : Int) : Int := if isCell cs.length c = true then (if ((cs[c.toNat - 1]?).map PC.fr) = some true then 2 else 0) else 1
def getV (F : Nat) (cs : List PC) (c f : Int) : Int := if faultC cs c = 0 ∧ isField F f = true then ((cs[c.toNat - 1]?).map (·.at f.toNat)).getD 0 else 0
def putTo (x : PC) (f : Nat) (v : Int) : PC := ⟨x.ty, x.fr, x.to.set f v⟩
def putC (F : Nat) (cs : List PC) (c f t : Int) : List PC := if faultC cs c = 0 ∧ isField F f = true then cs.modify (c.toNat - 1) (fun y => putTo y f.toNat (okTo cs.length t)) else cs
def freed (F : Nat) (x : PC) : PC := ⟨x.ty, true, zeros F⟩
def freeC (F : Nat) (cs : List PC) (c : Int) : List PC := if faultC cs c = 0 then cs.modify (c.toNat - 1) (freed F) else cs
def freeE (cs : List PC) (c : Int) : Int := if faultC cs c = 2 then 3 else faultC cs c
/-- A raw cell, as it is loaded among n. -/
def loadC (F n : Nat) (r : PC) : PC := ⟨r.ty, r.fr, (List.range F).map fun f => if r.fr = true then 0 else okTo n (r.at f)⟩
theorem zeros_at (F k : Nat) : (zeros F).getD k 0 = 0 := by
  unfold zeros
  rw [List.getD_eq_getElem?_getD, List.getElem?_replicate]
  split <;> rfl
theorem at_set (x : PC) (f k : Nat) (v : Int) (h : f < x.to.length) : (putTo x f v).at k = if k = f then v else x.at k := by
  unfold putTo PC.at
  rw [List.getD_eq_getElem?_getD, List.getD_eq_getElem?_getD, List.getElem?_set]
  by_cases e : f = k
  · subst e; simp [h]
  · simp [e, Ne.symm e]
theorem putTo_len (x : PC) (f : Nat) (v : Int) : (putTo x f v).to.length = x.to.length := by simp [putTo]
theorem at_over (x : PC) (k : Nat) (h : x.to.length ≤ k) : x.at k = 0 := by
  unfold PC.at; rw [List.getD_eq_getElem?_getD, List.getElem?_eq_none h]; rfl
theorem at_get (x : PC) (k : Nat) (h : k < x.to.length) : x.to[k]? = some (x.at k) := by
  unfold PC.at; rw [List.getD_eq_getElem?_getD, List.getElem?_eq_getElem h]; rfl
/-- Two cells of one length that are alike at each place. -/
theorem pc_ext {a b : PC} (h1 : a.ty = b.ty) (h2 : a.fr = b.fr) (h3 : a.to.length = b.to.length) (h4 : ∀ k, k < a.to.length → a.at k = b.at k) : a = b := by
  obtain ⟨ta, fa, la⟩ := a; obtain ⟨tb, fb, lb⟩ := b
  simp only at h1 h2 h3 h4
  subst h1; subst h2
  have : la = lb := by
    refine List.ext_getElem? fun k => ?_
    by_cases hk : k < la.length
    · have e := h4 k hk
      have ha := at_get ⟨ta, fa, la⟩ k hk
      have hb := at_get ⟨ta, fa, lb⟩ k (by simp only; omega)
      simp only at ha hb
      rw [ha, hb, e]
    · rw [List.getElem?_eq_none (by omega), List.getElem?_eq_none (by omega)]
  rw [this]
/-- A cell that is there. -/
theorem isCell_iff {n : Nat} {c : Int} : isCell n c = true ↔ ∃ i : Nat, i < n ∧ c = (i : Int) + 1 := by
  unfold isCell
  rw [Bool.and_eq_true, decide_eq_true_iff, decide_eq_true_iff]
  constructor
  · intro ⟨h1, h2⟩; exact ⟨c.toNat - 1, by omega, by omega⟩
  · rintro ⟨i, h1, h2⟩; omega
theorem isField_iff {n : Nat} {c : Int} : isField n c = true ↔ ∃ i : Nat, i < n ∧ c = (i : Int) := by
  unfold isField
  rw [Bool.and_eq_true, decide_eq_true_iff, decide_eq_true_iff]
  constructor
  · intro ⟨h1, h2⟩; exact ⟨c.toNat, by omega, by omega⟩
  · rintro ⟨i, h1, h2⟩; omega
theorem fault_at (cs : List PC) (i : Nat) (x : PC) (h : cs[i]? = some x) : faultC cs ((i : Int) + 1) = if x.fr = true then 2 else 0 := by
  have hl : i < cs.length := (List.getElem?_eq_some_iff.1 h).1
  have hi : isCell cs.length ((i : Int) + 1) = true := isCell_iff.2 ⟨i, hl, rfl⟩
  unfold faultC
  rw [if_pos hi, show (((i : Int) + 1).toNat - 1) = i by omega, h]
  show (if some x.fr = some true then (2 : Int) else 0) = _
  cases x.fr <;> rfl
theorem fault_no (cs : List PC) (c : Int) (h : isCell cs.length c = false) : faultC cs c = 1 := by
  unfold faultC; rw [if_neg (by rw [h]; decide)]
/-- The three ways. -/
theorem fault_ways (cs : List PC) (c : Int) : (isCell cs.length c = false ∧ faultC cs c = 1) ∨ ∃ (i : Nat) (x : PC), c = (i : Int) + 1 ∧ cs[i]? = some x ∧ i < cs.length ∧ ((x.fr = true ∧ faultC cs c = 2) ∨ (x.fr = false ∧ faultC cs c = 0)) := by
  cases h : isCell cs.length c with
  | false => exact .inl ⟨rfl, fault_no cs c h⟩
  | true =>
    obtain ⟨i, hi, rfl⟩ := isCell_iff.1 h
    refine .inr ⟨i, cs[i], rfl, List.getElem?_eq_getElem hi, hi, ?_⟩
    have := fault_at cs i cs[i] (List.getElem?_eq_getElem hi)
    cases hf : cs[i].fr with
    | true => exact .inl ⟨rfl, by rw [this, hf]; rfl⟩
    | false => exact .inr ⟨rfl, by rw [this, hf]; rfl⟩
theorem modify_at {α : Type} (l : List α) (i : Nat) (x : α) (g : α → α) (h : l[i]? = some x) : l.modify i g = l.set i (g x) := by
  refine List.ext_getElem? fun k => ?_
  rw [List.getElem?_modify, List.getElem?_set]
  by_cases e : i = k
  · subst e
    rw [h, if_pos rfl, if_pos (List.getElem?_eq_some_iff.1 h).1]
    show some (if i = i then g x else x) = _
    rw [if_pos rfl]
  · simp [e]
theorem getV_at (F : Nat) (cs : List PC) (i f : Nat) (x : PC) (h : cs[i]? = some x) (hx : x.fr = false) (hf : f < F) : getV F cs ((i : Int) + 1) f = x.at f := by
  unfold getV
  rw [if_pos ⟨by rw [fault_at cs i x h, hx]; rfl, isField_iff.2 ⟨f, hf, rfl⟩⟩, show (((i : Int) + 1).toNat - 1) = i by omega, h]
  simp
theorem getV_no (F : Nat) (cs : List PC) (c f : Int) (h : faultC cs c ≠ 0 ∨ isField F f = false) : getV F cs c f = 0 := by
  unfold getV
  rw [if_neg]
  rintro ⟨h1, h2⟩
  rcases h with h | h
  · exact h h1
  · rw [h] at h2; cases h2
theorem putC_at (F : Nat) (cs : List PC) (i f : Nat) (t : Int) (x : PC) (h : cs[i]? = some x) (hx : x.fr = false) (hf : f < F) : putC F cs ((i : Int) + 1) f t = cs.set i (putTo x f (okTo cs.length t)) := by
  unfold putC
  rw [if_pos ⟨by rw [fault_at cs i x h, hx]; rfl, isField_iff.2 ⟨f, hf, rfl⟩⟩, show (((i : Int) + 1).toNat - 1) = i by omega, modify_at cs i x _ h]
  simp
theorem putC_no (F : Nat) (cs : List PC) (c f t : Int) (h : faultC cs c ≠ 0 ∨ isField F f = false) : putC F cs c f t = cs := by
  unfold putC
  rw [if_neg]
  rintro ⟨h1, h2⟩
  rcases h with h | h
  · exact h h1
  · rw [h] at h2; cases h2
theorem freeC_at (F : Nat) (cs : List PC) (i : Nat) (x : PC) (h : cs[i]? = some x) (hx : x.fr = false) : freeC F cs ((i : Int) + 1) = cs.set i (freed F x) := by
  unfold freeC
  rw [if_pos (by rw [fault_at cs i x h, hx]; rfl), show (((i : Int) + 1).toNat - 1) = i by omega, modify_at cs i x _ h]
theorem freeC_no (F : Nat) (cs : List PC) (c : Int) (h : faultC cs c ≠ 0) : freeC F cs c = cs := by
  unfold freeC; rw [if_neg h]
theorem putC_len (F : Nat) (cs : List PC) (c f t : Int) : (putC F cs c f t).length = cs.length := by unfold putC; split <;> simp
theorem freeC_len (F : Nat) (cs : List PC) (c : Int) : (freeC F cs c).length = cs.length := by unfold freeC; split <;> simp
end Go.Proofs.YtebmhadpkncgfaaDoor
namespace Go.Proofs.YtebmhadpkncgfaaDoor
open Go.RowKit
theorem below_drewN_ {B : Nat} {a w : World} (h : Below B a w) (n : Nat) : Below B a (w.drewN n) := ⟨h.os, h.tape, h.output, h.size, h.block⟩
theorem below_drew {B : Nat} {w w' : World} (h : Below B w w') : Below B w w'.drew := below_drewN_ h 1
/-- A block that is the call's own, whole. -/
def Bk (w : World) (g : Nat) (t : TypeId) (cs : Array Value) : Prop := w.heap[g]? = some (.cells cs t (0, 0))
theorem Bk.set_ {w : World} {g : Nat} {t : TypeId} {cs : Array Value} (h : Bk w g t cs) (i : Nat) (u : Value) : Bk (w.setCell ⟨g, i, none⟩ u) g t (cs.setIfInBounds i u) := by
  unfold Bk at h ⊢
  simp [World.setCell, Array.getElem?_modify, h]
theorem Bk.far {w : World} {g : Nat} {t : TypeId} {cs : Array Value} (h : Bk w g t cs) {p : Addr} (hp : g ≠ p.block) (u : Value) : Bk (w.setCell p u) g t cs := (Below.heap_setCell w p u g hp).trans h
theorem Bk.cell {w : World} {g : Nat} {t : TypeId} {cs : Array Value} (h : Bk w g t cs) (i : Nat) : w.cell? ⟨g, i, none⟩ = cs[i]? := cell_of_row w g i cs t (0, 0) h
theorem Bk.frozen {w : World} {g : Nat} {t : TypeId} {cs : Array Value} (h : Bk w g t cs) (i : Nat) : w.frozen? ⟨g, i, none⟩ = false := frozen_of_row w g i cs t h
theorem Bk.below {B : Nat} {w w' : World} {g : Nat} {t : TypeId} {cs : Array Value} (h : Bk w g t cs) (hb : Below B w w') (hg : g < B) : Bk w' g t cs := (hb.block g hg).trans h
theorem Bk.lt {w : World} {g : Nat} {t : TypeId} {cs : Array Value} (h : Bk w g t cs) : g < w.heap.size := (Array.getElem?_eq_some_iff.1 h).1
theorem grownBy_setC (w : World) (a : Addr) (v : Value) : w.grownBy (w.setCell a v) (some a.block) :=
  ⟨rfl, rfl, rfl, by simp [World.setCell], fun i _ hne => Below.heap_setCell w a v i (fun e => hne (by rw [e]))⟩
/-- Of the blocks that were there, these alone have turned. -/
structure Gr (w w' : World) (S : Nat → Prop) : Prop where
  os : w'.os = w.os
  tape : w'.tape = w.tape
  output : w'.output = w.output
  size : w.heap.size ≤ w'.heap.size
  block : ∀ k, k < w.heap.size → ¬ S k → w'.heap[k]? = w.heap[k]?
theorem Gr.refl (w : World) (S : Nat → Prop) : Gr w w S := ⟨rfl, rfl, rfl, Nat.le_refl _, fun _ _ _ => rfl⟩
theorem Gr.trans {a b c : World} {S : Nat → Prop} (h : Gr a b S) (k : Gr b c S) : Gr a c S :=
  ⟨k.os.trans h.os, k.tape.trans h.tape, k.output.trans h.output, Nat.le_trans h.size k.size, fun i hi hS => (k.block i (Nat.lt_of_lt_of_le hi h.size) hS).trans (h.block i hi hS)⟩
theorem Gr.mono {a b : World} {S S' : Nat → Prop} (h : Gr a b S) (hS : ∀ k, k < a.heap.size → S k → S' k) : Gr a b S' := ⟨h.os, h.tape, h.output, h.size, fun i hi hn => h.block i hi (fun e => hn (hS i hi e))⟩
/-- A second step whose blocks are new, or among the first one's. -/
theorem Gr.then {a b c : World} {S S' : Nat → Prop} (h : Gr a b S) (k : Gr b c S') (hS : ∀ i, i < a.heap.size → S' i → S i) : Gr a c S :=
  ⟨k.os.trans h.os, k.tape.trans h.tape, k.output.trans h.output, Nat.le_trans h.size k.size, fun i hi hn => (k.block i (Nat.lt_of_lt_of_le hi h.size) (fun e => hn (hS i hi e))).trans (h.block i hi hn)⟩
theorem Gr.of_grown {a b : World} {r : Option Nat} (h : a.grownBy b r) : Gr a b (fun k => some k = r) := ⟨h.os, h.tape, h.output, h.size, fun i hi hn => h.block i hi hn⟩
theorem Gr.of_below {a b : World} {S : Nat → Prop} (h : Below a.heap.size a b) : Gr a b S := ⟨h.os, h.tape, h.output, h.size, fun i hi _ => h.block i hi⟩
theorem Gr.grown {a b c : World} {S : Nat → Prop} {r : Option Nat} (h : Gr a b S) (k : b.grownBy c r) (hS : ∀ i, i < a.heap.size → some i = r → S i) : Gr a c S := h.then (Gr.of_grown k) hS
theorem Gr.alloc {a b : World} {S : Nat → Prop} (h : Gr a b S) (o : Obj) : Gr a (b.alloc o) S := h.then (Gr.of_below ((Below.refl _ _).alloc (Nat.le_refl _) o)) (fun _ _ h => h)
theorem Gr.drewN {a b : World} {S : Nat → Prop} (h : Gr a b S) (n : Nat) : Gr a (b.drewN n) S := ⟨h.os, h.tape, h.output, h.size, h.block⟩
theorem Gr.drew {a b : World} {S : Nat → Prop} (h : Gr a b S) : Gr a b.drew S := ⟨h.os, h.tape, h.output, h.size, h.block⟩
theorem Gr.setCell {a b : World} {S : Nat → Prop} (h : Gr a b S) {p : Addr} (hp : p.block < a.heap.size → S p.block) (v : Value) : Gr a (b.setCell p v) S :=
  h.grown (grownBy_setC b p v) (fun i hi e => by injection e with e; subst e; exact hp hi)
theorem Gr.below {a b : World} {S : Nat → Prop} {N : Nat} (h : Gr a b S) (hN : N ≤ a.heap.size) (hS : ∀ k, S k → N ≤ k) : Below N a b :=
  ⟨h.os, h.tape, h.output, h.size, fun i hi => h.block i (Nat.lt_of_lt_of_le hi hN) (fun e => by have := hS i e; omega)⟩
theorem Gr.bk {a b : World} {S : Nat → Prop} (h : Gr a b S) {g : Nat} {t : TypeId} {cs : Array Value} (k : Bk a g t cs) (hS : ¬ S g) : Bk b g t cs := (h.block g k.lt hS).trans k
theorem Gr.range {a b : World} {S : Nat → Prop} (h : Gr a b S) {g o : Nat} {cs : List Value} (k : a.rangeAt g o cs) (hS : ¬ S g) : b.rangeAt g o cs := fun j v hv => by
  have := k j v hv
  exact (World.cell?_of_block (a := ⟨g, o + j, none⟩) (h.block g (World.block_lt_of_cell? a _ this) hS)).trans this
theorem cell_at {w : World} {b q : Nat} {cs : List Value} (h : w.rangeAt b q cs) (j : Nat) (v : Value) (hv : cs[j]? = some v) : w.cell? ⟨b, q + j, none⟩ = some v := h j v hv
/-- Items of a row, each with what it holds besides. -/
structure Kin (α β : Type) where
  T : TypeId
  sz : Nat
  pos : 0 < sz
  cells : α → β → List Value
  len : ∀ a b, (cells a b).length = sz
  blk : β → Option Nat
  sub : World → α → β → Prop
  has : ∀ w a b m, sub w a b → blk b = some m → m < w.heap.size
  keep : ∀ w w' a b, sub w a b → w.heap.size ≤ w'.heap.size → (∀ m, blk b = some m → w'.heap[m]? = w.heap[m]?) → sub w' a b
structure Kin.At {α β : Type} (K : Kin α β) (w : World) (R : Nat → Prop) (g cap : Nat) (cur : Array Value) (fm : Nat → β) (xs : List α) : Prop where
  row : Bk w g K.T cur
  mine : R g
  room : xs.length ≤ cap
  most : cap ≤ maxLen
  size : cur.size = cap * K.sz
  cell : ∀ i x, xs[i]? = some x → ∀ j, j < K.sz → cur[i * K.sz + j]? = (K.cells x (fm i))[j]?
  sub : ∀ i x, xs[i]? = some x → K.sub w x (fm i)
  own : ∀ i m, i < xs.length → K.blk (fm i) = some m → R m ∧ m ≠ g
  apart : ∀ i j m, i < j → j < xs.length → K.blk (fm i) = some m → K.blk (fm j) ≠ some m
namespace Kin
variable {α β : Type} {K : Kin α β} {w w' : World} {R R' S : Nat → Prop} {g cap : Nat} {cur cur' : Array Value} {fm : Nat → β} {xs : List α}
theorem At.gr (h : K.At w R g cap cur fm xs) (hg : Gr w w' S) (hS : ∀ k, R k → ¬ S k) : K.At w' R g cap cur fm xs where
  row := hg.bk h.row (hS g h.mine)
  mine := h.mine
  room := h.room
  most := h.most
  size := h.size
  cell := h.cell
  sub i x hi := K.keep w w' x _ (h.sub i x hi) hg.size fun m hm => hg.block m (K.has w x _ m (h.sub i x hi) hm) (hS m (h.own i m (List.getElem?_eq_some_iff.1 hi).1 hm).1)
  own := h.own
  apart := h.apart
theorem At.mono (h : K.At w R g cap cur fm xs) (hR : ∀ k, R k → R' k) : K.At w R' g cap cur fm xs where
  row := h.row
  mine := hR _ h.mine
  room := h.room
  most := h.most
  size := h.size
  cell := h.cell
  sub := h.sub
  own i m hi hm := ⟨hR _ (h.own i m hi hm).1, (h.own i m hi hm).2⟩
  apart := h.apart
theorem At.range (h : K.At w R g cap cur fm xs) {i : Nat} {x : α} (hi : xs[i]? = some x) : w.rangeAt g (i * K.sz) (K.cells x (fm i)) := fun j v hv => by
  have hj : j < K.sz := by rw [← K.len x (fm i)]; exact (List.getElem?_eq_some_iff.1 hv).1
  rw [h.row.cell, h.cell i x hi j hj, hv]
theorem At.at_cell (h : K.At w R g cap cur fm xs) {i : Nat} {x : α} (hi : xs[i]? = some x) (j : Nat) (v : Value) (hv : (K.cells x (fm i))[j]? = some v) : w.cell? ⟨g, i * K.sz + j, none⟩ = some v := h.range hi j v hv
theorem item_apart {n i k j : Nat} (hne : k ≠ i) (hj : j < n) : k * n + j < i * n ∨ i * n + n ≤ k * n + j := by
  rcases Nat.lt_or_ge k i with h | h
  · left
    have := Nat.mul_le_mul_right n (Nat.succ_le_of_lt h)
    rw [Nat.succ_mul] at this
    omega
  · right
    have := Nat.mul_le_mul_right n (Nat.succ_le_of_lt (Nat.lt_of_le_of_ne h (Ne.symm hne)))
    rw [Nat.succ_mul] at this
    omega
/-- One item has become another one. -/
theorem At.put (h : K.At w R g cap cur fm xs) {i : Nat} {x x' : α} {b' : β} (hi : xs[i]? = some x) (hg : Gr w w' S) (hrow : Bk w' g K.T cur') (hsz : cur'.size = cur.size)
    (hin : ∀ j, j < K.sz → cur'[i * K.sz + j]? = (K.cells x' b')[j]?) (hout : ∀ j, (j < i * K.sz ∨ i * K.sz + K.sz ≤ j) → cur'[j]? = cur[j]?) (hsub : K.sub w' x' b')
    (hS : ∀ k, k < w.heap.size → S k → k = g ∨ K.blk (fm i) = some k) (hR : ∀ k, R k → R' k) (hRl : ∀ k, R k → k < w.heap.size)
    (hb : K.blk b' = K.blk (fm i) ∨ K.blk b' = none ∨ ∃ m, K.blk b' = some m ∧ w.heap.size ≤ m ∧ R' m) : K.At w' R' g cap cur' (fun k => if k = i then b' else fm k) (xs.set i x') where
  row := hrow
  mine := hR _ h.mine
  room := by rw [List.length_set]; exact h.room
  most := h.most
  size := hsz.trans h.size
  cell k y hk j hj := by
    rw [List.getElem?_set] at hk
    by_cases e : i = k
    · subst e
      have hl : i < xs.length := (List.getElem?_eq_some_iff.1 hi).1
      rw [if_pos rfl, if_pos hl] at hk
      injection hk with hk; subst hk
      simp only [if_pos]
      exact hin j hj
    · rw [if_neg e] at hk
      simp only [if_neg (Ne.symm e)]
      rw [hout _ (item_apart (Ne.symm e) hj)]
      exact h.cell k y hk j hj
  sub k y hk := by
    rw [List.getElem?_set] at hk
    by_cases e : i = k
    · subst e
      have hl : i < xs.length := (List.getElem?_eq_some_iff.1 hi).1
      rw [if_pos rfl, if_pos hl] at hk
      injection hk with hk; subst hk
      simp only [if_pos]
      exact hsub
    · rw [if_neg e] at hk
      simp only [if_neg (Ne.symm e)]
      have hkl : k < xs.length := (List.getElem?_eq_some_iff.1 hk).1
      have hil : i < xs.length := (List.getElem?_eq_some_iff.1 hi).1
      refine K.keep w w' y _ (h.sub k y hk) hg.size fun m hm => hg.block m (K.has w y _ m (h.sub k y hk) hm) fun hs => ?_
      rcases hS m (K.has w y _ m (h.sub k y hk) hm) hs with e1 | e1
      · exact (h.own k m hkl hm).2 e1
      · rcases Nat.lt_or_gt_of_ne e with hlt | hlt
        · exact h.apart i k m hlt hkl e1 hm
        · exact h.apart k i m hlt hil hm e1
  own k m hk hm := by
    rw [List.length_set] at hk
    by_cases e : k = i
    · subst e
      simp only [if_pos] at hm
      rcases hb with hb | hb | ⟨m', hb, h1, h2⟩
      · exact ⟨hR _ (h.own k m hk (hb ▸ hm)).1, (h.own k m hk (hb ▸ hm)).2⟩
      · rw [hb] at hm; cases hm
      · rw [hb] at hm; injection hm with hm; subst hm
        exact ⟨h2, fun e => by have := h.row.lt; omega⟩
    · simp only [if_neg e] at hm
      exact ⟨hR _ (h.own k m hk hm).1, (h.own k m hk hm).2⟩
  apart k j m hkj hj hm hm' := by
    rw [List.length_set] at hj
    have hil : i < xs.length := (List.getElem?_eq_some_iff.1 hi).1
    by_cases e : k = i
    · subst e
      have e' : j ≠ k := by omega
      simp only [if_pos] at hm
      simp only [if_neg e'] at hm'
      rcases hb with hb | hb | ⟨m', hb, h1, _⟩
      · exact h.apart k j m hkj hj (hb ▸ hm) hm'
      · rw [hb] at hm; cases hm
      · rw [hb] at hm; injection hm with hm; subst hm
        have := hRl _ (h.own j m' hj hm').1; omega
    · simp only [if_neg e] at hm
      by_cases e' : j = i
      · subst e'
        simp only [if_pos] at hm'
        rcases hb with hb | hb | ⟨m', hb, h1, _⟩
        · exact h.apart k j m hkj hj hm (hb ▸ hm')
        · rw [hb] at hm'; cases hm'
        · rw [hb] at hm'; injection hm' with hm'; subst hm'
          have := hRl _ (h.own k m' (by omega) hm).1; omega
      · simp only [if_neg e'] at hm'
        exact h.apart k j m hkj hj hm hm'
/-- Items lie in a slice. -/
def Lie (K : Kin α β) (w : World) (R : Nat → Prop) (v : Value) (xs : List α) : Prop :=
  (∀ k, R k → k < w.heap.size) ∧ ((v = .slice none 0 0 ∧ xs = []) ∨ ∃ g cap cur fm, v = .slice (some ⟨g, 0, none⟩) xs.length cap ∧ K.At w R g cap cur fm xs)
theorem Lie.gr {v : Value} (h : K.Lie w R v xs) (hg : Gr w w' S) (hS : ∀ k, R k → ¬ S k) : K.Lie w' R v xs := by
  refine ⟨fun k hk => Nat.lt_of_lt_of_le (h.1 k hk) hg.size, ?_⟩
  rcases h.2 with h2 | ⟨g, cap, cur, fm, hv, ha⟩
  · exact .inl h2
  · exact .inr ⟨g, cap, cur, fm, hv, ha.gr hg hS⟩
theorem Lie.below {v : Value} (h : K.Lie w R v xs) (hb : Below w.heap.size w w') : K.Lie w' R v xs := h.gr (Gr.of_below (S := fun _ => False) hb) (fun _ _ h => h)
theorem Lie.mono {v : Value} (h : K.Lie w R v xs) (hR : ∀ k, R k → R' k) (hl : ∀ k, R' k → k < w.heap.size) : K.Lie w R' v xs := by
  refine ⟨hl, ?_⟩
  rcases h.2 with h2 | ⟨g, cap, cur, fm, hv, ha⟩
  · exact .inl h2
  · exact .inr ⟨g, cap, cur, fm, hv, ha.mono hR⟩
theorem Lie.nil (K : Kin α β) (w : World) (hl : ∀ k, R k → k < w.heap.size) : K.Lie w R (.slice none 0 0) [] := ⟨hl, .inl ⟨rfl, rfl⟩⟩
/-- As the append's law wants it. -/
theorem Lie.owns {v : Value} {base : Nat} (h : K.Lie w R v xs) (hb : ∀ k, R k → base ≤ k) : ∃ ys : List Value, w.ownsRow base K.T K.sz v xs.length ys ∧ ys.length = xs.length * K.sz ∧
    ((v = .slice none 0 0 ∧ xs = []) ∨ ∃ g cap cur fm, v = .slice (some ⟨g, 0, none⟩) xs.length cap ∧ K.At w R g cap cur fm xs ∧ ∀ j, j < xs.length * K.sz → ys[j]? = cur[j]?) := by
  rcases h.2 with ⟨hv, hx⟩ | ⟨g, cap, cur, fm, hv, ha⟩
  · subst hx
    exact ⟨[], ⟨by simp, .inl ⟨hv, rfl⟩⟩, by simp, .inl ⟨hv, rfl⟩⟩
  · have hle : xs.length * K.sz ≤ cur.size := by rw [ha.size]; exact Nat.mul_le_mul_right _ ha.room
    have hlen : (cur.toList.take (xs.length * K.sz)).length = xs.length * K.sz := by rw [List.length_take]; simp; omega
    refine ⟨cur.toList.take (xs.length * K.sz), ⟨hlen, .inr ⟨g, cap, cur, hv, hb g ha.mine, ha.row, ha.room, ha.most, ha.size, rfl⟩⟩, hlen, .inr ⟨g, cap, cur, fm, hv, ha, fun j hj => ?_⟩⟩
    rw [List.getElem?_take, if_pos hj]; simp
/-- One item more, at the end. -/
theorem Lie.push {v : Value} {base H g' cap' : Nat} {x' : α} {b' : β} {ys : List Value} (h : K.Lie w R v xs)
    (hys : (v = .slice none 0 0 ∧ xs = []) ∨ ∃ g cap cur fm, v = .slice (some ⟨g, 0, none⟩) xs.length cap ∧ K.At w R g cap cur fm xs ∧ ∀ j, j < xs.length * K.sz → ys[j]? = cur[j]?) (hyl : ys.length = xs.length * K.sz)
    (hown : w'.ownsRow base K.T K.sz (.slice (some ⟨g', 0, none⟩) (xs.length + 1) cap') (xs.length + 1) (ys ++ K.cells x' b')) (hg : w.grownBy w' v.ownBlock) (hat : v.ownBlock = some g' ∨ g' = H) (hH : w.heap.size ≤ H)
    (hsub : K.sub w' x' b') (hb : ∀ m, K.blk b' = some m → ¬ R m ∧ m ≠ g' ∧ R' m) (hR : ∀ k, R k → R' k) (hg' : R' g') (hRl : ∀ k, R' k → k < w'.heap.size) :
    K.Lie w' R' (.slice (some ⟨g', 0, none⟩) (xs.length + 1) cap') (xs ++ [x']) := by
  rcases hown.2 with ⟨e, _⟩ | ⟨g1, cap1, cur', e, _, hrow, hrm, hms, hsz, htk⟩
  · cases e
  · injection e with e1 e2 e3
    injection e1 with e1
    injection e1 with e1
    subst e1; subst e3
    have hcell : ∀ j, j < (xs.length + 1) * K.sz → cur'[j]? = (ys ++ K.cells x' b')[j]? := fun j hj => by
      rw [← htk, List.getElem?_take, if_pos hj]; simp
    have hnew : ∀ j, j < K.sz → cur'[xs.length * K.sz + j]? = (K.cells x' b')[j]? := fun j hj => by
      rw [hcell _ (by rw [Nat.succ_mul]; omega), List.getElem?_append_right (by omega), hyl, Nat.add_sub_cancel_left]
    rcases hys with ⟨hv, hx⟩ | ⟨g, cap, cur, fm, hv, ha, hcur⟩
    · subst hx
      refine ⟨hRl, .inr ⟨g', cap', cur', fun _ => b', by simp, hrow, hg', by simpa using hrm, hms, hsz, fun i x hi j hj => ?_, fun i x hi => ?_, fun i m hi hm => ⟨(hb m hm).2.2, (hb m hm).2.1⟩, fun i j m hij hj => by simp at hj; omega⟩⟩
      · rcases i with _ | i
        · simp at hi; subst hi; exact hnew j hj
        · simp at hi
      · rcases i with _ | i
        · simp at hi; subst hi; exact hsub
        · simp at hi
    · refine ⟨hRl, .inr ⟨g', cap', cur', fun k => if k = xs.length then b' else fm k, by simp, hrow, hg', by simpa using hrm, hms, hsz, fun i x hi j hj => ?_, fun i x hi => ?_, fun i m hi hm => ?_, fun i j m hij hj hm hm' => ?_⟩⟩
      · by_cases e : i = xs.length
        · subst e
          simp at hi; subst hi
          simp only [if_pos]; exact hnew j hj
        · have hil : i < xs.length := by have := (List.getElem?_eq_some_iff.1 hi).1; simp at this; omega
          rw [List.getElem?_append_left hil] at hi
          simp only [if_neg e]
          have hlt : i * K.sz + j < xs.length * K.sz := by
            have := Nat.mul_le_mul_right K.sz (Nat.succ_le_of_lt hil)
            rw [Nat.succ_mul] at this; omega
          rw [hcell _ (by rw [Nat.succ_mul]; omega), List.getElem?_append_left (by omega), hcur _ hlt]
          exact ha.cell i x hi j hj
      · by_cases e : i = xs.length
        · subst e
          simp at hi; subst hi
          simp only [if_pos]; exact hsub
        · have hil : i < xs.length := by have := (List.getElem?_eq_some_iff.1 hi).1; simp at this; omega
          rw [List.getElem?_append_left hil] at hi
          simp only [if_neg e]
          refine K.keep w w' x _ (ha.sub i x hi) hg.size fun m hm => hg.block m (K.has w x _ m (ha.sub i x hi) hm) ?_
          rw [hv]
          intro e1
          exact (ha.own i m hil hm).2 (by simpa [Value.ownBlock] using e1)
      · by_cases e : i = xs.length
        · simp only [if_pos e] at hm
          exact ⟨(hb m hm).2.2, (hb m hm).2.1⟩
        · have hil : i < xs.length := by simp at hi; omega
          simp only [if_neg e] at hm
          have hRm := (ha.own i m hil hm).1
          refine ⟨hR _ hRm, fun e1 => ?_⟩
          rcases hat with h1 | h1
          · rw [hv] at h1
            exact (ha.own i m hil hm).2 (by rw [e1]; simpa [Value.ownBlock] using h1.symm)
          · have := h.1 m hRm; omega
      · have hjl : j < xs.length + 1 := by simpa using hj
        have e : i ≠ xs.length := by omega
        simp only [if_neg e] at hm
        by_cases e' : j = xs.length
        · simp only [if_pos e'] at hm'
          exact (hb m hm').1 (ha.own i m (by omega) hm).1
        · simp only [if_neg e'] at hm'
          exact ha.apart i j m hij (by omega) hm hm'
end Kin
end Go.Proofs.YtebmhadpkncgfaaDoor
namespace Go.Proofs.YtebmhadpkncgfaaDoor
open Go.RowKit Go.Maps
theorem law3 : Keyed Tryd.prog 3 := int_keyed Tryd.underlying3
def IK (k : Nat) : Lit := .int .i64 k
def zI : DataW Unit := .lit (.int .i64 0)
/-- A map of places from 8 on. -/
def FarD (F : Nat) (c : PC) (D : DataW Unit) : Prop :=
  (∀ k : Nat, 8 ≤ k → k < F → D.atKey (IK k) zI = .lit (.int .i64 (c.at k))) ∧ (∀ kl, has D kl = true → ∃ k : Nat, 8 ≤ k ∧ k < F ∧ kl = IK k)
def FarIs (w : World) (F : Nat) (c : PC) : Option Nat → Prop
  | none => ∀ k, 8 ≤ k → c.at k = 0
  | some m => ∃ D, w.ownsMap Tryd.prog 3 (plainElem Tryd.prog 3) m F D ∧ FarD F c D
def hcells (c : PC) (far : Option Nat) : List Value := [.int .i64 c.ty, .bool c.fr, .int .i64 (c.at 0), .int .i64 (c.at 1), .int .i64 (c.at 2), .int .i64 (c.at 3), .int .i64 (c.at 4), .int .i64 (c.at 5), .int .i64 (c.at 6), .int .i64 (c.at 7), .map far]
theorem hcells_near (c : PC) (far : Option Nat) (k : Nat) (h : k < 8) : (hcells c far)[2 + k]? = some (.int .i64 (c.at k)) := by
  match k, h with
  | 0, _ => rfl
  | 1, _ => rfl
  | 2, _ => rfl
  | 3, _ => rfl
  | 4, _ => rfl
  | 5, _ => rfl
  | 6, _ => rfl
  | 7, _ => rfl
/-- Numbers that fit. -/
def okI (n : Int) : Prop := (Lit.int .i64 n).wf = true
def PC.ok (c : PC) : Prop := ∀ k, okI (c.at k)
def HeldK (F : Nat) : Kin PC (Option Nat) where
  T := 106
  sz := 11
  pos := by decide
  cells := hcells
  len _ _ := rfl
  blk := id
  sub w c far := c.to.length = F ∧ c.ok ∧ FarIs w F c far
  has w c far m h hm := by
    simp only [id] at hm; subst hm
    obtain ⟨_, _, D, hD, _⟩ := h
    exact hD.lt
  keep w w' c far h _ hm := by
    refine ⟨h.1, h.2.1, ?_⟩
    match far, h.2.2, hm with
    | none, h2, _ => exact h2
    | some m, ⟨D, ⟨es, clock, hb, rest⟩, hD⟩, hm => exact ⟨D, ⟨es, clock, (hm m rfl).trans hb, rest⟩, hD⟩
/-- The program's heap at a block: its row and maps are among R, it itself is not. -/
structure HIs (w : World) (b : Nat) (R : Nat → Prop) (F : Nat) (cs : List PC) (v : Value) : Prop where
  top : Bk w b 101 #[.bool true, .int .i64 F, v]
  out : ¬ R b
  lie : (HeldK F).Lie w R v cs
def hp (b : Nat) : Value := .pointer (some ⟨b, 0, none⟩)
theorem Kin.Lie.form {α β : Type} {K : Kin α β} {w : World} {R : Nat → Prop} {v : Value} {xs : List α} (h : K.Lie w R v xs) : ∃ p cap, v = .slice p xs.length cap := by
  rcases h.2 with ⟨rfl, rfl⟩ | ⟨g, cap, cur, fm, rfl, _⟩
  · exact ⟨_, _, rfl⟩
  · exact ⟨_, _, rfl⟩
theorem len_any (b : Nat) (v0 v1 : Value) (p : Option Addr) (n c : Nat) (w : World) (h : Bk w b 101 #[v0, v1, .slice p n c]) :
    Calls Tryd.prog 87 #[hp b] w fun en w' => en = .returned (.int .i64 n) ∧ w = w' := by
  have c2 : w.cell? ⟨b, 2, none⟩ = some (.slice p n c) := h.cell 2
  clear h
  unfold hp
  go_enter Tryd.func87, Tryd.ntmps87
  go_wp2_with fail
  go_ret
  exact ⟨rfl, rfl⟩
theorem len_nil (w : World) : Calls Tryd.prog 87 #[.pointer none] w fun en w' => en = .returned (.int .i64 0) ∧ w = w' := by
  go_enter Tryd.func87, Tryd.ntmps87
  go_wp2_with fail
  go_ret
  exact ⟨rfl, rfl⟩
theorem HIs.len {w : World} {b : Nat} {R : Nat → Prop} {F : Nat} {cs : List PC} {v : Value} (h : HIs w b R F cs v) : Calls Tryd.prog 87 #[hp b] w fun en w' => en = .returned (.int .i64 cs.length) ∧ w = w' := by
  obtain ⟨p, c, rfl⟩ := h.lie.form
  exact len_any b _ _ p _ c w h.top
theorem hasCell_of (x : Int) (n : Nat) (q : Value) (w : World) (HL : Calls Tryd.prog 87 #[q] w fun en w' => en = .returned (.int .i64 n) ∧ w = w') :
    Calls Tryd.prog 75 #[q, .int .i64 x] w fun en w' => en = .returned (.bool (isCell n x)) ∧ w = w' := by
  have HC := hdn HL
  clear HL
  by_cases h1 : 1 ≤ x
  · have hb : decide (1 ≤ x) = true := decide_eq_true h1
    have HB := hdn hb
    clear h1
    go_enter Tryd.func75, Tryd.ntmps75
    go_wp2_with (go_at_call 87; refine HC.out.mono ?_; rintro e w' ⟨rfl, rfl⟩)
    go_ret
    exact ⟨by unfold isCell; rw [HB.out]; simp, rfl⟩
  · have hb : decide (1 ≤ x) = false := decide_eq_false h1
    have HB := hdn hb
    clear h1
    go_enter Tryd.func75, Tryd.ntmps75
    go_wp2_with fail
    go_ret
    exact ⟨by unfold isCell; rw [HB.out]; simp, rfl⟩
theorem hasField_any (b : Nat) (v0 v2 : Value) (F : Nat) (f : Int) (w : World) (h : Bk w b 101 #[v0, .int .i64 F, v2]) :
    Calls Tryd.prog 78 #[hp b, .int .i64 f] w fun en w' => en = .returned (.bool (isField F f)) ∧ w = w' := by
  have c1 : w.cell? ⟨b, 1, none⟩ = some (.int .i64 F) := h.cell 1
  clear h
  unfold hp
  by_cases h1 : 0 ≤ f
  · have hb : decide (0 ≤ f) = true := decide_eq_true h1
    have HB := hdn hb
    clear h1
    go_enter Tryd.func78, Tryd.ntmps78
    go_wp2_with fail
    go_ret
    exact ⟨by unfold isField; rw [HB.out]; simp, rfl⟩
  · have hb : decide (0 ≤ f) = false := decide_eq_false h1
    have HB := hdn hb
    clear h1
    go_enter Tryd.func78, Tryd.ntmps78
    go_wp2_with fail
    go_ret
    exact ⟨by unfold isField; rw [HB.out]; simp, rfl⟩
/-- No such cell. -/
def noCell (k : Int) : Value := .tuple #[.pointer none, .int .i64 k]
theorem alive_no (x : Int) (n : Nat) (q : Value) (w : World) (hx : isCell n x = false) (HL : Calls Tryd.prog 87 #[q] w fun en w' => en = .returned (.int .i64 n) ∧ w = w') :
    Calls Tryd.prog 77 #[q, .int .i64 x] w fun en w' => en = .returned (noCell 1) ∧ w = w' := by
  have h := hasCell_of x n q w HL
  rw [hx] at h
  have HC := hdn h
  clear h HL hx
  go_enter Tryd.func77, Tryd.ntmps77
  go_wp2_with (go_at_call 75; refine HC.out.mono ?_; rintro e w' ⟨rfl, rfl⟩)
  go_ret2
  exact ⟨rfl, rfl⟩
theorem alive_at (b : Nat) (R : Nat → Prop) (F : Nat) (cs : List PC) (v0 v1 : Value) (g cap : Nat) (cur : Array Value) (fm : Nat → Option Nat) (i : Nat) (x : PC) (w : World)
    (ht : Bk w b 101 #[v0, v1, .slice (some ⟨g, 0, none⟩) cs.length cap]) (ha : (HeldK F).At w R g cap cur fm cs) (hi : cs[i]? = some x) (hil : i < cs.length) (hn : cs.length ≤ maxLen) :
    Calls Tryd.prog 77 #[hp b, .int .i64 ((i : Int) + 1)] w fun en w' => en = .returned (if x.fr = true then noCell 2 else .tuple #[.pointer (some ⟨g, i * 11, none⟩), .int .i64 0]) ∧ w = w' := by
  have hx : isCell cs.length ((i : Int) + 1) = true := isCell_iff.2 ⟨i, hil, rfl⟩
  have h := hasCell_of ((i : Int) + 1) cs.length (hp b) w (len_any b _ _ _ _ _ w ht)
  rw [hx] at h
  have HC := hdn h
  have c2 : w.cell? ⟨b, 2, none⟩ = some (.slice (some ⟨g, 0, none⟩) cs.length cap) := ht.cell 2
  have d1 : w.cell? ⟨g, i * 11 + 1, none⟩ = some (.bool x.fr) := ha.at_cell hi 1 _ rfl
  unfold maxLen at hn
  clear h hx ht ha hi
  have hi1 : ((i : Int) + 1 - 1) = (i : Int) := by omega
  have hi2 : (i : Int) < (cs.length : Int) := by omega
  unfold hp at HC ⊢
  cases hf : x.fr with
  | true =>
    rw [hf] at d1
    go_enter Tryd.func77, Tryd.ntmps77
    go_wp2_with (go_at_call 75; refine HC.out.mono ?_; rintro e w' ⟨rfl, rfl⟩)
    go_ret2
    exact ⟨rfl, rfl⟩
  | false =>
    rw [hf] at d1
    go_enter Tryd.func77, Tryd.ntmps77
    go_wp2_with (go_at_call 75; refine HC.out.mono ?_; rintro e w' ⟨rfl, rfl⟩)
    go_ret2
    exact ⟨rfl, rfl⟩
end Go.Proofs.YtebmhadpkncgfaaDoor
namespace Go.Proofs.YtebmhadpkncgfaaDoor
open Go.RowKit Go.Maps
theorem key3 {x : Int} (h : okI x) : keyOf Tryd.prog 3 (.int .i64 x) = some (.int .i64 x) := keyOf_int_mk Tryd.underlying3 h
theorem zero3 (w : World) : (zeroValue 3).run Tryd.prog w = .ok (.int .i64 0) w := by kernel_rfl
theorem okI_nat {k : Nat} (h : k ≤ 2000000) : okI (k : Int) := by
  unfold okI
  simp [Lit.wf, IntKind.min, IntKind.max, IntKind.signed, IntKind.bits]
  omega
theorem IK_ne {a b : Nat} (h : a ≠ b) : IK a ≠ IK b := by
  unfold IK; intro e; injection e with _ e; exact h (by omega)
theorem IK_key {k : Nat} (h : k ≤ 2000000) : WideAt.IsKeyLit (IK k) := law3.key (key3 (okI_nat h))
theorem lit_inj {a b : Int} (h : (DataW.lit (.int .i64 a) : DataW Unit) = .lit (.int .i64 b)) : a = b := by
  injection h with h; injection h with _ h
/-- A field, from where it lies. -/
def leadsP (w : World) (n : Int) (e : Ending) (w' : World) : Prop := e = .returned (.int .i64 n) ∧ w = w'
theorem leads_any (F g o : Nat) (c : PC) (far : Option Nat) (k : Nat) (w : World) (hr : w.rangeAt g o (hcells c far)) (hs : (HeldK F).sub w c far) (hk : k < F) (hF : F ≤ 2000000) :
    Calls Tryd.prog 79 #[.pointer (some ⟨g, o, none⟩), .int .i64 k] w (leadsP w (c.at k)) := by
  by_cases h8 : k < 8
  · have e0 : w.cell? ⟨g, o + (2 + k), none⟩ = some (.int .i64 (c.at k)) := hr _ _ (hcells_near c far k h8)
    have e1 : w.cell? ⟨g, o + 2 + k, none⟩ = some (.int .i64 (c.at k)) := by rw [Nat.add_assoc]; exact e0
    clear hr hs e0
    have hk8 : decide ((k : Int) < 8) = true := decide_eq_true (by omega)
    have hk8n : (k : Int) < 8 := by omega
    go_enter Tryd.func79, Tryd.ntmps79
    go_wp2_with fail
    go_ret
    exact ⟨rfl, rfl⟩
  · have e0 : w.cell? ⟨g, o + 10, none⟩ = some (.map far) := hr 10 _ rfl
    have hk8 : decide ((k : Int) < 8) = false := decide_eq_false (by omega)
    have hkey := key3 (okI_nat (k := k) (by omega))
    obtain ⟨_, _, hfar⟩ := hs
    cases far with
    | none =>
      have hfar : ∀ k, 8 ≤ k → c.at k = 0 := hfar
      have hz : c.at k = 0 := hfar k (by omega)
      rw [hz]
      have hl : (Instr.lookup 104 (.map none) (.int .i64 k) false).run Tryd.prog w = .ok (.int .i64 0) w := look_nil false (w := w) law3 Tryd.underlying104 (zero3 w) hkey
      clear hfar hz hkey hr
      go_enter Tryd.func79, Tryd.ntmps79
      go_wp2_with fail
      go_ret
      exact ⟨rfl, rfl⟩
    | some m =>
      obtain ⟨D, hown, hD⟩ := hfar
      have hat := hD.1 k (by omega) hk
      have HAT := hdn hat
      have HO := hdn hown
      have HK := hdn hkey
      clear hat hD hown hr hkey
      go_enter Tryd.func79, Tryd.ntmps79
      go_wp2_with ((with_reducible show wpList _ _ _ (Oper.mk _ (Op.lookup _ _ _ _) _ _ _ _ :: _) _ _); refine wpList_lookup_own_int (H := Unit) _ rfl _ _ 104 rfl 3 3 .i64 law3 Tryd.underlying104 Tryd.underlying3 (zero3 _) m F D rfl HO.out _ (IK k) rfl HK.out ?_; intro cc hcc _; obtain rfl : cc = c.at k := lit_inj (hcc.symm.trans HAT.out))
      go_ret
      exact ⟨rfl, rfl⟩
end Go.Proofs.YtebmhadpkncgfaaDoor
namespace Go.Proofs.YtebmhadpkncgfaaDoor
open Go.RowKit Go.Maps
theorem nodup_lt : ∀ (F : Nat) (l : List Nat), l.Nodup → (∀ x ∈ l, x < F) → l.length ≤ F
  | 0, [], _, _ => Nat.le_refl _
  | 0, a :: r, _, h => absurd (h a (by simp)) (by omega)
  | F + 1, l, hn, h => by
    have h1 := nodup_lt F (l.erase F) (hn.erase F) (fun x hx => by
      have hm := List.mem_of_mem_erase hx
      have hne := ((List.Nodup.mem_erase_iff hn).1 hx).1
      have := h x hm; omega)
    have h2 : l.length ≤ (l.erase F).length + 1 := by
      rw [List.length_erase]; split <;> omega
    omega
def kN : Lit → Nat
  | .int _ n => n.toNat
  | _ => 0
theorem kN_IK (k : Nat) : kN (IK k) = k := rfl
theorem far_size {F : Nat} {c : PC} {D : DataW Unit} (hE : ∃ es, D = .map es ∧ es.Pairwise (fun p q => p.1 ≠ q.1) ∧ ∀ p ∈ es, WideAt.IsKeyLit p.1) (h : FarD F c D) : Maps.size D ≤ F := by
  obtain ⟨es, rfl, hp, hk⟩ := hE
  have hkey : ∀ p ∈ es, ∃ k : Nat, k < F ∧ p.1 = IK k := fun p hp => by
    obtain ⟨k, _, h2, h3⟩ := h.2 p.1 (List.any_eq_true.2 ⟨p, hp, WideAt.sameKey_self (hk p hp)⟩)
    exact ⟨k, h2, h3⟩
  show es.length ≤ F
  rw [← List.length_map (f := fun p : Lit × DataW Unit => kN p.1)]
  refine nodup_lt F _ ?_ ?_
  · rw [List.Nodup, List.pairwise_map]
    refine List.Pairwise.imp_of_mem ?_ hp
    intro a b ha hb hne e
    obtain ⟨k, _, e1⟩ := hkey a ha
    obtain ⟨j, _, e2⟩ := hkey b hb
    rw [e1, e2, kN_IK, kN_IK] at e
    exact hne (by rw [e1, e2, e])
  · intro x hx
    obtain ⟨p, hp, rfl⟩ := List.mem_map.1 hx
    obtain ⟨k, h2, e⟩ := hkey p hp
    show kN p.1 < F
    rw [e, kN_IK]; exact h2
theorem owns_fit {w : World} {m n F : Nat} {D : DataW Unit} (h : w.ownsMap Tryd.prog 3 (plainElem Tryd.prog 3) m n D) (hs : Maps.size D ≤ F) : w.ownsMap Tryd.prog 3 (plainElem Tryd.prog 3) m F D := by
  obtain ⟨es, clock, hb, F0, hn, rfl⟩ := h
  exact ⟨es, clock, hb, F0, by simpa [Maps.size, length_sorted] using hs, rfl⟩
theorem far_put {F k : Nat} {c : PC} {D : DataW Unit} (hm : IsMap D) (h : FarD F c D) (h8 : 8 ≤ k) (hk : k < F) (hF : F ≤ 2000000) (hl : c.to.length = F) (t : Int) : FarD F (putTo c k t) (D.put (IK k) (.lit (.int .i64 t))) := by
  refine ⟨fun j hj hjF => ?_, fun kl hkl => ?_⟩
  · by_cases e : j = k
    · subst e
      rw [atKey_put_same hm (IK_key (by omega)), at_set _ _ _ _ (by omega), if_pos rfl]
    · rw [atKey_put_other (IK_ne e), at_set _ _ _ _ (by omega), if_neg e]
      exact h.1 j hj hjF
  · by_cases e : kl = IK k
    · exact ⟨k, h8, hk, e⟩
    · rw [has_put_other e] at hkl
      exact h.2 kl hkl
theorem far_del {F k : Nat} {c : PC} {D : DataW Unit} (h : FarD F c D) (hk : k < F) (hl : c.to.length = F) : FarD F (putTo c k 0) (D.del (IK k)) := by
  refine ⟨fun j hj hjF => ?_, fun kl hkl => ?_⟩
  · by_cases e : j = k
    · subst e
      rw [atKey_del_same, at_set _ _ _ _ (by omega), if_pos rfl]; rfl
    · rw [atKey_del_other (IK_ne e), at_set _ _ _ _ (by omega), if_neg e]
      exact h.1 j hj hjF
  · by_cases e : kl = IK k
    · rw [e, has_del_same] at hkl; cases hkl
    · rw [has_del_other e] at hkl
      exact h.2 kl hkl
theorem far_none {F : Nat} {c : PC} (h : ∀ k, 8 ≤ k → c.at k = 0) : FarD F c (.map []) := ⟨fun k hk _ => by rw [h k hk]; rfl, fun kl hkl => by cases hkl⟩
theorem ok_put {c : PC} {k : Nat} {t : Int} (h : c.ok) (ht : okI t) (hk : k < c.to.length) : (putTo c k t).ok := fun j => by
  rw [at_set _ _ _ _ hk]
  split
  · exact ht
  · exact h j
theorem hcells_put (c : PC) (far : Option Nat) (k : Nat) (t : Int) (hk : k < 8) (hl : k < c.to.length) (j : Nat) (hj : j < 11) : (hcells (putTo c k t) far)[j]? = if j = 2 + k then some (.int .i64 t) else (hcells c far)[j]? := by
  rcases Nat.lt_or_ge j 2 with h2 | h2
  · rw [if_neg (by omega)]
    match j, h2 with
    | 0, _ => rfl
    | 1, _ => rfl
  · by_cases h10 : j = 10
    · subst h10; rw [if_neg (by omega)]; rfl
    · obtain ⟨i, rfl⟩ : ∃ i, j = 2 + i := ⟨j - 2, by omega⟩
      rw [hcells_near _ _ i (by omega), hcells_near _ _ i (by omega), at_set _ _ _ _ hl]
      by_cases e : i = k
      · subst e; simp
      · rw [if_neg e, if_neg (by omega)]
theorem hcells_far (c : PC) (far far' : Option Nat) (k : Nat) (t : Int) (hk : 8 ≤ k) (hl : k < c.to.length) (j : Nat) (hj : j < 11) : (hcells (putTo c k t) far')[j]? = if j = 10 then some (.map far') else (hcells c far)[j]? := by
  rcases Nat.lt_or_ge j 2 with h2 | h2
  · rw [if_neg (by omega)]
    match j, h2 with
    | 0, _ => rfl
    | 1, _ => rfl
  · by_cases h10 : j = 10
    · subst h10; rw [if_pos rfl]; rfl
    · obtain ⟨i, rfl⟩ : ∃ i, j = 2 + i := ⟨j - 2, by omega⟩
      rw [hcells_near _ _ i (by omega), if_neg h10, hcells_near _ _ i (by omega), at_set _ _ _ _ hl, if_neg (by omega)]
end Go.Proofs.YtebmhadpkncgfaaDoor
namespace Go.Proofs.YtebmhadpkncgfaaDoor
open Go.RowKit Go.Maps
/-- Of the blocks that were there, at most those of R have turned; R' is R and new ones. -/
structure Stp (w w' : World) (R R' : Nat → Prop) : Prop where
  gr : Gr w w' R
  sub : ∀ k, R k → R' k
  new : ∀ k, R' k → R k ∨ w.heap.size ≤ k
  lt : ∀ k, R' k → k < w'.heap.size
/-- What a step on a row leaves. -/
def RowPost (F : Nat) (w : World) (R : Nat → Prop) (g cap : Nat) (cs' : List PC) (e : Ending) (w' : World) : Prop :=
  e = .returned (.tuple #[]) ∧ ∃ R' cur' fm', (HeldK F).At w' R' g cap cur' fm' cs' ∧ Stp w w' R R'
theorem grownBy_stp {w w' : World} {R : Nat → Prop} {m : Nat} (h : w.grownBy w' (some m)) (hm : R m) (hl : ∀ k, R k → k < w.heap.size) : Stp w w' R R :=
  ⟨(Gr.of_grown h).mono fun k _ e => by injection e with e; subst e; exact hm, fun _ h => h, fun _ h => .inl h, fun k hk => Nat.lt_of_lt_of_le (hl k hk) h.size⟩
/-- The row, with a place of one of its cells made to lead elsewhere. -/
theorem put_near {F g cap : Nat} {w : World} {R : Nat → Prop} {cur : Array Value} {fm : Nat → Option Nat} {cs : List PC} {i k : Nat} {x : PC} {t : Int}
    (ha : (HeldK F).At w R g cap cur fm cs) (hl : ∀ k, R k → k < w.heap.size) (hi : cs[i]? = some x) (h8 : k < 8) (hk : k < F) (ht : okI t) :
    RowPost F w R g cap (cs.set i (putTo x k t)) (.returned (.tuple #[])) (w.setCell ⟨g, i * 11 + 2 + k, none⟩ (.int .i64 t)) := by
  have hsub := ha.sub i x hi
  have hil : i < cs.length := (List.getElem?_eq_some_iff.1 hi).1
  have hxl : x.to.length = F := hsub.1
  have hgr : w.grownBy (w.setCell ⟨g, i * 11 + 2 + k, none⟩ (.int .i64 t)) (some g) := grownBy_setC w _ _
  have hst : Stp w (w.setCell ⟨g, i * 11 + 2 + k, none⟩ (.int .i64 t)) R R := grownBy_stp hgr ha.mine hl
  refine ⟨rfl, R, _, _, ha.put (S := fun k => some k = some g) (b' := fm i) hi (Gr.of_grown hgr) (ha.row.set_ _ _) (by simp) (fun j hj => ?_) (fun j hj => ?_) ?_ (fun k _ hk => .inl (by injection hk)) (fun _ h => h) hl (.inl rfl), hst⟩
  · show (cur.setIfInBounds (i * 11 + 2 + k) _)[i * 11 + j]? = (hcells (putTo x k t) (fm i))[j]?
    have hcs : i * 11 + 11 ≤ cur.size := by
      have h1 := ha.size; have h2 := ha.room
      have : (HeldK F).sz = 11 := rfl
      rw [this] at h1
      have := Nat.mul_le_mul_right 11 (Nat.le_trans (Nat.succ_le_of_lt hil) h2)
      omega
    have hj11 : j < 11 := hj
    rw [hcells_put x (fm i) k t h8 (by omega) j hj, Array.getElem?_setIfInBounds]
    by_cases e : j = 2 + k
    · subst e
      rw [if_pos (by omega), if_pos (by omega), if_pos rfl]
    · rw [if_neg (by omega), if_neg e]
      exact ha.cell i x hi j hj
  · have hj' : j < i * 11 ∨ i * 11 + 11 ≤ j := hj
    rw [Array.getElem?_setIfInBounds, if_neg (by omega)]
  · refine ⟨(putTo_len x k t).trans hxl, ok_put hsub.2.1 ht (by omega), ?_⟩
    have hf := hsub.2.2
    have hk' : (HeldK F).keep = (HeldK F).keep := rfl
    have hkp := (HeldK F).keep w (w.setCell ⟨g, i * 11 + 2 + k, none⟩ (.int .i64 t)) x (fm i) hsub hgr.size (fun m hm => hgr.block m ((HeldK F).has w x _ m hsub hm) (fun e => (ha.own i m hil hm).2 (by injection e)))
    have hf' := hkp.2.2
    clear hkp hk' hf
    cases hfi : fm i with
    | none =>
      rw [hfi] at hf'
      intro j hj
      rw [at_set _ _ _ _ (by omega), if_neg (by omega)]
      exact hf' j hj
    | some m =>
      rw [hfi] at hf'
      obtain ⟨D, hD, hF⟩ := hf'
      refine ⟨D, hD, fun j hj hjF => ?_, hF.2⟩
      rw [at_set _ _ _ _ (by omega), if_neg (by omega)]
      exact hF.1 j hj hjF
end Go.Proofs.YtebmhadpkncgfaaDoor
namespace Go.Proofs.YtebmhadpkncgfaaDoor
open Go.RowKit Go.Maps
theorem set_same {cur : Array Value} {i : Nat} {v : Value} (h : cur[i]? = some v) : cur.setIfInBounds i v = cur := by
  refine Array.ext_getElem? fun j => ?_
  rw [Array.getElem?_setIfInBounds]
  by_cases e : i = j
  · subst e; rw [if_pos rfl, if_pos (Array.getElem?_eq_some_iff.1 h).1, h]
  · rw [if_neg e]
theorem put_far {F g cap : Nat} {w w' : World} {R : Nat → Prop} {cur : Array Value} {fm : Nat → Option Nat} {cs : List PC} {i k : Nat} {x : PC} {t : Int} {far' : Option Nat}
    (ha : (HeldK F).At w R g cap cur fm cs) (hl : ∀ k, R k → k < w.heap.size) (hi : cs[i]? = some x) (h8 : 8 ≤ k) (hk : k < F) (ht : okI t)
    (hg : Gr w w' (fun b => b = g ∨ fm i = some b)) (hrow : Bk w' g 106 (cur.setIfInBounds (i * 11 + 10) (.map far'))) (hf : FarIs w' F (putTo x k t) far') (hb : far' = fm i ∨ far' = some w.heap.size) (hlt : ∀ m, far' = some m → m < w'.heap.size) :
    RowPost F w R g cap (cs.set i (putTo x k t)) (.returned (.tuple #[])) w' := by
  have hsub := ha.sub i x hi
  have hil : i < cs.length := (List.getElem?_eq_some_iff.1 hi).1
  have hxl : x.to.length = F := hsub.1
  have hlR : ∀ k, k < w.heap.size → (k = g ∨ fm i = some k) → R k := fun k _ h => by
    rcases h with h | h
    · subst h; exact ha.mine
    · exact (ha.own i k hil h).1
  have hst : Stp w w' R (fun b => R b ∨ far' = some b) := ⟨hg.mono hlR, fun _ h => .inl h, fun b h => by
    rcases h with h | h
    · exact .inl h
    · rcases hb with e | e
      · exact .inl (ha.own i b hil (e.symm.trans h)).1
      · rw [e] at h; injection h with h; exact .inr (by omega), fun b h => by
    rcases h with h | h
    · exact Nat.lt_of_lt_of_le (hl b h) hg.size
    · exact hlt b h⟩
  refine ⟨rfl, _, _, _, ha.put (b' := far') hi hg hrow (by simp) (fun j hj => ?_) (fun j hj => ?_) ⟨(putTo_len x k t).trans hxl, ok_put hsub.2.1 ht (by omega), hf⟩ (fun k _ hk => hk) (fun _ h => .inl h) hl ?_, hst⟩
  · show (cur.setIfInBounds (i * 11 + 10) _)[i * 11 + j]? = (hcells (putTo x k t) far')[j]?
    have hcs : i * 11 + 11 ≤ cur.size := by
      have h1 := ha.size; have h2 := ha.room
      have : (HeldK F).sz = 11 := rfl
      rw [this] at h1
      have := Nat.mul_le_mul_right 11 (Nat.le_trans (Nat.succ_le_of_lt hil) h2)
      omega
    have hj11 : j < 11 := hj
    rw [hcells_far x (fm i) far' k t h8 (by omega) j hj, Array.getElem?_setIfInBounds]
    by_cases e : j = 10
    · subst e
      rw [if_pos rfl, if_pos (by omega), if_pos rfl]
    · rw [if_neg (by omega), if_neg e]
      exact ha.cell i x hi j hj
  · have hj' : j < i * 11 ∨ i * 11 + 11 ≤ j := hj
    rw [Array.getElem?_setIfInBounds, if_neg (by omega)]
  · rcases hb with e | e
    · exact .inl e
    · exact .inr (.inr ⟨w.heap.size, e, Nat.le_refl _, .inr e⟩)
theorem lead_any (F g cap i k : Nat) (t : Int) (w : World) (R : Nat → Prop) (cur : Array Value) (fm : Nat → Option Nat) (cs : List PC) (x : PC)
    (ha : (HeldK F).At w R g cap cur fm cs) (hl : ∀ k, R k → k < w.heap.size) (hi : cs[i]? = some x) (hk : k < F) (hF : F ≤ 2000000) (ht : okI t) :
    Calls Tryd.prog 76 #[.pointer (some ⟨g, i * 11, none⟩), .int .i64 k, .int .i64 t] w (RowPost F w R g cap (cs.set i (putTo x k t))) := by
  have hsub := ha.sub i x hi
  have hil : i < cs.length := (List.getElem?_eq_some_iff.1 hi).1
  have hkey := key3 (okI_nat (k := k) (by omega))
  have hval : plainElem (H := Unit) Tryd.prog 3 (.int .i64 t) = some (.lit (.int .i64 t), []) := plainElem_int Tryd.underlying3 ht
  by_cases h8 : k < 8
  · have HE := hdn (put_near ha hl hi h8 hk ht)
    have e1 : w.cell? ⟨g, i * 11 + 2 + k, none⟩ = some (.int .i64 (x.at k)) := by rw [Nat.add_assoc]; exact ha.at_cell hi (2 + k) _ (hcells_near x _ k h8)
    have f1 : w.frozen? ⟨g, i * 11 + 2 + k, none⟩ = false := ha.row.frozen _
    have hk8 : decide ((k : Int) < 8) = true := decide_eq_true (by omega)
    have hk8n : (k : Int) < 8 := by omega
    clear ha hl hi hsub hkey hval
    go_enter Tryd.func76, Tryd.ntmps76
    go_wp2_with fail
    go_end0
    exact HE.out
  · have hk8 : decide ((k : Int) < 8) = false := decide_eq_false (by omega)
    have e0 : w.cell? ⟨g, i * 11 + 10, none⟩ = some (.map (fm i)) := ha.at_cell hi 10 _ rfl
    have f0 : w.frozen? ⟨g, i * 11 + 10, none⟩ = false := ha.row.frozen _
    have hs0 : cur.setIfInBounds (i * 11 + 10) (.map (fm i)) = cur := set_same (by have := ha.cell i x hi 10 (show 10 < 11 by decide); exact this)
    have hxl : x.to.length = F := hsub.1
    have hfar := hsub.2.2
    have hrow : Bk w g 106 cur := ha.row
    cases hfi : fm i with
    | none =>
      rw [hfi] at e0 hfar hs0
      have hnn := fun (w : World) => run_eql_map_nil (P := Tryd.prog) w 104 3 3 none Tryd.underlying104
      by_cases ht0 : t = 0
      · have HE : Hid (RowPost F w R g cap (cs.set i (putTo x k t)) (.returned (.tuple #[])) w) := hdn (put_far (far' := none) ha hl hi (by omega) hk ht (Gr.refl _ _) (by rw [hs0]; exact hrow)
          (fun j hj => by rw [at_set _ _ _ _ (by omega)]; split; · exact ht0
                          · exact hfar j hj) (.inl hfi.symm) (by intro m e; cases e))
        have hdr : ∀ ty, (Builtin.delete_ #[104, 3] ty #[.map none, .int .i64 k]).run Tryd.prog w = .ok (.tuple #[]) w := fun ty => drop_nil law3 Tryd.underlying104 hkey ty
        subst ht0
        clear ha hl hi hsub hkey hval hfar hs0 hfi hrow
        go_enter Tryd.func76, Tryd.ntmps76
        go_wp2_with fail
        go_end0
        exact HE.out
      · have hown0 := World.ownsMap_made (H := Unit) w Tryd.prog 3 (plainElem Tryd.prog 3)
        obtain ⟨w2, hup, hown2, hg2⟩ := hown0.update law3 Tryd.underlying104 (by decide) hkey hval
        have hfd : FarD F (putTo x k t) ((DataW.map []).put (IK k) (.lit (.int .i64 t))) := far_put ⟨_, rfl⟩ (far_none hfar) (by omega) hk hF hxl t
        have hown3 := owns_fit hown2 (far_size (hown2.entries law3) hfd)
        have hg0 : Gr w w2 (fun b => b = g ∨ fm i = some b) := ((Gr.refl w _).alloc _).grown hg2 (fun j hj e => by injection e with e; omega)
        have hrow2 : Bk w2 g 106 cur := (hg2.block g (by have := hrow.lt; simp; omega) (by have := hrow.lt; intro e; injection e with e; omega)).trans ((World.grownBy_alloc w (.map #[] 0) none).block g hrow.lt (by simp) |>.trans hrow)
        have f2 : w2.frozen? ⟨g, i * 11 + 10, none⟩ = false := hrow2.frozen _
        have e2 : w2.cell? ⟨g, i * 11 + 10, none⟩ = some (.map none) := by rw [hrow2.cell, ← hrow.cell]; exact e0
        have HE : Hid (RowPost F w R g cap (cs.set i (putTo x k t)) (.returned (.tuple #[])) (w2.setCell ⟨g, i * 11 + 10, none⟩ (.map (some w.heap.size)))) := hdn (put_far (far' := some w.heap.size) ha hl hi (by omega) hk ht
          (hg0.setCell (fun _ => .inl rfl) _) (hrow2.set_ _ _) ⟨_, hown3.setCell (by have := hrow.lt; simp; omega) _, hfd⟩ (.inr rfl) (by intro m e; injection e with e; have := hg2.size; simp at this; simp [World.setCell]; omega))
        have ht1 : decide (t = 0) = false := decide_eq_false ht0
        have ht2 : (t == 0) = false := by simpa using ht0
        have HU : (Instr.mapUpdate 104 (.map (some w.heap.size)) (.int .i64 k) (.int .i64 t)).run Tryd.prog (w.alloc (.map #[] 0)) = .ok () w2 := hup
        have hmm := @run_makeMap Tryd.prog
        clear ha hl hi hsub hkey hval hfar hs0 hfi hrow hup hown0 hown2 hown3 hfd hg2 hg0 hrow2 ht0 ht1
        go_enter Tryd.func76, Tryd.ntmps76
        go_wp2_with fail
        go_end0
        exact HE.out
    | some m =>
      rw [hfi] at e0 hfar hs0
      obtain ⟨D, hown, hfd0⟩ := hfar
      have hmg : m ≠ g := (ha.own i m hil hfi).2
      have hnn := fun (w : World) => run_eql_map_nil (P := Tryd.prog) w 104 3 3 (some m) Tryd.underlying104
      by_cases ht0 : t = 0
      · have HE : ∀ w', w'.ownsMap Tryd.prog 3 (plainElem Tryd.prog 3) m F (D.del (IK k)) → w.mapTurned w' m → Hid (RowPost F w R g cap (cs.set i (putTo x k t)) (.returned (.tuple #[])) w') := fun w' ho hm =>
          hdn (put_far (far' := some m) ha hl hi (by omega) hk ht ((Gr.of_grown hm.grown).mono (fun b _ e => .inr (by rw [hfi]; exact e.symm))) (by rw [hs0]; exact (hm.grown.block g hrow.lt (by intro e; injection e with e; exact hmg e.symm)).trans hrow)
            ⟨_, ho, by rw [ht0]; exact far_del hfd0 hk hxl⟩ (.inl hfi.symm) (by intro m' e; injection e with e; subst e; exact ho.lt))
        have HE' := hdn HE
        have HO := hdn hown
        have HK := hdn hkey
        subst ht0
        clear ha hl hi hsub hkey hval hown hfd0 hs0 hfi hrow HE hmg
        go_enter Tryd.func76, Tryd.ntmps76
        go_wp2_with ((with_reducible show wpList _ _ _ (Oper.mk _ (Op.call _) _ _ _ _ :: _) _ _); refine wpList_delete_own _ rfl _ _ 104 3 rfl 3 law3 Tryd.underlying104 (plainElem Tryd.prog 3) m F D rfl HO.out _ (IK k) rfl HK.out ?_; intro w2 ho2 hm2; have HZ := HE'.out w2 ho2 hm2; clear ho2 hm2)
        go_end0
        exact HZ.out
      · have HE : ∀ w', w'.ownsMap Tryd.prog 3 (plainElem Tryd.prog 3) m (F + 1) (D.put (IK k) (.lit (.int .i64 t))) → w.grownBy w' (some m) → Hid (RowPost F w R g cap (cs.set i (putTo x k t)) (.returned (.tuple #[])) w') := fun w' ho hm => by
          have hfd := far_put (hown.isMap) hfd0 (by omega) hk hF hxl t
          exact hdn (put_far (far' := some m) ha hl hi (by omega) hk ht ((Gr.of_grown hm).mono (fun b _ e => .inr (by rw [hfi]; exact e.symm))) (by rw [hs0]; exact (hm.block g hrow.lt (by intro e; injection e with e; exact hmg e.symm)).trans hrow)
            ⟨_, owns_fit ho (far_size (ho.entries law3) hfd), hfd⟩ (.inl hfi.symm) (by intro m' e; injection e with e; subst e; exact ho.lt))
        have HE' := hdn HE
        have HO := hdn hown
        have HK := hdn hkey
        have HV := hdn hval
        have hFm : F < maxLen := by unfold maxLen; omega
        have ht2 : (t == 0) = false := by simpa using ht0
        clear ha hl hi hsub hkey hval hown hfd0 hs0 hfi hrow HE hmg ht0
        go_enter Tryd.func76, Tryd.ntmps76
        go_wp2_with (at_mapUpdate; refine wpList_mapUpdate_own _ rfl _ _ _ 104 rfl 3 3 law3 Tryd.underlying104 (plainElem Tryd.prog 3) m F D rfl HO.out hFm _ _ (IK k) rfl rfl HK.out _ [] HV.out ?_; intro w2 ho2 hm2; have HZ := HE'.out w2 ho2 hm2; clear ho2 hm2)
        go_end0
        exact HZ.out
end Go.Proofs.YtebmhadpkncgfaaDoor
namespace Go.Proofs.YtebmhadpkncgfaaDoor
open Go.RowKit Go.Maps
def two (a b : Int) : Value := .tuple #[.int .i64 a, .int .i64 b]
def LenIs (w : World) (q : Value) (n : Nat) : Prop := Calls Tryd.prog 87 #[q] w fun en w' => en = .returned (.int .i64 n) ∧ w = w'
def getP (w : World) (a b : Int) (e : Ending) (w' : World) : Prop := e = .returned (two a b) ∧ w = w'
theorem get_no (q : Value) (n : Nat) (c f : Int) (w : World) (hL : LenIs w q n) (hc : isCell n c = false) : Calls Tryd.prog 56 #[q, .int .i64 c, .int .i64 f] w (getP w 0 1) := by
  have HA := hdn (alive_no c n q w hc hL)
  clear hL hc
  unfold noCell at HA
  go_enter Tryd.func56, Tryd.ntmps56
  go_wp2_with (go_at_call 77; refine HA.out.mono ?_; rintro e w' ⟨rfl, rfl⟩)
  go_ret2
  exact ⟨rfl, rfl⟩
theorem At.sl {F : Nat} {w : World} {R : Nat → Prop} {v : Value} {cs : List PC} (h : (HeldK F).Lie w R v cs) {i : Nat} {x : PC} (hi : cs[i]? = some x) :
    ∃ g cap cur fm, v = .slice (some ⟨g, 0, none⟩) cs.length cap ∧ (HeldK F).At w R g cap cur fm cs := by
  rcases h.2 with ⟨_, rfl⟩ | ⟨g, cap, cur, fm, hv, ha⟩
  · simp at hi
  · exact ⟨g, cap, cur, fm, hv, ha⟩
theorem get_any (F b : Nat) (R : Nat → Prop) (cs : List PC) (v : Value) (c f : Int) (w : World) (h : HIs w b R F cs v) (hF : F ≤ 2000000) (hn : cs.length ≤ maxLen) :
    Calls Tryd.prog 56 #[hp b, .int .i64 c, .int .i64 f] w (getP w (getV F cs c f) (faultC cs c)) := by
  rcases fault_ways cs c with ⟨hno, hf⟩ | ⟨i, x, rfl, hi, hil, hw⟩
  · rw [getV_no F cs c f (.inl (by rw [hf]; decide)), hf]
    exact get_no _ _ c f w h.len hno
  · obtain ⟨g, cap, cur, fm, rfl, ha⟩ := At.sl h.lie hi
    have hA := alive_at b R F cs _ _ g cap cur fm i x w h.top ha hi hil hn
    rcases hw with ⟨hx, hf⟩ | ⟨hx, hf⟩
    · rw [getV_no F cs _ f (.inl (by rw [hf]; decide)), hf]
      rw [hx, if_pos rfl] at hA
      have HA := hdn hA
      clear h ha hi hA hx hf
      unfold noCell at HA
      go_enter Tryd.func56, Tryd.ntmps56
      go_wp2_with (go_at_call 77; refine HA.out.mono ?_; rintro e w' ⟨rfl, rfl⟩)
      go_ret2
      exact ⟨rfl, rfl⟩
    · rw [hx, if_neg (by decide)] at hA
      have HA := hdn hA
      cases hfi : isField F f with
      | false =>
        have hB := hasField_any b _ _ F f w h.top
        rw [hfi] at hB
        have HB := hdn hB
        rw [getV_no F cs _ f (.inr hfi), hf]
        clear h ha hi hA hx hf hB hfi
        go_enter Tryd.func56, Tryd.ntmps56
        go_wp2_with (first | (go_at_call 77; refine HA.out.mono ?_; rintro e w' ⟨rfl, rfl⟩) | (go_at_call 78; refine HB.out.mono ?_; rintro e w' ⟨rfl, rfl⟩))
        go_ret2
        exact ⟨rfl, rfl⟩
      | true =>
        have hB := hasField_any b _ _ F f w h.top
        rw [hfi] at hB
        have HB := hdn hB
        obtain ⟨k, hk, rfl⟩ := isField_iff.1 hfi
        have hG := leads_any F g (i * 11) x (fm i) k w (ha.range hi) (ha.sub i x hi) hk hF
        rw [getV_at F cs i k x hi hx hk, hf]
        have HG := hdn hG
        clear h ha hi hA hx hf hB hfi hG
        go_enter Tryd.func56, Tryd.ntmps56
        go_wp2_with (first | (go_at_call 77; refine HA.out.mono ?_; rintro e w' ⟨rfl, rfl⟩) | (go_at_call 78; refine HB.out.mono ?_; rintro e w' ⟨rfl, rfl⟩) | (go_at_call 79; refine HG.out.mono ?_; rintro e w' ⟨rfl, rfl⟩))
        go_ret2
        exact ⟨rfl, rfl⟩
/-- What a call on a heap leaves. -/
structure HStp (w w' : World) (b : Nat) (R R' : Nat → Prop) : Prop where
  gr : Gr w w' (fun k => k = b ∨ R k)
  sub : ∀ k, R k → R' k
  new : ∀ k, R' k → R k ∨ w.heap.size ≤ k
def HPost (F : Nat) (w : World) (b : Nat) (R : Nat → Prop) (cs : List PC) (ret : Value) (e : Ending) (w' : World) : Prop :=
  e = .returned ret ∧ ∃ R' v', HIs w' b R' F cs v' ∧ HStp w w' b R R'
theorem HStp.refl (w : World) (b : Nat) (R : Nat → Prop) : HStp w w b R R := ⟨Gr.refl _ _, fun _ h => h, fun _ h => .inl h⟩
theorem HStp.of {w w' : World} {b : Nat} {R R' : Nat → Prop} (h : Stp w w' R R') : HStp w w' b R R' := ⟨h.gr.mono (fun _ _ h => .inr h), h.sub, h.new⟩
theorem put_no (q : Value) (n : Nat) (c f t : Int) (w : World) (hL : LenIs w q n) (hc : isCell n c = false) : Calls Tryd.prog 81 #[q, .int .i64 c, .int .i64 f, .int .i64 t] w fun e w' => e = .returned (.int .i64 1) ∧ w = w' := by
  have HA := hdn (alive_no c n q w hc hL)
  clear hL hc
  unfold noCell at HA
  go_enter Tryd.func81, Tryd.ntmps81
  go_wp2_with (go_at_call 77; refine HA.out.mono ?_; rintro e w' ⟨rfl, rfl⟩)
  go_ret
  exact ⟨rfl, rfl⟩
theorem okTo_ok {n : Nat} {t : Int} (h : okI t) : okI (okTo n t) := by unfold okTo; split; · exact h
                                                                       · rfl
theorem put_any (F b : Nat) (R : Nat → Prop) (cs : List PC) (v : Value) (c f t : Int) (w : World) (h : HIs w b R F cs v) (hF : F ≤ 2000000) (hn : cs.length ≤ maxLen) (ht : okI t) :
    Calls Tryd.prog 81 #[hp b, .int .i64 c, .int .i64 f, .int .i64 t] w (HPost F w b R (putC F cs c f t) (.int .i64 (faultC cs c))) := by
  have hsame : ∀ k, HPost F w b R cs (.int .i64 k) (.returned (.int .i64 k)) w := fun k => ⟨rfl, R, v, h, HStp.refl _ _ _⟩
  rcases fault_ways cs c with ⟨hno, hf⟩ | ⟨i, x, rfl, hi, hil, hw⟩
  · rw [putC_no F cs c f t (.inl (by rw [hf]; decide)), hf]
    refine (put_no _ _ c f t w h.len hno).mono ?_
    rintro e w' ⟨rfl, rfl⟩
    exact hsame _
  · obtain ⟨g, cap, cur, fm, rfl, ha⟩ := At.sl h.lie hi
    have hA := alive_at b R F cs _ _ g cap cur fm i x w h.top ha hi hil hn
    rcases hw with ⟨hx, hf⟩ | ⟨hx, hf⟩
    · rw [putC_no F cs _ f t (.inl (by rw [hf]; decide)), hf]
      rw [hx, if_pos rfl] at hA
      have HA := hdn hA
      have HE := hdn (hsame 2)
      clear h ha hi hA hx hf hsame
      unfold noCell at HA
      go_enter Tryd.func81, Tryd.ntmps81
      go_wp2_with (go_at_call 77; refine HA.out.mono ?_; rintro e w' ⟨rfl, rfl⟩)
      go_ret
      exact HE.out
    · rw [hx, if_neg (by decide)] at hA
      have HA := hdn hA
      have hB := hasField_any b _ _ F f w h.top
      cases hfi : isField F f with
      | false =>
        rw [hfi] at hB
        have HB := hdn hB
        rw [putC_no F cs _ f t (.inr hfi), hf]
        have HE := hdn (hsame 0)
        clear h ha hi hA hx hf hB hfi hsame
        go_enter Tryd.func81, Tryd.ntmps81
        go_wp2_with (first | (go_at_call 77; refine HA.out.mono ?_; rintro e w' ⟨rfl, rfl⟩) | (go_at_call 78; refine HB.out.mono ?_; rintro e w' ⟨rfl, rfl⟩))
        go_ret
        exact HE.out
      | true =>
        rw [hfi] at hB
        have HB := hdn hB
        obtain ⟨k, hk, rfl⟩ := isField_iff.1 hfi
        rw [putC_at F cs i k t x hi hx hk, hf]
        have hG := fun t (ht : okI t) => lead_any F g cap i k t w R cur fm cs x ha h.lie.1 hi hk hF ht
        have hE : ∀ t e w', RowPost F w R g cap (cs.set i (putTo x k t)) e w' → HPost F w b R (cs.set i (putTo x k t)) (.int .i64 0) (.returned (.int .i64 0)) w' := by
          rintro t e w' ⟨_, R', cur', fm', ha', hst⟩
          refine ⟨rfl, R', _, ⟨hst.gr.bk h.top h.out, fun hb => ?_, ⟨hst.lt, .inr ⟨g, cap, cur', fm', ?_, ha'⟩⟩⟩, HStp.of hst⟩
          · rcases hst.new b hb with h1 | h1
            · exact h.out h1
            · have := h.top.lt; omega
          · rw [List.length_set]
        have hH := hasCell_of t cs.length (hp b) w h.len
        have HG := hdn hG
        have HE := hdn hE
        have HT := hdn ht
        unfold okTo
        cases hct : isCell cs.length t with
        | true =>
          rw [hct] at hH
          have HH := hdn hH
          clear h ha hi hA hx hf hB hfi hsame hG hE hH hct ht
          rw [if_pos rfl]
          go_enter Tryd.func81, Tryd.ntmps81
          go_wp2_with (first | (go_at_call 77; refine HA.out.mono ?_; rintro e w' ⟨rfl, rfl⟩) | (go_at_call 78; refine HB.out.mono ?_; rintro e w' ⟨rfl, rfl⟩) | (go_at_call 75; refine HH.out.mono ?_; rintro e w' ⟨rfl, rfl⟩) | (go_at_call 76; refine (HG.out t HT.out).mono ?_; intro e w2 hp2; have HZ := hdn (HE.out t e w2 hp2); obtain ⟨rfl, _⟩ := hp2))
          go_ret
          exact HZ.out
        | false =>
          rw [hct] at hH
          have HH := hdn hH
          clear h ha hi hA hx hf hB hfi hsame hG hE hH hct ht
          rw [if_neg (by decide)]
          go_enter Tryd.func81, Tryd.ntmps81
          go_wp2_with (first | (go_at_call 77; refine HA.out.mono ?_; rintro e w' ⟨rfl, rfl⟩) | (go_at_call 78; refine HB.out.mono ?_; rintro e w' ⟨rfl, rfl⟩) | (go_at_call 75; refine HH.out.mono ?_; rintro e w' ⟨rfl, rfl⟩) | (go_at_call 76; refine (HG.out 0 rfl).mono ?_; intro e w2 hp2; have HZ := hdn (HE.out 0 e w2 hp2); obtain ⟨rfl, _⟩ := hp2))
          go_ret
          exact HZ.out
end Go.Proofs.YtebmhadpkncgfaaDoor
namespace Go.Proofs.YtebmhadpkncgfaaDoor
open Go.RowKit Go.Maps
theorem wpList_store_new {P : Program} {ops : Array Oper} {rest : List Oper} {op : Oper} {a : Act} {w : World} {Q : Exit → Act → World → Prop} (hgd : op.guard = none) (ty : TypeId) (x y : Operand) (ho : op.op = .store ty x y)
    (c c' : Array Value) (hx : a.eval x = .pointer (some ⟨w.heap.size, 0, none⟩)) (hy : a.eval y = .agg c') (hi : (P.info? ty).map (·.size) = some c'.size) (hc : c.size = c'.size) (h1 : c'.all (·.oneCell') = true)
    (h : wpList P ops Q rest (a.put op.dst undef) (w.alloc (.cells c' ty))) : wpList P ops Q (op :: rest) a (w.alloc (.cells c ty)) :=
  wpList_plain hgd fun _ hK => by
    unfold Oper.wp execOp
    simp only [ho, hx, hy, Instr.storeAt, Instr.sureAddr, Sem.run_bind, Sem.run_pure, Result.andThen_ok, run_storeVar_new w ty c c' hi hc h1]
    exact hK _ _ h
theorem wpList_load_arr {P : Program} {ops : Array Oper} {rest : List Oper} {op : Oper} {a : Act} {w : World} {Q : Exit → Act → World → Prop} (hgd : op.guard = none) (ty : TypeId) (x : Operand) (ho : op.op = .load ty x)
    (b o : Nat) (hx : a.eval x = .pointer (some ⟨b, o, none⟩)) (cs : Array Value) (d : TypeDesc) (hc : w.rangeAt b o cs.toList)
    (hu : P.underlying ty = some d) (hd : d.isRow = true) (hi : (P.info? ty).map (·.size) = some cs.size)
    (h : wpList P ops Q rest (a.put op.dst (.agg cs)) w) : wpList P ops Q (op :: rest) a w :=
  wpList_load_mid hgd ty x ho b o hx cs.toList d hc hu hd (by simpa using hi) (by simpa using h)
theorem Bk.range {w : World} {g : Nat} {t : TypeId} {cs : Array Value} (h : Bk w g t cs) : w.rangeAt g 0 cs.toList := fun j v hv => by
  rw [h.cell]; simpa using hv
theorem wpList_load_bk {P : Program} {ops : Array Oper} {rest : List Oper} {op : Oper} {a : Act} {w : World} {Q : Exit → Act → World → Prop} (hgd : op.guard = none) (ty : TypeId) (x : Operand) (ho : op.op = .load ty x)
    (C : Nat) (t : TypeId) (cs : Array Value) (hx : a.eval x = .pointer (some ⟨C, 0, none⟩)) (d : TypeDesc) (hk : Bk w C t cs)
    (hu : P.underlying ty = some d) (hd : d.isRow = true) (hi : (P.info? ty).map (·.size) = some cs.size)
    (h : wpList P ops Q rest (a.put op.dst (.agg cs)) w) : wpList P ops Q (op :: rest) a w :=
  wpList_load_arr hgd ty x ho C 0 hx cs d hk.range hu hd hi h
/-- A row with some items set, from the o-th on. -/
def setFrom : List Value → Nat → List Value → List Value
  | l, _, [] => l
  | l, o, v :: r => setFrom (l.set o v) (o + 1) r
theorem setFrom_len : ∀ (vs : List Value) (o : Nat) (l : List Value), (setFrom l o vs).length = l.length
  | [], _, _ => rfl
  | v :: r, o, l => by rw [setFrom, setFrom_len r]; simp
theorem setFrom_out : ∀ (vs : List Value) (o : Nat) (l : List Value) (j : Nat), (j < o ∨ o + vs.length ≤ j) → (setFrom l o vs)[j]? = l[j]?
  | [], _, _, _, _ => rfl
  | v :: r, o, l, j, h => by
    simp only [List.length_cons] at h
    rw [setFrom, setFrom_out r (o + 1) _ j (by omega), List.getElem?_set_ne (by omega)]
theorem setFrom_in : ∀ (vs : List Value) (o : Nat) (l : List Value) (j : Nat), j < vs.length → o + vs.length ≤ l.length → (setFrom l o vs)[o + j]? = vs[j]?
  | [], _, _, _, h, _ => by simp at h
  | v :: r, o, l, j, h, hl => by
    simp only [List.length_cons] at h hl
    rw [setFrom]
    rcases j with _ | j
    · rw [setFrom_out r (o + 1) _ _ (by omega), Nat.add_zero, List.getElem?_set_self (by omega)]; rfl
    · rw [show o + (j + 1) = (o + 1) + j by omega, setFrom_in r (o + 1) _ j (by omega) (by simp; omega)]; rfl
theorem grownBy_tr {a b c : World} {r : Option Nat} (h : a.grownBy b r) (k : b.grownBy c r) : a.grownBy c r :=
  ⟨k.os.trans h.os, k.tape.trans h.tape, k.output.trans h.output, Nat.le_trans h.size k.size, fun i hi hne => (k.block i (Nat.lt_of_lt_of_le hi h.size) hne).trans (h.block i hi hne)⟩
theorem Bk.setCells {C : Nat} {t : TypeId} : ∀ (vs : List Value) (o : Nat) (w : World) (old : List Value), Bk w C t old.toArray → Bk (w.setCells C o vs) C t (setFrom old o vs).toArray ∧ w.grownBy (w.setCells C o vs) (some C)
  | [], o, w, old, h => ⟨h, ⟨rfl, rfl, rfl, Nat.le_refl _, fun _ _ _ => rfl⟩⟩
  | v :: r, o, w, old, h => by
    have h1 : Bk (w.setCell ⟨C, o, none⟩ v) C t (old.set o v).toArray := by have := h.set_ o v; rwa [List.setIfInBounds_toArray] at this
    have h2 := Bk.setCells r (o + 1) (w.setCell ⟨C, o, none⟩ v) (old.set o v) h1
    exact ⟨h2.1, grownBy_tr (grownBy_setC w ⟨C, o, none⟩ v) h2.2⟩
/-- A struct's value goes into a part of a block. -/
theorem wpList_store_part {P : Program} {ops : Array Oper} {rest : List Oper} {op : Oper} {a : Act} {w : World} {Q : Exit → Act → World → Prop} (hgd : op.guard = none) (ty : TypeId) (x y : Operand) (ho : op.op = .store ty x y)
    (C off : Nat) (t : TypeId) (old : Array Value) (cs : Array Value) (hx : a.eval x = .pointer (some ⟨C, off, none⟩)) (hy : a.eval y = .agg cs) (hk : Bk w C t old) (hi : (P.info? ty).map (·.size) = some cs.size) (hc : off + cs.size ≤ old.size) (h1 : cs.all (·.oneCell') = true)
    (h : ∀ w' cur', Bk w' C t cur' → cur'.size = old.size → (∀ j, j < cs.size → cur'[off + j]? = cs[j]?) → (∀ j, (j < off ∨ off + cs.size ≤ j) → cur'[j]? = old[j]?) → w.grownBy w' (some C) → wpList P ops Q rest (a.put op.dst undef) w') : wpList P ops Q (op :: rest) a w :=
  wpList_plain hgd fun _ hK => by
    unfold Oper.wp execOp
    have ht : w.there C off cs.size := fun j hj => ⟨by rw [hk.cell]; simp; omega, hk.frozen _⟩
    simp only [ho, hx, hy, Instr.storeAt, Instr.sureAddr, Sem.run_bind, Sem.run_pure, Result.andThen_ok, run_storeVar_mid w C off ty cs ht hi h1]
    have hh := Bk.setCells (C := C) (t := t) cs.toList off w old.toList (by simpa using hk)
    refine hK _ _ (h _ _ hh.1 ?_ (fun j hj => ?_) (fun j hj => ?_) hh.2)
    · simp [setFrom_len]
    · rw [List.getElem?_toArray, setFrom_in _ _ _ j (by simpa using hj) (by simpa using hc)]; simp
    · rw [List.getElem?_toArray, setFrom_out _ _ _ j (by simpa using hj)]; simp
theorem ret_int {k : IntKind} {a b : Int} (h : a = b) : Ending.returned (.int k a) = .returned (.int k b) := by rw [h]
theorem ret_bool {a b : Bool} (h : a = b) : Ending.returned (.bool a) = .returned (.bool b) := by rw [h]
theorem Tryd.own : ownKnob Tryd.prog.godebug = none := by kernel_rfl
theorem Tryd.laidOut : laidOutB Tryd.prog = true := by kernel_rfl
theorem size59 : (Tryd.prog.info? 106).map (·.size) = some 11 := by kernel_rfl
theorem size50 : (Tryd.prog.info? 101).map (·.size) = some 3 := by kernel_rfl
theorem size46 : (Tryd.prog.info? 85).map (·.size) = some 3 := by kernel_rfl
theorem size29 : (Tryd.prog.info? 59).map (·.size) = some 3 := by kernel_rfl
end Go.Proofs.YtebmhadpkncgfaaDoor
namespace Go.Proofs.YtebmhadpkncgfaaDoor
open Go.RowKit Go.Maps
theorem free_no (q : Value) (n : Nat) (c : Int) (w : World) (hL : LenIs w q n) (hc : isCell n c = false) : Calls Tryd.prog 83 #[q, .int .i64 c] w fun e w' => e = .returned (.int .i64 1) ∧ w = w' := by
  have HA := hdn (alive_no c n q w hc hL)
  clear hL hc
  unfold noCell at HA
  go_enter Tryd.func83, Tryd.ntmps83
  go_wp2_with (go_at_call 77; refine HA.out.mono ?_; rintro e w' ⟨rfl, rfl⟩)
  go_ret
  exact ⟨rfl, rfl⟩
theorem freeE_of {cs : List PC} {c k : Int} (h : faultC cs c = k) : freeE cs c = if k = 2 then 3 else k := by unfold freeE; rw [h]
/-- The row with one cell freed. -/
theorem free_row {F g cap : Nat} {w w' : World} {R : Nat → Prop} {cur cur' : Array Value} {fm : Nat → Option Nat} {cs : List PC} {i : Nat} {x : PC}
    (ha : (HeldK F).At w R g cap cur fm cs) (hl : ∀ k, R k → k < w.heap.size) (hi : cs[i]? = some x) (hg : w.grownBy w' (some g)) (hrow : Bk w' g 106 cur') (hsz : cur'.size = cur.size)
    (hin : ∀ j, j < 11 → cur'[i * 11 + j]? = (hcells (freed F x) none)[j]?) (hout : ∀ j, (j < i * 11 ∨ i * 11 + 11 ≤ j) → cur'[j]? = cur[j]?) :
    ∃ fm', (HeldK F).At w' R g cap cur' fm' (cs.set i (freed F x)) ∧ Stp w w' R R :=
  ⟨_, ha.put (S := fun k => some k = some g) (b' := none) hi (Gr.of_grown hg) hrow hsz hin hout ⟨by simp [freed, zeros], fun k => by show okI ((zeros F).getD k 0); rw [zeros_at]; rfl, fun k _ => zeros_at F k⟩ (fun k _ hk => .inl (by injection hk)) (fun _ h => h) hl (.inr (.inl rfl)), grownBy_stp hg ha.mine hl⟩
theorem at_zeros {c : PC} {F : Nat} (h : c.to = zeros F) (k : Nat) : c.at k = 0 := by unfold PC.at; rw [h]; exact zeros_at F k
theorem free_any (F b : Nat) (R : Nat → Prop) (cs : List PC) (v : Value) (c : Int) (w : World) (h : HIs w b R F cs v) (hn : cs.length ≤ maxLen) :
    Calls Tryd.prog 83 #[hp b, .int .i64 c] w (HPost F w b R (freeC F cs c) (.int .i64 (freeE cs c))) := by
  have hsame : ∀ k, HPost F w b R cs (.int .i64 k) (.returned (.int .i64 k)) w := fun k => ⟨rfl, R, v, h, HStp.refl _ _ _⟩
  rcases fault_ways cs c with ⟨hno, hf⟩ | ⟨i, x, rfl, hi, hil, hw⟩
  · rw [freeC_no F cs c (by rw [hf]; decide), freeE_of hf, if_neg (by decide)]
    refine (free_no _ _ c w h.len hno).mono ?_
    rintro e w' ⟨rfl, rfl⟩
    exact hsame _
  · obtain ⟨g, cap, cur, fm, rfl, ha⟩ := At.sl h.lie hi
    have hA := alive_at b R F cs _ _ g cap cur fm i x w h.top ha hi hil hn
    rcases hw with ⟨hx, hf⟩ | ⟨hx, hf⟩
    · rw [freeC_no F cs _ (by rw [hf]; decide), freeE_of hf, if_pos rfl]
      rw [hx, if_pos rfl] at hA
      have HA := hdn hA
      have HE := hdn (hsame 3)
      clear h ha hi hA hx hf hsame
      unfold noCell at HA
      go_enter Tryd.func83, Tryd.ntmps83
      go_wp2_with (go_at_call 77; refine HA.out.mono ?_; rintro e w' ⟨rfl, rfl⟩)
      go_ret
      exact HE.out
    · rw [hx, if_neg (by decide)] at hA
      have HA := hdn hA
      rw [freeC_at F cs i x hi hx, freeE_of hf, if_neg (by decide)]
      have hcs : i * 11 + 11 ≤ cur.size := by
        have h1 := ha.size; have h2 := ha.room
        have : (HeldK F).sz = 11 := rfl
        rw [this] at h1
        have := Nat.mul_le_mul_right 11 (Nat.le_trans (Nat.succ_le_of_lt hil) h2)
        omega
      have e0 : w.cell? ⟨g, i * 11, none⟩ = some (.int .i64 x.ty) := ha.at_cell hi 0 _ rfl
      obtain ⟨ar, har⟩ : ∃ ar : Array Value, ar = (hcells (freed F x) none).toArray := ⟨_, rfl⟩
      have har' : ar = #[.int .i64 x.ty, .bool true, .int .i64 0, .int .i64 0, .int .i64 0, .int .i64 0, .int .i64 0, .int .i64 0, .int .i64 0, .int .i64 0, .map none] := by
        rw [har]; unfold hcells; simp only [at_zeros (c := freed F x) (F := F) rfl]; rfl
      have HSZ : Hid ((Tryd.prog.info? 106).map (·.size) = some ar.size) := hdn (by rw [har']; exact size59)
      have hsz : ar.size = 11 := by rw [har']; rfl
      have HC : Hid (i * 11 + ar.size ≤ cur.size) := hdn (by rw [hsz]; exact hcs)
      have HON : Hid (ar.all (·.oneCell') = true) := hdn (by rw [har']; simp [Value.oneCell'])
      have hrow : Bk w g 106 cur := ha.row
      have HR := hdn hrow
      have hE : ∀ w' cur', Bk w' g 106 cur' → cur'.size = cur.size → (∀ j, j < ar.size → cur'[i * 11 + j]? = ar[j]?) → (∀ j, (j < i * 11 ∨ i * 11 + ar.size ≤ j) → cur'[j]? = cur[j]?) → w.grownBy w' (some g) → HPost F w b R (cs.set i (freed F x)) (.int .i64 0) (.returned (.int .i64 0)) w' := by
        intro w' cur' h1 h2 h3 h4 h5
        obtain ⟨fm', ha', hst⟩ := free_row ha h.lie.1 hi h5 h1 h2 (fun j hj => by rw [h3 j (by omega), har]; simp) (fun j hj => h4 j (by omega))
        exact ⟨rfl, R, _, ⟨hst.gr.bk h.top h.out, h.out, ⟨hst.lt, .inr ⟨g, cap, cur', fm', by rw [List.length_set], ha'⟩⟩⟩, HStp.of hst⟩
      have HE := hdn hE
      have HAR := hdn har'
      clear h ha hi hA hx hf hsame hcs har har' hsz hrow hE
      go_enter Tryd.func83, Tryd.ntmps83
      go_wp2_with (first | (go_at_call 77; refine HA.out.mono ?_; rintro e w' ⟨rfl, rfl⟩) | ((with_reducible show wpList _ _ _ (Oper.mk none (Op.store _ _ _) _ _ _ _ :: _) _ _); refine wpList_store_part rfl 106 (.tmp 24) (.tmp 23) rfl g (i * 11) 106 cur ar rfl (by rw [HAR.out]; rfl) HR.out HSZ.out HC.out HON.out ?_; intro w2 cur2 h1 h2 h3 h4 h5; have HZ := hdn (HE.out w2 cur2 h1 h2 h3 h4 h5); clear h1 h2 h3 h4 h5))
      go_ret
      exact HZ.out
end Go.Proofs.YtebmhadpkncgfaaDoor
namespace Go.Proofs.YtebmhadpkncgfaaDoor
open Go.RowKit Go.Maps
theorem z59 : ∃ i : TypeInfo, Tryd.prog.info? 106 = some i ∧ i.zero = some (.agg #[.int .i64 0, .bool false, .int .i64 0, .int .i64 0, .int .i64 0, .int .i64 0, .int .i64 0, .int .i64 0, .int .i64 0, .int .i64 0, .map none]) ∧ i.size = 11 ∧ i.bytes = 88 := by
  have h : (Tryd.prog.info? 106).map (fun i => (i.zero, i.size, i.bytes)) = some (some (.agg #[.int .i64 0, .bool false, .int .i64 0, .int .i64 0, .int .i64 0, .int .i64 0, .int .i64 0, .int .i64 0, .int .i64 0, .int .i64 0, .map none]), 11, 88) := by kernel_rfl
  obtain ⟨i, hi, hz⟩ := Option.map_eq_some_iff.1 h
  simp only [Prod.mk.injEq] at hz
  exact ⟨i, hi, hz.1, hz.2.1, hz.2.2⟩
abbrev newA (t : Int) : Array Value := #[.int .i64 t, .bool false, .int .i64 0, .int .i64 0, .int .i64 0, .int .i64 0, .int .i64 0, .int .i64 0, .int .i64 0, .int .i64 0, .map none]
theorem newA_is (F : Nat) (t : Int) : (newA t).toList = hcells (newC F t) none := by
  unfold hcells; simp only [at_zeros (c := newC F t) (F := F) rfl]; rfl
theorem newC_sub (F : Nat) (t : Int) (w : World) : (HeldK F).sub w (newC F t) none :=
  ⟨by simp [newC, zeros], fun k => by show okI ((zeros F).getD k 0); rw [zeros_at]; rfl, fun k _ => zeros_at F k⟩
/-- The heap with one cell more. -/
theorem add_post {F b : Nat} {R : Nat → Prop} {cs : List PC} {v : Value} {t : Int} {w : World} (h : HIs w b R F cs v) {wA : World} (hA : Below w.heap.size w wA) {ys : List Value} {g cap : Nat} {w1 : World}
    (hys : (v = .slice none 0 0 ∧ cs = []) ∨ ∃ g cap cur fm, v = .slice (some ⟨g, 0, none⟩) cs.length cap ∧ (HeldK F).At wA R g cap cur fm cs ∧ ∀ j, j < cs.length * 11 → ys[j]? = cur[j]?) (hyl : ys.length = cs.length * 11)
    (hown : w1.ownsRow 0 106 11 (.slice (some ⟨g, 0, none⟩) (cs.length + 1) cap) (cs.length + 1) (ys ++ (newA t).toList)) (hg : wA.grownBy w1 v.ownBlock) (hat : v.ownBlock = some g ∨ g = wA.heap.size) (hlt : g < w1.heap.size) :
    Bk w1 b 101 #[.bool true, .int .i64 F, v] ∧ HPost F w b R (cs ++ [newC F t]) (.int .i64 (cs.length + 1 : Nat)) (.returned (.int .i64 (cs.length + 1 : Nat))) (w1.setCell ⟨b, 2, none⟩ (.slice (some ⟨g, 0, none⟩) (cs.length + 1) cap)) := by
  have htopA : Bk wA b 101 #[.bool true, .int .i64 F, v] := h.top.below hA h.top.lt
  have hvb : ∀ k, some k = v.ownBlock → R k := by
    intro k hk
    rcases h.lie.2 with ⟨e, _⟩ | ⟨g0, cap0, cur0, fm0, e, ha0⟩
    · rw [e] at hk; cases hk
    · rw [e] at hk; simp only [Value.ownBlock] at hk; injection hk with hk; subst hk; exact ha0.mine
  have hvb' : some b ≠ v.ownBlock := fun e => h.out (hvb b e)
  have hbA : b < wA.heap.size := htopA.lt
  have htop1 : Bk w1 b 101 #[.bool true, .int .i64 F, v] := (hg.block b hbA hvb').trans htopA
  have hlieA : (HeldK F).Lie wA R v cs := h.lie.below hA
  have hgb : g ≠ b := by
    intro e
    rcases hat with h1 | h1
    · exact hvb' (by rw [h1, e])
    · omega
  have hl1 := Kin.Lie.push (K := HeldK F) (R' := fun k => R k ∨ k = g) (x' := newC F t) (b' := none) hlieA hys hyl (by have := hown; rw [newA_is F t] at this; exact this) hg hat (Nat.le_refl _) (newC_sub F t w1) (by intro m e; cases e) (fun _ h => .inl h) (.inr rfl)
    (fun k hk => by
      rcases hk with hk | hk
      · exact Nat.lt_of_lt_of_le (hlieA.1 k hk) hg.size
      · subst hk; exact hlt)
  have hgs : w1.grownBy (w1.setCell ⟨b, 2, none⟩ (.slice (some ⟨g, 0, none⟩) (cs.length + 1) cap)) (some b) := grownBy_setC w1 _ _
  refine ⟨htop1, rfl, fun k => R k ∨ k = g, _, ⟨htop1.set_ 2 _, ?_, hl1.gr (Gr.of_grown hgs) ?_⟩, ?_, fun _ h => .inl h, ?_⟩
  · rintro (hb | hb)
    · exact h.out hb
    · exact hgb hb.symm
  · rintro k (hk | hk) e
    · injection e with e; subst e; exact h.out hk
    · injection e with e; subst e; exact hgb hk.symm
  · exact ((Gr.of_below (S := fun k => k = b ∨ R k) hA).grown hg (fun i _ e => .inr (hvb i e))).setCell (fun _ => .inl rfl) _
  · rintro k (hk | hk)
    · exact .inl hk
    · rcases hat with h1 | h1
      · exact .inl (hvb k (by rw [hk, h1]))
      · exact .inr (by have := hA.size; omega)
theorem add_any (F b : Nat) (R : Nat → Prop) (cs : List PC) (v : Value) (t : Int) (w : World) (h : HIs w b R F cs v) (hn : cs.length ≤ 2000000) :
    Calls Tryd.prog 82 #[hp b, .int .i64 t] w (HPost F w b R (cs ++ [newC F t]) (.int .i64 (cs.length + 1 : Nat))) := by
  obtain ⟨i, hi, hz, hs, hb⟩ := z59
  have hA : Below w.heap.size w (w.alloc (.cells (newA t) 106)) := (Below.refl _ _).alloc (Nat.le_refl _) _
  obtain ⟨ys, hys0, hyl, hys⟩ := (h.lie.below hA).owns (base := 0) (fun _ _ => Nat.zero_le _)
  have HP := hdn (fun g cap w1 => add_post (t := t) h hA (g := g) (cap := cap) (w1 := w1) hys hyl)
  have HO := hdn hys0
  have HN : Hid (∀ j u, (newA t).toList[j]? = some u → (w.alloc (.cells (newA t) 106)).cell? ((⟨w.heap.size, 0, none⟩ : Addr).add j) = some u) := hdn (fun j u hu => by
    have e : ((⟨w.heap.size, 0, none⟩ : Addr).add j) = ⟨w.heap.size, j, none⟩ := by rw [Addr.add_mid]; simp
    rw [e]
    exact (World.cell?_alloc_at _ _ _ _ rfl).trans (by simpa using hu))
  have c0 : w.cell? ⟨b, 0, none⟩ = some (.bool true) := h.top.cell 0
  have c2 : w.cell? ⟨b, 2, none⟩ = some v := h.top.cell 2
  have hbl : b < w.heap.size := h.top.lt
  have d2 : (w.alloc (.cells (newA t) 106)).cell? ⟨b, 2, none⟩ = some v := (h.top.below hA hbl).cell 2
  have hn1 : cs.length + 1 ≤ maxLen := by unfold maxLen; omega
  have hn2 : (cs.length + 1) * 88 ≤ 140737488355328 := by omega
  have e1 : (w.alloc (.cells (newA t) 106)).heap.size = w.heap.size + 1 := by simp
  have HE1 := hdn e1
  have H1 : Hid (∀ u ∈ (newA t).toList, u.oneCell' = true) := hdn (by intro u hu; simp at hu; rcases hu with rfl | rfl | rfl | rfl <;> rfl)
  clear h hA hys hyl hys0 e1
  unfold hp
  go_enter Tryd.func82, Tryd.ntmps82
  go_wp2_with (at_builtin; refine wpList_append_lies _ rfl _ _ 99 rfl 0 106 i _ 11 88 Tryd.underlying99 hi hz hs hb rfl (by decide) v cs.length ys rfl HO.out _ 1 1 (newA t).toList rfl rfl HN.out H1.out (by decide) hn1 hn2 (Nat.zero_le _) _ rfl ?_; intro g cap w1 q1 q2 q3 q4; obtain ⟨t1, hq⟩ := HP.out g cap w1 q1 q2 q3 q4; have f1 := t1.frozen 2; have t2 := t1.cell 2; have HZ := hdn hq; have HT := hdn t1; clear q1 q2 q3 q4 t1 hq)
  go_ret
  exact HZ.out
end Go.Proofs.YtebmhadpkncgfaaDoor
namespace Go.Proofs.YtebmhadpkncgfaaDoor
open Go.RowKit Go.Maps
def ints (l : List Int) : List Value := l.map (Value.int .i64)
theorem made_zeros (F : Nat) : madeCells #[.int .i64 0] F = (ints (zeros F)).toArray := by
  refine Array.ext' ?_
  rw [toList_madeCells_one]
  simp [ints, zeros]
/-- A cell's places, but for those that are still to come. -/
def mid (F : Nat) (c : PC) (left : Lit → Bool) : List Int := (List.range F).map fun j => if 8 ≤ j ∧ left (IK j) = true then 0 else c.at j
theorem mid_len (F : Nat) (c : PC) (left : Lit → Bool) : (mid F c left).length = F := by simp [mid]
theorem mid_get (F : Nat) (c : PC) (left : Lit → Bool) (j : Nat) (h : j < F) : (mid F c left)[j]? = some (if 8 ≤ j ∧ left (IK j) = true then 0 else c.at j) := by simp [mid, h]
theorem mid_end (F : Nat) (c : PC) (hl : c.to.length = F) : mid F c (fun _ => false) = c.to := by
  refine List.ext_getElem? fun j => ?_
  by_cases h : j < F
  · rw [mid_get F c _ j h, at_get c j (by omega), if_neg (by simp)]
  · rw [List.getElem?_eq_none (by rw [mid_len]; omega), List.getElem?_eq_none (by omega)]
/-- Behind the copy of the near ones. -/
theorem mid_start (F : Nat) (c : PC) (left : Lit → Bool) (h : ∀ j, 8 ≤ j → j < F → left (IK j) = false → c.at j = 0) :
    splice (ints (zeros F)) 0 (ints ((List.range (Nat.min 8 F)).map c.at)) = ints (mid F c left) := by
  refine List.ext_getElem? fun j => ?_
  unfold splice ints
  have hn : Nat.min 8 F = min 8 F := rfl
  rw [List.take_zero, List.nil_append, List.getElem?_map]
  by_cases hj : j < F
  · rw [mid_get F c left j hj]
    by_cases h8 : j < 8
    · rw [List.getElem?_append_left (by simp; omega), if_neg (by omega), List.getElem?_map, List.getElem?_map, List.getElem?_range (by omega)]; rfl
    · rw [List.getElem?_append_right (by simp; omega), List.getElem?_drop]
      have : (List.map (Value.int IntKind.i64) (zeros F))[0 + (List.map (Value.int IntKind.i64) (List.map c.at (List.range (Nat.min 8 F)))).length + (j - (List.map (Value.int IntKind.i64) (List.map c.at (List.range (Nat.min 8 F)))).length)]? = some (.int .i64 0) := by
        rw [List.getElem?_map]
        unfold zeros
        rw [List.getElem?_replicate, if_pos (by simp; omega)]; rfl
      rw [this]
      by_cases hl : left (IK j) = true
      · rw [if_pos ⟨by omega, hl⟩]; rfl
      · rw [if_neg (fun e => hl e.2), h j (by omega) hj (by simpa using hl)]; rfl
  · rw [List.getElem?_eq_none (by simp [zeros]; omega), List.getElem?_eq_none (by rw [mid_len]; omega)]; rfl
theorem mid_step (F k : Nat) (c : PC) (left : Lit → Bool) : (ints (mid F c left)).toArray.setIfInBounds k (.int .i64 (c.at k)) = (ints (mid F c (fun z => left z && !z.sameKey (IK k)))).toArray := by
  refine Array.ext_getElem? fun j => ?_
  rw [Array.getElem?_setIfInBounds, List.getElem?_toArray, List.getElem?_toArray]
  unfold ints
  rw [List.getElem?_map, List.getElem?_map]
  by_cases hj : j < F
  · rw [mid_get F c _ j hj, mid_get F c _ j hj]
    by_cases e : k = j
    · subst e
      have hs : (IK k).sameKey (IK k) = true := by simp [IK, Lit.sameKey]
      rw [if_pos rfl, if_pos (by simpa [mid_len] using hj), if_neg (by rw [hs]; simp)]; rfl
    · rw [if_neg e]
      have hs : (IK j).sameKey (IK k) = false := sameKey_ne (IK_ne (Ne.symm e))
      rw [hs]; simp
  · rw [List.getElem?_eq_none (by rw [mid_len]; omega), List.getElem?_eq_none (by rw [mid_len]; omega)]
    by_cases e : k = j
    · subst e; rw [if_pos rfl, if_neg (by simp [mid_len]; omega)]; rfl
    · rw [if_neg e]
theorem left_has {w : World} {m r n cnt : Nat} {D : DataW Unit} {left : Lit → Bool} (h : w.ranges Tryd.prog 3 (plainElem Tryd.prog 3) m r n D left cnt) (kl : Lit) (hk : left kl = true) : has D kl = true := by
  obtain ⟨es, clock, since, seen, c0, hb, F, hs, hD, hr, hold, hc, hl1, hl2, _⟩ := h
  obtain ⟨x, hx, rfl⟩ := hl2 kl hk
  obtain ⟨y, hy⟩ := F.reads x hx
  rw [hD]
  refine List.any_eq_true.2 ⟨_, mem_sorted.2 (List.mem_map.2 ⟨x, hx, rfl⟩), WideAt.sameKey_self ?_⟩
  rw [Go.WideElems.rg_of hy]
  exact law3.key (Go.WideElems.rd_key hy)
theorem not_has_at {D : DataW Unit} {kl : Lit} (h : has D kl = false) (z : DataW Unit) : D.atKey kl z = z := atKey_of_not_has h z
end Go.Proofs.YtebmhadpkncgfaaDoor
namespace Go.Proofs.YtebmhadpkncgfaaDoor
open Go.RowKit Go.Maps
theorem i3 : ∃ i : TypeInfo, Tryd.prog.info? 3 = some i ∧ i.zero = some (.int .i64 0) ∧ i.size = 1 ∧ i.bytes = 8 := by
  have h : (Tryd.prog.info? 3).map (fun i => (i.zero, i.size, i.bytes)) = some (some (.int .i64 0), 1, 8) := by kernel_rfl
  obtain ⟨i, hi, hz⟩ := Option.map_eq_some_iff.1 h
  simp only [Prod.mk.injEq] at hz
  exact ⟨i, hi, hz.1, hz.2.1, hz.2.2⟩
theorem size3 : (Tryd.prog.info? 3).map (·.size) = some 1 := by kernel_rfl
theorem make44 (F : Nat) (w : World) (h : F ≤ 2000000) : (Instr.makeSlice 28 (.int .i64 F) (.int .i64 F)).run Tryd.prog w = .ok (.slice (some ⟨w.heap.size, 0, none⟩) F F) (w.alloc (.cells (ints (zeros F)).toArray 3)) := by
  obtain ⟨i, hi, hz, hs, hb⟩ := i3
  rw [← made_zeros]
  exact run_make_row (P := Tryd.prog) 28 3 i (.int .i64 0) Tryd.underlying28 hi hz hs rfl .i64 .i64 F (by rw [hb]; omega) (by omega) w
theorem owns_below {w w2 : World} {m F : Nat} {D : DataW Unit} (h : w.ownsMap Tryd.prog 3 (plainElem Tryd.prog 3) m F D) (hm : m < w.heap.size) (hb : Below w.heap.size w w2) : w2.ownsMap Tryd.prog 3 (plainElem Tryd.prog 3) m F D := by
  obtain ⟨es, clock, hbm, rest⟩ := h
  exact ⟨es, clock, (hb.block m hm).trans hbm, rest⟩
theorem owns_gr {w w2 : World} {S : Nat → Prop} {m F : Nat} {D : DataW Unit} (h : w.ownsMap Tryd.prog 3 (plainElem Tryd.prog 3) m F D) (hg : Gr w w2 S) (hS : ¬ S m) : w2.ownsMap Tryd.prog 3 (plainElem Tryd.prog 3) m F D := by
  obtain ⟨es, clock, hbm, rest⟩ := h
  exact ⟨es, clock, (hg.block m (Array.getElem?_eq_some_iff.1 hbm).1 hS).trans hbm, rest⟩
/-- A row of numbers, a stretch of it shown. -/
def rowP (pre l post : List Int) : Array Value := (ints (pre ++ (l ++ post))).toArray
theorem rowP_get (pre l post : List Int) (k : Nat) (h : k < l.length) : (rowP pre l post)[pre.length + k]? = (ints l)[k]? := by
  unfold rowP ints
  rw [List.getElem?_toArray, List.getElem?_map, List.getElem?_append_right (by omega), Nat.add_sub_cancel_left, List.getElem?_append_left h, List.getElem?_map]
theorem rowP_set (pre l post : List Int) (k : Nat) (x : Int) (h : k < l.length) : (rowP pre l post).setIfInBounds (pre.length + k) (.int .i64 x) = rowP pre (l.set k x) post := by
  unfold rowP ints
  rw [List.setIfInBounds_toArray, ← List.map_set, List.set_append_right _ _ (by omega), Nat.add_sub_cancel_left, List.set_append_left _ _ h]
theorem mid_set (F k : Nat) (c : PC) (left : Lit → Bool) : (mid F c left).set k (c.at k) = mid F c (fun z => left z && !z.sameKey (IK k)) := by
  have h := mid_step F k c left
  have h2 : ints ((mid F c left).set k (c.at k)) = ints (mid F c (fun z => left z && !z.sameKey (IK k))) := by
    have : (ints ((mid F c left).set k (c.at k))).toArray = (ints (mid F c (fun z => left z && !z.sameKey (IK k)))).toArray := by
      rw [← h]; unfold ints; rw [List.setIfInBounds_toArray, List.map_set]
    simpa using this
  unfold ints at h2
  exact (List.map_inj_right (fun a b e => by injection e)).1 h2
theorem splice_mid {α : Type} (pre l post cs : List α) (h : cs.length ≤ l.length) : splice (pre ++ (l ++ post)) pre.length cs = pre ++ (splice l 0 cs ++ post) := by
  unfold splice
  rw [List.take_left', List.drop_append, List.take_zero, List.nil_append, Nat.zero_add]
  · rw [List.drop_eq_nil_of_le (by omega), List.nil_append, Nat.add_sub_cancel_left, List.drop_append_of_le_length h, List.append_assoc]
  · rfl
/-- A copy into an elder row. -/
theorem wpList_copy_gr {P : Program} {w : World} {ops : Array Oper} {rest : List Oper} {o : Oper} {a : Act} {Q : Exit → Act → World → Prop} (hgd : o.guard = none) (d s : Operand) (dT sT : TypeId)
    (ho : o.op = .call { callee := .builtin .copy, args := #[d, s], argTypes := #[dT, sT] }) (elem : TypeId) (hu : P.underlying dT = some (.slice elem)) (hsz : (P.info? elem).map (·.size) = some 1)
    (dp sp : Option Addr) (dLen dCap sLen sCap : Nat) (hd : a.eval d = .slice dp dLen dCap) (hs : a.eval s = .slice sp sLen sCap)
    (g off : Nat) (cur : List Value) (t : TypeId) (hg : Bk w g t cur.toArray) (cs : List Value) (hn : cs.length = Nat.min sLen dLen)
    (hpos : 0 < cs.length → dp = some ⟨g, off, none⟩ ∧ ∃ ad, sp = some ad ∧ ∀ j v, cs[j]? = some v → w.cell? (ad.add j) = some v)
    (hfit : off + cs.length ≤ cur.length) (h1 : ∀ v ∈ cs, v.oneCell' = true)
    (h : ∀ w', Hid (Bk w' g t (splice cur off cs).toArray) → Hid (Gr w w' (fun k => k = g)) → wpList P ops Q rest (a.put o.dst (goInt cs.length)) w') :
    wpList P ops Q (o :: rest) a w := by
  by_cases h0 : cs.length = 0
  · obtain rfl : cs = [] := List.eq_nil_of_length_eq_zero h0
    refine wpList_copy_nothing hgd d s dT sT ho elem hu hsz dp sp dLen dCap sLen sCap hd hs (by simpa using hn.symm) ?_
    exact h w (show _ = _ by have : w.heap[g]? = _ := hg; simpa [splice] using this) (hdn (Gr.refl _ _))
  · obtain ⟨rfl, ad, rfl, hsrc⟩ := hpos (by omega)
    refine wpList_copy_own hgd d s dT sT ho elem hu hsz g off dLen dCap ad sLen sCap hd hs cur.toArray t hg cs hn hsrc (by simpa using hfit) h1 ?_
    exact h _ (show _ = _ by simpa [splice] using setRow_heap w g _ _ t _ hg) (hdn ⟨rfl, rfl, rfl, by simp [World.setRow], fun k _ hk => setRow_other w g k _ hk⟩)
def plP (w : World) (B : Nat) (pre post : List Int) (c : PC) (e : Ending) (w' : World) : Prop :=
  e = .returned (.tuple #[]) ∧ Bk w' B 3 (rowP pre c.to post) ∧ Gr w w' (fun k => k = B)
theorem rowP_cell {w : World} {B F : Nat} {pre post : List Int} {c : PC} {left : Lit → Bool} (h : Bk w B 3 (rowP pre (mid F c left) post)) (k : Nat) (hk : k < F) : ∃ u, w.cell? ⟨B, pre.length + k, none⟩ = some u := by
  rw [h.cell, rowP_get _ _ _ _ (by rw [mid_len]; exact hk)]
  unfold ints
  rw [List.getElem?_map, mid_get F c left k hk]
  exact ⟨_, rfl⟩
theorem places_any (F g o B : Nat) (c : PC) (far : Option Nat) (pre post : List Int) (w : World) (hr : w.rangeAt g o (hcells c far)) (hg : g < w.heap.size) (hgB : g ≠ B) (hfB : far ≠ some B) (hs : (HeldK F).sub w c far)
    (hB : Bk w B 3 (rowP pre (zeros F) post)) :
    Calls Tryd.prog 67 #[.pointer (some ⟨g, o, none⟩), .slice (some ⟨B, pre.length, none⟩) F F] w (plP w B pre post c) := by
  have HR1 : Hid (Bk w B 3 (ints pre ++ (ints (zeros F) ++ ints post)).toArray) := hdn (by unfold rowP at hB; unfold ints at hB ⊢; simpa using hB)
  have hl : c.to.length = F := hs.1
  have hpre : (ints pre).length = pre.length := by simp [ints]
  have hcopy : ∀ j v, (ints ((List.range (Nat.min 8 F)).map c.at))[j]? = some v → w.cell? ((⟨g, o + 2, none⟩ : Addr).add j) = some v := by
    intro j v hj
    unfold ints at hj
    rw [List.getElem?_map, List.getElem?_map] at hj
    have hj8 : j < Nat.min 8 F := by
      rcases Nat.lt_or_ge j (Nat.min 8 F) with h | h
      · exact h
      · rw [List.getElem?_eq_none (by simpa using h)] at hj; simp at hj
    have h8 : j < 8 := Nat.lt_of_lt_of_le hj8 (Nat.min_le_left _ _)
    rw [List.getElem?_range hj8] at hj
    have hv : v = .int .i64 (c.at j) := by simpa using hj.symm
    rw [Addr.add_mid, hv, Nat.add_assoc]
    exact hr _ _ (hcells_near c far j h8)
  have HC := hdn hcopy
  have HCL : Hid ((ints ((List.range (Nat.min 8 F)).map c.at)).length = Nat.min 8 F) := hdn (by simp [ints])
  have hcl : (ints ((List.range (Nat.min 8 F)).map c.at)).length ≤ (ints (zeros F)).length := by simp [ints, zeros]; exact Nat.min_le_right _ _
  have HFIT : Hid (pre.length + (ints ((List.range (Nat.min 8 F)).map c.at)).length ≤ (ints pre ++ (ints (zeros F) ++ ints post)).length) := hdn (by rw [List.length_append, List.length_append, hpre]; omega)
  have H1 : Hid (∀ v ∈ ints ((List.range (Nat.min 8 F)).map c.at), v.oneCell' = true) := hdn (by intro v hv; obtain ⟨x, _, rfl⟩ := List.mem_map.1 hv; rfl)
  have hspl := splice_mid (ints pre) (ints (zeros F)) (ints post) (ints ((List.range (Nat.min 8 F)).map c.at)) hcl
  rw [hpre] at hspl
  have he10 : w.cell? ⟨g, o + 10, none⟩ = some (.map far) := hr 10 _ rfl
  have HG : Hid (∀ w2, Gr w w2 (fun k => k = B) → w2.cell? ⟨g, o + 10, none⟩ = some (.map far)) := hdn (fun w2 h => (World.cell?_of_block (a := ⟨g, o + 10, none⟩) (h.block g hg hgB)).trans he10)
  have HL := hdn hl
  have HMS : ∀ left, (∀ j, 8 ≤ j → j < F → left (IK j) = false → c.at j = 0) → splice (ints pre ++ (ints (zeros F) ++ ints post)) pre.length (ints ((List.range (Nat.min 8 F)).map c.at)) = ints (pre ++ (mid F c left ++ post)) := fun left h => by
    rw [hspl, mid_start F c left h]; unfold ints; rw [List.map_append, List.map_append]
  cases far with
  | none =>
    have hz8 : ∀ k, 8 ≤ k → c.at k = 0 := hs.2.2
    have HM : Hid (splice (ints pre ++ (ints (zeros F) ++ ints post)) pre.length (ints ((List.range (Nat.min 8 F)).map c.at)) = ints (pre ++ (c.to ++ post))) := hdn ((HMS (fun _ => false) (fun j h8 _ _ => hz8 j h8)).trans (by rw [mid_end F c hl]))
    clear hB hcopy hs hr hg hl hz8 he10 hspl HMS hcl hpre
    go_enter Tryd.func67, Tryd.ntmps67
    go_wp2_with (first | (with_reducible refine wpList_copy_gr rfl (.tmp 6) (.tmp 10) 28 28 rfl 3 Tryd.underlying28 size3 (some ⟨B, pre.length, none⟩) (some ⟨g, o + 2, none⟩) F F 8 8 rfl rfl B pre.length (ints pre ++ (ints (zeros F) ++ ints post)) 3 HR1.out _ HCL.out (fun _ => ⟨rfl, _, rfl, HC.out⟩) HFIT.out H1.out ?_; intro w2 hw2 hb2; have h10 : w2.cell? ⟨g, o + 10, none⟩ = some (.map none) := HG.out w2 hb2.out; have hrg := run_range_nilMap (P := Tryd.prog) w2 104 3 3 Tryd.underlying104; have hnx : ∀ ty, (Instr.next (.pointer (some ⟨w2.heap.size, 0, none⟩)) false ty).run Tryd.prog (w2.alloc (.mapIter none 0 #[] 0)) = _ := fun ty => run_next_nilMap _ ty 0 0 #[]))
    refine wp_loop_rounds 1 ?_
    rw [rounds_succ]
    go_wp2
    go_end0
    have hw := hw2.out
    rw [HM.out] at hw
    exact ⟨rfl, (MapKept.heap_alloc w2 _).2 _ (Array.getElem?_eq_some_iff.1 hw).1 |>.trans hw, hb2.out.alloc _⟩
  | some m =>
    obtain ⟨D, hown, hD⟩ := hs.2.2
    have hmB : m ≠ B := fun e => hfB (by rw [e])
    have hstart : ∀ j, 8 ≤ j → j < F → has D (IK j) = false → c.at j = 0 := fun j h8 hj hh => by
      have := hD.1 j h8 hj
      rw [not_has_at hh] at this
      exact (lit_inj this).symm
    have HM := hdn (HMS (has D) hstart)
    have HO := hdn hown
    have HD := hdn hD
    have HMB := hdn hmB
    have HML := hdn hown.lt
    clear hB hcopy hs hr hg hl he10 hown hD hstart hspl HMS hcl hpre hmB hgB hfB
    go_enter Tryd.func67, Tryd.ntmps67
    go_wp2_with (first | (with_reducible refine wpList_copy_gr rfl (.tmp 6) (.tmp 10) 28 28 rfl 3 Tryd.underlying28 size3 (some ⟨B, pre.length, none⟩) (some ⟨g, o + 2, none⟩) F F 8 8 rfl rfl B pre.length (ints pre ++ (ints (zeros F) ++ ints post)) 3 HR1.out _ HCL.out (fun _ => ⟨rfl, _, rfl, HC.out⟩) HFIT.out H1.out ?_; intro w2 hw2 hb2; have h10 : w2.cell? ⟨g, o + 10, none⟩ = some (.map (some m)) := HG.out w2 hb2.out; have HO2 := hdn (owns_gr HO.out hb2.out HMB.out)) | (at_range; refine wpList_range_own _ rfl _ 104 rfl 3 3 law3 Tryd.underlying104 _ m F D rfl HO2.out ?_; intro w0 hrg0 hg0 hs0; have HRG := hdn hrg0; have HG0 := hdn hg0; clear hrg0 hg0 hs0))
    try go_frame
    have hbk : Bk w2 B 3 (rowP pre (mid F c (has D)) post) := by
      have := hw2.out
      rw [HM.out] at this
      exact this
    have HBK : Hid (Bk w0 B 3 (rowP pre (mid F c (has D)) post)) := hdn ((HG0.out.block _ hbk.lt (by simp)).trans hbk)
    have HB0 : Hid (Gr w w0 (fun k => k = B)) := hdn (hb2.out.grown HG0.out (fun j _ hj => by cases hj))
    have HR2 : Hid (w.heap.size ≤ w2.heap.size) := hdn hb2.out.size
    have HRN : Hid (B ≠ w2.heap.size) := hdn (by have := hbk.lt; omega)
    clear hbk hw2 h10
    generalize w2.heap.size = r at HRG HR2 HRN ⊢
    go_loopw [4, 5] (fun _ _ wr => ∃ (left : Lit → Bool) (cnt : Nat), Hid (wr.ranges Tryd.prog 3 (plainElem Tryd.prog 3) m r F D left cnt) ∧ Hid (Bk wr B 3 (rowP pre (mid F c left) post)) ∧ Hid (Gr w wr (fun k => k = B)))
      (fun _ _ wr => wr.rangeLeft m r)
    case atStart => exact ⟨_, _, HRG, HBK, HB0⟩
    case round =>
      obtain ⟨left, cnt, hrg, hbk, hnx⟩ := hrel
      go_wp2_with (at_next; refine wpList_next_ranges_ii _ rfl _ rfl 3 3 .i64 .i64 law3 Tryd.underlying3 Tryd.underlying3 m r F D left cnt rfl hrg.out ?_ ?_)
      · intro hc0 hl0
        have HL0 := hdn hl0
        clear hc0 hl0
        go_wp2
        go_end0
        have e : left = fun _ => false := funext HL0.out
        have hb := hbk.out
        rw [e, mid_end F c HL.out] at hb
        exact ⟨rfl, hb, hnx.out⟩
      · intro x cc w1 cnt1 hwx hwc hlx hat hrg1 hlt hg1 hs1 hen
        obtain ⟨k, h8, hkF, hxk⟩ := HD.out.2 _ (left_has hrg.out _ hlx)
        obtain rfl : x = (k : Int) := by unfold IK at hxk; injection hxk
        have hck : cc = c.at k := lit_inj ((hat zI).symm.trans (HD.out.1 k h8 hkF))
        subst hck
        have HRG1 := hdn hrg1
        have hbk1 : Bk w1 B 3 (rowP pre (mid F c left) post) := (hg1.block _ hbk.out.lt (by intro e; injection e with e; exact HRN.out e)).trans hbk.out
        have hf : w1.frozen? ⟨B, pre.length + k, none⟩ = false := hbk1.frozen _
        obtain ⟨u0, hcl⟩ := rowP_cell hbk1 k hkF
        have HBK2 : Hid (Bk (w1.setCell ⟨B, pre.length + k, none⟩ (.int .i64 (c.at k))) B 3 (rowP pre (mid F c (fun z => left z && !z.sameKey (IK k))) post)) := hdn (by
          have := hbk1.set_ (pre.length + k) (.int .i64 (c.at k))
          rwa [rowP_set _ _ _ _ _ (by rw [mid_len]; exact hkF), mid_set F k c left] at this)
        have HNX : Hid (Gr w (w1.setCell ⟨B, pre.length + k, none⟩ (.int .i64 (c.at k))) (fun k => k = B)) := hdn ((hnx.out.grown hg1 (fun j hj e => by injection e with e; subst e; have := HR2.out; omega)).setCell (fun _ => rfl) _)
        have HRG2 : Hid ((w1.setCell ⟨B, pre.length + k, none⟩ (.int .i64 (c.at k))).ranges Tryd.prog 3 (plainElem Tryd.prog 3) m r F D (fun z => left z && !z.sameKey (IK k)) cnt1) := hdn (hrg1.kept (grownBy_setC w1 _ _) (by intro e; injection e with e; exact HMB.out e) (by intro e; injection e with e; exact HRN.out (Eq.symm e)))
        have HLT : Hid ((w1.setCell ⟨B, pre.length + k, none⟩ (.int .i64 (c.at k))).rangeLeft m r < wr.rangeLeft m r) := hdn (by rw [HRG2.out.left_eq, hrg.out.left_eq]; exact hlt)
        have hk0 : (0 : Int) ≤ (k : Int) := Int.natCast_nonneg _
        have hkF' : (k : Int) < (F : Int) := by omega
        clear hwx hwc hlx hat hrg1 hlt hg1 hs1 hxk hbk1
        go_wp2_with fail
        go_roundw
        case rel => exact ⟨_, cnt1, HRG2, HBK2, HNX⟩
        case measure => exact HLT.out
end Go.Proofs.YtebmhadpkncgfaaDoor
namespace Go.Proofs.YtebmhadpkncgfaaDoor
open Go.RowKit Go.Maps
theorem Kin.At.snoc {α β : Type} {K : Kin α β} {w w' : World} {R R' S : Nat → Prop} {g cap : Nat} {cur cur' : Array Value} {fm : Nat → β} {xs : List α} (h : K.At w R g cap cur fm xs) {x' : α} {b' : β}
    (hg : Gr w w' S) (hrow : Bk w' g K.T cur') (hsz : cur'.size = cur.size) (hroom : xs.length < cap)
    (hin : ∀ j, j < K.sz → cur'[xs.length * K.sz + j]? = (K.cells x' b')[j]?) (hout : ∀ j, j < xs.length * K.sz → cur'[j]? = cur[j]?) (hsub : K.sub w' x' b')
    (hS : ∀ k, k < w.heap.size → S k → k = g) (hb : ∀ m, K.blk b' = some m → m ≠ g ∧ R' m ∧ ∀ i, i < xs.length → K.blk (fm i) ≠ some m) (hR : ∀ k, R k → R' k) :
    K.At w' R' g cap cur' (fun k => if k = xs.length then b' else fm k) (xs ++ [x']) where
  row := hrow
  mine := hR _ h.mine
  room := by simp; omega
  most := h.most
  size := hsz.trans h.size
  cell i x hi j hj := by
    by_cases e : i = xs.length
    · subst e
      simp at hi; subst hi
      simp only [if_pos]; exact hin j hj
    · have hil : i < xs.length := by have := (List.getElem?_eq_some_iff.1 hi).1; simp at this; omega
      rw [List.getElem?_append_left hil] at hi
      simp only [if_neg e]
      have hlt : i * K.sz + j < xs.length * K.sz := by
        have := Nat.mul_le_mul_right K.sz (Nat.succ_le_of_lt hil)
        rw [Nat.succ_mul] at this; omega
      rw [hout _ hlt]
      exact h.cell i x hi j hj
  sub i x hi := by
    by_cases e : i = xs.length
    · subst e
      simp at hi; subst hi
      simp only [if_pos]; exact hsub
    · have hil : i < xs.length := by have := (List.getElem?_eq_some_iff.1 hi).1; simp at this; omega
      rw [List.getElem?_append_left hil] at hi
      simp only [if_neg e]
      exact K.keep w w' x _ (h.sub i x hi) hg.size fun m hm => hg.block m (K.has w x _ m (h.sub i x hi) hm) fun hs => (h.own i m hil hm).2 (hS m (K.has w x _ m (h.sub i x hi) hm) hs)
  own i m hi hm := by
    by_cases e : i = xs.length
    · simp only [if_pos e] at hm
      exact ⟨(hb m hm).2.1, (hb m hm).1⟩
    · have hil : i < xs.length := by simp at hi; omega
      simp only [if_neg e] at hm
      exact ⟨hR _ (h.own i m hil hm).1, (h.own i m hil hm).2⟩
  apart i j m hij hj hm hm' := by
    have hjl : j < xs.length + 1 := by simpa using hj
    have e : i ≠ xs.length := by omega
    simp only [if_neg e] at hm
    by_cases e' : j = xs.length
    · simp only [if_pos e'] at hm'
      exact (hb m hm').2.2 i (by omega) hm
    · simp only [if_neg e'] at hm'
      exact h.apart i j m hij (by omega) hm hm'
theorem ownsRow_lt {w : World} {base : Nat} {e : TypeId} {size : Nat} {v : Value} {n m : Nat} {xs : List Value} (h : w.ownsRow base e size v n xs) (hv : v.ownBlock = some m) : m < w.heap.size := by
  rcases h.2 with ⟨e1, _⟩ | ⟨g, cap, cur, rfl, _, hb, _⟩
  · subst e1; cases hv
  · simp only [Value.ownBlock] at hv; injection hv with hv; subst hv
    exact (Array.getElem?_eq_some_iff.1 hb).1
theorem ownsRow_keep {w w' : World} {base : Nat} {e : TypeId} {size : Nat} {v : Value} {n : Nat} {xs : List Value} (h : w.ownsRow base e size v n xs) (hk : ∀ m, v.ownBlock = some m → w'.heap[m]? = w.heap[m]?) : w'.ownsRow base e size v n xs := by
  refine ⟨h.1, ?_⟩
  rcases h.2 with h1 | ⟨g, cap, cur, rfl, hb, hg, rest⟩
  · exact .inl h1
  · exact .inr ⟨g, cap, cur, rfl, hb, (hk g rfl).trans hg, rest⟩
def CellK (F : Nat) : Kin PC Value where
  T := 85
  sz := 3
  pos := by decide
  cells c q := [.int .i64 c.ty, .bool c.fr, q]
  len _ _ := rfl
  blk := Value.ownBlock
  sub w c q := c.to.length = F ∧ w.ownsRow 0 3 1 q F (ints c.to) ∧ q ≠ .slice none 0 0
  has w c q m h hm := ownsRow_lt h.2.1 hm
  keep w w' c q h _ hm := ⟨h.1, ownsRow_keep h.2.1 hm, h.2.2⟩
theorem ownsRow_new {w : World} {g F : Nat} {c : PC} (h : Bk w g 3 (ints c.to).toArray) (hl : c.to.length = F) (hF : F ≤ maxLen) : w.ownsRow 0 3 1 (.slice (some ⟨g, 0, none⟩) F F) F (ints c.to) := by
  have hs : (ints c.to).length = F := by simp [ints, hl]
  exact ⟨by rw [hs, Nat.mul_one], .inr ⟨g, F, _, rfl, Nat.zero_le _, h, Nat.le_refl _, hF, by simp [hs], by rw [Nat.mul_one]; simp; rw [← hs]; exact List.take_length⟩⟩
theorem z46 : ∃ i : TypeInfo, Tryd.prog.info? 85 = some i ∧ i.zero = some (.agg #[.int .i64 0, .bool false, .slice none 0 0]) ∧ i.size = 3 ∧ i.bytes = 40 := by
  have h : (Tryd.prog.info? 85).map (fun i => (i.zero, i.size, i.bytes)) = some (some (.agg #[.int .i64 0, .bool false, .slice none 0 0]), 3, 40) := by kernel_rfl
  obtain ⟨i, hi, hz⟩ := Option.map_eq_some_iff.1 h
  simp only [Prod.mk.injEq] at hz
  exact ⟨i, hi, hz.1, hz.2.1, hz.2.2⟩
def Zc (n : Nat) : Array Value := madeCells (#[.int .i64 0, .bool false, .slice none 0 0] : Array Value) (n * 3)
theorem Zc_size (n : Nat) : (Zc n).size = n * 3 := size_madeCells _ _
theorem make23 (n : Nat) (w : World) (h : n ≤ 2000000) : (Instr.makeSlice 31 (.int .i64 n) (.int .i64 n)).run Tryd.prog w = .ok (.slice (some ⟨w.heap.size, 0, none⟩) n n) (w.alloc (.cells (Zc n) 85)) := by
  obtain ⟨i, hi, hz, hs, hb⟩ := z46
  have hr := run_make (P := Tryd.prog) w 31 85 i _ Tryd.underlying31 hi hz .i64 .i64 n n (by omega) (Int.le_refl _) (by rw [hb]; omega) (by omega)
  simp only [Int.toNat_natCast, hs] at hr
  exact hr
theorem cells_start (F : Nat) (w : World) (n : Nat) (h : n ≤ 2000000) : (CellK F).At (w.alloc (.cells (Zc n) 85)) (fun k => w.heap.size ≤ k) w.heap.size n (Zc n) (fun _ => .nilIface) [] where
  row := (MapKept.heap_alloc w _).1
  mine := Nat.le_refl _
  room := Nat.zero_le _
  most := by unfold maxLen; omega
  size := Zc_size n
  cell i x hi := by simp at hi
  sub i x hi := by simp at hi
  own i m hi := by simp at hi
  apart i j m _ hj := by simp at hj
end Go.Proofs.YtebmhadpkncgfaaDoor
