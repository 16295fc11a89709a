/-
  DERIVED. Words of one's own: blocks known whole; worlds in which a few blocks have turned; what lies in lists.
-/
import Derived.Test.YtjkgkigfmcegoaaAd
import Derived.Laws.Tables
import Derived.StillTailTactics
import Derived.Deep.RegionHeld3
import Derived.Deep.DeepMust
import Derived.Outline
namespace Go.Proofs.Ytjkgkigfmcegoaa
open Go.RowKit Go.Sort

theorem below_drewN_ {B : Nat} {a w : World} (h : Below B a w) (n : Nat) : Below B a (w.drewN n) := ⟨h.os, h.tape, h.output, h.size, h.block⟩
theorem below_drew {B : Nat} {w w' : World} (h : Below B w w') : Below B w w'.drew := below_drewN_ h 1
/-- A block that is the call's own, whole. -/
def Bk (w : World) (g : Nat) (t : TypeId) (cs : Array Value) : Prop := w.heap[g]? = some (.cells cs t (0, 0))
theorem Bk.set_ {w : World} {g : Nat} {t : TypeId} {cs : Array Value} (h : Bk w g t cs) (i : Nat) (u : Value) : Bk (w.setCell ⟨g, i, none⟩ u) g t (cs.setIfInBounds i u) := by
  unfold Bk at h ⊢
  simp [World.setCell, Array.getElem?_modify, h]
theorem Bk.far {w : World} {g : Nat} {t : TypeId} {cs : Array Value} (h : Bk w g t cs) {p : Addr} (hp : g ≠ p.block) (u : Value) : Bk (w.setCell p u) g t cs := (Below.heap_setCell w p u g hp).trans h
theorem Bk.cell {w : World} {g : Nat} {t : TypeId} {cs : Array Value} (h : Bk w g t cs) (i : Nat) : w.cell? ⟨g, i, none⟩ = cs[i]? := cell_of_row w g i cs t (0, 0) h
theorem Bk.frozen {w : World} {g : Nat} {t : TypeId} {cs : Array Value} (h : Bk w g t cs) (i : Nat) : w.frozen? ⟨g, i, none⟩ = false := frozen_of_row w g i cs t h
theorem Bk.below {B : Nat} {w w' : World} {g : Nat} {t : TypeId} {cs : Array Value} (h : Bk w g t cs) (hb : Below B w w') (hg : g < B) : Bk w' g t cs := (hb.block g hg).trans h
theorem Bk.lt {w : World} {g : Nat} {t : TypeId} {cs : Array Value} (h : Bk w g t cs) : g < w.heap.size := (Array.getElem?_eq_some_iff.1 h).1
theorem grownBy_setC (w : World) (a : Addr) (v : Value) : w.grownBy (w.setCell a v) (some a.block) :=
  ⟨rfl, rfl, rfl, by simp [World.setCell], fun i _ hne => Below.heap_setCell w a v i (fun e => hne (by rw [e]))⟩

/-- Of the blocks that were there, these alone have turned. -/
structure Gr (w w' : World) (S : Nat → Prop) : Prop where
  os : w'.os = w.os
  tape : w'.tape = w.tape
  output : w'.output = w.output
  size : w.heap.size ≤ w'.heap.size
  block : ∀ k, k < w.heap.size → ¬ S k → w'.heap[k]? = w.heap[k]?
theorem Gr.refl (w : World) (S : Nat → Prop) : Gr w w S := ⟨rfl, rfl, rfl, Nat.le_refl _, fun _ _ _ => rfl⟩
theorem Gr.trans {a b c : World} {S : Nat → Prop} (h : Gr a b S) (k : Gr b c S) : Gr a c S :=
  ⟨k.os.trans h.os, k.tape.trans h.tape, k.output.trans h.output, Nat.le_trans h.size k.size, fun i hi hS => (k.block i (Nat.lt_of_lt_of_le hi h.size) hS).trans (h.block i hi hS)⟩
theorem Gr.mono {a b : World} {S S' : Nat → Prop} (h : Gr a b S) (hS : ∀ k, k < a.heap.size → S k → S' k) : Gr a b S' := ⟨h.os, h.tape, h.output, h.size, fun i hi hn => h.block i hi (fun e => hn (hS i hi e))⟩
/-- A second step whose blocks are new, or among the first one's. -/
theorem Gr.then {a b c : World} {S S' : Nat → Prop} (h : Gr a b S) (k : Gr b c S') (hS : ∀ i, i < a.heap.size → S' i → S i) : Gr a c S :=
  ⟨k.os.trans h.os, k.tape.trans h.tape, k.output.trans h.output, Nat.le_trans h.size k.size, fun i hi hn => (k.block i (Nat.lt_of_lt_of_le hi h.size) (fun e => hn (hS i hi e))).trans (h.block i hi hn)⟩
theorem Gr.of_grown {a b : World} {r : Option Nat} (h : a.grownBy b r) : Gr a b (fun k => some k = r) := ⟨h.os, h.tape, h.output, h.size, fun i hi hn => h.block i hi hn⟩
theorem Gr.of_below {a b : World} {S : Nat → Prop} (h : Below a.heap.size a b) : Gr a b S := ⟨h.os, h.tape, h.output, h.size, fun i hi _ => h.block i hi⟩
theorem Gr.grown {a b c : World} {S : Nat → Prop} {r : Option Nat} (h : Gr a b S) (k : b.grownBy c r) (hS : ∀ i, i < a.heap.size → some i = r → S i) : Gr a c S := h.then (Gr.of_grown k) hS
theorem Gr.alloc {a b : World} {S : Nat → Prop} (h : Gr a b S) (o : Obj) : Gr a (b.alloc o) S := h.then (Gr.of_below ((Below.refl _ _).alloc (Nat.le_refl _) o)) (fun _ _ h => h)
theorem Gr.drewN {a b : World} {S : Nat → Prop} (h : Gr a b S) (n : Nat) : Gr a (b.drewN n) S := ⟨h.os, h.tape, h.output, h.size, h.block⟩
theorem Gr.drew {a b : World} {S : Nat → Prop} (h : Gr a b S) : Gr a b.drew S := ⟨h.os, h.tape, h.output, h.size, h.block⟩
theorem Gr.setCell {a b : World} {S : Nat → Prop} (h : Gr a b S) {p : Addr} (hp : p.block < a.heap.size → S p.block) (v : Value) : Gr a (b.setCell p v) S :=
  h.grown (grownBy_setC b p v) (fun i hi e => by injection e with e; subst e; exact hp hi)
theorem Gr.below {a b : World} {S : Nat → Prop} {N : Nat} (h : Gr a b S) (hN : N ≤ a.heap.size) (hS : ∀ k, S k → N ≤ k) : Below N a b :=
  ⟨h.os, h.tape, h.output, h.size, fun i hi => h.block i (Nat.lt_of_lt_of_le hi hN) (fun e => by have := hS i e; omega)⟩
theorem Gr.bk {a b : World} {S : Nat → Prop} (h : Gr a b S) {g : Nat} {t : TypeId} {cs : Array Value} (k : Bk a g t cs) (hS : ¬ S g) : Bk b g t cs := (h.block g k.lt hS).trans k
theorem Gr.roll {a b : World} {S : Nat → Prop} (h : Gr a b S) {K : TypeId} {κ : Type} {g : Keying K κ} {m : Nat} {l : List κ} (k : Roll g a m l) (hS : ¬ S m) : Roll g b m l := k.same (h.block m k.lt hS)
theorem Gr.range {a b : World} {S : Nat → Prop} (h : Gr a b S) {g o : Nat} {cs : List Value} (k : a.rangeAt g o cs) (hS : ¬ S g) : b.rangeAt g o cs := fun j v hv => by
  have := k j v hv
  exact (World.cell?_of_block (a := ⟨g, o + j, none⟩) (h.block g (World.block_lt_of_cell? a _ this) hS)).trans this
theorem cell_at {w : World} {b q : Nat} {cs : List Value} (h : w.rangeAt b q cs) (j : Nat) (v : Value) (hv : cs[j]? = some v) : w.cell? ⟨b, q + j, none⟩ = some v := h j v hv

/-- A list's items lie in memory. -/
def Lay {α : Type} (size : Nat) (cells : α → List Value) (R : World → α → Prop) (w : World) (p : Option Addr) (l : List α) : Prop :=
  l.length ≤ 1048576 ∧ (l = [] ∨ ∃ b o, p = some ⟨b, o, none⟩ ∧ ∀ k x, l[k]? = some x → w.rangeAt b (o + k * size) (cells x) ∧ R w x)
theorem Lay.of_sl {α : Type} {size bytes : Nat} {cells : α → List Value} {R : World → α → Prop} {w : World} {s : Sl α} (h : slLies w size bytes cells (R w) s) : Lay size cells R w s.p s.l := h
theorem Lay.below {α : Type} {size : Nat} {cells : α → List Value} {R : World → α → Prop} {w w' : World} {p : Option Addr} {l : List α} (h : Lay size cells R w p l) (hb : Below w.heap.size w w') (hR : ∀ x, R w x → R w' x) : Lay size cells R w' p l := by
  obtain ⟨h0, h⟩ := h
  refine ⟨h0, ?_⟩
  rcases h with h | ⟨b, o, hp, hx⟩
  · exact .inl h
  · exact .inr ⟨b, o, hp, fun k x hk => ⟨rangeAt_below (hx k x hk).1 hb, hR x (hx k x hk).2⟩⟩
/-- An item of a list that lies in memory. -/
theorem Lay.at_ {α : Type} {size : Nat} {cells : α → List Value} {R : World → α → Prop} {w : World} {p : Option Addr} {l : List α} (h : Lay size cells R w p l) {k : Nat} (hk : k < l.length) :
    ∃ b o, p = some ⟨b, o, none⟩ ∧ w.rangeAt b (o + k * size) (cells l[k]) ∧ R w l[k] := by
  obtain ⟨_, h⟩ := h
  rcases h with h | ⟨b, o, hp, hx⟩
  · rw [h] at hk; simp at hk
  · exact ⟨b, o, hp, hx k _ (List.getElem?_eq_getElem hk)⟩
def dcR (_ : World) (d : Dc) : Prop := dcOk d

/-- The six cells of a table. -/
abbrev tcells (M : Nat) (e v : Value) : Array Value := #[.map (some M), .map (some (M + 1)), e, .map (some (M + 2)), v, .map (some (M + 3))]
def tptr (M : Nat) : Value := .pointer (some ⟨M + 4, 0, none⟩)
end Go.Proofs.Ytjkgkigfmcegoaa
