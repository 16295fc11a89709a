/-
  DERIVED. Edges in memory; rows of edges of one's own; worlds in which a few blocks have turned.
-/
import Derived.Test.YtnkimfbdcghgpaaDoorXb
import Derived.Deep.OwnRows
import Derived.Great.BuildSlice
import Derived.Deep.AppendLies
import Derived.Laws.AppendOwnNone
namespace Go.Proofs.YtnkimfbdcghgpaaDoor
open Go.RowKit Go.Sort

/-- An edge. -/
structure Ed where
  f : Int
  t : Int
  a : Ac.Acn
def Ed.cs (e : Ed) : Array Value := #[.int .i64 e.f, .int .i64 e.t, .int .i64 e.a.kind, .int .i64 e.a.x, .int .i64 e.a.y, .int .i64 e.a.f, .int .i64 e.a.t, .int .i64 e.a.pl, .int .i64 e.a.op, .int .i64 e.a.l.v, .int .i64 e.a.l.n, .int .i64 e.a.r.v, .int .i64 e.a.r.n, .bool e.a.sense]
theorem Ed.one (e : Ed) : e.cs.all (·.oneCell') = true := by simp [Ed.cs, Value.oneCell']
theorem Ed.size (e : Ed) : e.cs.size = 14 := rfl
theorem size34 : (Tryd.prog.info? 34).map (·.size) = some 14 := by kernel_rfl
theorem zinfo34 : (Tryd.prog.info? 34).map (fun i => (i.zero, i.size, i.bytes)) = some (some (.agg #[.int .i64 0, .int .i64 0, .int .i64 0, .int .i64 0, .int .i64 0, .int .i64 0, .int .i64 0, .int .i64 0, .int .i64 0, .int .i64 0, .int .i64 0, .int .i64 0, .int .i64 0, .bool false]), 14, 112) := by kernel_rfl
/-- Edges as they lie, cell by cell. -/
def ecells (l : List Ed) : List Value := l.flatMap fun e => e.cs.toList
theorem ecells_app (l m : List Ed) : ecells (l ++ m) = ecells l ++ ecells m := List.flatMap_append
theorem ecells_len : ∀ l : List Ed, (ecells l).length = l.length * 14
  | [] => rfl
  | e :: l => by
    show (e.cs.toList ++ ecells l).length = _
    rw [List.length_append, ecells_len l]
    simp [Ed.cs]; omega
/-- A row of edges of one's own. -/
def OE (w : World) (B : Nat) (v : Value) (l : List Ed) : Prop := w.ownsRow B 34 14 v l.length (ecells l)
theorem own_shape {w : World} {base : Nat} {e : TypeId} {size : Nat} {v : Value} {n : Nat} {xs : List Value} (h : w.ownsRow base e size v n xs) : ∃ a c, v = .slice a n c := by
  rcases h.2 with ⟨h1, h2⟩ | ⟨g, cap, cur, h1, _⟩
  · exact ⟨none, 0, by rw [h1, h2]⟩
  · exact ⟨some ⟨g, 0, none⟩, cap, h1⟩
theorem own_below {w w' : World} {B : Nat} {e : TypeId} {k : Nat} {v : Value} {n : Nat} {xs : List Value} (h : w.ownsRow B e k v n xs) (hb : Below w.heap.size w w') : w'.ownsRow B e k v n xs :=
  h.kept (w' := w') (row := none) ⟨hb.os, hb.tape, hb.output, hb.size, fun i hi _ => hb.block i hi⟩ (by cases v.ownBlock <;> simp)
theorem own_par {w w' : World} {B g : Nat} {e : TypeId} {k n : Nat} {v : Value} {xs : List Value} (h : w.ownsRow B e k v n xs) (hg : w.grownBy w' (some g)) (hB : g < B) : w'.ownsRow B e k v n xs :=
  h.kept hg (by
    cases hv : v.ownBlock with
    | none => exact .inl rfl
    | some b => right; intro e; injection e with e; have := (h.lt b hv).1; omega)
/-- The row of which v is the value becomes v'. -/
def RowTo (w : World) (v v' : Value) : Prop := v'.ownBlock = v.ownBlock ∨ ∃ k, w.heap.size ≤ k ∧ v'.ownBlock = some k
theorem below_grown {w w1 w2 : World} {o : Obj} {r : Option Nat} (hm : w1 = w.alloc o) (hg : w1.grownBy w2 r) : w.grownBy w2 r := by
  subst hm
  exact ⟨hg.os, hg.tape, hg.output, Nat.le_trans (by simp) hg.size, fun i hi hne => (hg.block i (by simp; omega) hne).trans (Below.heap_alloc w o i hi)⟩
/-- 'append(s, e)': the edges are a row of one's own. -/
theorem wpList_app_ed {ops : Array Oper} {rest : List Oper} {o : Oper} {a : Act} {w : World} {Q : Exit → Act → World → Prop} (hgd : o.guard = none) (s x : Operand)
    (ho : o.op = .call { callee := .builtin .append, args := #[s, x], argTypes := #[22, 22] })
    (B : Nat) (xs : List Ed) (v : Value) (hs : a.eval s = v) (hG : OE w B v xs) (hB : B ≤ w.heap.size) (y : Ed) (hx : a.eval x = .slice (some ⟨w.heap.size, 0, none⟩) 1 1) (hb : xs.length ≤ 1000000)
    (h : ∀ v' w', OE w' B v' (xs ++ [y]) → (∃ g cap, v' = .slice (some ⟨g, 0, none⟩) (xs.length + 1) cap) → w.grownBy w' v.ownBlock → RowTo w v v' → wpList Tryd.prog ops Q rest (a.put o.dst v') w') : wpList Tryd.prog ops Q (o :: rest) a (w.alloc (.cells y.cs 34)) := by
  obtain ⟨i0, hi0, hz0, hz1, hz2⟩ := info_parts zinfo34
  have hm : Below w.heap.size w (w.alloc (.cells y.cs 34)) := (Below.refl _ _).alloc (Nat.le_refl _) _
  refine wpList_plain hgd fun _ hK => ?_
  refine wp_append_lies _ s x 22 ho B 34 i0 _ 14 112 Tryd.underlying22 hi0 hz0 hz1 hz2 rfl (by decide) v xs.length _ hs (hG.alloc _) ⟨w.heap.size, 0, none⟩ 1 1 y.cs.toList hx rfl ?_ (by
      intro u hu2
      exact (Array.all_eq_true_iff_forall_mem.1 (Ed.one y)) u (by simpa using hu2)) (by decide) (by unfold maxLen; omega) (by omega) (Nat.le_trans hB hm.size) _ rfl ?_
  · have := World.news_of_block (heap_alloc_new w (.cells y.cs 34))
    simpa using this
  · intro g cap w' ho2 hg2 hat hlt
    refine hK _ _ (h _ w' ?_ ⟨g, cap, rfl⟩ (below_grown rfl hg2) ?_)
    · unfold OE
      rw [List.length_append, List.length_singleton, ecells_app]
      have e1 : ecells [y] = y.cs.toList := by unfold ecells; rw [List.flatMap_singleton]
      rw [e1]
      exact ho2
    · rcases hat with hat | hat
      · exact .inl hat.symm
      · exact .inr ⟨g, by rw [hat]; simp, rfl⟩
/-- The same, as a step of a region that draws its order. -/
theorem step_app_ed {ops : Array Oper} {o : Oper} {a : Act} {w : World} {R : Act → World → Prop} {Q : Exit → Act → World → Prop} {E : Prop} (hgd : o.guard = none) (s x : Operand)
    (ho : o.op = .call { callee := .builtin .append, args := #[s, x], argTypes := #[22, 22] })
    (B : Nat) (xs : List Ed) (v : Value) (hs : a.eval s = v) (hG : OE w B v xs) (hB : B ≤ w.heap.size) (y : Ed) (hx : a.eval x = .slice (some ⟨w.heap.size, 0, none⟩) 1 1) (hb : xs.length ≤ 1000000)
    (h : ∀ v' w', OE w' B v' (xs ++ [y]) → (∃ g cap, v' = .slice (some ⟨g, 0, none⟩) (xs.length + 1) cap) → w.grownBy w' v.ownBlock → RowTo w v v' → R (a.put o.dst v') w') :
    if Region.wanted o (yielded ops a.tmps) = true then Oper.wp Tryd.prog o a (w.alloc (.cells y.cs 34)) R Q else E := by
  have hw : Region.wanted o (yielded ops a.tmps) = true := by simp [Region.wanted, hgd]
  rw [if_pos hw]
  obtain ⟨i0, hi0, hz0, hz1, hz2⟩ := info_parts zinfo34
  have hm : Below w.heap.size w (w.alloc (.cells y.cs 34)) := (Below.refl _ _).alloc (Nat.le_refl _) _
  refine wp_append_lies _ s x 22 ho B 34 i0 _ 14 112 Tryd.underlying22 hi0 hz0 hz1 hz2 rfl (by decide) v xs.length _ hs (hG.alloc _) ⟨w.heap.size, 0, none⟩ 1 1 y.cs.toList hx rfl ?_ (by
      intro u hu2
      exact (Array.all_eq_true_iff_forall_mem.1 (Ed.one y)) u (by simpa using hu2)) (by decide) (by unfold maxLen; omega) (by omega) (Nat.le_trans hB hm.size) _ rfl ?_
  · have := World.news_of_block (heap_alloc_new w (.cells y.cs 34))
    simpa using this
  · intro g cap w' ho2 hg2 hat hlt
    refine h _ w' ?_ ⟨g, cap, rfl⟩ (below_grown rfl hg2) ?_
    · unfold OE
      rw [List.length_append, List.length_singleton, ecells_app]
      have e1 : ecells [y] = y.cs.toList := by unfold ecells; rw [List.flatMap_singleton]
      rw [e1]
      exact ho2
    · rcases hat with hat | hat
      · exact .inl hat.symm
      · exact .inr ⟨g, by rw [hat]; simp, rfl⟩
/-- A slice literal of one edge. -/
theorem wpList_one {P : Program} {ops : Array Oper} {rest : List Oper} {o : Oper} {a : Act} {w : World} {Q : Exit → Act → World → Prop} (hg : o.guard = none) (t e : TypeId) (x : Operand) (ho : o.op = .buildSlice t 1 #[(0, x)])
    (cs : Array Value) (hx : a.eval x = .agg cs) (hu : P.underlying t = some (.slice e)) (ie : TypeInfo) (z : Value) (n : Nat) (hie : P.info? e = some ie) (hz : ie.zero = some z) (hn : ie.size = n) (h0 : 0 < n) (h24 : n ≤ 16777216) (hcs : n = cs.size)
    (h : wpList P ops Q rest (a.put o.dst (.slice (some ⟨w.heap.size, 0, none⟩) 1 1)) (w.alloc (.cells cs e))) : wpList P ops Q (o :: rest) a w := by
  subst hn
  refine wpList_buildSlice hg t e 1 #[(0, x)] ho cs ie z hu hie hz (by omega) (by omega) ?_ h
  have hf := Great.fill_whole h0 [Value.agg cs] ((Array.range (1 * ie.size)).map (z.cells[· % z.cells.size]!)) (by intro v hv; rw [List.mem_singleton.1 hv]; exact hcs.symm) (by simp)
  simp only [List.zipIdx_cons, List.zipIdx_nil, List.map_cons, List.map_nil] at hf
  simp only [List.map_toArray, List.map_cons, List.map_nil, hx]
  rw [hf]
  simp [Value.cells]

/-- Of the blocks that were there, these alone have turned. -/
structure Gr (w w' : World) (S : Nat → Prop) : Prop where
  os : w'.os = w.os
  tape : w'.tape = w.tape
  output : w'.output = w.output
  size : w.heap.size ≤ w'.heap.size
  block : ∀ k, k < w.heap.size → ¬ S k → w'.heap[k]? = w.heap[k]?
theorem Gr.refl (w : World) (S : Nat → Prop) : Gr w w S := ⟨rfl, rfl, rfl, Nat.le_refl _, fun _ _ _ => rfl⟩
theorem Gr.trans {a b c : World} {S : Nat → Prop} (h : Gr a b S) (k : Gr b c S) : Gr a c S :=
  ⟨k.os.trans h.os, k.tape.trans h.tape, k.output.trans h.output, Nat.le_trans h.size k.size, fun i hi hS => (k.block i (Nat.lt_of_lt_of_le hi h.size) hS).trans (h.block i hi hS)⟩
theorem Gr.mono {a b : World} {S S' : Nat → Prop} (h : Gr a b S) (hS : ∀ k, k < a.heap.size → S k → S' k) : Gr a b S' := ⟨h.os, h.tape, h.output, h.size, fun i hi hn => h.block i hi (fun e => hn (hS i hi e))⟩
/-- A second step whose blocks are new, or among the first one's. -/
theorem Gr.then {a b c : World} {S S' : Nat → Prop} (h : Gr a b S) (k : Gr b c S') (hS : ∀ i, i < a.heap.size → S' i → S i) : Gr a c S :=
  ⟨k.os.trans h.os, k.tape.trans h.tape, k.output.trans h.output, Nat.le_trans h.size k.size, fun i hi hn => (k.block i (Nat.lt_of_lt_of_le hi h.size) (fun e => hn (hS i hi e))).trans (h.block i hi hn)⟩
theorem Gr.of_grown {a b : World} {r : Option Nat} (h : a.grownBy b r) : Gr a b (fun k => some k = r) := ⟨h.os, h.tape, h.output, h.size, fun i hi hn => h.block i hi hn⟩
theorem Gr.of_below {a b : World} {S : Nat → Prop} (h : Below a.heap.size a b) : Gr a b S := ⟨h.os, h.tape, h.output, h.size, fun i hi _ => h.block i hi⟩
theorem Gr.grown {a b c : World} {S : Nat → Prop} {r : Option Nat} (h : Gr a b S) (k : b.grownBy c r) (hS : ∀ i, i < a.heap.size → some i = r → S i) : Gr a c S := h.then (Gr.of_grown k) hS
theorem Gr.alloc {a b : World} {S : Nat → Prop} (h : Gr a b S) (o : Obj) : Gr a (b.alloc o) S := h.then (Gr.of_below ((Below.refl _ _).alloc (Nat.le_refl _) o)) (fun _ _ h => h)
theorem Gr.drew {a b : World} {S : Nat → Prop} (h : Gr a b S) : Gr a b.drew S := ⟨h.os, h.tape, h.output, h.size, h.block⟩
theorem Gr.setCell {a b : World} {S : Nat → Prop} (h : Gr a b S) {p : Addr} (hp : p.block < a.heap.size → S p.block) (v : Value) : Gr a (b.setCell p v) S :=
  h.grown (grownBy_setC b p v) (fun i hi e => by injection e with e; subst e; exact hp hi)
theorem Gr.below {a b : World} {S : Nat → Prop} {N : Nat} (h : Gr a b S) (hN : N ≤ a.heap.size) (hS : ∀ k, S k → N ≤ k) : Below N a b :=
  ⟨h.os, h.tape, h.output, h.size, fun i hi => h.block i (Nat.lt_of_lt_of_le hi hN) (fun e => by have := hS i e; omega)⟩
theorem Gr.bk {a b : World} {S : Nat → Prop} (h : Gr a b S) {g : Nat} {t : TypeId} {cs : Array Value} (k : Bk a g t cs) (hS : ¬ S g) : Bk b g t cs := (h.block g k.lt hS).trans k
theorem Gr.range {a b : World} {S : Nat → Prop} (h : Gr a b S) {g o : Nat} {cs : List Value} (k : a.rangeAt g o cs) (hS : ¬ S g) : b.rangeAt g o cs := fun j v hv => by
  have := k j v hv
  exact (World.cell?_of_block (a := ⟨g, o + j, none⟩) (h.block g (World.block_lt_of_cell? a _ this) hS)).trans this
theorem cell_at {w : World} {b q : Nat} {cs : List Value} (h : w.rangeAt b q cs) (j : Nat) (v : Value) (hv : cs[j]? = some v) : w.cell? ⟨b, q + j, none⟩ = some v := h j v hv

/-- Edges lie behind p; none of them in block x. -/
def ELies (w : World) (x : Nat) (p : Option Addr) (l : List Ed) : Prop := l = [] ∨ ∃ b o, p = some ⟨b, o, none⟩ ∧ b ≠ x ∧ ∀ k e, l[k]? = some e → w.rangeAt b (o + k * 14) e.cs.toList
theorem ELies.gr {w w' : World} {x : Nat} {p : Option Addr} {l : List Ed} {S : Nat → Prop} (h : ELies w x p l) (hg : Gr w w' S) (hS : ∀ b o, p = some ⟨b, o, none⟩ → b ≠ x → ¬ S b) : ELies w' x p l := by
  rcases h with h | ⟨b, o, hp, hb, hr⟩
  · exact .inl h
  · exact .inr ⟨b, o, hp, hb, fun k e hk => hg.range (hr k e hk) (hS b o hp hb)⟩
theorem ELies.at_ {w : World} {x : Nat} {p : Option Addr} {l : List Ed} (h : ELies w x p l) {k : Nat} {e : Ed} (hk : l[k]? = some e) : ∃ b o, p = some ⟨b, o, none⟩ ∧ b ≠ x ∧ w.rangeAt b (o + k * 14) e.cs.toList := by
  rcases h with h | ⟨b, o, hp, hb, hr⟩
  · rw [h] at hk; simp at hk
  · exact ⟨b, o, hp, hb, hr k e hk⟩
end Go.Proofs.YtnkimfbdcghgpaaDoor
