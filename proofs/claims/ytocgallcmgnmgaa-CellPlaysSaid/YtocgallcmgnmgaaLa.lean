/-
  DERIVED. The law CellPlays' frame: both heaps, side by side.
-/
import Derived.Test.YtocgallcmgnmgaaJn
namespace Go.Proofs.Ytocgallcmgnmgaa
open Go.RowKit Go.Maps

/-- The program's heap and the document's, alike. -/
structure PlI (F : Nat) (w wr : World) (b B : Nat) (cs : List PC) (vr : Value) : Prop where
  ex : ∃ (R N : Nat → Prop) (v : Value), HIs wr b R F cs v ∧ Out F wr N vr cs ∧ (∀ k, N k → ¬ (k = b ∨ R k)) ∧ ¬ N B ∧ ¬ R B ∧ (∀ k, R k → w.heap.size ≤ k) ∧ (∀ k, N k → w.heap.size ≤ k)
  box : Bk wr B 29 (RefA F vr)
  ne : B ≠ b
  b0 : w.heap.size ≤ b
  B0 : w.heap.size ≤ B
  below : Below w.heap.size w wr
theorem PlI.go {F : Nat} {w wr wz : World} {b B : Nat} {cs : List PC} {vr : Value} (h : PlI F w wr b B cs vr) (hb : Below wr.heap.size wr wz) : PlI F w wz b B cs vr := by
  obtain ⟨R, N, v, h1, h2, h3, h4, h5, h6, h7⟩ := h.ex
  exact ⟨⟨R, N, v, h1.below hb, Kin.Lie.below h2 hb, h3, h4, h5, h6, h7⟩, h.box.below hb h.box.lt, h.ne, h.b0, h.B0, h.below.trans (hb.mono h.below.size)⟩
theorem pl_start {F : Nat} {w w1 w2 : World} {b : Nat} {R N : Nat → Prop} {cs : List PC} {v vr : Value} (h : HIs w1 b R F cs v) (hR : ∀ k, R k → w.heap.size ≤ k) (hb : w.heap.size ≤ b) (hw : Below w.heap.size w w1) (ho : Out F w2 N vr cs) (hN : ∀ k, N k → w1.heap.size ≤ k) (hw2 : Below w1.heap.size w1 w2) :
    PlI F w (w2.alloc (.cells (RefA F vr) 29)) b w2.heap.size cs vr := by
  have hbl := h.top.lt
  have h1 := hw.size
  have h2 := hw2.size
  have ha := alloc_below w2 (.cells (RefA F vr) 29)
  refine ⟨⟨R, N, v, (h.below hw2).below ha, Kin.Lie.below ho ha, fun k hk e => ?_, fun e => ?_, fun e => ?_, hR, fun k hk => Nat.le_trans h1 (hN k hk)⟩, (MapKept.heap_alloc w2 _).1, ?_, hb, ?_, ?_⟩
  · have := hN k hk
    rcases e with e | e
    · omega
    · have := h.lie.1 k e; omega
  · have := ho.1 _ e; omega
  · have := h.lie.1 _ e; omega
  · omega
  · omega
  · exact (hw.trans (hw2.mono h1)).trans (ha.mono (by have := hw.size; omega))
theorem PlI.is_ {F : Nat} {w wr : World} {b B : Nat} {cs : List PC} {vr : Value} (h : PlI F w wr b B cs vr) (hF : F ≤ 2000000) (hn : cs.length ≤ 2000000) :
    Calls Try.prog 9 #[.pointer (some ⟨b, 0, none⟩), .agg (RefA F vr)] wr (RetB wr true) := by
  obtain ⟨R, N, v, h1, h2, _⟩ := h.ex
  exact is_any F b R N cs v vr wr h1 h2 hF hn
/-- A call on both, the document's new heap not kept yet: it lies beside the old one. -/
structure PlJ (F : Nat) (w wr : World) (b B : Nat) (cs : List PC) (vr vo : Value) : Prop where
  ex : ∃ (R N : Nat → Prop) (v : Value), HIs wr b R F cs v ∧ Out F wr N vr cs ∧ (∀ k, N k → ¬ (k = b ∨ R k)) ∧ ¬ N B ∧ ¬ R B ∧ (∀ k, R k → w.heap.size ≤ k) ∧ (∀ k, N k → w.heap.size ≤ k)
  box : Bk wr B 29 (RefA F vo)
  ne : B ≠ b
  b0 : w.heap.size ≤ b
  B0 : w.heap.size ≤ B
  below : Below w.heap.size w wr
theorem PlJ.go {F : Nat} {w wr wz : World} {b B : Nat} {cs : List PC} {vr vo : Value} (h : PlJ F w wr b B cs vr vo) (hb : Below wr.heap.size wr wz) : PlJ F w wz b B cs vr vo := by
  obtain ⟨R, N, v, h1, h2, h3, h4, h5, h6, h7⟩ := h.ex
  exact ⟨⟨R, N, v, h1.below hb, Kin.Lie.below h2 hb, h3, h4, h5, h6, h7⟩, h.box.below hb h.box.lt, h.ne, h.b0, h.B0, h.below.trans (hb.mono h.below.size)⟩
theorem PlJ.is_ {F : Nat} {w wr : World} {b B : Nat} {cs : List PC} {vr vo : Value} (h : PlJ F w wr b B cs vr vo) (hF : F ≤ 2000000) (hn : cs.length ≤ 2000000) :
    Calls Try.prog 9 #[.pointer (some ⟨b, 0, none⟩), .agg (RefA F vr)] wr (RetB wr true) := by
  obtain ⟨R, N, v, h1, h2, _⟩ := h.ex
  exact is_any F b R N cs v vr wr h1 h2 hF hn
theorem PlJ.keep {F : Nat} {w wr wz : World} {b B : Nat} {cs : List PC} {vr vo : Value} (h : PlJ F w wr b B cs vr vo) (hg : wr.grownBy wz (some B)) (hb : Bk wz B 29 (RefA F vr)) : PlI F w wz b B cs vr := by
  obtain ⟨R, N, v, h1, h2, h3, h4, h5, h6, h7⟩ := h.ex
  have hg' := Gr.of_grown hg
  refine ⟨⟨R, N, v, ⟨hg'.bk h1.top (by intro e; injection e with e; exact h.ne e.symm), h1.out, Kin.Lie.gr h1.lie hg' (fun k hk e => ?_)⟩, Kin.Lie.gr h2 hg' (fun k hk e => ?_), h3, h4, h5, h6, h7⟩, hb, h.ne, h.b0, h.B0, h.below.grown hg h.below.size (fun j hj => by injection hj with hj; subst hj; exact h.B0)⟩
  · injection e with e; subst e; exact h5 hk
  · injection e with e; subst e; exact h4 hk
/-- One call on both. -/
theorem PlI.does {F : Nat} {w wr : World} {b B : Nat} {cs : List PC} {vr : Value} (h : PlI F w wr b B cs vr) (hF : F ≤ 2000000) (hn : cs.length ≤ 2000000) (o : OpN) (ho : o.ok) :
    Calls Try.prog 10 #[.pointer (some ⟨b, 0, none⟩), .agg (RefA F vr), .agg (opA o.kd o.t o.c o.f o.d)] wr fun e wz => ∃ v', e = .returned (.tuple #[.agg (RefA F v'), .bool true]) ∧ Hid (PlJ F w wz b B (stepC F cs o) v' vr) := by
  obtain ⟨R, N, v, h1, h2, h3, h4, h5, h6, h7⟩ := h.ex
  refine (does_any F b R N cs v vr o wr h1 h2 h3 hF hn ho).mono ?_
  rintro e wz ⟨v', N', R', vh, rfl, i1, i2, i3, i4, i5⟩
  have hsz := h.below.size
  have hB := h.box.lt
  refine ⟨v', rfl, Lib.hid ⟨⟨R', N', vh, i1, i2, i5, fun e => ?_, fun e => ?_, fun k hk => ?_, fun k hk => ?_⟩, i3.gr.bk h.box (fun e => e.elim h.ne h5), h.ne, h.b0, h.B0, h.below.trans (i3.gr.below hsz (fun k hk => hk.elim (fun e => e ▸ h.b0) (h6 k)))⟩⟩
  · rcases i4 B e with e | e
    · exact h4 e
    · omega
  · rcases i3.new B e with e | e
    · exact h5 e
    · omega
  · rcases i3.new k hk with e | e
    · exact h6 k e
    · omega
  · rcases i4 k hk with e | e
    · exact h7 k e
    · omega
theorem stepC_len (F : Nat) (cs : List PC) (o : OpN) : (stepC F cs o).length ≤ cs.length + 1 := by
  unfold stepC
  split
  · simp
  · split
    · rw [putC_len]; omega
    · split
      · rw [freeC_len]; omega
      · omega
theorem loaded_len (F : Nat) (l : List RC) : (loaded F l).length = l.length := by simp [loaded]
end Go.Proofs.Ytocgallcmgnmgaa
