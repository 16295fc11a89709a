/-
  DERIVED. The law CellPlays' call: the variable that takes its answer may be made ahead of it.
-/
import Derived.Test.YtocgallcmgnmgaaLa
namespace Go.Proofs.Ytocgallcmgnmgaa
open Go.RowKit Go.Maps

/-- Nothing in it yet. -/
def Z29 : Array Value := #[.int .i64 0, .slice none 0 0, .bool false]
/-- The answer is kept in its variable. -/
def PlT (F : Nat) (w wr : World) (b B T : Nat) (cs : List PC) (vr vo : Value) : Prop := PlJ F w wr b B cs vr vo ∧ Bk wr T 29 (RefA F vr)
theorem PlT.go {F : Nat} {w wr wz : World} {b B T : Nat} {cs : List PC} {vr vo : Value} (h : PlT F w wr b B T cs vr vo) (hb : Below wr.heap.size wr wz) : PlT F w wz b B T cs vr vo :=
  ⟨h.1.go hb, h.2.below hb h.2.lt⟩
theorem PlJ.new {F : Nat} {w wr : World} {b B : Nat} {cs : List PC} {vr vo : Value} (h : PlJ F w wr b B cs vr vo) : PlT F w (wr.alloc (.cells (RefA F vr) 29)) b B wr.heap.size cs vr vo :=
  ⟨h.go (alloc_below _ _), (MapKept.heap_alloc wr _).1⟩
theorem PlJ.form {F : Nat} {w wr : World} {b B : Nat} {cs : List PC} {vr vo : Value} (h : PlJ F w wr b B cs vr vo) : ∃ p m c, vr = .slice p m c := by
  obtain ⟨R, N, v, h1, h2, _⟩ := h.ex
  obtain ⟨p, c, rfl⟩ := h2.form
  exact ⟨_, _, _, rfl⟩
theorem z29_cells {w : World} {T : Nat} (h : Bk w T 29 Z29) : w.cell? ⟨T, 0, none⟩ = some (.int .i64 0) ∧ w.cell? ⟨T, 1, none⟩ = some (.slice none 0 0) ∧ w.cell? ⟨T, 2, none⟩ = some (.bool false) ∧ w.frozen? ⟨T, 0, none⟩ = false ∧ w.frozen? ⟨T, 1, none⟩ = false ∧ w.frozen? ⟨T, 2, none⟩ = false :=
  ⟨h.cell 0, h.cell 1, h.cell 2, h.frozen 0, h.frozen 1, h.frozen 2⟩
/-- The cells of both, for a region's loads. -/
def Sees (F : Nat) (B : Nat) (vr : Value) (o : OpN) (ob oo : Nat) (w' : World) : Prop :=
  w'.cell? ⟨B, 0, none⟩ = some (.int .i64 F) ∧ w'.cell? ⟨B, 1, none⟩ = some vr ∧ w'.cell? ⟨B, 2, none⟩ = some (.bool true) ∧ w'.cell? ⟨ob, oo, none⟩ = some (.int .u8 o.kd) ∧ w'.cell? ⟨ob, oo + 1, none⟩ = some (.int .i64 o.t) ∧ w'.cell? ⟨ob, oo + 2, none⟩ = some (.int .i64 o.c) ∧ w'.cell? ⟨ob, oo + 3, none⟩ = some (.int .i64 o.f) ∧ w'.cell? ⟨ob, oo + 4, none⟩ = some (.int .i64 o.d)
theorem sees_of {F : Nat} {w wr : World} {B : Nat} {vo : Value} (h : Bk wr B 29 (RefA F vo)) (hb : Below w.heap.size w wr) {o : OpN} {ob oo : Nat} (hit : w.rangeAt ob oo o.cells) : Sees F B vo o ob oo wr := by
  have hit' := rangeAt_below hit hb
  exact ⟨h.cell 0, h.cell 1, h.cell 2, hit' 0 _ rfl, hit' 1 _ rfl, hit' 2 _ rfl, hit' 3 _ rfl, hit' 4 _ rfl⟩
theorem PlJ.sees {F : Nat} {w wr : World} {b B : Nat} {cs : List PC} {vr vo : Value} (h : PlJ F w wr b B cs vr vo) {o : OpN} {ob oo : Nat} (hit : w.rangeAt ob oo o.cells) : Sees F B vo o ob oo wr := by
  have hit' := rangeAt_below hit h.below
  exact ⟨h.box.cell 0, h.box.cell 1, h.box.cell 2, hit' 0 _ rfl, hit' 1 _ rfl, hit' 2 _ rfl, hit' 3 _ rfl, hit' 4 _ rfl⟩
theorem PlI.j {F : Nat} {w wr : World} {b B : Nat} {cs : List PC} {vr : Value} (h : PlI F w wr b B cs vr) : PlJ F w wr b B cs vr vr := ⟨h.ex, h.box, h.ne, h.b0, h.B0, h.below⟩
/-- The variable is made first. -/
theorem PlI.does_new {F : Nat} {w wr : World} {b B : Nat} {cs : List PC} {vr : Value} (h : PlI F w wr b B cs vr) (hF : F ≤ 2000000) (hn : cs.length ≤ 2000000) (o : OpN) (ho : o.ok) :
    Calls Try.prog 10 #[.pointer (some ⟨b, 0, none⟩), .agg (RefA F vr), .agg (opA o.kd o.t o.c o.f o.d)] (wr.alloc (.cells Z29 29)) fun e wz => ∃ v', e = .returned (.tuple #[.agg (RefA F v'), .bool true]) ∧ Hid (PlJ F w wz b B (stepC F cs o) v' vr) ∧ Hid (Bk wz wr.heap.size 29 Z29) ∧
      Hid (PlT F w (((wz.setCell ⟨wr.heap.size, 0, none⟩ (.int .i64 F)).setCell ⟨wr.heap.size, 1, none⟩ v').setCell ⟨wr.heap.size, 2, none⟩ (.bool true)) b B wr.heap.size (stepC F cs o) v' vr) := by
  obtain ⟨R, N, v, h1, h2, h3, h4, h5, h6, h7⟩ := h.ex
  have ha := alloc_below wr (.cells Z29 29)
  have hsz := h.below.size
  have hB := h.box.lt
  have hb := h1.top.lt
  have hs : (wr.alloc (.cells Z29 29)).heap.size = wr.heap.size + 1 := by simp
  have hT : Bk (wr.alloc (.cells Z29 29)) wr.heap.size 29 Z29 := (MapKept.heap_alloc wr _).1
  refine (does_any F b R N cs v vr o _ (h1.below ha) (Kin.Lie.below h2 ha) h3 hF hn ho).mono ?_
  rintro e wz ⟨v', N', R', vh, rfl, i1, i2, i3, i4, i5⟩
  have hTR : ¬ (fun k => k = b ∨ R k) wr.heap.size := fun e => by
    rcases e with e | e
    · omega
    · have := h1.lie.1 _ e; omega
  have hTz := i3.gr.bk hT hTR
  have hRz : ∀ k, R' k → R k ∨ wr.heap.size + 1 ≤ k := fun k hk => by rw [← hs]; exact i3.new k hk
  have hNz : ∀ k, N' k → N k ∨ wr.heap.size + 1 ≤ k := fun k hk => by rw [← hs]; exact i4 k hk
  have hj : PlJ F w wz b B (stepC F cs o) v' vr := by
    refine ⟨⟨R', N', vh, i1, i2, i5, fun e => ?_, fun e => ?_, fun k hk => ?_, fun k hk => ?_⟩, i3.gr.bk (h.box.below ha hB) (fun e => e.elim h.ne h5), h.ne, h.b0, h.B0, (h.below.trans (ha.mono hsz)).trans (i3.gr.below (by omega) (fun k hk => hk.elim (fun e => e ▸ h.b0) (h6 k)))⟩
    · rcases hNz B e with e | e
      · exact h4 e
      · omega
    · rcases hRz B e with e | e
      · exact h5 e
      · omega
    · rcases hRz k hk with e | e
      · exact h6 k e
      · omega
    · rcases hNz k hk with e | e
      · exact h7 k e
      · omega
  refine ⟨v', rfl, Lib.hid hj, Lib.hid hTz, Lib.hid ⟨?_, ((hTz.set_ 0 _).set_ 1 _).set_ 2 _⟩⟩
  have hg : Gr wz (((wz.setCell ⟨wr.heap.size, 0, none⟩ (.int .i64 F)).setCell ⟨wr.heap.size, 1, none⟩ v').setCell ⟨wr.heap.size, 2, none⟩ (.bool true)) (fun k => k = wr.heap.size) :=
    (((Gr.refl wz (fun k => k = wr.heap.size)).setCell (p := ⟨wr.heap.size, 0, none⟩) (fun _ => rfl) _).setCell (p := ⟨wr.heap.size, 1, none⟩) (fun _ => rfl) _).setCell (p := ⟨wr.heap.size, 2, none⟩) (fun _ => rfl) _
  refine ⟨⟨R', N', vh, ⟨hg.bk i1.top (by omega), i1.out, Kin.Lie.gr i1.lie hg (fun k hk e => ?_)⟩, Kin.Lie.gr i2 hg (fun k hk e => ?_), i5, (hj.ex.elim fun _ _ => ?_), ?_, ?_, ?_⟩, hg.bk hj.box (by omega), h.ne, h.b0, h.B0, hj.below.trans (hg.below hj.below.size (fun k e => by omega))⟩
  · rcases hRz k hk with h | h
    · have := h1.lie.1 k h; omega
    · omega
  · rcases hNz k hk with h | h
    · have := h2.1 k h; omega
    · omega
  · intro e
    rcases hNz B e with e | e
    · exact h4 e
    · omega
  · intro e
    rcases hRz B e with e | e
    · exact h5 e
    · omega
  · intro k hk
    rcases hRz k hk with e | e
    · exact h6 k e
    · omega
  · intro k hk
    rcases hNz k hk with e | e
    · exact h7 k e
    · omega
end Go.Proofs.Ytocgallcmgnmgaa
