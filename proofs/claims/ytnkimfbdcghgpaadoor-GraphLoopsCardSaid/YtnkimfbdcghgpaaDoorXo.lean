/-
  DERIVED. What the search by breadth has of its own, and how it moves on.
-/
import Derived.Test.YtnkimfbdcghgpaaDoorXn
import Derived.Test.YtnkimfbdcghgpaaDoorXp
namespace Go.Proofs.YtnkimfbdcghgpaaDoor
open Go.RowKit Go.Sort Go.Shelf
attribute [local go_sem] Oper.semAt_some

theorem wpListIn_make_row {F : Fence} {m : Nat} {P : Program} (w : World) {ops : Array Oper} {rest : List Oper} {o : Oper} {a : Act} {Q : Exit → Act → World → Prop}
    (hg : o.guard = none) (l c : Operand) (t : TypeId) (hop : o.op = Op.makeSlice t l c)
    (e : TypeId) (i : TypeInfo) (z : Value) (ht : P.underlying t = some (.slice e)) (hi : P.info? e = some i) (hz : i.zero = some z) (hsize : i.size = 1) (hz1 : z.cells = #[z])
    (kl kc : IntKind) (n : Nat) (hl : a.eval l = .int kl (n : Int)) (hc : a.eval c = .int kc (n : Int)) (hbytes : i.bytes * n ≤ 281474976710656) (h63 : n ≤ 9223372036854775807)
    (hK : wpListIn F m P ops Q rest (a.put o.dst (.slice (some ⟨w.heap.size, 0, none⟩) n n)) (w.alloc (.cells (madeCells #[z] n) e))) :
    wpListIn F m P ops Q (o :: rest) a w := by
  refine wpListIn_plain hg fun K hK' => ?_
  have hrun := run_make_row (P := P) t e i z ht hi hz hsize hz1 kl kc n hbytes h63 w
  unfold Oper.wpIn
  refine ⟨by simp [Oper.about, hop], ?_⟩
  rw [Oper.semAt_plain F _ _ (by rw [hop]; intro c hc'; cases hc')]
  simp [execOp, hop, hl, hc, hrun, Result.andThen]
  exact hK' _ _ hK
theorem made_ints (w : World) (n : Nat) : Bk (w.alloc (.cells (madeCells #[.int .i64 0] n) 3)) w.heap.size 3 ((List.replicate n (0 : Int)).map iv).toArray := by
  have h1 : madeCells #[.int .i64 0] n = ((List.replicate n (0 : Int)).map iv).toArray := by
    apply Array.ext'
    rw [toList_madeCells_one, List.map_replicate]; rfl
  rw [← h1]; exact heap_alloc_new w _
/-- One more is laid. -/
theorem fill_set (n j : Nat) (hj : j < n) : ((List.replicate j (-1 : Int) ++ List.replicate (n - j) 0).map iv).toArray.setIfInBounds j (.int .i64 (-1)) = ((List.replicate (j + 1) (-1 : Int) ++ List.replicate (n - (j + 1)) 0).map iv).toArray := by
  rw [List.setIfInBounds_toArray]
  congr 1
  have h1 : (.int .i64 (-1) : Value) = iv (-1) := rfl
  rw [h1, ← List.map_set]
  congr 1
  apply List.ext_getElem?
  intro k
  rw [List.getElem?_set]
  simp only [List.getElem?_append, List.length_replicate, List.getElem?_replicate, List.length_append]
  split
  · subst_vars
    simp; omega
  · split <;> split <;> (try split) <;> (try split) <;> first | rfl | omega | simp_all <;> omega

theorem OT.cap {w : World} {B n c : Nat} {p : Option Addr} {xs : List Int} (h : OT w B (.slice p n c) xs) : xs.length ≤ c := by
  rcases h with ⟨h, rfl⟩ | ⟨g, off, cap, cur, h, _, _, hn, _⟩
  · exact Nat.zero_le _
  · injection h with _ _ h; omega
/-- What the search has of its own. -/
structure Stt (W0 : World) (wb : Nat) (W : World) (n rb sbx obx : Nat) (Pr : Nat → Prop) (st os : List Int) (v : Value) (L : List Nat) : Prop where
  gr : Gr W0 W (fun k => k = wb)
  lt : W0.heap.size ≤ rb ∧ rb < sbx ∧ sbx < obx
  row : Bk W rb 3 (st.map iv).toArray
  sb : Bk W sbx 23 #[.slice (some ⟨rb, 0, none⟩) n n]
  ob : Bk W obx 23 #[v]
  q : OT W W0.heap.size v os
  ne : ∀ g, Pr g → v.ownBlock ≠ some g
  prl : Pr rb ∧ Pr sbx ∧ Pr obx ∧ ∀ g, Pr g → g < W.heap.size
  mks : Mks W0.heap.size W L


theorem OT.drew {w : World} {B : Nat} {v : Value} {xs : List Int} (h : OT w B v xs) : OT w.drew B v xs := h.same fun _ _ => rfl
theorem Stt.far {W0 W : World} {wb n rb sbx obx : Nat} {Pr : Nat → Prop} {st os : List Int} {v : Value} {L : List Nat} (h : Stt W0 wb W n rb sbx obx Pr st os v L) : rb ≠ sbx ∧ rb ≠ obx ∧ sbx ≠ obx ∧ v.ownBlock ≠ some rb ∧ v.ownBlock ≠ some sbx ∧ v.ownBlock ≠ some obx := by
  have := h.lt
  exact ⟨by omega, by omega, by omega, h.ne _ h.prl.1, h.ne _ h.prl.2.1, h.ne _ h.prl.2.2.1⟩
theorem Stt.cells {W0 W : World} {wb n rb sbx obx : Nat} {Pr : Nat → Prop} {st os : List Int} {v : Value} {L : List Nat} (h : Stt W0 wb W n rb sbx obx Pr st os v L) {g : Nat} (hg : v.ownBlock = some g) : ∃ cur, Bk W g 3 cur := by
  rcases h.q with ⟨rfl, _⟩ | ⟨g', off, cap, cur, rfl, _, hb, _⟩
  · cases hg
  · injection hg with hg; subst hg; exact ⟨_, hb⟩
/-- What has not been touched stands. -/
theorem Stt.kept {W0 A B : World} {wb n rb sbx obx : Nat} {Pr : Nat → Prop} {st os : List Int} {v : Value} {L : List Nat} (h : Stt W0 wb A n rb sbx obx Pr st os v L) {T : Nat → Prop} (hg : Gr A B T)
    (hT : ∀ k, T k → k < W0.heap.size → k = wb) (h1 : ¬ T rb) (h2 : ¬ T sbx) (h3 : ¬ T obx) (h4 : ∀ g, v.ownBlock = some g → ¬ T g) (h5 : ∀ D ∈ L, ¬ T D) : Stt W0 wb B n rb sbx obx Pr st os v L :=
  ⟨h.gr.then hg fun i hi ht => hT i ht hi, h.lt, hg.bk h.row h1, hg.bk h.sb h2, hg.bk h.ob h3, h.q.same fun q hq => hg.block q (h.q.lt q hq).2 (h4 q hq), h.ne, ⟨h.prl.1, h.prl.2.1, h.prl.2.2.1, fun g hp => Nat.lt_of_lt_of_le (h.prl.2.2.2 g hp) hg.size⟩,
    ⟨h.mks.nd, fun D hD => ⟨(h.mks.at_ D hD).1, (hg.block D (Array.getElem?_eq_some_iff.1 (h.mks.at_ D hD).2).1 (h5 D hD)).trans (h.mks.at_ D hD).2⟩⟩⟩
/-- A mark is no block of cells. -/
theorem Stt.mk_ne {W0 A : World} {wb n rb sbx obx : Nat} {Pr : Nat → Prop} {st os : List Int} {v : Value} {L : List Nat} (h : Stt W0 wb A n rb sbx obx Pr st os v L) {D g : Nat} {t : TypeId} {cs : Array Value} (hD : D ∈ L) (hb : Bk A g t cs) : D ≠ g := by
  intro e
  have h1 := (h.mks.at_ D hD).2
  rw [e, show A.heap[g]? = _ from hb] at h1
  cases h1
/-- More is protected, all of it elsewhere. -/
theorem Stt.more {W0 A : World} {wb n rb sbx obx : Nat} {Pr Pr' : Nat → Prop} {st os : List Int} {v : Value} {L : List Nat} (h : Stt W0 wb A n rb sbx obx Pr st os v L) (h1 : ∀ g, Pr g → Pr' g) (h2 : ∀ g, Pr' g → v.ownBlock ≠ some g) (h3 : ∀ g, Pr' g → g < A.heap.size) : Stt W0 wb A n rb sbx obx Pr' st os v L :=
  ⟨h.gr, h.lt, h.row, h.sb, h.ob, h.q, h2, ⟨h1 _ h.prl.1, h1 _ h.prl.2.1, h1 _ h.prl.2.2.1, h3⟩, h.mks⟩
theorem Stt.less {W0 A : World} {wb n rb sbx obx : Nat} {Pr Pr' : Nat → Prop} {st os : List Int} {v : Value} {L : List Nat} (h : Stt W0 wb A n rb sbx obx Pr st os v L) (h1 : ∀ g, Pr' g → Pr g) (h2 : Pr' rb ∧ Pr' sbx ∧ Pr' obx) : Stt W0 wb A n rb sbx obx Pr' st os v L :=
  ⟨h.gr, h.lt, h.row, h.sb, h.ob, h.q, fun g hg => h.ne g (h1 g hg), ⟨h2.1, h2.2.1, h2.2.2, fun g hg => h.prl.2.2.2 g (h1 g hg)⟩, h.mks⟩
theorem Gr.one {A : World} (g : Nat) (i : Nat) (u : Value) : Gr A (A.setCell ⟨g, i, none⟩ u) (fun k => k = g) := Gr.setCell (S := fun k => k = g) (Gr.refl A _) (p := ⟨g, i, none⟩) (fun _ => rfl) u
theorem Gr.new {A : World} (o : Obj) : Gr A (A.alloc o) (fun _ => False) := (Gr.refl A _).alloc o
theorem Gr.dr {A : World} : Gr A A.drew (fun _ => False) := (Gr.refl A _).drew
/-- A number is laid in the row. -/
theorem Stt.put {W0 A : World} {wb n rb sbx obx : Nat} {Pr : Nat → Prop} {st os : List Int} {v : Value} {L : List Nat} (h : Stt W0 wb A n rb sbx obx Pr st os v L) (j : Nat) (y : Int) : Stt W0 wb (A.setCell ⟨rb, j, none⟩ (.int .i64 y)) n rb sbx obx Pr (st.set j y) os v L := by
  have hf := h.far
  have hl := h.lt
  have hg : Gr A (A.setCell ⟨rb, j, none⟩ (.int .i64 y)) (fun k => k = rb) := Gr.one rb j _
  refine ⟨h.gr.then hg fun i hi ht => by omega, h.lt, ?_, hg.bk h.sb (fun e => hf.1 e.symm), hg.bk h.ob (fun e => hf.2.1 e.symm), h.q.same fun q hq => hg.block q (h.q.lt q hq).2 (fun e => hf.2.2.2.1 (e ▸ hq)), h.ne, ⟨h.prl.1, h.prl.2.1, h.prl.2.2.1, fun g hp => Nat.lt_of_lt_of_le (h.prl.2.2.2 g hp) hg.size⟩,
    ⟨h.mks.nd, fun D hD => ⟨(h.mks.at_ D hD).1, (hg.block D (Array.getElem?_eq_some_iff.1 (h.mks.at_ D hD).2).1 (h.mk_ne hD h.row)).trans (h.mks.at_ D hD).2⟩⟩⟩
  have h1 := h.row.set_ j (.int .i64 y)
  rw [List.setIfInBounds_toArray, show (.int .i64 y : Value) = iv y from rfl, ← List.map_set] at h1
  exact h1
/-- The queue's slice is another one. -/
theorem Stt.queue {W0 A B : World} {wb n rb sbx obx : Nat} {Pr : Nat → Prop} {st os os' : List Int} {v v' : Value} {L : List Nat} (h : Stt W0 wb A n rb sbx obx Pr st os v L) (hB : A.grownBy B v.ownBlock) (hto : RowTo A v v') (hq : OT B W0.heap.size v' os') :
    Stt W0 wb (B.setCell ⟨obx, 0, none⟩ v') n rb sbx obx Pr st os' v' L := by
  have hf := h.far
  have hl := h.lt
  have hgB : Gr A B (fun k => some k = v.ownBlock) := Gr.of_grown hB
  have hg : Gr A (B.setCell ⟨obx, 0, none⟩ v') (fun k => some k = v.ownBlock ∨ k = obx) := (hgB.mono (fun _ _ h => .inl h)).setCell (p := ⟨obx, 0, none⟩) (fun _ => .inr rfl) v'
  have hobB : Bk B obx 23 #[v] := hgB.bk h.ob (fun e => hf.2.2.2.2.2 e.symm)
  have hne' : ∀ g, Pr g → v'.ownBlock ≠ some g := by
    intro g hp e
    rcases hto with h1 | ⟨k, h1, h2⟩
    · exact h.ne g hp (h1 ▸ e)
    · rw [h2] at e; injection e with e; have := h.prl.2.2.2 g hp; omega
  have hvg : ∀ g, v.ownBlock = some g → W0.heap.size ≤ g := fun g hg => (h.q.lt g hg).1
  refine ⟨h.gr.then hg fun i hi ht => ?_, h.lt, hg.bk h.row ?_, hg.bk h.sb ?_, ?_, hq.same (fun q e => (Gr.one (A := B) obx 0 v').block q (hq.lt q e).2 (fun e' => hne' obx h.prl.2.2.1 (e' ▸ e))), hne', ⟨h.prl.1, h.prl.2.1, h.prl.2.2.1, fun g hp => Nat.lt_of_lt_of_le (h.prl.2.2.2 g hp) hg.size⟩,
    ⟨h.mks.nd, fun D hD => ⟨(h.mks.at_ D hD).1, (hg.block D (Array.getElem?_eq_some_iff.1 (h.mks.at_ D hD).2).1 ?_).trans (h.mks.at_ D hD).2⟩⟩⟩
  · rcases ht with ht | ht
    · have := hvg i ht.symm; omega
    · omega
  · rintro (e | e)
    · exact hf.2.2.2.1 e.symm
    · exact hf.2.1 e
  · rintro (e | e)
    · exact hf.2.2.2.2.1 e.symm
    · exact hf.2.2.1 e
  · have h1 := hobB.set_ 0 v'
    simpa using h1
  · rintro (e | e)
    · obtain ⟨cur, hc⟩ := h.cells e.symm
      exact h.mk_ne hD hc rfl
    · exact h.mk_ne hD h.ob e
end Go.Proofs.YtnkimfbdcghgpaaDoor
