/-
  DERIVED. What the search for circles has of its own, and how it moves on.
-/
import Derived.Test.YtnkimfbdcghgpaaDoorXu
import Derived.Test.YtnkimfbdcghgpaaDoorXq
namespace Go.Proofs.YtnkimfbdcghgpaaDoor
open Go.RowKit Go.Sort Go.Shelf

def mv (x : Int) : Value := .int .u8 x
/-- The last of a queue that is not empty. -/
theorem OT.last {w : World} {B : Nat} {v : Value} {x : Int} {xs : List Int} (h : OT w B v (xs ++ [x])) : ∃ g off c, v = .slice (some ⟨g, off, none⟩) (xs.length + 1) c ∧ xs.length + 1 ≤ c ∧ w.cell? ⟨g, off + xs.length, none⟩ = some (.int .i64 x) ∧ OT w B (.slice (some ⟨g, off, none⟩) xs.length c) xs := by
  rcases h with ⟨_, h⟩ | ⟨g, off, cap, cur, rfl, hb, hg, hn, hc, hs, ht⟩
  · simp at h
  · rw [List.length_append, List.length_singleton] at hn ht
    refine ⟨g, off, cap, by rw [List.length_append, List.length_singleton], hn, ?_, .inr ⟨g, off, cap, cur, rfl, hb, hg, by omega, hc, hs, ?_⟩⟩
    · rw [hg.cell]
      have h1 : ((cur.drop off).take (xs.length + 1))[xs.length]? = some (iv x) := by rw [ht]; simp
      rw [List.getElem?_take, if_pos (by omega), List.getElem?_drop] at h1
      simp only [List.getElem?_toArray, h1]; rfl
    · have h1 : ((cur.drop off).take (xs.length + 1)).take xs.length = xs.map iv := by rw [ht, List.map_append, List.take_left' (by simp)]
      rwa [List.take_take, Nat.min_eq_left (by omega)] at h1

structure Sct (W0 : World) (wb mb : Nat) (W : World) (n mbx fbx obx : Nat) (Pr : Nat → Prop) (m os : List Int) (v : Value) (L : List Nat) : Prop where
  gr : Gr W0 W (fun k => k = wb ∨ k = mb)
  lt : W0.heap.size ≤ mbx ∧ mbx < fbx ∧ fbx < obx
  mlt : mb < W0.heap.size ∧ mb ≠ wb
  row : Bk W mb 66 (m.map mv).toArray
  sb : Bk W mbx 65 #[.slice (some ⟨mb, 0, none⟩) n n]
  fb : Bk W fbx 4 #[.bool false]
  ob : Bk W obx 23 #[v]
  q : OT W W0.heap.size v os
  ne : ∀ g, Pr g → v.ownBlock ≠ some g
  prl : Pr mbx ∧ Pr fbx ∧ Pr obx ∧ ∀ g, Pr g → g < W.heap.size
  mks : Mks W0.heap.size W L
section
variable {W0 A B W : World} {wb mb n mbx fbx obx : Nat} {Pr Pr' : Nat → Prop} {m os os' : List Int} {v v' : Value} {L : List Nat}
theorem Sct.cells (h : Sct W0 wb mb W n mbx fbx obx Pr m os v L) {g : Nat} (hg : v.ownBlock = some g) : ∃ cur, Bk W g 3 cur := by
  rcases h.q with ⟨rfl, _⟩ | ⟨g', off, cap, cur, rfl, _, hb, _⟩
  · cases hg
  · injection hg with hg; subst hg; exact ⟨_, hb⟩
theorem Sct.mk_ne (h : Sct W0 wb mb A n mbx fbx obx Pr m os v L) {D g : Nat} {t : TypeId} {cs : Array Value} (hD : D ∈ L) (hb : Bk A g t cs) : D ≠ g := by
  intro e
  have h1 := (h.mks.at_ D hD).2
  rw [e, show A.heap[g]? = _ from hb] at h1
  cases h1
theorem Sct.kept (h : Sct W0 wb mb A n mbx fbx obx Pr m os v L) {T : Nat → Prop} (hg : Gr A B T)
    (hT : ∀ k, T k → k < W0.heap.size → k = wb) (h1 : ¬ T mb) (h2 : ¬ T mbx) (h3 : ¬ T fbx) (h4 : ¬ T obx) (h5 : ∀ g, v.ownBlock = some g → ¬ T g) (h6 : ∀ D ∈ L, ¬ T D) : Sct W0 wb mb B n mbx fbx obx Pr m os v L :=
  ⟨h.gr.then hg fun i hi ht => .inl (hT i ht hi), h.lt, h.mlt, hg.bk h.row h1, hg.bk h.sb h2, hg.bk h.fb h3, hg.bk h.ob h4, h.q.same fun q hq => hg.block q (h.q.lt q hq).2 (h5 q hq), h.ne, ⟨h.prl.1, h.prl.2.1, h.prl.2.2.1, fun g hp => Nat.lt_of_lt_of_le (h.prl.2.2.2 g hp) hg.size⟩,
    ⟨h.mks.nd, fun D hD => ⟨(h.mks.at_ D hD).1, (hg.block D (Array.getElem?_eq_some_iff.1 (h.mks.at_ D hD).2).1 (h6 D hD)).trans (h.mks.at_ D hD).2⟩⟩⟩
theorem Sct.more (h : Sct W0 wb mb A n mbx fbx obx Pr m os v L) (h1 : ∀ g, Pr g → Pr' g) (h2 : ∀ g, Pr' g → v.ownBlock ≠ some g) (h3 : ∀ g, Pr' g → g < A.heap.size) : Sct W0 wb mb A n mbx fbx obx Pr' m os v L :=
  ⟨h.gr, h.lt, h.mlt, h.row, h.sb, h.fb, h.ob, h.q, h2, ⟨h1 _ h.prl.1, h1 _ h.prl.2.1, h1 _ h.prl.2.2.1, h3⟩, h.mks⟩
theorem Sct.less (h : Sct W0 wb mb A n mbx fbx obx Pr m os v L) (h1 : ∀ g, Pr' g → Pr g) (h2 : Pr' mbx ∧ Pr' fbx ∧ Pr' obx) : Sct W0 wb mb A n mbx fbx obx Pr' m os v L :=
  ⟨h.gr, h.lt, h.mlt, h.row, h.sb, h.fb, h.ob, h.q, fun g hg => h.ne g (h1 g hg), ⟨h2.1, h2.2.1, h2.2.2, fun g hg => h.prl.2.2.2 g (h1 g hg)⟩, h.mks⟩
/-- A mark is written. -/
theorem Sct.put (h : Sct W0 wb mb A n mbx fbx obx Pr m os v L) (j : Nat) (y : Int) : Sct W0 wb mb (A.setCell ⟨mb, j, none⟩ (.int .u8 y)) n mbx fbx obx Pr (m.set j y) os v L := by
  have hl := h.lt
  have hm := h.mlt
  have hg : Gr A (A.setCell ⟨mb, j, none⟩ (.int .u8 y)) (fun k => k = mb) := Gr.one mb j _
  refine ⟨h.gr.then hg fun i hi ht => .inr ht, h.lt, h.mlt, ?_, hg.bk h.sb (by omega), hg.bk h.fb (by omega), hg.bk h.ob (by omega), h.q.same fun q hq => hg.block q (h.q.lt q hq).2 (by have := (h.q.lt q hq).1; omega), h.ne, ⟨h.prl.1, h.prl.2.1, h.prl.2.2.1, fun g hp => Nat.lt_of_lt_of_le (h.prl.2.2.2 g hp) hg.size⟩,
    ⟨h.mks.nd, fun D hD => ⟨(h.mks.at_ D hD).1, (hg.block D (Array.getElem?_eq_some_iff.1 (h.mks.at_ D hD).2).1 (h.mk_ne hD h.row)).trans (h.mks.at_ D hD).2⟩⟩⟩
  have h1 := h.row.set_ j (.int .u8 y)
  rw [List.setIfInBounds_toArray, show (.int .u8 y : Value) = mv y from rfl, ← List.map_set] at h1
  exact h1
theorem Sct.queue (h : Sct W0 wb mb A n mbx fbx obx Pr m os v L) (hB : A.grownBy B v.ownBlock) (hto : RowTo A v v') (hq : OT B W0.heap.size v' os') :
    Sct W0 wb mb (B.setCell ⟨obx, 0, none⟩ v') n mbx fbx obx Pr m os' v' L := by
  have hl := h.lt
  have hm := h.mlt
  have hgB : Gr A B (fun k => some k = v.ownBlock) := Gr.of_grown hB
  have hg : Gr A (B.setCell ⟨obx, 0, none⟩ v') (fun k => some k = v.ownBlock ∨ k = obx) := (hgB.mono (fun _ _ h => .inl h)).setCell (p := ⟨obx, 0, none⟩) (fun _ => .inr rfl) v'
  have hobB : Bk B obx 23 #[v] := hgB.bk h.ob (fun e => h.ne _ h.prl.2.2.1 e.symm)
  have hne' : ∀ g, Pr g → v'.ownBlock ≠ some g := by
    intro g hp e
    rcases hto with h1 | ⟨k, h1, h2⟩
    · exact h.ne g hp (h1 ▸ e)
    · rw [h2] at e; injection e with e; have := h.prl.2.2.2 g hp; omega
  have hvg : ∀ g, v.ownBlock = some g → W0.heap.size ≤ g := fun g hg => (h.q.lt g hg).1
  refine ⟨h.gr.then hg fun i hi ht => ?_, h.lt, h.mlt, hg.bk h.row ?_, hg.bk h.sb ?_, hg.bk h.fb ?_, ?_, hq.same (fun q e => (Gr.one (A := B) obx 0 v').block q (hq.lt q e).2 (fun e' => hne' obx h.prl.2.2.1 (e' ▸ e))), hne', ⟨h.prl.1, h.prl.2.1, h.prl.2.2.1, fun g hp => Nat.lt_of_lt_of_le (h.prl.2.2.2 g hp) hg.size⟩,
    ⟨h.mks.nd, fun D hD => ⟨(h.mks.at_ D hD).1, (hg.block D (Array.getElem?_eq_some_iff.1 (h.mks.at_ D hD).2).1 ?_).trans (h.mks.at_ D hD).2⟩⟩⟩
  · rcases ht with ht | ht
    · have := hvg i ht.symm; omega
    · omega
  · rintro (e | e)
    · have := hvg mb e.symm; omega
    · omega
  · rintro (e | e)
    · exact h.ne _ h.prl.1 e.symm
    · omega
  · rintro (e | e)
    · exact h.ne _ h.prl.2.1 e.symm
    · omega
  · have h1 := hobB.set_ 0 v'
    simpa using h1
  · rintro (e | e)
    · obtain ⟨cur, hc⟩ := h.cells e.symm
      exact h.mk_ne hD hc rfl
    · exact h.mk_ne hD h.ob e
end
/-- How much of the web is left. -/
def left (RS : List (List Ed)) : Nat := (RS.map List.length).sum
theorem left_set : ∀ (RS : List (List Ed)) (c : Nat) (l l' : List Ed), RS[c]? = some l → left (RS.set c l') + l.length = left RS + l'.length
  | [], c, l, l', h => by simp at h
  | x :: r, 0, l, l', h => by simp at h; subst h; simp [left]; omega
  | x :: r, c + 1, l, l', h => by
    rw [List.getElem?_cons_succ] at h
    have ih := left_set r c l l' h
    simp only [left, List.set_cons_succ, List.map_cons, List.sum_cons] at ih ⊢
    omega
end Go.Proofs.YtnkimfbdcghgpaaDoor
