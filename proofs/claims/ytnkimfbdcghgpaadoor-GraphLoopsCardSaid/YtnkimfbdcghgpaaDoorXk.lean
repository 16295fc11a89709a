/-
  DERIVED. A range over a function whose iterator stores into blocks T that lay ahead of the loop (a web whose rows it shortens): the statement's law.
-/
import Derived.Test.YtnkimfbdcghgpaaDoorXd
import Derived.RangeFuncNested
import Derived.RangeFuncBound
import Derived.RangeFuncCalls
import Derived.RangeFuncLeaves
namespace Go.Proofs.YtnkimfbdcghgpaaDoor
open Go.RowKit Go.Sort

section
variable {α : Type} {F : Fence} {n : Nat} {P : Program}
/-- How the body of a round may be left. -/
def LeftBy (B : Nat) (Kp : World → World → Prop) (I : List α → World → Prop) (Ix : Code → List α → World → Prop) (xs : List α) (W : World) : Exit → Act → World → Prop
  | .normal, _, W' => (KeepsFrom B W W' ∧ Kp W W') ∧ I xs W'
  | .ret, _, W' => (KeepsFrom B W W' ∧ Kp W W') ∧ Ix .ret xs W'
  | .exit id, _, W' => (KeepsFrom B W W' ∧ Kp W W') ∧ Ix (.exit id) xs W'
  | .goto t, _, W' => (KeepsFrom B W W' ∧ Kp W W') ∧ Ix (.goto t) xs W'
  | _, _, _ => False
/-- The record of the loop, as the law lays it. -/
def recOf (fn : FuncId) (tm : Array Value) (ps : Array Tmp) (assign body : Code) (D : Nat) (st : LoopState) (pe : Option Code) : Loop :=
  { state := st, pending := pe, fn, tmps := tm, params := ps, assign, body, defers := D }
/-- The two blocks of the loop's own: its record, and the row of deferred calls, empty. -/
def Two (W : World) (l D : Nat) (r : Loop) : Prop := W.heap[l]? = some (.loop r) ∧ W.heap[D]? = some (.deferred (some []))
theorem Two.lt {W : World} {l D : Nat} {r : Loop} (h : Two W l D r) : l < W.heap.size := (Array.getElem?_eq_some_iff.1 h.1).1
theorem Two.keeps {W W' : World} {B l D : Nat} {r : Loop} (h : Two W l D r) (k : KeepsFrom B W W') (hl : B ≤ l) (hD : B ≤ D) : Two W' l D r := ⟨k.same _ _ hl h.1 rfl, k.same _ _ hD h.2 rfl⟩
theorem Two.put {W : World} {l D : Nat} {r : Loop} (h : Two W l D r) (r' : Loop) (hne : D ≠ l) : Two (W.putObj l (.loop r')) l D r' := ⟨World.putObj_heap_same h.lt, (World.putObj_heap_other hne).trans h.2⟩
theorem Two.gr {W W' : World} {l D : Nat} {r : Loop} {T : Nat → Prop} (h : Two W l D r) (g : Gr W W' T) (hl : ¬ T l) (hD : ¬ T D) : Two W' l D r :=
  ⟨(g.block l h.lt hl).trans h.1, (g.block D (Array.getElem?_eq_some_iff.1 h.2).1 hD).trans h.2⟩
/-- What a round comes to, by what its body left. -/
def RoundEnd (Kp : World → World → Prop) (I : List α → World → Prop) (Ix : Code → List α → World → Prop) (xs : List α) (l D : Nat) (rc : LoopState → Option Code → Loop) (W : World) (e : Ending) (W' : World) : Prop :=
  (e = .returned (.bool true) ∧ (I xs W' ∧ Two W' l D (rc .ready none)) ∧ Kp W W') ∨ (e = .returned (.bool false) ∧ (∃ c, Ix c xs W' ∧ Two W' l D (rc .done (some c))) ∧ Kp W W')
theorem left_round {Kp : World → World → Prop} {I : List α → World → Prop} {Ix : Code → List α → World → Prop} {xs : List α} {l D B : Nat} {fn : FuncId} {tm : Array Value} {ps : Array Tmp} {assign body : Code} {W0 W W3 : World} {e : Exit} {a3 : Act}
    (hB : B ≤ l ∧ B ≤ D) (hne : D ≠ l) (hKt : ∀ {A B C : World}, Kp A B → Kp B C → Kp A C) (hKb : ∀ (W : World) (o : Obj), Kp W (W.putObj l o)) (hI : OwnFrom B I) (hIx : ∀ c, OwnFrom B (Ix c))
    (h0 : Kp W0 W) (h2 : Two W l D (recOf fn tm ps assign body D .busy none)) (h : LeftBy B Kp I Ix xs W e a3 W3) :
    roundPost P l (RoundEnd Kp I Ix xs l D (recOf fn tm ps assign body D) W0) e a3 W3 := by
  have go : ∀ (j : Option Code), KeepsFrom B W W3 → Kp W W3 → ((∃ c, j = some c ∧ Ix c xs W3) ∨ (j = none ∧ I xs W3)) →
      ∃ v w', (Instr.endRound l j).run P W3 = .ok v w' ∧ RoundEnd Kp I Ix xs l D (recOf fn tm ps assign body D) W0 (.returned v) w' := by
    intro j hk hkp hh
    have h3 := h2.keeps hk hB.1 hB.2
    refine ⟨_, _, run_endRound (P := P) j h3.1, ?_⟩
    rcases hh with ⟨c, rfl, hc⟩ | ⟨rfl, hi⟩
    · exact .inr ⟨rfl, ⟨c, (hIx c).putObj _ hc hB.1 h3.1 rfl, h3.put _ hne⟩, hKt (hKt h0 hkp) (hKb _ _)⟩
    · exact .inl ⟨rfl, ⟨hI.putObj _ hi hB.1 h3.1 rfl, h3.put _ hne⟩, hKt (hKt h0 hkp) (hKb _ _)⟩
  cases e with
  | normal => exact go none h.1.1 h.1.2 (.inr ⟨rfl, h.2⟩)
  | ret => exact go (some .ret) h.1.1 h.1.2 (.inl ⟨_, rfl, h.2⟩)
  | exit id => exact go (some (.exit id)) h.1.1 h.1.2 (.inl ⟨_, rfl, h.2⟩)
  | goto t => exact go (some (.goto t)) h.1.1 h.1.2 (.inl ⟨_, rfl, h.2⟩)
  | panic c => exact h.elim
  | outgrown => exact h.elim
/-- What is asked of the iterator: it abides by T, and tells each round where it stands. -/
def SeqT (F : Fence) (m : Nat) (P : Program) (gf : Nat) (lb : Array Value) (encs : α → Array Value) (T : Nat → Prop) (Kp : World → World → Prop) (NN : List α → α → Prop) (S Sp : List α → World → Prop) (w : World) : Prop :=
  ∀ (l : Nat) (J Jx : List α → World → Prop) (W : World), Below w.heap.size w W → (∀ pre A B, J pre A → Gr A B T → J pre B) →
    (∀ pre x W1, J pre W1 → NN pre x → YieldAt F (m - 1) P l (encs x) W1 fun e W' => (e = .returned (.bool true) ∧ J (pre ++ [x]) W' ∧ Kp W1 W') ∨ (e = .returned (.bool false) ∧ Jx (pre ++ [x]) W' ∧ Kp W1 W')) →
    J [] W → CallsIn F m P gf (#[.func (.yield l) #[] #[]] ++ lb) W fun e W' => (∃ v, e = .returned v) ∧ ((∃ xs, S xs W' ∧ J xs W') ∨ (∃ pre, Sp pre W' ∧ Jx pre W'))
/-- **The statement.** -/
theorem wpIn_range_t {g : Operand} {ps : Array Tmp} {assign body : Code} {Q : Exit → Act → World → Prop} {a : Act} {w : World}
    (hro : F.round = none) (h1 : 1 ≤ n) {gf : Nat} {lb : Array Value} (hg : a.eval g = .func (.func gf) #[] lb) (hFg : F.fn gf) (eg : ∀ args w, (callFunc gf args).run P w = .ok (.enter gf args) w)
    {encs : α → Array Value} {T : Nat → Prop} {Kp : World → World → Prop} {NN : List α → α → Prop} {S Sp : List α → World → Prop} (hseq : SeqT F (n - 1) P gf lb encs T Kp NN S Sp w)
    (hps : ∀ x, (encs x).size = ps.size) (hT : ∀ k, T k → k < w.heap.size) (hKt : ∀ {A B C : World}, Kp A B → Kp B C → Kp A C) (hKb : ∀ (W : World) (l : Nat) (o : Obj), w.heap.size ≤ l → Kp W (W.putObj l o))
    (I : List α → World → Prop) (Ix : Code → List α → World → Prop) (hI : OwnFrom w.heap.size I) (hIT : ∀ pre A B, I pre A → Gr A B T → I pre B) (hIx : ∀ c, OwnFrom w.heap.size (Ix c)) (hS : OwnFrom w.heap.size S) (hSp : OwnFrom w.heap.size Sp)
    (h0 : I [] w) (Ax : α → Act → World → Prop) (hAx : ∀ x a', OwnFrom w.heap.size (fun (_ : Unit) W => Ax x a' W))
    (hassign : ∀ (l : Nat) (pre : List α) (x : α) (W : World) (K : Act → World → Prop), I pre W → (∀ a' W', KeepsFrom w.heap.size W W' → Kp W W' → I pre W' → Ax x a' W' → K a' W') →
      assign.wpIn (F.inRound l) (n - 1 - 1) P (Exit.then K (fun _ _ _ => False)) { tmps := (ps.zip (encs x)).foldl (fun t (p, v) => t.setIfInBounds p v) a.tmps, defers := [] } W)
    (hbody : ∀ (l : Nat) (pre : List α) (x : α) (a' : Act) (W : World), I pre W → Ax x a' W → NN pre x → body.wpIn (F.inRound l) (n - 1 - 1) P (LeftBy w.heap.size Kp I Ix (pre ++ [x]) W) a' W)
    (hdone : ∀ (D : Nat) (xs : List α) (W : World), w.heap.size ≤ D → S xs W → I xs W → W.heap[D]? = some (.deferred (some [])) → Q .normal { a with defers := { target := .collected D, args := #[] } :: a.defers } W)
    (hstop : ∀ (D : Nat) (c : Code) (pre : List α) (W : World), w.heap.size ≤ D → Sp pre W → Ix c pre W → W.heap[D]? = some (.deferred (some [])) → c.wpIn F n P Q { a with defers := { target := .collected D, args := #[] } :: a.defers } W) :
    (Code.rangeFunc g ps assign body).wpIn F n P Q a w := by
  refine wpIn_rangeFunc fun fn hfn => ?_
  have hen := run_enterLoop_outer (P := P) (w := w) fn a.tmps ps assign body
  have h2 : Two ((w.alloc (.deferred (some []))).alloc (.loop (recOf fn a.tmps ps assign body w.heap.size .ready none))) (w.heap.size + 1) w.heap.size (recOf fn a.tmps ps assign body w.heap.size .ready none) := by
    refine ⟨?_, (Below.heap_alloc _ _ _ (by simp)).trans (World.alloc_heap_new w _)⟩
    have h3 := World.alloc_heap_new (w.alloc (.deferred (some []))) (.loop (recOf fn a.tmps ps assign body w.heap.size .ready none))
    rwa [World.size_alloc] at h3
  have hb1 : Below w.heap.size w ((w.alloc (.deferred (some []))).alloc (.loop (recOf fn a.tmps ps assign body w.heap.size .ready none))) := ((Below.refl _ w).alloc (Nat.le_refl _) _).alloc (by simp) _
  have hi1 := hI.alloc (.loop (recOf fn a.tmps ps assign body w.heap.size .ready none)) (hI.alloc (.deferred (some [])) h0)
  change (Instr.enterLoop fn a.tmps ps assign body none).run P w = .ok (w.heap.size + 1, _) ((w.alloc (.deferred (some []))).alloc (.loop (recOf fn a.tmps ps assign body w.heap.size .ready none))) at hen
  generalize (w.alloc (.deferred (some []))).alloc (.loop (recOf fn a.tmps ps assign body w.heap.size .ready none)) = W1 at hen h2 hb1 hi1
  have hBl : w.heap.size ≤ w.heap.size + 1 ∧ w.heap.size ≤ w.heap.size := ⟨Nat.le_succ _, Nat.le_refl _⟩
  have hne : w.heap.size ≠ w.heap.size + 1 := by omega
  have hnT : ¬ T (w.heap.size + 1) ∧ ¬ T w.heap.size := ⟨fun h => by have := hT _ h; omega, fun h => by have := hT _ h; omega⟩
  rw [hro]
  refine ⟨w.heap.size + 1, _, W1, { target := .fn (.func gf) lb, args := #[.func (.yield (w.heap.size + 1)) #[] #[]] }, W1, gf, #[.func (.yield (w.heap.size + 1)) #[] #[]] ++ lb, W1, hen, ?_, ?_, ?_, fun _ => h1, ?_⟩
  · simp only [resolve, hg]
    simp [go_sem]
  · intro f' hf'
    simp [Target.leads] at hf'
    subst hf'
    exact hFg
  · simp [invoke, go_sem, eg]
  refine (hseq (w.heap.size + 1) (fun pre W => I pre W ∧ Two W (w.heap.size + 1) w.heap.size (recOf fn a.tmps ps assign body w.heap.size .ready none))
    (fun pre W => ∃ c, Ix c pre W ∧ Two W (w.heap.size + 1) w.heap.size (recOf fn a.tmps ps assign body w.heap.size .done (some c))) W1 hb1
    (fun pre A B hj hgr => ⟨hIT pre A B hj.1 hgr, hj.2.gr hgr hnT.1 hnT.2⟩) ?_ ⟨hi1, h2⟩).mono ?_
  · rintro pre x W ⟨hi, ht⟩ hnn
    have hy := run_yield (P := P) (args := encs x) ht.1 (hps x)
    refine ⟨fn, _, assign, body, hy, roundIn_of_wpIn hfn (hassign _ pre x W _ hi fun a' Wa hka hkp hia hax => ?_)⟩
    have hta := ht.keeps hka hBl.1 hBl.2
    refine ⟨_, run_beginRound hta.1 rfl, ?_⟩
    have htb := hta.put (recOf fn a.tmps ps assign body w.heap.size .busy none) hne
    refine wpIn_mono (hbody _ pre x a' _ (hI.putObj _ hia hBl.1 hta.1 rfl) ((hAx x a').putObj (s := ()) _ hax hBl.1 hta.1 rfl) hnn) fun e a3 W3 hp => ?_
    exact left_round hBl hne hKt (fun W o => hKb W _ o hBl.1) hI hIx (hKt hkp (hKb _ _ _ hBl.1)) htb hp
  · rintro e W2 ⟨⟨v, rfl⟩, ⟨xs, hs, hi, ht⟩ | ⟨pre, hsp, c, hi, ht⟩⟩
    · exact ⟨none, _, run_endLoop (P := P) ht.1 (by intro h; cases h), hdone _ xs _ hBl.2 (hS.putObj _ hs hBl.1 ht.1 rfl) (hI.putObj _ hi hBl.1 ht.1 rfl) (ht.put _ hne).2⟩
    · exact ⟨some c, _, run_endLoop (P := P) ht.1 (by intro h; cases h), hstop _ c pre _ hBl.2 (hSp.putObj _ hsp hBl.1 ht.1 rfl) ((hIx c).putObj _ hi hBl.1 ht.1 rfl) (ht.put _ hne).2⟩
end
end Go.Proofs.YtnkimfbdcghgpaaDoor
