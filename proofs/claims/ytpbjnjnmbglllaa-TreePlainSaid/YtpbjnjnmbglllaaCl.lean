/-
  DERIVED. What the walk of Calls keeps: the map, the names, and all else.
-/
import Derived.Test.YtpbjnjnmbglllaaRefC
import Derived.Maps.OwnSet
import Derived.Maps.AppendAt
import Derived.StillTailTactics
import Derived.Deep.RegionHeld3
namespace Go.Proofs.Ytpbjnjnmbglllaa
open Go.RowKit Go.Sort Go.Maps

/-- Of what was there only the map's block and one row may have turned. -/
structure Kp (B : Nat) (r : Option Nat) (w w' : World) : Prop where
  os : w'.os = w.os
  tape : w'.tape = w.tape
  output : w'.output = w.output
  size : w.heap.size ≤ w'.heap.size
  block : ∀ k, k < w.heap.size → k ≠ B → some k ≠ r → w'.heap[k]? = w.heap[k]?
/-- The row is the one that was there, or a new one. -/
def Nx (w : World) (r r' : Option Nat) : Prop := r' = r ∨ ∃ k, w.heap.size ≤ k ∧ r' = some k
theorem Kp.refl (B : Nat) (r : Option Nat) (w : World) : Kp B r w w := ⟨rfl, rfl, rfl, Nat.le_refl _, fun _ _ _ _ => rfl⟩
theorem Kp.trans {B : Nat} {r r1 : Option Nat} {w w1 w2 : World} (h : Kp B r w w1) (hr : Nx w r r1) (h2 : Kp B r1 w1 w2) : Kp B r w w2 :=
  ⟨h2.os.trans h.os, h2.tape.trans h.tape, h2.output.trans h.output, Nat.le_trans h.size h2.size, fun k hk hB hk' => by
    rw [h2.block k (Nat.lt_of_lt_of_le hk h.size) hB ?_, h.block k hk hB hk']
    rcases hr with rfl | ⟨j, hj, rfl⟩
    · exact hk'
    · intro e; injection e with e; omega⟩
theorem Nx.refl (w : World) (r : Option Nat) : Nx w r r := .inl rfl
theorem Nx.trans {w w1 : World} {r r1 r2 : Option Nat} (h : Nx w r r1) (hw : w.heap.size ≤ w1.heap.size) (h2 : Nx w1 r1 r2) : Nx w r r2 := by
  rcases h2 with rfl | ⟨k, hk, rfl⟩
  · exact h
  · exact .inr ⟨k, by omega, rfl⟩
theorem Kp.of_below {B : Nat} {r : Option Nat} {w w' : World} (h : Below w.heap.size w w') : Kp B r w w' := ⟨h.os, h.tape, h.output, h.size, fun k hk _ _ => h.block k hk⟩
theorem Kp.of_row {B : Nat} {r : Option Nat} {w w' : World} (h : w.grownBy w' r) : Kp B r w w' := ⟨h.os, h.tape, h.output, h.size, fun k hk _ hr => h.block k hk hr⟩
theorem Kp.of_map {B : Nat} {r : Option Nat} {w w' : World} (h : w.grownBy w' (some B)) : Kp B r w w' := ⟨h.os, h.tape, h.output, h.size, fun k hk hB _ => h.block k hk (fun e => hB (by injection e))⟩
theorem Kp.below {B N : Nat} {r : Option Nat} {W w w' : World} (hb : Below N W w) (h : Kp B r w w') (hB : N ≤ B) (hr : ∀ k, r = some k → N ≤ k) (hs : N ≤ w.heap.size) : Below N W w' :=
  ⟨h.os.trans hb.os, h.tape.trans hb.tape, h.output.trans hb.output, Nat.le_trans hb.size h.size, fun k hk => by
    rw [h.block k (by omega) (by omega) (fun e => by have := hr k e.symm; omega)]; exact hb.block k hk⟩
theorem Kp.heap {B k : Nat} {r : Option Nat} {w w' : World} {o : Obj} (h : Kp B r w w') (hk : w.heap[k]? = some o) (hB : k ≠ B) (hr : some k ≠ r) : w'.heap[k]? = some o := by
  rw [h.block k (Array.getElem?_eq_some_iff.1 hk).1 hB hr]; exact hk

/-- The set of the names. -/
def lits (ns : List ByteArray) : List Lit := ns.map fun s => .string s.data.toList
def setB (ns : List ByteArray) : DataW Unit := setOf (.agg []) (lits ns)
/-- The map's block is the set of the names. -/
def owns (w : World) (B : Nat) (ns : List ByteArray) : Prop := w.ownsMap Try.prog 9 (unitElem (H := Unit)) B ns.length (setB ns)
theorem toList_data (s : ByteArray) : s.toList = s.data.toList := ByteArray.toList_eq s
theorem lits_key (ns : List ByteArray) : ∀ x ∈ lits ns, Go.WideAt.IsKeyLit x := by
  intro x hx
  simp only [lits, List.mem_map] at hx
  obtain ⟨s, _, rfl⟩ := hx
  first | exact trivial | (simp [Go.WideAt.IsKeyLit]; done) | constructor
theorem has_set (ns : List ByteArray) (x : ByteArray) : Maps.has (setB ns) (.string x.data.toList) = Ytpbjnjnmbglllaa.has ns x := by
  unfold setB
  rw [has_setOf _ _ _ (lits_key ns)]
  unfold lits Ytpbjnjnmbglllaa.has eqs
  rw [List.any_map]
  congr 1
  funext y
  simp only [Function.comp, Lit.sameKey, toList_data]
theorem set_snoc (ns : List ByteArray) (x : ByteArray) : setB (ns ++ [x]) = (setB ns).put (.string x.data.toList) (.agg []) := by
  unfold setB lits
  rw [List.map_append]; exact setOf_snoc _ _ _
theorem owns_of_block {w w' : World} {B : Nat} {ns : List ByteArray} (h : owns w B ns) (hb : w'.heap[B]? = w.heap[B]?) : owns w' B ns := by
  obtain ⟨es, clock, h1, h2⟩ := h
  exact ⟨es, clock, by rw [hb]; exact h1, h2⟩
theorem owns_lt {w : World} {B : Nat} {ns : List ByteArray} (h : owns w B ns) : B < w.heap.size := by
  obtain ⟨es, clock, h1, h2⟩ := h
  exact (Array.getElem?_eq_some_iff.1 h1).1
theorem owns_below {w w' : World} {B : Nat} {ns : List ByteArray} (h : owns w B ns) (hb : Below w.heap.size w w') : owns w' B ns := owns_of_block h (hb.block B (owns_lt h))
theorem owns_ne {w : World} {B k : Nat} {ns : List ByteArray} {cs : Array Value} {t : TypeId} {fr : Nat × Nat} (h : owns w B ns) (hk : w.heap[k]? = some (.cells cs t fr)) : k ≠ B := by
  rintro rfl
  obtain ⟨es, clock, h1, h2⟩ := h
  rw [hk] at h1; cases h1
theorem row_ne {w : World} {base k n : Nat} {v : Value} {xs : List Value} {cs : Array Value} {t : TypeId} {fr : Nat × Nat} (h : w.ownsRow base 9 1 v n xs) (hk : w.heap[k]? = some (.cells cs t fr)) (ht : t ≠ 9) : some k ≠ v.ownBlock := by
  rcases h.2 with ⟨rfl, _⟩ | ⟨g, cap, cur, rfl, _, hh, _⟩
  · intro e; cases e
  · intro e
    injection e with e
    subst e
    rw [hk] at hh; injection hh with hh; injection hh with _ h2 _; exact ht h2
theorem row_map_ne {w : World} {base B n : Nat} {v : Value} {xs : List Value} {ns : List ByteArray} (h : w.ownsRow base 9 1 v n xs) (ho : owns w B ns) : some B ≠ v.ownBlock := by
  obtain ⟨es, clock, h1, h2⟩ := ho
  rcases h.2 with ⟨rfl, _⟩ | ⟨g, cap, cur, rfl, _, hh, _⟩
  · intro e; cases e
  · intro e
    injection e with e
    subst e
    rw [h1] at hh; cases hh
theorem law9 : Keyed Try.prog 9 := string_keyed Try.underlying9
theorem zero87 (w : World) : (zeroValue 87).run Try.prog w = .ok (.agg #[]) w := by kernel_rfl

end Go.Proofs.Ytpbjnjnmbglllaa
