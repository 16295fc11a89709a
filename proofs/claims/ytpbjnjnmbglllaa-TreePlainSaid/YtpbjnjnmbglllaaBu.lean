/-
  DERIVED. A struct literal whose cells are not looked at: what it comes to bears one name, and goes whole into a block.
-/
import Derived.Test.YtpbjnjnmbglllaaPf
import Derived.Laws.Tables
namespace Go.Proofs.Ytpbjnjnmbglllaa
open Go.RowKit Go.Sort

/-- Do parts of such sizes fit? -/
def fillOk (place : Nat → Option (Nat × Nat)) (sz : Nat) : List (Nat × Nat) → Bool
  | [] => true
  | (i, n) :: r => (match place i with | none => false | some (off, size) => decide (n = size) && decide (off + n ≤ sz)) && fillOk place sz r
theorem size_fold (off : Nat) : ∀ (l : List (Value × Nat)) (cs : Array Value), (l.foldl (fun cs x => cs.setIfInBounds (off + x.2) x.1) cs).size = cs.size
  | [], _ => rfl
  | x :: l, cs => by rw [List.foldl_cons, size_fold off l]; simp
theorem fill_some (place : Nat → Option (Nat × Nat)) : ∀ (l : List (Nat × Value)) (cells : Array Value), fillOk place cells.size (l.map fun p => (p.1, p.2.cells.size)) = true → (Instr.fill place cells l).isSome = true
  | [], _, _ => rfl
  | (i, v) :: r, cells, h => by
    simp only [List.map_cons, fillOk, Bool.and_eq_true] at h
    obtain ⟨h1, h2⟩ := h
    unfold Instr.fill
    cases hp : place i with
    | none => rw [hp] at h1; cases h1
    | some q =>
      obtain ⟨off, size⟩ := q
      rw [hp] at h1
      simp only [Bool.and_eq_true, decide_eq_true_eq] at h1
      simp only
      rw [if_neg (by simp; omega)]
      refine fill_some place r _ ?_
      rw [← Array.foldl_toList, size_fold]
      exact h2
/-- A struct's size, and its fields' places. -/
def structOf (P : Program) (t : TypeId) : Option (Nat × List (Nat × Nat)) :=
  match P.info? t, P.underlying t with
  | some it, some (.struct fields) =>
    match it.zero, fields.toList.mapM (fun f => (P.info? f.type).map fun i => (f.offset, i.size)) with
    | some z, some places => some (z.cells.size, places)
    | _, _ => none
  | _, _ => none
theorem built_some {P : Program} {t : TypeId} {sz : Nat} {places : List (Nat × Nat)} (h : structOf P t = some (sz, places)) (l : List (Nat × Value)) (hf : fillOk (places.toArray[·]?) sz (l.map fun p => (p.1, p.2.cells.size)) = true) : (P.built t l).isSome = true := by
  unfold structOf at h
  unfold Program.built
  cases hi : P.info? t with
  | none => rw [hi] at h; simp at h
  | some it =>
    cases hu : P.underlying t with
    | none => rw [hi, hu] at h; simp at h
    | some d =>
      rw [hi, hu] at h
      cases d <;> try (simp at h; done)
      rename_i fields
      simp only at h ⊢
      cases hz : it.zero with
      | none => rw [hz] at h; simp at h
      | some z =>
        cases hp : fields.toList.mapM (fun f => (P.info? f.type).map fun i => (f.offset, i.size)) with
        | none => rw [hz, hp] at h; simp at h
        | some pl =>
          rw [hz, hp] at h
          simp only [Option.some.injEq, Prod.mk.injEq] at h
          obtain ⟨rfl, rfl⟩ := h
          exact fill_some _ l _ hf
/-- What a struct literal comes to. -/
def mkB (P : Program) (t : TypeId) (parts : Array (Nat × Value)) : Array Value := (P.built t parts.toList).getD #[]
/-- Its parts' sizes. -/
def shB (parts : Array (Nat × Value)) : List (Nat × Nat) := parts.toList.map fun p => (p.1, p.2.cells.size)
theorem run_mkB {t : TypeId} {sz : Nat} {places : List (Nat × Nat)} (h : structOf Try.prog t = some (sz, places)) {sh : List (Nat × Nat)} (hf : fillOk (places.toArray[·]?) sz sh = true) (parts : Array (Nat × Value)) (w : World) (hs : shB parts = sh) : (Instr.build t parts).run Try.prog w = .ok (.agg (mkB Try.prog t parts)) w := by
  have hb := built_some h parts.toList (by rw [show (parts.toList.map fun p => (p.1, p.2.cells.size)) = sh from hs]; exact hf)
  obtain ⟨cs, hc⟩ := Option.isSome_iff_exists.1 hb
  rw [run_build w t parts cs hc]
  unfold mkB
  rw [hc]; rfl
theorem struct57 : structOf Try.prog 57 = some (48, [(0, 1), (1, 1), (2, 3), (5, 12), (17, 26), (43, 1), (44, 1), (45, 1), (46, 1), (47, 1)]) := by kernel_rfl
theorem struct54 : structOf Try.prog 54 = some (26, [(0, 1), (1, 1), (2, 12), (14, 12)]) := by kernel_rfl
theorem run_b57 (parts : Array (Nat × Value)) (w : World) (hs : shB parts = [(0, 1), (2, 3), (3, 12), (5, 1), (9, 1)]) : (Instr.build 57 parts).run Try.prog w = .ok (.agg (mkB Try.prog 57 parts)) w := run_mkB struct57 (by decide) parts w hs
theorem run_b54 (parts : Array (Nat × Value)) (w : World) (hs : shB parts = [(0, 1), (2, 12), (3, 12)]) : (Instr.build 54 parts).run Try.prog w = .ok (.agg (mkB Try.prog 54 parts)) w := run_mkB struct54 (by decide) parts w hs
/-- The same under a name that no walk opens. -/
def buildO (t : TypeId) (parts : Array (Nat × Value)) : Sem Value := Instr.build t parts
theorem build_o57 (parts : Array (Nat × Value)) : Instr.build 57 parts = buildO 57 parts := rfl
theorem build_o54 (parts : Array (Nat × Value)) : Instr.build 54 parts = buildO 54 parts := rfl
theorem run_o57 (parts : Array (Nat × Value)) (w : World) (hs : shB parts = [(0, 1), (2, 3), (3, 12), (5, 1), (9, 1)]) : (buildO 57 parts).run Try.prog w = .ok (.agg (mkB Try.prog 57 parts)) w := run_b57 parts w hs
theorem run_o54 (parts : Array (Nat × Value)) (w : World) (hs : shB parts = [(0, 1), (2, 12), (3, 12)]) : (buildO 54 parts).run Try.prog w = .ok (.agg (mkB Try.prog 54 parts)) w := run_b54 parts w hs
theorem shB_lit (l : List (Nat × Value)) : shB l.toArray = l.map fun p => (p.1, p.2.cells.size) := rfl

end Go.Proofs.Ytpbjnjnmbglllaa
