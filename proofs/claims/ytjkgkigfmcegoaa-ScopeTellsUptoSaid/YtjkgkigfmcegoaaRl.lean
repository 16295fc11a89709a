/-
  DERIVED. Names in the order in which they were added, as a map of numbers.
-/
import Derived.Test.YtjkgkigfmcegoaaOpen
import Derived.Maps.OwnSet
import Derived.Maps.Views
import Derived.DeepKeys4
import Derived.StringKeys
namespace Go.Proofs.Ytjkgkigfmcegoaa
open Go.RowKit Go.Maps Go.WideMaps

theorem name_ext {a b : ByteArray} (h : a.data.toList = b.data.toList) : a = b := by
  cases a with | mk a => cases b with | mk b =>
    simp only at h
    rw [Array.toList_inj.1 h]
instance : DecidableEq ByteArray := fun a b => if h : a.data.toList = b.data.toList then .isTrue (name_ext h) else .isFalse (fun e => h (by rw [e]))

/-- How names are keys: their value, and what it reads as. -/
structure Keying (K : TypeId) (κ : Type) where
  val : κ → Value
  lit : κ → Lit
  ok : κ → Prop
  key : ∀ x, ok x → keyOf Try.prog K (val x) = some (lit x)
  law : Keyed Try.prog K
  inj : ∀ x y, val x = val y → x = y
  isKey : ∀ x, WideAt.IsKeyLit (lit x)
theorem Keying.ne {K : TypeId} {κ : Type} (g : Keying K κ) {x y : κ} (hx : g.ok x) (hy : g.ok y) (h : x ≠ y) : g.lit x ≠ g.lit y := fun e => by
  have h1 := g.key x hx
  have h2 := g.key y hy
  rw [← e] at h2
  exact h (g.inj _ _ (g.law.inj h1 h2))

structure IsRoll {K : TypeId} {κ : Type} (g : Keying K κ) (l : List κ) (D : DataW Unit) : Prop where
  tidy : Tidy D
  size : Maps.size D = l.length
  okay : ∀ x ∈ l, g.ok x
  has : ∀ x, g.ok x → (Maps.has D (g.lit x) = true ↔ x ∈ l)
  at_ : ∀ (i : Nat) (x : κ), l[i]? = some x → ∀ z, D.atKey (g.lit x) z = .lit (.int .i64 i)
theorem isRoll_nil {K : TypeId} {κ : Type} (g : Keying K κ) : IsRoll g [] (.map []) where
  tidy := tidy_empty
  size := rfl
  okay := by simp
  has := fun x _ => by simp [Maps.has]
  at_ := fun i x h => by simp at h
theorem IsRoll.add {K : TypeId} {κ : Type} {g : Keying K κ} {l : List κ} {D : DataW Unit} (h : IsRoll g l D) {x : κ} (hx : g.ok x) (hn : x ∉ l) : IsRoll g (l ++ [x]) (D.put (g.lit x) (.lit (.int .i64 l.length))) where
  tidy := h.tidy.put (g.isKey x) _
  size := by
    have : Maps.has D (g.lit x) = false := by
      rw [← Bool.not_eq_true]; exact fun e => hn ((h.has x hx).1 e)
    rw [size_put h.tidy, this, h.size]; simp
  okay := fun y hy => by
    rcases List.mem_append.1 hy with hy | hy
    · exact h.okay y hy
    · simp only [List.mem_singleton] at hy; subst hy; exact hx
  has := fun y hy => by
    classical
    by_cases e : y = x
    · subst e; simp [has_put_same h.tidy.isMap (g.isKey y)]
    · rw [has_put_other (g.ne hy hx e), h.has y hy]; simp [e]
  at_ := fun i y hy z => by
    by_cases hi : i < l.length
    · rw [List.getElem?_append_left hi] at hy
      have hm : y ∈ l := List.mem_of_getElem? hy
      have hne : y ≠ x := fun e => hn (e ▸ hm)
      rw [atKey_put_other (g.ne (h.okay y hm) hx hne)]
      exact h.at_ i y hy z
    · have hlt := (List.getElem?_eq_some_iff.1 hy).1
      simp only [List.length_append, List.length_singleton] at hlt
      obtain rfl : i = l.length := by omega
      simp at hy
      subst hy
      exact atKey_put_same h.tidy.isMap (g.isKey x) _ _

/-- The map in block b has just these names, each with its number. -/
def Roll {K : TypeId} {κ : Type} (g : Keying K κ) (w : World) (b : Nat) (l : List κ) : Prop :=
  ∃ D : DataW Unit, w.ownsMap Try.prog K (plainElem Try.prog 3) b l.length D ∧ IsRoll g l D
theorem Roll.made {K : TypeId} {κ : Type} (g : Keying K κ) (w : World) : Roll g (w.alloc (.map #[] 0)) w.heap.size [] := ⟨_, World.ownsMap_made _ _ _ _, isRoll_nil g⟩
theorem Roll.kept {K : TypeId} {κ : Type} {g : Keying K κ} {w w' : World} {b : Nat} {l : List κ} {row : Option Nat} (h : Roll g w b l) (hg : w.grownBy w' row) (hne : some b ≠ row) : Roll g w' b l := by
  obtain ⟨D, h1, h2⟩ := h
  exact ⟨D, h1.kept hg hne, h2⟩
theorem Roll.lt {K : TypeId} {κ : Type} {g : Keying K κ} {w : World} {b : Nat} {l : List κ} (h : Roll g w b l) : b < w.heap.size := by
  obtain ⟨D, h1, _⟩ := h
  exact h1.lt
theorem Roll.same {K : TypeId} {κ : Type} {g : Keying K κ} {w w' : World} {b : Nat} {l : List κ} (h : Roll g w b l) (hb : w'.heap[b]? = w.heap[b]?) : Roll g w' b l := by
  obtain ⟨D, ⟨es, clock, h1, h2⟩, h3⟩ := h
  exact ⟨D, ⟨es, clock, hb.trans h1, h2⟩, h3⟩
theorem Roll.below {K : TypeId} {κ : Type} {g : Keying K κ} {w w' : World} {b : Nat} {l : List κ} {N : Nat} (h : Roll g w b l) (hb : Below N w w') (hN : b < N) : Roll g w' b l :=
  h.same (hb.block b hN)

/-- Is it there? -/
def isIn {κ : Type} [DecidableEq κ] (l : List κ) (x : κ) : Bool := decide (x ∈ l)
theorem isIn_iff {κ : Type} [DecidableEq κ] {l : List κ} {x : κ} : isIn l x = true ↔ x ∈ l := by simp [isIn]
theorem isIn_not {κ : Type} [DecidableEq κ] {l : List κ} {x : κ} : isIn l x = false ↔ x ∉ l := by simp [isIn]
/-- A number, or 0 where there is none. -/
def numOf {κ : Type} [DecidableEq κ] (l : List κ) (x : κ) : Int := if isIn l x = true then (l.idxOf x : Int) else 0
theorem IsRoll.num {K : TypeId} {κ : Type} [DecidableEq κ] {g : Keying K κ} {l : List κ} {D : DataW Unit} (h : IsRoll g l D) {x : κ} (hx : g.ok x) : D.atKey (g.lit x) (.lit (.int .i64 0)) = .lit (.int .i64 (numOf l x)) := by
  unfold numOf
  by_cases hm : x ∈ l
  · rw [if_pos (isIn_iff.2 hm)]
    exact h.at_ _ x (by rw [List.getElem?_eq_getElem (List.idxOf_lt_length_of_mem hm), List.getElem_idxOf]) _
  · rw [if_neg (by rw [isIn_not.2 hm]; decide)]
    exact atKey_of_not_has (by rw [← Bool.not_eq_true]; exact fun e => hm ((h.has x hx).1 e)) _
theorem IsRoll.hasB {K : TypeId} {κ : Type} [DecidableEq κ] {g : Keying K κ} {l : List κ} {D : DataW Unit} (h : IsRoll g l D) {x : κ} (hx : g.ok x) : Maps.has D (g.lit x) = isIn l x := by
  rw [Bool.eq_iff_iff, h.has x hx, isIn_iff]

theorem law9 : Keyed Try.prog 9 := string_keyed Try.underlying9
theorem zero3 (w : World) : (zeroValue 3).run Try.prog w = .ok (.int .i64 0) w := by kernel_rfl
theorem wide79 : (match Try.prog.underlying 79 with | some (.array _ _) | some (.struct _) => true | _ => false) = true := by kernel_rfl
theorem law79 : Keyed Try.prog 79 := Keyed.of_law (deep_law_laid Try.laidOut (m := 3) (by omega) (of_decide_eq_true (by kernel_rfl)) (by kernel_rfl) wide79)

/-- Names as keys. -/
def byName : Keying 9 ByteArray where
  val s := .string s
  lit s := .string s.data.toList
  ok s := s.size ≤ maxLen
  key s h := keyOf_string_mk Try.underlying9 h
  law := law9
  inj := fun x y h => by injection h
  isKey := fun _ => trivial
theorem keyType79 : Try.prog.keyType 79 = true := by kernel_rfl
theorem cells79 : Try.prog.cellsOf 79 = 2 := by kernel_rfl
theorem keyLits3 (n : Nat) (o : Int) (ho : (Lit.int .i64 o).wf = true) : Try.prog.keyLits (n + 1) 3 [.int .i64 o] = some [.int .i64 o] := by simp [Program.keyLits, Try.underlying3, ho]
theorem keyLits9 (n : Nat) (s : ByteArray) (hs : s.size ≤ maxLen) : Try.prog.keyLits (n + 1) 9 [.string s] = some [.string s.data.toList] := by simp [Program.keyLits, Try.underlying9, hs]
theorem lits79 (o : Int) (s : ByteArray) (ho : (Lit.int .i64 o).wf = true) (hs : s.size ≤ maxLen) : Try.prog.keyLits (Try.prog.types.size + 1) 79 [.int .i64 o, .string s] = some [.int .i64 o, .string s.data.toList] := by
  obtain ⟨m, hm⟩ : ∃ m, Try.prog.types.size = m + 1 := ⟨119, by kernel_rfl⟩
  rw [hm]
  unfold Program.keyLits
  rw [Try.underlying79]
  simp [keyLits3, keyLits9, cells79, cells3, cells9, ho, hs]
theorem key79 (o : Int) (s : ByteArray) (ho : (Lit.int .i64 o).wf = true) (hs : s.size ≤ maxLen) : keyOf Try.prog 79 (.agg #[.int .i64 o, .string s]) = some (.string (keyBytes [.int .i64 o, .string s.data.toList])) := by
  have hf : (Value.agg #[.int .i64 o, .string s]).formed Try.prog 79 = true := by simp [Value.formed, Try.underlying79, cells79]
  unfold keyOf
  rw [Try.underlying79]
  simp only [keyType79, hf, Bool.and_self, if_true]
  rw [show (Value.agg #[.int .i64 o, .string s]).cells.toList = [.int .i64 o, .string s] from rfl, lits79 o s ho hs]
  rfl
/-- Names within structs as keys. -/
def byMember : Keying 79 (Int × ByteArray) where
  val x := .agg #[.int .i64 x.1, .string x.2]
  lit x := .string (keyBytes [.int .i64 x.1, .string x.2.data.toList])
  ok x := (Lit.int .i64 x.1).wf = true ∧ x.2.size ≤ maxLen
  key x h := key79 x.1 x.2 h.1 h.2
  law := law79
  inj := fun x y h => by
    obtain ⟨a, b⟩ := x; obtain ⟨c, d⟩ := y
    simp at h
    simp [h.1, h.2]
  isKey := fun _ => trivial
end Go.Proofs.Ytjkgkigfmcegoaa
