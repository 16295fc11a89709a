/-
  DERIVED. PLAIN: a heap's cells, and what is done with them.
-/
import Derived.Test.YtocgallcmgnmgaaRows
import Derived.Lib.Hide
namespace Go.Proofs.Ytocgallcmgnmgaa

/-- A cell. -/
structure PC where
  ty : Int
  fr : Bool
  to : List Int
def PC.at (c : PC) (k : Nat) : Int := c.to.getD k 0
def zeros (F : Nat) : List Int := List.replicate F 0
def newC (F : Nat) (t : Int) : PC := ⟨t, false, zeros F⟩
def isCell (n : Nat) (x : Int) : Bool := decide (1 ≤ x) && decide (x ≤ n)
def okTo (n : Nat) (x : Int) : Int := if isCell n x = true then x else 0
def isField (F : Nat) (f : Int) : Bool := decide (0 ≤ f) && decide (f < F)
/-- What is wrong with a cell that is wanted: 1: null; 2: freed. -/
def faultC (cs : List PC) (c : Int) : Int := if isCell cs.length c = true then (if ((cs[c.toNat - 1]?).map PC.fr) = some true then 2 else 0) else 1
def getV (F : Nat) (cs : List PC) (c f : Int) : Int := if faultC cs c = 0 ∧ isField F f = true then ((cs[c.toNat - 1]?).map (·.at f.toNat)).getD 0 else 0
def putTo (x : PC) (f : Nat) (v : Int) : PC := ⟨x.ty, x.fr, x.to.set f v⟩
def putC (F : Nat) (cs : List PC) (c f t : Int) : List PC := if faultC cs c = 0 ∧ isField F f = true then cs.modify (c.toNat - 1) (fun y => putTo y f.toNat (okTo cs.length t)) else cs
def freed (F : Nat) (x : PC) : PC := ⟨x.ty, true, zeros F⟩
def freeC (F : Nat) (cs : List PC) (c : Int) : List PC := if faultC cs c = 0 then cs.modify (c.toNat - 1) (freed F) else cs
def freeE (cs : List PC) (c : Int) : Int := if faultC cs c = 2 then 3 else faultC cs c
/-- A raw cell, as it is loaded among n. -/
def loadC (F n : Nat) (r : PC) : PC := ⟨r.ty, r.fr, (List.range F).map fun f => if r.fr = true then 0 else okTo n (r.at f)⟩

theorem zeros_at (F k : Nat) : (zeros F).getD k 0 = 0 := by
  unfold zeros
  rw [List.getD_eq_getElem?_getD, List.getElem?_replicate]
  split <;> rfl
theorem at_set (x : PC) (f k : Nat) (v : Int) (h : f < x.to.length) : (putTo x f v).at k = if k = f then v else x.at k := by
  unfold putTo PC.at
  rw [List.getD_eq_getElem?_getD, List.getD_eq_getElem?_getD, List.getElem?_set]
  by_cases e : f = k
  · subst e; simp [h]
  · simp [e, Ne.symm e]
theorem putTo_len (x : PC) (f : Nat) (v : Int) : (putTo x f v).to.length = x.to.length := by simp [putTo]
theorem at_over (x : PC) (k : Nat) (h : x.to.length ≤ k) : x.at k = 0 := by
  unfold PC.at; rw [List.getD_eq_getElem?_getD, List.getElem?_eq_none h]; rfl
theorem at_get (x : PC) (k : Nat) (h : k < x.to.length) : x.to[k]? = some (x.at k) := by
  unfold PC.at; rw [List.getD_eq_getElem?_getD, List.getElem?_eq_getElem h]; rfl
/-- Two cells of one length that are alike at each place. -/
theorem pc_ext {a b : PC} (h1 : a.ty = b.ty) (h2 : a.fr = b.fr) (h3 : a.to.length = b.to.length) (h4 : ∀ k, k < a.to.length → a.at k = b.at k) : a = b := by
  obtain ⟨ta, fa, la⟩ := a; obtain ⟨tb, fb, lb⟩ := b
  simp only at h1 h2 h3 h4
  subst h1; subst h2
  have : la = lb := by
    refine List.ext_getElem? fun k => ?_
    by_cases hk : k < la.length
    · have e := h4 k hk
      have ha := at_get ⟨ta, fa, la⟩ k hk
      have hb := at_get ⟨ta, fa, lb⟩ k (by simp only; omega)
      simp only at ha hb
      rw [ha, hb, e]
    · rw [List.getElem?_eq_none (by omega), List.getElem?_eq_none (by omega)]
  rw [this]

/-- A cell that is there. -/
theorem isCell_iff {n : Nat} {c : Int} : isCell n c = true ↔ ∃ i : Nat, i < n ∧ c = (i : Int) + 1 := by
  unfold isCell
  rw [Bool.and_eq_true, decide_eq_true_iff, decide_eq_true_iff]
  constructor
  · intro ⟨h1, h2⟩; exact ⟨c.toNat - 1, by omega, by omega⟩
  · rintro ⟨i, h1, h2⟩; omega
theorem isField_iff {n : Nat} {c : Int} : isField n c = true ↔ ∃ i : Nat, i < n ∧ c = (i : Int) := by
  unfold isField
  rw [Bool.and_eq_true, decide_eq_true_iff, decide_eq_true_iff]
  constructor
  · intro ⟨h1, h2⟩; exact ⟨c.toNat, by omega, by omega⟩
  · rintro ⟨i, h1, h2⟩; omega
theorem fault_at (cs : List PC) (i : Nat) (x : PC) (h : cs[i]? = some x) : faultC cs ((i : Int) + 1) = if x.fr = true then 2 else 0 := by
  have hl : i < cs.length := (List.getElem?_eq_some_iff.1 h).1
  have hi : isCell cs.length ((i : Int) + 1) = true := isCell_iff.2 ⟨i, hl, rfl⟩
  unfold faultC
  rw [if_pos hi, show (((i : Int) + 1).toNat - 1) = i by omega, h]
  show (if some x.fr = some true then (2 : Int) else 0) = _
  cases x.fr <;> rfl
theorem fault_no (cs : List PC) (c : Int) (h : isCell cs.length c = false) : faultC cs c = 1 := by
  unfold faultC; rw [if_neg (by rw [h]; decide)]
/-- The three ways. -/
theorem fault_ways (cs : List PC) (c : Int) : (isCell cs.length c = false ∧ faultC cs c = 1) ∨ ∃ (i : Nat) (x : PC), c = (i : Int) + 1 ∧ cs[i]? = some x ∧ i < cs.length ∧ ((x.fr = true ∧ faultC cs c = 2) ∨ (x.fr = false ∧ faultC cs c = 0)) := by
  cases h : isCell cs.length c with
  | false => exact .inl ⟨rfl, fault_no cs c h⟩
  | true =>
    obtain ⟨i, hi, rfl⟩ := isCell_iff.1 h
    refine .inr ⟨i, cs[i], rfl, List.getElem?_eq_getElem hi, hi, ?_⟩
    have := fault_at cs i cs[i] (List.getElem?_eq_getElem hi)
    cases hf : cs[i].fr with
    | true => exact .inl ⟨rfl, by rw [this, hf]; rfl⟩
    | false => exact .inr ⟨rfl, by rw [this, hf]; rfl⟩
theorem modify_at {α : Type} (l : List α) (i : Nat) (x : α) (g : α → α) (h : l[i]? = some x) : l.modify i g = l.set i (g x) := by
  refine List.ext_getElem? fun k => ?_
  rw [List.getElem?_modify, List.getElem?_set]
  by_cases e : i = k
  · subst e
    rw [h, if_pos rfl, if_pos (List.getElem?_eq_some_iff.1 h).1]
    show some (if i = i then g x else x) = _
    rw [if_pos rfl]
  · simp [e]
theorem getV_at (F : Nat) (cs : List PC) (i f : Nat) (x : PC) (h : cs[i]? = some x) (hx : x.fr = false) (hf : f < F) : getV F cs ((i : Int) + 1) f = x.at f := by
  unfold getV
  rw [if_pos ⟨by rw [fault_at cs i x h, hx]; rfl, isField_iff.2 ⟨f, hf, rfl⟩⟩, show (((i : Int) + 1).toNat - 1) = i by omega, h]
  simp
theorem getV_no (F : Nat) (cs : List PC) (c f : Int) (h : faultC cs c ≠ 0 ∨ isField F f = false) : getV F cs c f = 0 := by
  unfold getV
  rw [if_neg]
  rintro ⟨h1, h2⟩
  rcases h with h | h
  · exact h h1
  · rw [h] at h2; cases h2
theorem putC_at (F : Nat) (cs : List PC) (i f : Nat) (t : Int) (x : PC) (h : cs[i]? = some x) (hx : x.fr = false) (hf : f < F) : putC F cs ((i : Int) + 1) f t = cs.set i (putTo x f (okTo cs.length t)) := by
  unfold putC
  rw [if_pos ⟨by rw [fault_at cs i x h, hx]; rfl, isField_iff.2 ⟨f, hf, rfl⟩⟩, show (((i : Int) + 1).toNat - 1) = i by omega, modify_at cs i x _ h]
  simp
theorem putC_no (F : Nat) (cs : List PC) (c f t : Int) (h : faultC cs c ≠ 0 ∨ isField F f = false) : putC F cs c f t = cs := by
  unfold putC
  rw [if_neg]
  rintro ⟨h1, h2⟩
  rcases h with h | h
  · exact h h1
  · rw [h] at h2; cases h2
theorem freeC_at (F : Nat) (cs : List PC) (i : Nat) (x : PC) (h : cs[i]? = some x) (hx : x.fr = false) : freeC F cs ((i : Int) + 1) = cs.set i (freed F x) := by
  unfold freeC
  rw [if_pos (by rw [fault_at cs i x h, hx]; rfl), show (((i : Int) + 1).toNat - 1) = i by omega, modify_at cs i x _ h]
theorem freeC_no (F : Nat) (cs : List PC) (c : Int) (h : faultC cs c ≠ 0) : freeC F cs c = cs := by
  unfold freeC; rw [if_neg h]
theorem putC_len (F : Nat) (cs : List PC) (c f t : Int) : (putC F cs c f t).length = cs.length := by unfold putC; split <;> simp
theorem freeC_len (F : Nat) (cs : List PC) (c : Int) : (freeC F cs c).length = cs.length := by unfold freeC; split <;> simp
end Go.Proofs.Ytocgallcmgnmgaa
