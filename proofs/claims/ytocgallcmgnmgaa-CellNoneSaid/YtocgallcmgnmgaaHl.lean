/-
  DERIVED. The walk of held.places.
-/
import Derived.Test.YtocgallcmgnmgaaHk
import Derived.Laws.CopyOwn
import Derived.Laws.MakeOwn
import Derived.Deep.OwnRows
namespace Go.Proofs.Ytocgallcmgnmgaa
open Go.RowKit Go.Maps

def ints (l : List Int) : List Value := l.map (Value.int .i64)
theorem made_zeros (F : Nat) : madeCells #[.int .i64 0] F = (ints (zeros F)).toArray := by
  refine Array.ext' ?_
  rw [toList_madeCells_one]
  simp [ints, zeros]
/-- A cell's places, but for those that are still to come. -/
def mid (F : Nat) (c : PC) (left : Lit → Bool) : List Int := (List.range F).map fun j => if 8 ≤ j ∧ left (IK j) = true then 0 else c.at j
theorem mid_len (F : Nat) (c : PC) (left : Lit → Bool) : (mid F c left).length = F := by simp [mid]
theorem mid_get (F : Nat) (c : PC) (left : Lit → Bool) (j : Nat) (h : j < F) : (mid F c left)[j]? = some (if 8 ≤ j ∧ left (IK j) = true then 0 else c.at j) := by simp [mid, h]
theorem mid_end (F : Nat) (c : PC) (hl : c.to.length = F) : mid F c (fun _ => false) = c.to := by
  refine List.ext_getElem? fun j => ?_
  by_cases h : j < F
  · rw [mid_get F c _ j h, at_get c j (by omega), if_neg (by simp)]
  · rw [List.getElem?_eq_none (by rw [mid_len]; omega), List.getElem?_eq_none (by omega)]
/-- Behind the copy of the near ones. -/
theorem mid_start (F : Nat) (c : PC) (left : Lit → Bool) (h : ∀ j, 8 ≤ j → j < F → left (IK j) = false → c.at j = 0) :
    splice (ints (zeros F)) 0 (ints ((List.range (Nat.min 8 F)).map c.at)) = ints (mid F c left) := by
  refine List.ext_getElem? fun j => ?_
  unfold splice ints
  have hn : Nat.min 8 F = min 8 F := rfl
  rw [List.take_zero, List.nil_append, List.getElem?_map]
  by_cases hj : j < F
  · rw [mid_get F c left j hj]
    by_cases h8 : j < 8
    · rw [List.getElem?_append_left (by simp; omega), if_neg (by omega), List.getElem?_map, List.getElem?_map, List.getElem?_range (by omega)]; rfl
    · rw [List.getElem?_append_right (by simp; omega), List.getElem?_drop]
      have : (List.map (Value.int IntKind.i64) (zeros F))[0 + (List.map (Value.int IntKind.i64) (List.map c.at (List.range (Nat.min 8 F)))).length + (j - (List.map (Value.int IntKind.i64) (List.map c.at (List.range (Nat.min 8 F)))).length)]? = some (.int .i64 0) := by
        rw [List.getElem?_map]
        unfold zeros
        rw [List.getElem?_replicate, if_pos (by simp; omega)]; rfl
      rw [this]
      by_cases hl : left (IK j) = true
      · rw [if_pos ⟨by omega, hl⟩]; rfl
      · rw [if_neg (fun e => hl e.2), h j (by omega) hj (by simpa using hl)]; rfl
  · rw [List.getElem?_eq_none (by simp [zeros]; omega), List.getElem?_eq_none (by rw [mid_len]; omega)]; rfl
theorem mid_step (F k : Nat) (c : PC) (left : Lit → Bool) : (ints (mid F c left)).toArray.setIfInBounds k (.int .i64 (c.at k)) = (ints (mid F c (fun z => left z && !z.sameKey (IK k)))).toArray := by
  refine Array.ext_getElem? fun j => ?_
  rw [Array.getElem?_setIfInBounds, List.getElem?_toArray, List.getElem?_toArray]
  unfold ints
  rw [List.getElem?_map, List.getElem?_map]
  by_cases hj : j < F
  · rw [mid_get F c _ j hj, mid_get F c _ j hj]
    by_cases e : k = j
    · subst e
      have hs : (IK k).sameKey (IK k) = true := by simp [IK, Lit.sameKey]
      rw [if_pos rfl, if_pos (by simpa [mid_len] using hj), if_neg (by rw [hs]; simp)]; rfl
    · rw [if_neg e]
      have hs : (IK j).sameKey (IK k) = false := sameKey_ne (IK_ne (Ne.symm e))
      rw [hs]; simp
  · rw [List.getElem?_eq_none (by rw [mid_len]; omega), List.getElem?_eq_none (by rw [mid_len]; omega)]
    by_cases e : k = j
    · subst e; rw [if_pos rfl, if_neg (by simp [mid_len]; omega)]; rfl
    · rw [if_neg e]
theorem left_has {w : World} {m r n cnt : Nat} {D : DataW Unit} {left : Lit → Bool} (h : w.ranges Try.prog 3 (plainElem Try.prog 3) m r n D left cnt) (kl : Lit) (hk : left kl = true) : has D kl = true := by
  obtain ⟨es, clock, since, seen, c0, hb, F, hs, hD, hr, hold, hc, hl1, hl2, _⟩ := h
  obtain ⟨x, hx, rfl⟩ := hl2 kl hk
  obtain ⟨y, hy⟩ := F.reads x hx
  rw [hD]
  refine List.any_eq_true.2 ⟨_, mem_sorted.2 (List.mem_map.2 ⟨x, hx, rfl⟩), WideAt.sameKey_self ?_⟩
  rw [Go.WideElems.rg_of hy]
  exact law3.key (Go.WideElems.rd_key hy)
theorem not_has_at {D : DataW Unit} {kl : Lit} (h : has D kl = false) (z : DataW Unit) : D.atKey kl z = z := atKey_of_not_has h z
end Go.Proofs.Ytocgallcmgnmgaa
