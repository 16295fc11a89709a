/-
  DERIVED. The walk of held.lead.
-/
import Derived.Test.YtocgallcmgnmgaaHf
namespace Go.Proofs.Ytocgallcmgnmgaa
open Go.RowKit Go.Maps

/-- Of the blocks that were there, at most those of R have turned; R' is R and new ones. -/
structure Stp (w w' : World) (R R' : Nat → Prop) : Prop where
  gr : Gr w w' R
  sub : ∀ k, R k → R' k
  new : ∀ k, R' k → R k ∨ w.heap.size ≤ k
  lt : ∀ k, R' k → k < w'.heap.size
/-- What a step on a row leaves. -/
def RowPost (F : Nat) (w : World) (R : Nat → Prop) (g cap : Nat) (cs' : List PC) (e : Ending) (w' : World) : Prop :=
  e = .returned (.tuple #[]) ∧ ∃ R' cur' fm', (HeldK F).At w' R' g cap cur' fm' cs' ∧ Stp w w' R R'
theorem grownBy_stp {w w' : World} {R : Nat → Prop} {m : Nat} (h : w.grownBy w' (some m)) (hm : R m) (hl : ∀ k, R k → k < w.heap.size) : Stp w w' R R :=
  ⟨(Gr.of_grown h).mono fun k _ e => by injection e with e; subst e; exact hm, fun _ h => h, fun _ h => .inl h, fun k hk => Nat.lt_of_lt_of_le (hl k hk) h.size⟩

/-- The row, with a place of one of its cells made to lead elsewhere. -/
theorem put_near {F g cap : Nat} {w : World} {R : Nat → Prop} {cur : Array Value} {fm : Nat → Option Nat} {cs : List PC} {i k : Nat} {x : PC} {t : Int}
    (ha : (HeldK F).At w R g cap cur fm cs) (hl : ∀ k, R k → k < w.heap.size) (hi : cs[i]? = some x) (h8 : k < 8) (hk : k < F) (ht : okI t) :
    RowPost F w R g cap (cs.set i (putTo x k t)) (.returned (.tuple #[])) (w.setCell ⟨g, i * 11 + 2 + k, none⟩ (.int .i64 t)) := by
  have hsub := ha.sub i x hi
  have hil : i < cs.length := (List.getElem?_eq_some_iff.1 hi).1
  have hxl : x.to.length = F := hsub.1
  have hgr : w.grownBy (w.setCell ⟨g, i * 11 + 2 + k, none⟩ (.int .i64 t)) (some g) := grownBy_setC w _ _
  have hst : Stp w (w.setCell ⟨g, i * 11 + 2 + k, none⟩ (.int .i64 t)) R R := grownBy_stp hgr ha.mine hl
  refine ⟨rfl, R, _, _, ha.put (S := fun k => some k = some g) (b' := fm i) hi (Gr.of_grown hgr) (ha.row.set_ _ _) (by simp) (fun j hj => ?_) (fun j hj => ?_) ?_ (fun k _ hk => .inl (by injection hk)) (fun _ h => h) hl (.inl rfl), hst⟩
  · show (cur.setIfInBounds (i * 11 + 2 + k) _)[i * 11 + j]? = (hcells (putTo x k t) (fm i))[j]?
    have hcs : i * 11 + 11 ≤ cur.size := by
      have h1 := ha.size; have h2 := ha.room
      have : (HeldK F).sz = 11 := rfl
      rw [this] at h1
      have := Nat.mul_le_mul_right 11 (Nat.le_trans (Nat.succ_le_of_lt hil) h2)
      omega
    have hj11 : j < 11 := hj
    rw [hcells_put x (fm i) k t h8 (by omega) j hj, Array.getElem?_setIfInBounds]
    by_cases e : j = 2 + k
    · subst e
      rw [if_pos (by omega), if_pos (by omega), if_pos rfl]
    · rw [if_neg (by omega), if_neg e]
      exact ha.cell i x hi j hj
  · have hj' : j < i * 11 ∨ i * 11 + 11 ≤ j := hj
    rw [Array.getElem?_setIfInBounds, if_neg (by omega)]
  · refine ⟨(putTo_len x k t).trans hxl, ok_put hsub.2.1 ht (by omega), ?_⟩
    have hf := hsub.2.2
    have hk' : (HeldK F).keep = (HeldK F).keep := rfl
    have hkp := (HeldK F).keep w (w.setCell ⟨g, i * 11 + 2 + k, none⟩ (.int .i64 t)) x (fm i) hsub hgr.size (fun m hm => hgr.block m ((HeldK F).has w x _ m hsub hm) (fun e => (ha.own i m hil hm).2 (by injection e)))
    have hf' := hkp.2.2
    clear hkp hk' hf
    cases hfi : fm i with
    | none =>
      rw [hfi] at hf'
      intro j hj
      rw [at_set _ _ _ _ (by omega), if_neg (by omega)]
      exact hf' j hj
    | some m =>
      rw [hfi] at hf'
      obtain ⟨D, hD, hF⟩ := hf'
      refine ⟨D, hD, fun j hj hjF => ?_, hF.2⟩
      rw [at_set _ _ _ _ (by omega), if_neg (by omega)]
      exact hF.1 j hj hjF
end Go.Proofs.Ytocgallcmgnmgaa
