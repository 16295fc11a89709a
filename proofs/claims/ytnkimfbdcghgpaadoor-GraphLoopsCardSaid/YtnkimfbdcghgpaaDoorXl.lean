/-
  DERIVED. The web while it is searched; the iterator that takes the edges out of it (taken$1), in the form that the statement's law asks.
-/
import Derived.Test.YtnkimfbdcghgpaaDoorXi
import Derived.Shelf.Abstract
import Derived.Shelf.RegionOpen
import Derived.WalkKit
import Derived.OwnWalkIn
import Derived.TacticsInMore
import Derived.LoopNIn
import Derived.LoopIn
namespace Go.Proofs.YtnkimfbdcghgpaaDoor
open Go.RowKit Go.Sort Go.Shelf
attribute [local go_sem] Oper.semAt_some

/-- Edges to be read behind p, in a block of K's, none of them in block x. -/
def RdE (w : World) (x : Nat) (K : Nat → Prop) (p : Option Addr) (l : List Ed) : Prop := l = [] ∨ ∃ b o, p = some ⟨b, o, none⟩ ∧ b ≠ x ∧ K b ∧ ∀ k e, l[k]? = some e → w.rangeAt b (o + k * 14) e.cs.toList
/-- The web while it is searched: its rows can be read, their heads lie in block wb. -/
structure Wv (w : World) (wb : Nat) (K : Nat → Prop) (vs : List Value) (XS : List (List Ed)) : Prop where
  blk : Bk w wb 22 vs.toArray
  len : vs.length = XS.length
  row : ∀ (t : Nat) (v : Value) (xs : List Ed), vs[t]? = some v → XS[t]? = some xs → ∃ p c, v = .slice p xs.length c ∧ xs.length ≤ c ∧ RdE w wb K p xs
/-- Of K's blocks none has turned. -/
def Kps (K : Nat → Prop) (A B : World) : Prop := A.heap.size ≤ B.heap.size ∧ ∀ k, K k → B.heap[k]? = A.heap[k]?
theorem Kps.trans {K : Nat → Prop} {A B C : World} (h : Kps K A B) (k : Kps K B C) : Kps K A C := ⟨Nat.le_trans h.1 k.1, fun i hi => (k.2 i hi).trans (h.2 i hi)⟩
theorem Kps.cell {K : Nat → Prop} {A B : World} (h : Kps K A B) {p : Addr} {v : Value} (hK : K p.block) (hp : A.cell? p = some v) : B.cell? p = some v := (World.cell?_of_block (h.2 _ hK)).trans hp
theorem rdE_kept {A B : World} {x : Nat} {K : Nat → Prop} {p : Option Addr} {l : List Ed} (h : RdE A x K p l) (hk : ∀ k, k ≠ x → K k → B.heap[k]? = A.heap[k]?) : RdE B x K p l := by
  rcases h with h | ⟨b, o, hp, hb, hK, hr⟩
  · exact .inl h
  · exact .inr ⟨b, o, hp, hb, hK, fun k e hke j v hv => (World.cell?_of_block (a := ⟨b, o + k * 14 + j, none⟩) (hk b hb hK)).trans (hr k e hke j v hv)⟩
theorem Wv.kept {A B : World} {wb : Nat} {K : Nat → Prop} {vs : List Value} {XS : List (List Ed)} (h : Wv A wb K vs XS) (hk : ∀ k, K k → B.heap[k]? = A.heap[k]?) (hw : K wb) : Wv B wb K vs XS :=
  ⟨(hk wb hw).trans h.blk, h.len, fun t v xs hv hx => by
    obtain ⟨p, c, e, hc, hr⟩ := h.row t v xs hv hx
    exact ⟨p, c, e, hc, rdE_kept hr fun k _ hK => hk k hK⟩⟩
theorem Wv.kept2 {A B : World} {wb : Nat} {K : Nat → Prop} {vs : List Value} {XS : List (List Ed)} (h : Wv A wb K vs XS) (hk : ∀ k, K k → k < A.heap.size → B.heap[k]? = A.heap[k]?) (hw : K wb) : Wv B wb K vs XS :=
  ⟨(hk wb hw h.blk.lt).trans h.blk, h.len, fun t v xs hv hx => by
    obtain ⟨p, c, e, hc, hr⟩ := h.row t v xs hv hx
    refine ⟨p, c, e, hc, ?_⟩
    rcases hr with hr | ⟨b, o, hp, hb, hK, hr⟩
    · exact .inl hr
    · refine .inr ⟨b, o, hp, hb, hK, fun k e hke j v hv => ?_⟩
      have h1 := hr k e hke j v hv
      exact (World.cell?_of_block (a := ⟨b, o + k * 14 + j, none⟩) (hk b hK (World.block_lt_of_cell? A _ h1))).trans h1⟩
theorem Wv.at_ {w : World} {wb : Nat} {K : Nat → Prop} {vs : List Value} {XS : List (List Ed)} (h : Wv w wb K vs XS) {t : Nat} {xs : List Ed} (hx : XS[t]? = some xs) : ∃ p c, vs[t]? = some (.slice p xs.length c) ∧ xs.length ≤ c ∧ RdE w wb K p xs ∧ w.cell? ⟨wb, t, none⟩ = some (.slice p xs.length c) := by
  have ht : t < vs.length := by rw [h.len]; exact (List.getElem?_eq_some_iff.1 hx).1
  obtain ⟨p, c, e, hc, hr⟩ := h.row t _ xs (List.getElem?_eq_getElem ht) hx
  refine ⟨p, c, by rw [List.getElem?_eq_getElem ht, e], hc, hr, ?_⟩
  have := h.blk.cell t
  rw [this]
  simp [ht, e]
/-- The first edge of a row is taken out. -/
theorem Wv.cut {w : World} {wb : Nat} {K : Nat → Prop} {vs : List Value} {XS : List (List Ed)} (h : Wv w wb K vs XS) {t : Nat} {e : Ed} {xs : List Ed} (hx : XS[t]? = some (e :: xs)) {b o c c' : Nat} {p' : Option Addr} (hv : vs[t]? = some (.slice (some ⟨b, o, none⟩) (xs.length + 1) c)) (hp' : xs = [] ∨ p' = some ⟨b, o + 14, none⟩) (hc : xs.length ≤ c') :
    Wv (w.setCell ⟨wb, t, none⟩ (.slice p' xs.length c')) wb K (vs.set t (.slice p' xs.length c')) (XS.set t xs) := by
  have hg : w.grownBy (w.setCell ⟨wb, t, none⟩ (.slice p' xs.length c')) (some wb) := grownBy_setC w ⟨wb, t, none⟩ _
  have hb : ∀ k, k ≠ wb → K k → (w.setCell ⟨wb, t, none⟩ (.slice p' xs.length c')).heap[k]? = w.heap[k]? := by
    intro k hk _
    by_cases hlt : k < w.heap.size
    · exact hg.block k hlt (fun e => by injection e with e; exact hk e)
    · rw [Array.getElem?_eq_none (by rw [World.size_setCell]; omega), Array.getElem?_eq_none (by omega)]
  refine ⟨by have := h.blk.set_ t (.slice p' xs.length c'); rwa [List.setIfInBounds_toArray] at this, by rw [List.length_set, List.length_set]; exact h.len, ?_⟩
  intro s u zs hu hz
  by_cases hs : t = s
  · subst hs
    rw [List.getElem?_set_self (List.getElem?_eq_some_iff.1 hv).1] at hu
    rw [List.getElem?_set_self (List.getElem?_eq_some_iff.1 hx).1] at hz
    cases hu; cases hz
    refine ⟨_, c', rfl, hc, ?_⟩
    rcases hp' with rfl | rfl
    · exact .inl rfl
    obtain ⟨p, c2, e', hc2, hr⟩ := h.row t _ _ hv hx
    injection e' with e1 e2 e3
    refine rdE_kept ?_ hb
    rcases hr with hr | ⟨b', o', hp, h1, h2, h3⟩
    · cases hr
    · rw [← e1] at hp
      injection hp with hp; injection hp with hp1 hp2
      subst hp1; subst hp2
      refine .inr ⟨b, o + 14, rfl, h1, h2, fun k x hk => ?_⟩
      have := h3 (k + 1) x (by simpa using hk)
      rwa [show o + 14 + k * 14 = o + (k + 1) * 14 by omega]
  · rw [List.getElem?_set_ne hs] at hu hz
    obtain ⟨p, c2, e', hc2, hr⟩ := h.row s u zs hu hz
    exact ⟨p, c2, e', hc2, rdE_kept hr hb⟩
theorem Wv.alloc {w : World} {wb : Nat} {K : Nat → Prop} {vs : List Value} {XS : List (List Ed)} (h : Wv w wb K vs XS) (o : Obj) : Wv (w.alloc o) wb K vs XS :=
  ⟨h.blk.below ((Below.refl _ _).alloc (Nat.le_refl _) o) h.blk.lt, h.len, fun t v xs hv hx => by
    obtain ⟨p, c, e, hc, hr⟩ := h.row t v xs hv hx
    refine ⟨p, c, e, hc, ?_⟩
    rcases hr with hr | ⟨b, q, hp, hb, hK, hr⟩
    · exact .inl hr
    · exact .inr ⟨b, q, hp, hb, hK, fun k x hk j u hu => by
        have := hr k x hk j u hu
        exact (World.cell?_alloc_lt w o ⟨b, q + k * 14 + j, none⟩ (World.block_lt_of_cell? w _ this)).trans this⟩⟩

set_option maxRecDepth 100000 in
set_option maxHeartbeats 2000000 in
theorem taken_in (n : Nat) (hn : 1 ≤ n) (l wb B2 B3 i N C : Nat) (K Kw : Nat → Prop) (hKK : ∀ k, Kw k → K k) (r0 : List Ed) (XS : List (List Ed)) (hr0 : XS[i]? = some r0) (J Jx : List Ed → World → Prop) (hKw : Kw wb) (hK2 : K B2) (hK3 : K B3) (h2w : B2 ≠ wb) (h3w : B3 ≠ wb) (hi : (i : Int) < N)
    (hJ : ∀ pre A B, J pre A → Gr A B (fun k => k = wb) → J pre B)
    (hY : ∀ pre x W1, J pre W1 → (pre ++ [x]) <+: r0 → YieldAt Fence.wide (n - 1) Tryd.prog l #[.agg x.cs] W1 fun e W' => (e = .returned (.bool true) ∧ J (pre ++ [x]) W' ∧ Kps K W1 W') ∨ (e = .returned (.bool false) ∧ Jx (pre ++ [x]) W' ∧ Kps K W1 W'))
    (W : World) (hW : ∃ vs, Wv W wb Kw vs XS) (hc2 : W.cell? ⟨B2, 0, none⟩ = some (.slice (some ⟨wb, 0, none⟩) N C)) (hc3 : W.cell? ⟨B3, 0, none⟩ = some (.int .i64 i)) (h0 : J [] W) :
    CallsIn Fence.wide n Tryd.prog 36 #[.func (.yield l) #[] #[], .pointer (some ⟨B2, 0, none⟩), .pointer (some ⟨B3, 0, none⟩)] W fun e W' => (∃ v, e = .returned v) ∧
      ((∃ xs, (xs = r0 ∧ ∃ vs, Wv W' wb Kw vs (XS.set i [])) ∧ J xs W') ∨ (∃ pre, ((∃ rest, r0 = pre ++ rest ∧ ∃ vs, Wv W' wb Kw vs (XS.set i rest))) ∧ Jx pre W')) := by
  refine callsIn_of_wp Tryd.func36 rfl trivial ?_ rfl
  simp only [Tryd.ntmps36, List.size_toArray, List.length_cons, List.length_nil, Nat.reduceAdd, Nat.reduceSub, Array.replicate_succ, Array.replicate_zero, List.push_toArray, List.append_toArray, List.nil_append, List.cons_append]
  gi_wp2
  gi_loopw [4] (fun _ wr => ∃ pre rest vs, r0 = pre ++ rest ∧ Hid (Wv wr wb Kw vs (XS.set i rest)) ∧ Hid (J pre wr) ∧ wr.cell? ⟨B2, 0, none⟩ = some (.slice (some ⟨wb, 0, none⟩) N C) ∧ wr.cell? ⟨B3, 0, none⟩ = some (.int .i64 i))
    (fun _ wr => match wr.cell? ⟨wb, i, none⟩ with | some (.slice _ m _) => m | _ => 0)
  case atStart =>
    obtain ⟨vs, hw⟩ := hW
    exact ⟨[], r0, vs, rfl, Lib.hid (by
      have : XS.set i r0 = XS := by
        apply List.ext_getElem?
        intro j
        by_cases hj : i = j
        · subst hj; rw [List.getElem?_set_self (List.getElem?_eq_some_iff.1 hr0).1, hr0]
        · rw [List.getElem?_set_ne hj]
      rw [this]; exact hw), Lib.hid h0, hc2, hc3⟩
  case round =>
    obtain ⟨pre, rest, vs, hpr, HWV, HJ, hc2, hc3⟩ := hrel
    have hir : (XS.set i rest)[i]? = some rest := List.getElem?_set_self (List.getElem?_eq_some_iff.1 hr0).1
    obtain ⟨p, c, hv, hcl, hrd, hcell⟩ := HWV.out.at_ hir
    rcases rest with _ | ⟨e, rest⟩
    · gi_wp2
      go_end0
      exact ⟨⟨_, rfl⟩, .inl ⟨pre, ⟨by rw [hpr]; simp, vs, HWV.out⟩, HJ.out⟩⟩
    · rcases hrd with hrd | ⟨b, o, rfl, hbx, hKb, hr⟩
      · cases hrd
      have HRE : Hid (wr.rangeAt b o e.cs.toList) := Lib.hid (by simpa using hr 0 e rfl)
      have HR := Lib.hid hr
      have HCL := Lib.hid hcl
      have HV := Lib.hid hv
      clear hr hir hcl hv
      gi_wp2_with (first
        | ((with_reducible show wpListIn _ _ _ _ _ (Oper.mk _ (Op.load 34 _) _ _ _ _ :: _) _ _); refine wpListIn_load_arr rfl 34 _ rfl b o (by simp [Act.eval]) e.cs _ HRE.out Tryd.underlying34 rfl size34 ?_)
        | ((with_reducible show wpListIn _ _ _ _ _ (Oper.mk _ (Op.store 34 _ _) _ _ _ _ :: _) _ _); refine wpListIn_store_new rfl 34 _ _ rfl _ e.cs rfl rfl size34 rfl (Ed.one e) ?_))
      have HBA : Hid (Below wr.heap.size wr (wr.alloc (.cells e.cs 34))) := Lib.hid ((Below.refl _ _).alloc (Nat.le_refl _) _)
      have HEB : Hid (Bk (wr.alloc (.cells e.cs 34)) wr.heap.size 34 e.cs) := Lib.hid (heap_alloc_new _ _)
      have HLT : Hid (wb < wr.heap.size ∧ B2 < wr.heap.size ∧ B3 < wr.heap.size) := Lib.hid ⟨HWV.out.blk.lt, World.block_lt_of_cell? wr _ hc2, World.block_lt_of_cell? wr _ hc3⟩
      have HWA : Hid (Wv (wr.alloc (.cells e.cs 34)) wb Kw vs (XS.set i (e :: rest))) := Lib.hid (HWV.out.alloc _)
      obtain ⟨qb, hqb⟩ : ∃ qb, qb = wr.heap.size := ⟨_, rfl⟩
      have HQ := Lib.hid hqb
      have a2 : (wr.alloc (.cells e.cs 34)).drew.cell? ⟨B2, 0, none⟩ = some (.slice (some ⟨wb, 0, none⟩) N C) := (World.cell?_alloc_lt wr _ ⟨B2, 0, none⟩ HLT.out.2.1).trans hc2
      have a3 : (wr.alloc (.cells e.cs 34)).drew.cell? ⟨B3, 0, none⟩ = some (.int .i64 i) := (World.cell?_alloc_lt wr _ ⟨B3, 0, none⟩ HLT.out.2.2).trans hc3
      have aw : (wr.alloc (.cells e.cs 34)).drew.cell? ⟨wb, i, none⟩ = some (.slice (some ⟨b, o, none⟩) (e :: rest).length c) := (World.cell?_alloc_lt wr _ ⟨wb, i, none⟩ HLT.out.1).trans hcell
      have fw : (wr.alloc (.cells e.cs 34)).drew.frozen? ⟨wb, i, none⟩ = false := HWA.out.blk.frozen i
      have HWR := Lib.hid hcell
      clear hc2 hc3 hcell
      simp only [List.length_cons] at aw
      have hc1 : (rest.length : Int) + 1 ≤ (c : Int) := by have := HCL.out; simp at this; omega
      rw [← hqb] at HEB ⊢
      clear hqb
      generalize wr.alloc (.cells e.cs 34) = wA at *
      simp only [Act.put]
      gi_region
      obtain ⟨p', hp'⟩ : ∃ p', p' = (if c = 1 then some (⟨b, o, none⟩ : Addr) else some ⟨b, o + 14, none⟩) := ⟨_, rfl⟩
      have HPP : Hid (rest = [] ∨ p' = some ⟨b, o + 14, none⟩) := Lib.hid (by
        by_cases h1 : c = 1
        · left; apply List.eq_nil_of_length_eq_zero; omega
        · right; rw [hp', if_neg h1])
      rw [← hp']
      clear hp'
      have hirt : (XS.set i (e :: rest))[i]? = some (e :: rest) := List.getElem?_set_self (List.getElem?_eq_some_iff.1 hr0).1
      have HW2 := Lib.hid (HWA.out.cut hirt (by have := HV.out; simpa using this) HPP.out (c' := c - 1) (by omega))
      rw [List.set_set] at HW2
      have HG2 : Hid (Gr wr (wA.setCell ⟨wb, i, none⟩ (.slice p' rest.length (c - 1))).drew (fun k => k = wb)) := Lib.hid ((Gr.setCell (S := fun k => k = wb) (Gr.of_below HBA.out) (p := ⟨wb, i, none⟩) (fun _ => rfl) _).drew)
      have hgs : wA.grownBy (wA.setCell ⟨wb, i, none⟩ (.slice p' rest.length (c - 1))).drew (some wb) := by
        have hg0 := grownBy_setC wA ⟨wb, i, none⟩ (.slice p' rest.length (c - 1))
        exact ⟨hg0.os, hg0.tape, hg0.output, hg0.size, hg0.block⟩
      have hqw : qb ≠ wb := by have := HLT.out.1; have := HQ.out; omega
      have HE2 : Hid (Bk (wA.setCell ⟨wb, i, none⟩ (.slice p' rest.length (c - 1))).drew qb 34 e.cs) := Lib.hid (HEB.out.grown hgs (fun q hq => by injection hq with hq; omega))
      have HC2 : Hid ((wA.setCell ⟨wb, i, none⟩ (.slice p' rest.length (c - 1))).drew.cell? ⟨B2, 0, none⟩ = some (.slice (some ⟨wb, 0, none⟩) N C) ∧ (wA.setCell ⟨wb, i, none⟩ (.slice p' rest.length (c - 1))).drew.cell? ⟨B3, 0, none⟩ = some (.int .i64 i)) := Lib.hid ⟨(World.cell?_of_block (a := ⟨B2, 0, none⟩) (hgs.block B2 (World.block_lt_of_cell? wA _ a2) (fun e => by injection e with e; exact h2w e))).trans a2, (World.cell?_of_block (a := ⟨B3, 0, none⟩) (hgs.block B3 (World.block_lt_of_cell? wA _ a3) (fun e => by injection e with e; exact h3w e))).trans a3⟩
      replace HW2 : Hid (Wv (wA.setCell ⟨wb, i, none⟩ (.slice p' rest.length (c - 1))).drew wb Kw (vs.set i (.slice p' rest.length (c - 1))) (XS.set i rest)) := Lib.hid ⟨HW2.out.blk, HW2.out.len, HW2.out.row⟩
      have HJ2 := Lib.hid (hJ _ _ _ HJ.out HG2.out)
      have HN : Hid (qb < (wA.setCell ⟨wb, i, none⟩ (.slice p' rest.length (c - 1))).drew.heap.size) := Lib.hid HE2.out.lt
      clear hgs a2 a3 aw fw HEB HWA HBA HG2 HRE HR HV HLT hirt
      generalize (wA.setCell ⟨wb, i, none⟩ (.slice p' rest.length (c - 1))).drew = w2 at *
      obtain ⟨fn, tmps, assign, body, hy, hR⟩ := hY pre e w2 HJ2.out ⟨rest, by rw [hpr]; simp⟩
      gi_wp2_with ((with_reducible show wpListIn _ _ _ _ _ (Oper.mk _ (Op.load 34 _) _ _ _ _ :: _) _ _); refine wpListIn_load_arr rfl 34 _ rfl qb 0 (by simp [Act.eval]) e.cs _ HE2.out.range Tryd.underlying34 rfl size34 ?_)
      refine hR.mono ?_
      rintro en w3 (⟨rfl, hj3, hk3⟩ | ⟨rfl, hj3, hk3⟩)
      · have HW3 := Lib.hid (HW2.out.kept (fun k hk => hk3.2 k (hKK k hk)) hKw)
        have HJ3 := Lib.hid hj3
        have HC3 : Hid (w3.cell? ⟨B2, 0, none⟩ = some (.slice (some ⟨wb, 0, none⟩) N C) ∧ w3.cell? ⟨B3, 0, none⟩ = some (.int .i64 i)) := Lib.hid ⟨hk3.cell (p := ⟨B2, 0, none⟩) hK2 HC2.out.1, hk3.cell (p := ⟨B3, 0, none⟩) hK3 HC2.out.2⟩
        clear hk3 hj3
        gi_wp2
        go_roundw
        case rel => exact ⟨pre ++ [e], rest, _, by rw [hpr]; simp, HW3, HJ3, HC3.out.1, HC3.out.2⟩
        case measure =>
          have h1 : w3.cell? ⟨wb, i, none⟩ = some (.slice p' rest.length (c - 1)) := by
            have hir : (XS.set i rest)[i]? = some rest := List.getElem?_set_self (List.getElem?_eq_some_iff.1 hr0).1
            obtain ⟨p4, c4, hv4, -, -, h4⟩ := HW3.out.at_ hir
            have hv5 := hv4
            rw [List.getElem?_set_self (by
              have := HW3.out.len; rw [List.length_set, List.length_set] at this
              rw [this]; exact (List.getElem?_eq_some_iff.1 hr0).1)] at hv5
            injection hv5 with hv5
            rw [h4, hv5]
          rw [h1, HWR.out]
          simp
      · have HW3 := Lib.hid (HW2.out.kept (fun k hk => hk3.2 k (hKK k hk)) hKw)
        clear hk3
        gi_wp2
        refine bodyPost_ret (results_none rfl _ _ _) rfl ?_
        exact ⟨⟨_, rfl⟩, .inr ⟨pre ++ [e], ⟨rest, by rw [hpr]; simp, _, HW3.out⟩, hj3⟩⟩
end Go.Proofs.YtnkimfbdcghgpaaDoor
