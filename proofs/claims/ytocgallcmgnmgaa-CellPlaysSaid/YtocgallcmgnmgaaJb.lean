/-
  DERIVED. The document's heap, copied: Own.
-/
import Derived.Test.YtocgallcmgnmgaaJa
import Derived.Deep.Cut
namespace Go.Proofs.Ytocgallcmgnmgaa
open Go.RowKit Go.Maps

/-- A copy under way. -/
structure OwnI (F : Nat) (w wr : World) (v vo : Value) (Ro : Nat → Prop) (xs : List PC) : Prop where
  box : Bk wr w.heap.size 29 (RefA F v)
  res : Bk wr (w.heap.size + 1) 29 #[.int .i64 0, .slice none 0 0, .bool false]
  out : Bk wr (w.heap.size + 1 + 1) 29 (RefA F vo)
  lie : (CellK F).Lie wr Ro vo xs
  new : ∀ b, Ro b → w.heap.size + 3 ≤ b
  below : Below w.heap.size w wr
/-- How an item lies whole. -/
theorem Out.whole {F : Nat} {w : World} {N : Nat → Prop} {v : Value} {cs : List PC} (h : Out F w N v cs) {i : Nat} {x : PC} (hi : cs[i]? = some x) :
    ∃ g cap q cq, v = .slice (some ⟨g, 0, none⟩) cs.length cap ∧ w.rangeAt g (i * 3) [.int .i64 x.ty, .bool x.fr, .slice (some ⟨q, 0, none⟩) F cq] ∧ w.rangeAt q 0 (ints x.to) ∧ x.to.length = F := by
  obtain ⟨g, cap, cur, fm, hv, ha⟩ := Out.sl h hi
  have hs := ha.sub i x hi
  rcases hs.2.1.2 with ⟨e, _⟩ | ⟨q, cq, cr, e, _, hb, _, _, _, ht⟩
  · exact absurd e hs.2.2
  · refine ⟨g, cap, q, cq, hv, ?_, fun j u hu => ?_, hs.1⟩
    · have := ha.range hi
      rw [e] at this
      exact this
    · have hbk : Bk w q 3 cr := hb
      rw [Nat.zero_add, hbk.cell]
      have hj : j < F := by
        have := (List.getElem?_eq_some_iff.1 hu).1
        simp [ints, hs.1] at this; exact this
      have h2 : (cr.toList.take (F * 1))[j]? = some u := by rw [ht]; exact hu
      rw [List.getElem?_take, if_pos (by omega)] at h2
      simpa using h2
theorem rangeAt_below' {B : Nat} {w w' : World} {b o : Nat} {cs : List Value} (h : w.rangeAt b o cs) (hb : Below B w w') (hB : w.heap.size ≤ B) : w'.rangeAt b o cs := fun j v hv =>
  (hb.cell (p := ⟨b, o + j, none⟩) (Nat.lt_of_lt_of_le (World.block_lt_of_cell? _ _ (h j v hv)) hB)).trans (h j v hv)

/-- The item's block, while a copy is made of it. -/
structure OwnC (F : Nat) (w wr w4 : World) (v vo : Value) (Ro : Nat → Prop) (xs : List PC) (x : PC) (q' : Value) : Prop where
  own : OwnI F w w4 v vo Ro xs
  item : Bk w4 wr.heap.size 46 #[.int .i64 x.ty, .bool x.fr, q']
  sub : (CellK F).sub w4 x q'
  far : ∀ m, q'.ownBlock = some m → wr.heap.size < m
  old : ∀ k, Ro k → k < wr.heap.size
  base : w.heap.size + 3 ≤ wr.heap.size
theorem own_copy {F : Nat} {w wr w3 : World} {v vo : Value} {Ro : Nat → Prop} {xs : List PC} {x : PC} {q q' : Value} (h : OwnI F w wr v vo Ro xs) (hl : x.to.length = F)
    (hown : w3.ownsRow 0 3 1 q' (0 + F) ([] ++ ints x.to)) (hg : ((wr.alloc (.cells #[.int .i64 x.ty, .bool x.fr, q] 46)).alloc (.cells #[] 3)).grownBy w3 (some (wr.heap.size + 1))) (hn : q' ≠ .slice none 0 0) (hat : q'.ownBlock = some (wr.heap.size + 1) ∨ q'.ownBlock = some (wr.heap.size + 1 + 1)) :
    Bk w3 wr.heap.size 46 #[.int .i64 x.ty, .bool x.fr, q] ∧ OwnC F w wr (w3.setCell ⟨wr.heap.size, 2, none⟩ q') v vo Ro xs x q' := by
  have b1 : Bk (wr.alloc (.cells #[.int .i64 x.ty, .bool x.fr, q] 46)) wr.heap.size 46 #[.int .i64 x.ty, .bool x.fr, q] := (MapKept.heap_alloc wr _).1
  have b2 := b1.below (alloc_below _ (.cells #[] 3)) b1.lt
  have b3 : Bk w3 wr.heap.size 46 #[.int .i64 x.ty, .bool x.fr, q] := (hg.block _ b2.lt (by intro e; injection e with e; omega)).trans b2
  have hb3 : Below wr.heap.size wr w3 := ((((Below.refl _ _).alloc (Nat.le_refl _) _).alloc (by simp) _).grown hg (by simp; omega) (fun j hj => by injection hj with hj; omega))
  have hb4 : Below wr.heap.size wr (w3.setCell ⟨wr.heap.size, 2, none⟩ q') := hb3.setCell (Nat.le_refl _) _
  have hmlt : ∀ m, q'.ownBlock = some m → wr.heap.size < m := fun m hm => by
    rcases hat with e | e <;> rw [e] at hm <;> injection hm with hm <;> omega
  have hs : w3.heap.size = w3.heap.size := rfl
  refine ⟨b3, ⟨⟨h.box.below hb4 h.box.lt, h.res.below hb4 h.res.lt, h.out.below hb4 h.out.lt, h.lie.below hb4, h.new, h.below.trans (hb4.mono h.below.size)⟩, b3.set_ 2 q', ⟨hl, ?_, hn⟩, hmlt, h.lie.1, by have := h.out.lt; omega⟩⟩
  have := ownsRow_keep hown (w' := w3.setCell ⟨wr.heap.size, 2, none⟩ q') (fun m hm => Below.heap_setCell w3 _ _ m (by have := hmlt m hm; show m ≠ wr.heap.size; omega))
  simpa using this
theorem own_form {F : Nat} {w : World} {q' : Value} {xs : List Value} (hown : w.ownsRow 0 3 1 q' (0 + F) xs) (hn : q' ≠ .slice none 0 0) : ∃ g cp, q' = .slice (some ⟨g, 0, none⟩) F cp := by
  rcases hown.2 with ⟨e, _⟩ | ⟨g, cap, cur, e, _⟩
  · exact absurd e hn
  · exact ⟨g, cap, by rw [e, Nat.zero_add]⟩
theorem own_push {F : Nat} {w wr w4 w6 : World} {v vo q' : Value} {Ro : Nat → Prop} {xs : List PC} {x : PC} {g cap : Nat} {ys : List Value} (h : OwnC F w wr w4 v vo Ro xs x q')
    (hys : (vo = .slice none 0 0 ∧ xs = []) ∨ ∃ g cap cur fm, vo = .slice (some ⟨g, 0, none⟩) xs.length cap ∧ (CellK F).At (w4.alloc (.cells #[.int .i64 x.ty, .bool x.fr, q'] 46)) Ro g cap cur fm xs ∧ ∀ j, j < xs.length * 3 → ys[j]? = cur[j]?) (hyl : ys.length = xs.length * 3)
    (hown : w6.ownsRow 0 46 3 (.slice (some ⟨g, 0, none⟩) (xs.length + 1) cap) (xs.length + 1) (ys ++ [.int .i64 x.ty, .bool x.fr, q'])) (hg : (w4.alloc (.cells #[.int .i64 x.ty, .bool x.fr, q'] 46)).grownBy w6 vo.ownBlock) (hat : vo.ownBlock = some g ∨ g = (w4.alloc (.cells #[.int .i64 x.ty, .bool x.fr, q'] 46)).heap.size) (hlt : g < w6.heap.size) :
    Bk w6 (w.heap.size + 1 + 1) 29 (RefA F vo) ∧ ∃ Ro', OwnI F w (w6.setCell ⟨w.heap.size + 1 + 1, 1, none⟩ (.slice (some ⟨g, 0, none⟩) (xs.length + 1) cap)) v (.slice (some ⟨g, 0, none⟩) (xs.length + 1) cap) Ro' (xs ++ [x]) := by
  have hvo : ∀ k, some k = vo.ownBlock → Ro k := fun k hk => by
    rcases h.own.lie.2 with ⟨e, _⟩ | ⟨g0, c0, r0, f0, e, ha0⟩
    · rw [e] at hk; cases hk
    · rw [e] at hk; simp only [Value.ownBlock] at hk; injection hk with hk; subst hk; exact ha0.mine
  have hw4 : wr.heap.size < w4.heap.size := h.item.lt
  have hb5 := alloc_below w4 (.cells #[.int .i64 x.ty, .bool x.fr, q'] 46)
  have hkeep : ∀ k t cs, k < w.heap.size + 3 → Bk w4 k t cs → Bk w6 k t cs := fun k t cs hk hb => by
    have h5 := hb.below hb5 hb.lt
    exact (hg.block k h5.lt (fun e => by have := h.own.new k (hvo k e); omega)).trans h5
  have hout := hkeep _ _ _ (by omega) h.own.out
  have hgn : w.heap.size + 3 ≤ g := by
    rcases hat with e | e
    · exact h.own.new g (hvo g e.symm)
    · rw [e]; have := h.base; simp; omega
  have hlie5 := h.own.lie.below hb5
  have hsub6 : (CellK F).sub w6 x q' := (CellK F).keep _ w6 x q' ((CellK F).keep w4 _ x q' h.sub hb5.size (fun m hm => hb5.block m ((CellK F).has w4 x q' m h.sub hm))) hg.size (fun m hm => hg.block m (by have := (CellK F).has w4 x q' m h.sub hm; simp; omega) (fun e => by have h1 := h.old m (hvo m e); have h2 := h.far m hm; omega))
  have hl6 := Kin.Lie.push (K := CellK F) (R' := fun k => Ro k ∨ k = g ∨ q'.ownBlock = some k) (x' := x) (b' := q') hlie5 hys hyl hown hg hat (Nat.le_refl _) hsub6
    (fun m hm => ⟨fun hR => by have h1 := h.old m hR; have h2 := h.far m hm; omega, fun e => by
      rcases hat with h1 | h1
      · have h3 := h.old g (hvo g h1.symm); have h2 := h.far m hm; omega
      · have h3 := (CellK F).has w4 x q' m h.sub hm; simp at h1; omega, .inr (.inr hm)⟩) (fun _ h => .inl h) (.inr (.inl rfl))
    (fun k hk => by
      rcases hk with hk | hk | hk
      · exact Nat.lt_of_lt_of_le (hlie5.1 k hk) hg.size
      · subst hk; exact hlt
      · exact (CellK F).has w6 x q' k hsub6 hk)
  have hgs : w6.grownBy (w6.setCell ⟨w.heap.size + 1 + 1, 1, none⟩ (.slice (some ⟨g, 0, none⟩) (xs.length + 1) cap)) (some (w.heap.size + 1 + 1)) := grownBy_setC w6 _ _
  have hnew : ∀ k, (Ro k ∨ k = g ∨ q'.ownBlock = some k) → w.heap.size + 3 ≤ k := fun k hk => by
    rcases hk with hk | hk | hk
    · exact h.own.new k hk
    · omega
    · have := h.far k hk; have := h.base; omega
  refine ⟨hout, fun k => Ro k ∨ k = g ∨ q'.ownBlock = some k, ⟨(hkeep _ _ _ (by omega) h.own.box).far (by show w.heap.size ≠ w.heap.size + 1 + 1; omega) _, (hkeep _ _ _ (by omega) h.own.res).far (by show w.heap.size + 1 ≠ w.heap.size + 1 + 1; omega) _, hout.set_ 1 _, hl6.gr (Gr.of_grown hgs) (fun k hk e => by injection e with e; have := hnew k hk; omega), hnew, ?_⟩⟩
  exact ((h.own.below.trans (hb5.mono h.own.below.size)).grown hg (h.own.below.trans (hb5.mono h.own.below.size)).size (fun j hj => by have := h.own.new j (hvo j hj.symm); omega)).setCell (by show w.heap.size ≤ w.heap.size + 1 + 1; omega) _

theorem own_res {cur : Array Value} {F : Nat} {v : Value} (h2 : cur.size = (#[.int .i64 0, .slice none 0 0, .bool false] : Array Value).size) (h3 : ∀ j, j < (RefA F v).size → cur[0 + j]? = (RefA F v)[j]?) : cur = RefA F v := by
  refine Array.ext_getElem? fun j => ?_
  by_cases hj : j < 3
  · have := h3 j hj
    rwa [Nat.zero_add] at this
  · rw [Array.getElem?_eq_none (by rw [h2]; simp; omega), Array.getElem?_eq_none (by simp; omega)]
theorem Kin.Lie.oneA {α β : Type} {K : Kin α β} {w : World} {R : Nat → Prop} {v : Value} {xs : List α} {F : Nat} (h : K.Lie w R v xs) : (RefA F v).all (·.oneCell') = true := by
  obtain ⟨p, c, rfl⟩ := h.form
  simp [Value.oneCell']
/-- What Own hands back. -/
def OwnP (F : Nat) (w : World) (cs : List PC) (e : Ending) (w' : World) : Prop :=
  ∃ v N, e = .returned (.agg (RefA F v)) ∧ Out F w' N v cs ∧ (∀ b, N b → w.heap.size ≤ b) ∧ Below w.heap.size w w'
set_option maxHeartbeats 6400000 in
set_option maxRecDepth 100000 in
theorem own_any (F : Nat) (N : Nat → Prop) (cs : List PC) (v : Value) (w : World) (h : Out F w N v cs) (hF : F ≤ 2000000) (hn : cs.length ≤ 2000000) :
    Calls Try.prog 30 #[.agg (RefA F v)] w (OwnP F w cs) := by
  obtain ⟨pv, cap, rfl⟩ := h.form
  have hH := Lib.hid h
  have hst : OwnI F w (((w.alloc (.cells (RefA F (.slice pv cs.length cap)) 29)).alloc (.cells #[.int .i64 0, .slice none 0 0, .bool false] 29)).alloc (.cells (RefA F (.slice none 0 0)) 29)) (.slice pv cs.length cap) (.slice none 0 0) (fun _ => False) [] := by
    have e1 : (w.alloc (.cells (RefA F (.slice pv cs.length cap)) 29)).heap.size = w.heap.size + 1 := by simp
    have e2 : ((w.alloc (.cells (RefA F (.slice pv cs.length cap)) 29)).alloc (.cells #[.int .i64 0, .slice none 0 0, .bool false] 29)).heap.size = w.heap.size + 2 := by simp
    have b1 : Bk (w.alloc (.cells (RefA F (.slice pv cs.length cap)) 29)) w.heap.size 29 (RefA F (.slice pv cs.length cap)) := (MapKept.heap_alloc w _).1
    have b2 : Bk ((w.alloc (.cells (RefA F (.slice pv cs.length cap)) 29)).alloc (.cells #[.int .i64 0, .slice none 0 0, .bool false] 29)) (w.heap.size + 1) 29 #[.int .i64 0, .slice none 0 0, .bool false] := by rw [← e1]; exact (MapKept.heap_alloc _ _).1
    refine ⟨(b1.below (alloc_below _ _) b1.lt).below (alloc_below _ _) (b1.below (alloc_below _ _) b1.lt).lt, b2.below (alloc_below _ _) b2.lt, ?_, Kin.Lie.nil _ _ (fun _ h => h.elim), fun _ h => h.elim, (((Below.refl _ _).alloc (Nat.le_refl _) _).alloc (by simp) _).alloc (by simp; omega) _⟩
    have e3 : w.heap.size + 1 + 1 = w.heap.size + 2 := rfl
    rw [e3, ← e2]; exact (MapKept.heap_alloc _ _).1
  have HST := Lib.hid hst
  clear hst h
  go_enter Try.func30, Try.ntmps30
  go_wp2_with ((with_reducible show wpList _ _ _ (Oper.mk none (Op.store _ _ _) _ _ _ _ :: _) _ _); refine wpList_store_new rfl 29 (.tmp 3) (.tmp 10) rfl _ (RefA F (.slice none 0 0)) rfl rfl size29 rfl (by simp [Value.oneCell']) ?_)
  generalize ((w.alloc (.cells (RefA F (.slice pv cs.length cap)) 29)).alloc (.cells #[.int .i64 0, .slice none 0 0, .bool false] 29)).alloc (.cells (RefA F (.slice none 0 0)) 29) = wS at HST ⊢
  go_loopw [4] (fun t wr => ∃ (k : Nat) (vo : Value) (Ro : Nat → Prop), t = .int .i64 k ∧ k ≤ cs.length ∧ Hid (OwnI F w wr (.slice pv cs.length cap) vo Ro (cs.take k))) (fun t _ => cs.length - (intOf t).toNat)
  case atStart => exact ⟨0, _, _, rfl, Nat.zero_le _, HST⟩
  case round =>
    obtain ⟨k, vo, Ro, rfl, hk, HI⟩ := hrel
    have b1 : wr.cell? ⟨w.heap.size, 1, none⟩ = some (.slice pv cs.length cap) := HI.out.box.cell 1
    by_cases hkl : k < cs.length
    · obtain ⟨x, hx⟩ : ∃ x, cs[k]? = some x := ⟨_, List.getElem?_eq_getElem hkl⟩
      obtain ⟨g, cap', q, cq, ev, hit, hq, hxl⟩ := Out.whole hH.out hx
      obtain ⟨rfl, rfl⟩ : pv = some ⟨g, 0, none⟩ ∧ cap = cap' := by injection ev with e1 e2 e3; exact ⟨e1, e3⟩
      have hit' := rangeAt_below' hit HI.out.below (Nat.le_refl _)
      have hq' := rangeAt_below' hq HI.out.below (Nat.le_refl _)
      have HIT : Hid (wr.rangeAt g (k * 3) (#[.int .i64 x.ty, .bool x.fr, .slice (some ⟨q, 0, none⟩) F cq] : Array Value).toList) := Lib.hid hit'
      have hb2 : Below wr.heap.size wr ((wr.alloc (.cells #[.int .i64 x.ty, .bool x.fr, .slice (some ⟨q, 0, none⟩) F cq] 46)).alloc (.cells #[] 3)) := ((Below.refl _ _).alloc (Nat.le_refl _) _).alloc (by simp) _
      have hQ2 := rangeAt_below' hq' hb2 (Nat.le_refl _)
      have HN1 : Hid (∀ j u, (ints x.to)[j]? = some u → ((wr.alloc (.cells #[.int .i64 x.ty, .bool x.fr, .slice (some ⟨q, 0, none⟩) F cq] 46)).alloc (.cells #[] 3)).cell? ((⟨q, 0, none⟩ : Addr).add j) = some u) := Lib.hid (fun j u hu => by rw [Addr.add_mid]; exact hQ2 j u hu)
      have hown0 : ((wr.alloc (.cells #[.int .i64 x.ty, .bool x.fr, .slice (some ⟨q, 0, none⟩) F cq] 46)).alloc (.cells #[] 3)).ownsRow 0 3 1 (.slice (some ⟨wr.heap.size + 1, 0, none⟩) 0 0) 0 [] := by
        refine ⟨rfl, .inr ⟨_, 0, #[], rfl, Nat.zero_le _, ?_, Nat.le_refl _, Nat.zero_le _, rfl, rfl⟩⟩
        have e1 : (wr.alloc (.cells #[.int .i64 x.ty, .bool x.fr, .slice (some ⟨q, 0, none⟩) F cq] 46)).heap.size = wr.heap.size + 1 := by simp
        rw [← e1]; exact (MapKept.heap_alloc _ _).1
      have HO0 := Lib.hid hown0
      have c2 : (((wr.alloc (.cells #[.int .i64 x.ty, .bool x.fr, .slice (some ⟨q, 0, none⟩) F cq] 46)).alloc (.cells #[] 3))).cell? ⟨wr.heap.size, 2, none⟩ = some (.slice (some ⟨q, 0, none⟩) F cq) := by
        have b1 : Bk (wr.alloc (.cells #[.int .i64 x.ty, .bool x.fr, .slice (some ⟨q, 0, none⟩) F cq] 46)) wr.heap.size 46 #[.int .i64 x.ty, .bool x.fr, .slice (some ⟨q, 0, none⟩) F cq] := (MapKept.heap_alloc wr _).1
        exact (b1.below (alloc_below _ (.cells #[] 3)) b1.lt).cell 2
      have H1 : Hid (∀ u ∈ ints x.to, u.oneCell' = true) := Lib.hid (by intro v hv; obtain ⟨x, _, rfl⟩ := List.mem_map.1 hv; rfl)
      have HL1 : Hid ((ints x.to).length = F * 1) := Lib.hid (by simp [ints, hxl])
      have HXL := Lib.hid hxl
      have HX := Lib.hid hx
      obtain ⟨i3, hi3, hz3, hs3, hb3⟩ := i3
      have HI3 := Lib.hid hi3
      have HZ3 := Lib.hid hz3
      have HS3 := Lib.hid hs3
      have HY3 := Lib.hid hb3
      have hk0 : (0 : Int) ≤ (k : Int) := Int.natCast_nonneg _
      have hk1 : (k : Int) < (cs.length : Int) := by omega
      have hFm : 0 + F ≤ maxLen := by unfold maxLen; omega
      have hFb : (0 + F) * 8 ≤ 140737488355328 := by omega
      clear hit hq hit' hq' hb2 hQ2 hown0 ev hi3 hz3 hs3 hb3 hxl hx
      go_upto_region 7 with (first
        | ((with_reducible show wpList _ _ _ (Oper.mk (some 22) _ _ _ _ _ :: _) _ _); refine wpList_load_arr rfl 46 (.tmp 21) rfl g (k * 3) rfl #[.int .i64 x.ty, .bool x.fr, .slice (some ⟨q, 0, none⟩) F cq] _ HIT.out Try.underlying46 rfl size46 ?_)
        | ((with_reducible show wpList _ _ _ (Oper.mk none (Op.store 46 _ _) _ _ _ _ :: _) _ _); refine wpList_store_new rfl 46 (.tmp 5) (.tmp 22) rfl _ #[.int .i64 x.ty, .bool x.fr, .slice (some ⟨q, 0, none⟩) F cq] rfl rfl size46 rfl (by simp [Value.oneCell']) ?_)
        | (at_builtin; refine wpList_append_own_at _ rfl (.tmp 23) (.tmp 25) 44 rfl 0 3 i3 _ 1 8 Try.underlying44 HI3.out HZ3.out HS3.out HY3.out rfl (by decide) (.slice (some ⟨wr.heap.size + 1, 0, none⟩) 0 0) 0 [] rfl HO0.out ⟨q, 0, none⟩ F cq (ints x.to) rfl HL1.out HN1.out H1.out hFm hFb (Nat.zero_le _) ?_; intro q' w3 r1 r2 r3 r4; obtain ⟨gq, cp, rfl⟩ := own_form r1 (fun e => by have := (r3.1 e).1; cases this); obtain ⟨r5, r6⟩ := own_copy HI.out HXL.out r1 r2 (fun e => by have := (r3.1 e).1; cases this) (r4.imp (fun h => h) (fun h => h.trans (by simp))); have f5 := r5.frozen 2; have g5 := r5.cell 2; have HC := Lib.hid r6; clear r1 r2 r3 r4 r5 r6))
      generalize w3.setCell ⟨wr.heap.size, 2, none⟩ (.slice (some ⟨gq, 0, none⟩) F cp) = w4 at HC ⊢
      have o1 : w4.cell? ⟨w.heap.size + 1 + 1, 1, none⟩ = some vo := HC.out.own.out.cell 1
      have hlk : (cs.take k).length = k := by rw [List.length_take]; omega
      obtain ⟨ys, hys0, hyl, hys⟩ := (HC.out.own.lie.below (alloc_below w4 (.cells #[.int .i64 x.ty, .bool x.fr, .slice (some ⟨gq, 0, none⟩) F cp] 46))).owns (base := 0) (fun _ _ => Nat.zero_le _)
      have HP := Lib.hid (fun g cap w6 => own_push HC.out (g := g) (cap := cap) (w6 := w6) hys hyl)
      have HYS := Lib.hid hys0
      have HN2 : Hid (∀ j u, ([.int .i64 x.ty, .bool x.fr, .slice (some ⟨gq, 0, none⟩) F cp] : List Value)[j]? = some u → (w4.alloc (.cells #[.int .i64 x.ty, .bool x.fr, .slice (some ⟨gq, 0, none⟩) F cp] 46)).cell? ((⟨w4.heap.size, 0, none⟩ : Addr).add j) = some u) := Lib.hid (fun j u hu => by
        have e : ((⟨w4.heap.size, 0, none⟩ : Addr).add j) = ⟨w4.heap.size, j, none⟩ := by rw [Addr.add_mid]; simp
        rw [e]
        exact (World.cell?_alloc_at _ _ _ _ rfl).trans (by simpa using hu))
      obtain ⟨i46, hi4, hz4, hs4, hb4⟩ := z46
      have HI4 := Lib.hid hi4
      have HZ4 := Lib.hid hz4
      have HS4 := Lib.hid hs4
      have HY4 := Lib.hid hb4
      rw [hlk] at HP HYS
      have hm1 : k + 1 ≤ maxLen := by unfold maxLen; omega
      have hm2 : (k + 1) * 40 ≤ 140737488355328 := by omega
      have H2 : Hid (∀ u ∈ ([.int .i64 x.ty, .bool x.fr, .slice (some ⟨gq, 0, none⟩) F cp] : List Value), u.oneCell' = true) := Lib.hid (by intro u hu; simp at hu; rcases hu with rfl | rfl | rfl <;> rfl)
      have htk : cs.take k ++ [x] = cs.take (k + 1) := by rw [List.take_add_one, HX.out]; rfl
      rw [htk] at HP
      clear hys hyl hys0 hi4 hz4 hs4 hb4 hlk htk HN1 HO0 f5 g5 c2
      go_wp2_with (first
        | ((with_reducible show wpList _ _ _ (Oper.mk (some 30) _ _ _ _ _ :: _) _ _); refine wpList_load_bk rfl 46 (.tmp 5) rfl wr.heap.size 46 #[.int .i64 x.ty, .bool x.fr, .slice (some ⟨gq, 0, none⟩) F cp] rfl _ HC.out.item Try.underlying46 rfl size46 ?_)
        | (at_builtin; refine wpList_append_lies _ rfl (.tmp 29) (.tmp 31) 23 rfl 0 46 i46 _ 3 40 Try.underlying23 HI4.out HZ4.out HS4.out HY4.out rfl (by decide) vo k ys rfl HYS.out _ 1 1 [.int .i64 x.ty, .bool x.fr, .slice (some ⟨gq, 0, none⟩) F cp] rfl rfl HN2.out H2.out (by decide) hm1 hm2 (Nat.zero_le _) _ rfl ?_; intro g7 cap7 w6 s1 s2 s3 s4; obtain ⟨t1, t2⟩ := HP.out g7 cap7 w6 s1 s2 s3 s4; have f6 := t1.frozen 1; have g6 := t1.cell 1; have HZ := Lib.hid t2; clear s1 s2 s3 s4 t1 t2))
      go_roundw
      case rel =>
        obtain ⟨Ro', hz⟩ := HZ.out
        exact ⟨k + 1, _, Ro', by go_num, by omega, Lib.hid hz⟩
      case measure => simp [intOf]; omega
    · have hke : k = cs.length := by omega
      have HE : Hid (OwnI F w wr (.slice pv cs.length cap) vo Ro cs) := Lib.hid (by have := HI.out; rwa [hke, List.take_length] at this)
      have r0 : Bk wr (w.heap.size + 1) 29 #[.int .i64 0, .slice none 0 0, .bool false] := HE.out.res
      have o0 := HE.out.out
      have HO := Lib.hid o0
      have HR := Lib.hid r0
      clear hke o0 r0
      go_wp2_with (first
        | ((with_reducible show wpList _ _ _ (Oper.mk (some 34) _ _ _ _ _ :: _) _ _); refine wpList_load_bk rfl 29 (.tmp 3) rfl (w.heap.size + 1 + 1) 29 (RefA F vo) rfl _ HO.out Try.underlying29 rfl size29 ?_)
        | ((with_reducible show wpList _ _ _ (Oper.mk none (Op.store 29 _ _) _ _ _ _ :: _) _ _); refine wpList_store_part rfl 29 (.tmp 2) (.tmp 34) rfl (w.heap.size + 1) 0 29 _ (RefA F vo) rfl rfl HR.out size29 (by simp) (HE.out.lie.oneA) ?_; intro w7 cur7 q1 q2 q3 q4 q5; have HQ := Lib.hid q1; have HQ2 := Lib.hid q2; have HQ3 := Lib.hid q3; have HQ5 := Lib.hid q5; clear q1 q2 q3 q4 q5))
      have hcur : cur7 = RefA F vo := own_res HQ2.out HQ3.out
      have hB : Bk w7 (w.heap.size + 1) 29 (RefA F vo) := hcur ▸ HQ.out
      refine bodyPost_ret (results_cell_row Try.results30 _ w7 (w.heap.size + 1) 29 (RefA F vo) (0, 0) _ rfl hB Try.underlying29 rfl size29) rfl ?_
      exact ⟨vo, Ro, rfl, HE.out.lie.gr (Gr.of_grown HQ5.out) (fun k hk e => by injection e with e; have := HE.out.new k hk; omega), fun b hb => by have := HE.out.new b hb; omega, HE.out.below.grown HQ5.out HE.out.below.size (fun j hj => by injection hj with hj; omega)⟩
end Go.Proofs.Ytocgallcmgnmgaa
