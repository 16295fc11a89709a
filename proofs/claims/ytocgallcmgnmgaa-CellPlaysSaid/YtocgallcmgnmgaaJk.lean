/-
  DERIVED. The document's Load.
-/
import Derived.Test.YtocgallcmgnmgaaJh
namespace Go.Proofs.Ytocgallcmgnmgaa
open Go.RowKit Go.Maps

def loaded (F : Nat) (l : List RC) : List PC := l.map fun r => loadC F l.length r.c
/-- A cell, its first places loaded. -/
def partC (F n k : Nat) (r : PC) : PC := ⟨r.ty, r.fr, (List.range F).map fun f => if f < k then (if r.fr = true then 0 else okTo n (r.at f)) else 0⟩
theorem part_len (F n k : Nat) (r : PC) : (partC F n k r).to.length = F := by simp [partC]
theorem part_at (F n k f : Nat) (r : PC) (h : f < F) : (partC F n k r).at f = if f < k then (if r.fr = true then 0 else okTo n (r.at f)) else 0 := by
  unfold PC.at partC
  rw [List.getD_eq_getElem?_getD, List.getElem?_map, List.getElem?_range h]; rfl
theorem part_zero (F n : Nat) (r : PC) : partC F n 0 r = ⟨r.ty, r.fr, zeros F⟩ := by
  refine pc_ext rfl rfl (by simp [partC, zeros]) fun k hk => ?_
  rw [part_at F n 0 k r (by simpa [partC] using hk), if_neg (by omega)]
  exact (zeros_at F k).symm
theorem part_full (F n : Nat) (r : PC) : partC F n F r = loadC F n r := by
  refine pc_ext rfl rfl (by simp [partC, loadC]) fun k hk => ?_
  have hkF : k < F := by simpa [partC] using hk
  rw [part_at F n F k r hkF, if_pos hkF]
  symm
  show ((List.range F).map fun f => if r.fr = true then 0 else okTo n (r.at f)).getD k 0 = _
  rw [List.getD_eq_getElem?_getD, List.getElem?_map, List.getElem?_range hkF]; rfl
theorem part_put (F n k : Nat) (r : PC) (hk : k < F) : putTo (partC F n k r) k (if r.fr = true then 0 else okTo n (r.at k)) = partC F n (k + 1) r := by
  refine pc_ext rfl rfl (by rw [putTo_len, part_len, part_len]) fun j hj => ?_
  have hj : j < F := by rw [putTo_len, part_len] at hj; exact hj
  rw [at_set _ _ _ _ (by rw [part_len]; exact hk), part_at F n (k + 1) j r hj, part_at F n k j r hj]
  by_cases e : j = k
  · subst e; rw [if_pos rfl, if_pos (show j < j + 1 by omega)]
  · rw [if_neg e]
    by_cases h : j < k
    · rw [if_pos h, if_pos (show j < k + 1 by omega)]
    · rw [if_neg h, if_neg (show ¬ j < k + 1 by omega)]
theorem part_same (F n k : Nat) (r : PC) (hk : k < F) (h : (if r.fr = true then 0 else okTo n (r.at k)) = 0) : partC F n (k + 1) r = partC F n k r := by
  refine pc_ext rfl rfl (by rw [part_len, part_len]) fun j hj => ?_
  have hj : j < F := by rw [part_len] at hj; exact hj
  rw [part_at F n (k + 1) j r hj, part_at F n k j r hj]
  by_cases e : j = k
  · subst e; rw [if_pos (show j < j + 1 by omega), if_neg (show ¬ j < j by omega), h]
  · by_cases h : j < k
    · rw [if_pos h, if_pos (show j < k + 1 by omega)]
    · rw [if_neg h, if_neg (show ¬ j < k + 1 by omega)]
/-- The document's Load under way. -/
structure LoadI (F : Nat) (w wr : World) (O : Nat) (vo : Value) (Ro : Nat → Prop) (xs : List PC) : Prop where
  res : Bk wr w.heap.size 29 #[.int .i64 0, .slice none 0 0, .bool false]
  out : Bk wr O 29 (RefA F vo)
  lie : (CellK F).Lie wr Ro vo xs
  new : ∀ b, Ro b → O + 1 ≤ b
  below : Below w.heap.size w wr
theorem RC.lies_below {w w' : World} {x : RC} (h : x.lies w) (hb : Below w.heap.size w w') : x.lies w' := by
  refine ⟨?_, h.2⟩
  rcases h.1 with h1 | ⟨b, o, hq, hr⟩
  · exact .inl h1
  · exact .inr ⟨b, o, hq, rangeAt_below hr hb⟩
/-- One of its cells under way. -/
structure PartI (F : Nat) (w wq : World) (O C Z : Nat) (vo : Value) (Ro : Nat → Prop) (xs : List PC) (n : Nat) (r : PC) (j : Nat) : Prop where
  load : LoadI F w wq O vo Ro xs
  item : Bk wq C 46 #[.int .i64 r.ty, .bool r.fr, .slice (some ⟨Z, 0, none⟩) F F]
  row : Bk wq Z 3 (ints (partC F n j r).to).toArray
  far : ∀ k, Ro k → k < C ∧ k < Z
  big : O < C ∧ O < Z
  ne : C ≠ Z
  low : w.heap.size + 1 ≤ O
theorem PartI.go {F : Nat} {w wq wz : World} {O C Z : Nat} {vo : Value} {Ro : Nat → Prop} {xs : List PC} {n : Nat} {r : PC} {j : Nat} (h : PartI F w wq O C Z vo Ro xs n r j) (hb : Below wq.heap.size wq wz) : PartI F w wz O C Z vo Ro xs n r j :=
  ⟨⟨h.load.res.below hb h.load.res.lt, h.load.out.below hb h.load.out.lt, h.load.lie.below hb, h.load.new, h.load.below.trans (hb.mono h.load.below.size)⟩, h.item.below hb h.item.lt, h.row.below hb h.row.lt, h.far, h.big, h.ne, h.low⟩
theorem PartI.skip {F : Nat} {w wq : World} {O C Z : Nat} {vo : Value} {Ro : Nat → Prop} {xs : List PC} {n : Nat} {r : PC} {j : Nat} (h : PartI F w wq O C Z vo Ro xs n r j) (hj : j < F) (hz : (if r.fr = true then 0 else okTo n (r.at j)) = 0) : PartI F w wq O C Z vo Ro xs n r (j + 1) :=
  { h with row := by rw [part_same F n j r hj hz]; exact h.row }
theorem PartI.put {F : Nat} {w wq : World} {O C Z : Nat} {vo : Value} {Ro : Nat → Prop} {xs : List PC} {n : Nat} {r : PC} {j : Nat} (h : PartI F w wq O C Z vo Ro xs n r j) (hj : j < F) (t : Int) (hz : (if r.fr = true then 0 else okTo n (r.at j)) = t) : PartI F w (wq.setCell ⟨Z, j, none⟩ (.int .i64 t)) O C Z vo Ro xs n r (j + 1) := by
  have hgr : wq.grownBy (wq.setCell ⟨Z, j, none⟩ (.int .i64 t)) (some Z) := grownBy_setC wq _ _
  refine ⟨⟨h.load.res.far (by show w.heap.size ≠ Z; have := h.low; have := h.big.2; omega) _, h.load.out.far (by show O ≠ Z; have := h.big.2; omega) _, h.load.lie.gr (Gr.of_grown hgr) (fun k hk e => by injection e with e; have := (h.far k hk).2; omega), h.load.new, h.load.below.setCell (by show w.heap.size ≤ Z; have := h.low; have := h.big.2; omega) _⟩, h.item.far h.ne _, ?_, h.far, h.big, h.ne, h.low⟩
  have := h.row.set_ j (.int .i64 t)
  rw [← part_put F n j r hj, hz]
  rw [List.setIfInBounds_toArray] at this
  unfold ints at this ⊢
  simpa [putTo, List.map_set] using this
theorem PartI.push {F : Nat} {w w4 w6 : World} {O C Z : Nat} {vo : Value} {Ro : Nat → Prop} {xs : List PC} {n : Nat} {r : PC} {g cap : Nat} {ys : List Value} (h : PartI F w w4 O C Z vo Ro xs n r F) (hF : F ≤ maxLen)
    (hys : (vo = .slice none 0 0 ∧ xs = []) ∨ ∃ g cap cur fm, vo = .slice (some ⟨g, 0, none⟩) xs.length cap ∧ (CellK F).At (w4.alloc (.cells #[.int .i64 r.ty, .bool r.fr, .slice (some ⟨Z, 0, none⟩) F F] 46)) Ro g cap cur fm xs ∧ ∀ j, j < xs.length * 3 → ys[j]? = cur[j]?) (hyl : ys.length = xs.length * 3)
    (hown : w6.ownsRow 0 46 3 (.slice (some ⟨g, 0, none⟩) (xs.length + 1) cap) (xs.length + 1) (ys ++ [.int .i64 r.ty, .bool r.fr, .slice (some ⟨Z, 0, none⟩) F F])) (hg : (w4.alloc (.cells #[.int .i64 r.ty, .bool r.fr, .slice (some ⟨Z, 0, none⟩) F F] 46)).grownBy w6 vo.ownBlock) (hat : vo.ownBlock = some g ∨ g = (w4.alloc (.cells #[.int .i64 r.ty, .bool r.fr, .slice (some ⟨Z, 0, none⟩) F F] 46)).heap.size) (hlt : g < w6.heap.size) :
    Bk w6 O 29 (RefA F vo) ∧ ∃ Ro', LoadI F w (w6.setCell ⟨O, 1, none⟩ (.slice (some ⟨g, 0, none⟩) (xs.length + 1) cap)) O (.slice (some ⟨g, 0, none⟩) (xs.length + 1) cap) Ro' (xs ++ [loadC F n r]) := by
  have hvo : ∀ k, some k = vo.ownBlock → Ro k := fun k hk => by
    rcases h.load.lie.2 with ⟨e, _⟩ | ⟨g0, c0, r0, f0, e, ha0⟩
    · rw [e] at hk; cases hk
    · rw [e] at hk; simp only [Value.ownBlock] at hk; injection hk with hk; subst hk; exact ha0.mine
  have hb5 := alloc_below w4 (.cells #[.int .i64 r.ty, .bool r.fr, .slice (some ⟨Z, 0, none⟩) F F] 46)
  have hkeep : ∀ k t cs, k ≤ O → Bk w4 k t cs → Bk w6 k t cs := fun k t cs hk hb => by
    have h5 := hb.below hb5 hb.lt
    exact (hg.block k h5.lt (fun e => by have := h.load.new k (hvo k e); omega)).trans h5
  have hout := hkeep _ _ _ (Nat.le_refl _) h.load.out
  have hgn : O + 1 ≤ g := by
    rcases hat with e | e
    · exact h.load.new g (hvo g e.symm)
    · rw [e]; have := h.load.out.lt; simp; omega
  have hlie5 := h.load.lie.below hb5
  have hzl := h.row.lt
  have hz6 : Bk w6 Z 3 (ints (loadC F n r).to).toArray := by
    have h1 := h.row
    rw [part_full] at h1
    have h5 := h1.below hb5 h1.lt
    exact (hg.block Z h5.lt (fun e => by have := (h.far Z (hvo Z e)).2; omega)).trans h5
  have hsub6 : (CellK F).sub w6 (loadC F n r) (.slice (some ⟨Z, 0, none⟩) F F) := ⟨by simp [loadC], ownsRow_new hz6 (by simp [loadC]) hF, by intro e; cases e⟩
  have hl6 := Kin.Lie.push (K := CellK F) (R' := fun k => Ro k ∨ k = g ∨ k = Z) (x' := loadC F n r) (b' := .slice (some ⟨Z, 0, none⟩) F F) hlie5 hys hyl hown hg hat (Nat.le_refl _) hsub6
    (fun m hm => by
      have hm' : Z = m := by
        have : some Z = some m := hm
        injection this
      subst hm'
      refine ⟨fun hR => by have := (h.far _ hR).2; omega, fun e => ?_, .inr (.inr rfl)⟩
      rcases hat with h1 | h1
      · have := (h.far g (hvo g h1.symm)).2; omega
      · simp at h1; omega) (fun _ h => .inl h) (.inr (.inl rfl))
    (fun k hk => by
      rcases hk with hk | hk | hk
      · exact Nat.lt_of_lt_of_le (hlie5.1 k hk) hg.size
      · subst hk; exact hlt
      · subst hk; exact hz6.lt)
  have hgs : w6.grownBy (w6.setCell ⟨O, 1, none⟩ (.slice (some ⟨g, 0, none⟩) (xs.length + 1) cap)) (some O) := grownBy_setC w6 _ _
  have hlow := h.low
  have hnew : ∀ k, (Ro k ∨ k = g ∨ k = Z) → O + 1 ≤ k := fun k hk => by
    rcases hk with hk | hk | hk
    · exact h.load.new k hk
    · omega
    · have := h.big.2; omega
  refine ⟨hout, _, ⟨(hkeep _ _ _ (by omega) h.load.res).far (by show w.heap.size ≠ O; omega) _, hout.set_ 1 _, hl6.gr (Gr.of_grown hgs) (fun k hk e => by injection e with e; have := hnew k hk; omega), hnew, ?_⟩⟩
  exact ((h.load.below.trans (hb5.mono h.load.below.size)).grown hg (h.load.below.trans (hb5.mono h.load.below.size)).size (fun j hj => by have := h.load.new j (hvo j hj.symm); omega)).setCell (by show w.heap.size ≤ O; omega) _
theorem load_take (F : Nat) (l : List RC) {k : Nat} {r : RC} (h : l[k]? = some r) : (loaded F l).take k ++ [loadC F l.length r.c] = (loaded F l).take (k + 1) := by
  rw [List.take_add_one]
  congr 1
  unfold loaded
  rw [List.getElem?_map, h]; rfl
theorem rc_at {w w' : World} {r : RC} {j : Nat} (h : r.lies w) (hb : Below w.heap.size w w') (hj : j < r.c.to.length) : ∃ qb qo, r.q = some ⟨qb, qo, none⟩ ∧ w'.cell? ⟨qb, qo + j, none⟩ = some (.int .i64 (r.c.at j)) := by
  rcases h.1 with h1 | ⟨b, o, hq, hr⟩
  · rw [h1] at hj; simp at hj
  · refine ⟨b, o, hq, at_below hb (hr j _ ?_)⟩
    unfold ints; rw [List.getElem?_map, at_get r.c j hj]; rfl
theorem part_a {F : Nat} {w wr : World} {O : Nat} {vo : Value} {Ro : Nat → Prop} {xs : List PC} {n : Nat} {r : PC} (h : LoadI F w wr O vo Ro xs) (hO : w.heap.size + 1 ≤ O) :
    PartI F w ((wr.alloc (.cells (ints (zeros F)).toArray 3)).alloc (.cells #[.int .i64 r.ty, .bool r.fr, .slice (some ⟨wr.heap.size, 0, none⟩) F F] 46)).drew O (wr.heap.size + 1) wr.heap.size vo Ro xs n r 0 := by
  have e1 : (wr.alloc (.cells (ints (zeros F)).toArray 3)).heap.size = wr.heap.size + 1 := by simp
  have hb : Below wr.heap.size wr ((wr.alloc (.cells (ints (zeros F)).toArray 3)).alloc (.cells #[.int .i64 r.ty, .bool r.fr, .slice (some ⟨wr.heap.size, 0, none⟩) F F] 46)).drew := below_drew (((Below.refl _ _).alloc (Nat.le_refl _) _).alloc (by simp) _)
  have b1 : Bk (wr.alloc (.cells (ints (zeros F)).toArray 3)) wr.heap.size 3 (ints (zeros F)).toArray := (MapKept.heap_alloc wr _).1
  have hol := h.out.lt
  refine ⟨⟨h.res.below hb h.res.lt, h.out.below hb h.out.lt, h.lie.below hb, h.new, h.below.trans (hb.mono h.below.size)⟩, by rw [← e1]; exact (MapKept.heap_alloc _ _).1, ?_, fun k hk => by have := h.lie.1 k hk; omega, by omega, by omega, hO⟩
  rw [part_zero]; exact b1.below (below_drew (alloc_below _ _)) b1.lt
theorem part_b {F : Nat} {w wr : World} {O : Nat} {vo : Value} {Ro : Nat → Prop} {xs : List PC} {n : Nat} {r : PC} (h : LoadI F w wr O vo Ro xs) (hO : w.heap.size + 1 ≤ O) :
    PartI F w ((wr.alloc (.cells #[.int .i64 r.ty, .bool r.fr, .slice (some ⟨wr.heap.size + 1, 0, none⟩) F F] 46)).alloc (.cells (ints (zeros F)).toArray 3)).drew O wr.heap.size (wr.heap.size + 1) vo Ro xs n r 0 := by
  have e1 : (wr.alloc (.cells #[.int .i64 r.ty, .bool r.fr, .slice (some ⟨wr.heap.size + 1, 0, none⟩) F F] 46)).heap.size = wr.heap.size + 1 := by simp
  have hb : Below wr.heap.size wr ((wr.alloc (.cells #[.int .i64 r.ty, .bool r.fr, .slice (some ⟨wr.heap.size + 1, 0, none⟩) F F] 46)).alloc (.cells (ints (zeros F)).toArray 3)).drew := below_drew (((Below.refl _ _).alloc (Nat.le_refl _) _).alloc (by simp) _)
  have b1 : Bk (wr.alloc (.cells #[.int .i64 r.ty, .bool r.fr, .slice (some ⟨wr.heap.size + 1, 0, none⟩) F F] 46)) wr.heap.size 46 #[.int .i64 r.ty, .bool r.fr, .slice (some ⟨wr.heap.size + 1, 0, none⟩) F F] := (MapKept.heap_alloc wr _).1
  have hol := h.out.lt
  refine ⟨⟨h.res.below hb h.res.lt, h.out.below hb h.out.lt, h.lie.below hb, h.new, h.below.trans (hb.mono h.below.size)⟩, b1.below (below_drew (alloc_below _ _)) b1.lt, ?_, fun k hk => by have := h.lie.1 k hk; omega, by omega, by omega, hO⟩
  have b2 : Bk ((wr.alloc (.cells #[.int .i64 r.ty, .bool r.fr, .slice (some ⟨wr.heap.size + 1, 0, none⟩) F F] 46)).alloc (.cells (ints (zeros F)).toArray 3)) (wr.alloc (.cells #[.int .i64 r.ty, .bool r.fr, .slice (some ⟨wr.heap.size + 1, 0, none⟩) F F] 46)).heap.size 3 (ints (zeros F)).toArray := (MapKept.heap_alloc _ _).1
  rw [e1] at b2
  rw [part_zero]; exact b2
set_option maxHeartbeats 3200000 in
set_option maxRecDepth 100000 in
theorem refLoad_any (F cl cc : Nat) (pl pc : Option Addr) (l : List RC) (w : World) (hl : LayR 3 RC.cells RC.lies w pc l) (hF : F ≤ 2000000) (hn : l.length ≤ 2000000) :
    Calls Try.prog 8 #[.slice pl F cl, .slice pc l.length cc] w (OwnP F w (loaded F l)) := by
  have HN := Lib.hid (fun w => refNew_any F cl pl w)
  have b1 : Bk (w.alloc (.cells #[.int .i64 0, .slice none 0 0, .bool false] 29)) w.heap.size 29 #[.int .i64 0, .slice none 0 0, .bool false] := (MapKept.heap_alloc w _).1
  have HB1 := Lib.hid b1
  have HB0 := Lib.hid (alloc_below w (.cells #[.int .i64 0, .slice none 0 0, .bool false] 29))
  clear b1
  go_enter Try.func8, Try.ntmps8
  go_wp2_with fail
  generalize w.alloc (.cells #[.int .i64 0, .slice none 0 0, .bool false] 29) = w1 at HB0 HB1 ⊢
  refine (HN.out w1).mono ?_; rintro e w2 ⟨rfl, hb2⟩
  have HB2 := Lib.hid (HB1.out.below hb2 HB1.out.lt)
  have HBB := Lib.hid (HB0.out.trans (hb2.mono HB0.out.size))
  clear hb2
  go_wp2_with (first | ((with_reducible show wpList _ _ _ (Oper.mk none (Op.store _ _ _) _ _ _ _ :: _) _ _); refine wpList_store_new rfl 29 (.tmp 5) (.tmp 10) rfl _ (RefA F (.slice none 0 0)) rfl rfl size29 rfl (by simp [Value.oneCell']) ?_))
  have hst : LoadI F w (w2.alloc (.cells (RefA F (.slice none 0 0)) 29)) w2.heap.size (.slice none 0 0) (fun _ => False) [] :=
    ⟨HB2.out.below (alloc_below _ _) HB2.out.lt, (MapKept.heap_alloc w2 _).1, Kin.Lie.nil _ _ (fun _ h => h.elim), fun _ h => h.elim, HBB.out.trans ((alloc_below _ _).mono HBB.out.size)⟩
  have HST := Lib.hid hst
  have HO : Hid (w.heap.size + 1 ≤ w2.heap.size) := Lib.hid HB2.out.lt
  clear hst HB2 HBB HB0 HB1 HN
  generalize w2.alloc (.cells (RefA F (.slice none 0 0)) 29) = wS at HST ⊢
  generalize w2.heap.size = O at HST HO ⊢
  have HL := Lib.hid hl
  clear hl
  go_loopw [6] (fun t wr => ∃ (k : Nat) (vo : Value) (Ro : Nat → Prop), t = .int .i64 k ∧ k ≤ l.length ∧ Hid (LoadI F w wr O vo Ro ((loaded F l).take k))) (fun t _ => l.length - (intOf t).toNat)
  case atStart => exact ⟨0, _, _, rfl, Nat.zero_le _, HST⟩
  case round =>
    obtain ⟨k, vo, Ro, rfl, hk, HI⟩ := hrel
    by_cases hkl : k < l.length
    · obtain ⟨r, hr⟩ : ∃ r, l[k]? = some r := ⟨_, List.getElem?_eq_getElem hkl⟩
      obtain ⟨cb, co, rfl, hit, hrl⟩ := (HL.out.below HI.out.below (fun x h => RC.lies_below h HI.out.below)).at_ hr
      have d0 : wr.cell? ⟨cb, co + k * 3, none⟩ = some (.int .i64 r.c.ty) := hit 0 _ rfl
      have d1 : wr.cell? ⟨cb, co + k * 3 + 1, none⟩ = some (.bool r.c.fr) := hit 1 _ rfl
      have d2 : wr.cell? ⟨cb, co + k * 3 + 2, none⟩ = some (.slice r.q r.c.to.length r.k) := hit 2 _ rfl
      have HD0 := Lib.hid d0
      have HD1 := Lib.hid d1
      have HD2 := Lib.hid d2
      have HRL := Lib.hid hrl
      have HSS : Hid (∀ w', Below wr.heap.size wr w' → w'.cell? ⟨cb, co + k * 3, none⟩ = some (.int .i64 r.c.ty) ∧ w'.cell? ⟨cb, co + k * 3 + 1, none⟩ = some (.bool r.c.fr)) := Lib.hid (fun w' hb => ⟨at_below hb HD0.out, at_below hb HD1.out⟩)
      have hmk := fun w => make44 F w hF
      have hk0 : (0 : Int) ≤ (k : Int) := Int.natCast_nonneg _
      have hk1 : (k : Int) < (l.length : Int) := by omega
      have HTK : Hid ((loaded F l).take k ++ [loadC F l.length r.c] = (loaded F l).take (k + 1)) := Lib.hid (load_take F l hr)
      have HLK : Hid (((loaded F l).take k).length = k) := Lib.hid (by rw [List.length_take]; simp [loaded]; omega)
      have HPA : Hid (PartI F w ((wr.alloc (.cells (ints (zeros F)).toArray 3)).alloc (.cells #[.int .i64 r.c.ty, .bool r.c.fr, .slice (some ⟨wr.heap.size, 0, none⟩) F F] 46)).drew O (wr.heap.size + 1) wr.heap.size vo Ro ((loaded F l).take k) l.length r.c 0) := Lib.hid (part_a HI.out HO.out)
      have HPB : Hid (PartI F w ((wr.alloc (.cells #[.int .i64 r.c.ty, .bool r.c.fr, .slice (some ⟨wr.heap.size + 1, 0, none⟩) F F] 46)).alloc (.cells (ints (zeros F)).toArray 3)).drew O wr.heap.size (wr.heap.size + 1) vo Ro ((loaded F l).take k) l.length r.c 0) := Lib.hid (part_b HI.out HO.out)
      have HW : Hid (Below w.heap.size w wr) := Lib.hid HI.out.below
      have HC2 : Hid (∀ w', Below w.heap.size w w' → w'.cell? ⟨cb, co + k * 3 + 2, none⟩ = some (.slice r.q r.c.to.length r.k)) := Lib.hid (fun w' hb => by
        obtain ⟨cb', co', e1, hit', _⟩ := HL.out.at_ hr
        injection e1 with e1; injection e1 with e2 e3; subst e2; subst e3
        exact at_below hb (hit' 2 _ rfl))
      have HTO : Hid (∀ w' j, Below w.heap.size w w' → j < r.c.to.length → ∃ qb qo, r.q = some ⟨qb, qo, none⟩ ∧ w'.cell? ⟨qb, qo + j, none⟩ = some (.int .i64 (r.c.at j))) := Lib.hid (fun w' j hb hj => by
        obtain ⟨_, _, _, _, hrl'⟩ := HL.out.at_ hr
        exact rc_at hrl' hb hj)
      clear hit hrl d0 d1 d2 hr
      go_upto_region 5 with fail
      have K0 : Hid (Below wr.heap.size wr wr.drew) := Lib.hid (below_drew (Below.refl _ _))
      go_region_held3 (fun w' => w'.cell? ⟨cb, co + k * 3, none⟩ = some (.int .i64 r.c.ty) ∧ w'.cell? ⟨cb, co + k * 3 + 1, none⟩ = some (.bool r.c.fr)) (first | exact HSS.out _ K0.out | exact HSS.out _ (K0.out.alloc (Nat.le_refl _) _) | exact HSS.out _ ((K0.out.alloc (Nat.le_refl _) _).alloc (by simp) _) | exact HSS.out _ (((((K0.out.alloc (Nat.le_refl _) _).alloc (by simp) _).setCell (by simp) _).setCell (by simp) _).setCell (by simp) _) | fail) (fail)
      · have HP := HPA
        clear HPA HPB HSS hmk K0
        generalize wr.heap.size + 1 = C at HP ⊢
        generalize wr.heap.size = Z at HP ⊢
        generalize ((wr.alloc (.cells (ints (zeros F)).toArray 3)).alloc (.cells #[.int .i64 r.c.ty, .bool r.c.fr, .slice (some ⟨Z, 0, none⟩) F F] 46)).drew = wq at HP ⊢
        go_wp2_with fail
        go_loopw [8] (fun t wr => ∃ j : Nat, t = .int .i64 j ∧ j ≤ F ∧ Hid (PartI F w wr O C Z vo Ro ((loaded F l).take k) l.length r.c j)) (fun t _ => F - (intOf t).toNat)
        case atStart => exact ⟨0, rfl, Nat.zero_le _, HP⟩
        case round =>
          obtain ⟨j, rfl, hj, HJ⟩ := hrel
          by_cases hjF : j < F
          · have e2 := HC2.out wr HJ.out.load.below
            have i1 : wr.cell? ⟨C, 1, none⟩ = some (.bool r.c.fr) := HJ.out.item.cell 1
            have hj0 : (0 : Int) ≤ (j : Int) := Int.natCast_nonneg _
            have hj1 : (j : Int) < (F : Int) := by omega
            have hjB : (j : Int) ≤ 2000000 := by omega
            by_cases hjt : j < r.c.to.length
            · obtain ⟨qb, qo, eq, hto⟩ := HTO.out wr j HJ.out.load.below hjt
              rw [eq] at e2
              have hj2 : (j : Int) < (r.c.to.length : Int) := by omega
              generalize hat : r.c.at j = a at hto
              cases hfr : r.c.fr with
              | true =>
                rw [hfr] at i1
                have HS := Lib.hid (HJ.out.skip hjF (by rw [hfr]; rfl))
                go_wp2_with fail
                go_roundw
                case rel => exact ⟨j + 1, by go_num, by omega, HS⟩
                case measure => simp [intOf]; omega
              | false =>
                rw [hfr] at i1
                by_cases ha1 : 1 ≤ a
                · have hd1 : decide (1 ≤ a) = true := decide_eq_true ha1
                  by_cases ha2 : a ≤ (l.length : Int)
                  · have hd2 : decide (a ≤ (l.length : Int)) = true := decide_eq_true ha2
                    have HS := Lib.hid ((HJ.out.go (wz := wr.drew) (below_drew (Below.refl _ _))).put hjF a (by rw [hfr, hat]; unfold okTo isCell; rw [hd1, hd2]; rfl))
                    have i2 : wr.cell? ⟨C, 2, none⟩ = some (.slice (some ⟨Z, 0, none⟩) F F) := HJ.out.item.cell 2
                    have z1 : wr.cell? ⟨Z, j, none⟩ = some (.int .i64 ((partC F l.length j r.c).at j)) := by
                      rw [HJ.out.row.cell, List.getElem?_toArray]; unfold ints; rw [List.getElem?_map, at_get _ j (by rw [part_len]; exact hjF)]; rfl
                    have z2 : wr.frozen? ⟨Z, j, none⟩ = false := HJ.out.row.frozen j
                    clear ha1 ha2
                    go_wp2_with fail
                    go_still_tail 12, (by kernel_rfl)
                    change wpList _ _ _ _ _ wr.drew
                    go_wp2_with fail
                    go_roundw
                    case rel => exact ⟨j + 1, by go_num, by omega, HS⟩
                    case measure => simp [intOf]; omega
                  · have hd2 : decide (a ≤ (l.length : Int)) = false := decide_eq_false ha2
                    have HS := Lib.hid (HJ.out.skip hjF (by rw [hfr, hat]; unfold okTo isCell; rw [hd1, hd2]; rfl))
                    clear ha1 ha2
                    go_wp2_with fail
                    go_roundw
                    case rel => exact ⟨j + 1, by go_num, by omega, HS⟩
                    case measure => simp [intOf]; omega
                · have hd1 : decide (1 ≤ a) = false := decide_eq_false ha1
                  have HS := Lib.hid (HJ.out.skip hjF (by rw [hfr, hat]; unfold okTo isCell; rw [hd1]; rfl))
                  clear ha1
                  go_wp2_with fail
                  go_roundw
                  case rel => exact ⟨j + 1, by go_num, by omega, HS⟩
                  case measure => simp [intOf]; omega
            · have HS := Lib.hid (HJ.out.skip hjF (by rw [at_over r.c j (by omega)]; split <;> rfl))
              go_wp2_with fail
              go_roundw
              case rel => exact ⟨j + 1, by go_num, by omega, HS⟩
              case measure => simp [intOf]; omega
          · obtain rfl : j = F := by omega
            have o1 := HJ.out.load.out.cell 1
            obtain ⟨ys, hys0, hyl, hys⟩ := (HJ.out.load.lie.below (alloc_below wr (.cells #[.int .i64 r.c.ty, .bool r.c.fr, .slice (some ⟨Z, 0, none⟩) j j] 46))).owns (base := 0) (fun _ _ => Nat.zero_le _)
            have HQ := Lib.hid (fun g cap w6 => HJ.out.push (by unfold maxLen; omega) (g := g) (cap := cap) (w6 := w6) hys hyl)
            have HYS := Lib.hid hys0
            have HN2 : Hid (∀ i u, ([.int .i64 r.c.ty, .bool r.c.fr, .slice (some ⟨Z, 0, none⟩) j j] : List Value)[i]? = some u → (wr.alloc (.cells #[.int .i64 r.c.ty, .bool r.c.fr, .slice (some ⟨Z, 0, none⟩) j j] 46)).cell? ((⟨wr.heap.size, 0, none⟩ : Addr).add i) = some u) := Lib.hid (fun i u hu => by
              have e : ((⟨wr.heap.size, 0, none⟩ : Addr).add i) = ⟨wr.heap.size, i, none⟩ := by rw [Addr.add_mid]; simp
              rw [e]
              exact (World.cell?_alloc_at _ _ _ _ rfl).trans (by simpa using hu))
            obtain ⟨i46, hi4, hz4, hs4, hb4⟩ := z46
            have HI4 := Lib.hid hi4
            have HZ4 := Lib.hid hz4
            have HS4 := Lib.hid hs4
            have HY4 := Lib.hid hb4
            rw [HLK.out, HTK.out] at HQ
            rw [HLK.out] at HYS
            have hm1 : k + 1 ≤ maxLen := by unfold maxLen; omega
            have hm2 : (k + 1) * 40 ≤ 140737488355328 := by omega
            have H2 : Hid (∀ u ∈ ([.int .i64 r.c.ty, .bool r.c.fr, .slice (some ⟨Z, 0, none⟩) j j] : List Value), u.oneCell' = true) := Lib.hid (by intro u hu; simp at hu; rcases hu with rfl | rfl | rfl <;> rfl)
            clear hys hyl hys0 hi4 hz4 hs4 hb4
            go_wp2_with (first
              | ((with_reducible show wpList _ _ _ (Oper.mk (some 88) _ _ _ _ _ :: _) _ _); refine wpList_load_bk rfl 46 (.tmp 7) rfl C 46 #[.int .i64 r.c.ty, .bool r.c.fr, .slice (some ⟨Z, 0, none⟩) j j] rfl _ HJ.out.item Try.underlying46 rfl size46 ?_)
              | (at_builtin; refine wpList_append_lies _ rfl (.tmp 87) (.tmp 89) 23 rfl 0 46 i46 _ 3 40 Try.underlying23 HI4.out HZ4.out HS4.out HY4.out rfl (by decide) vo k ys rfl HYS.out _ 1 1 [.int .i64 r.c.ty, .bool r.c.fr, .slice (some ⟨Z, 0, none⟩) j j] rfl rfl HN2.out H2.out (by decide) hm1 hm2 (Nat.zero_le _) _ rfl ?_; intro g7 cap7 w6 s1 s2 s3 s4; obtain ⟨t1, t2⟩ := HQ.out g7 cap7 w6 s1 s2 s3 s4; have f6 := t1.frozen 1; have g6 := t1.cell 1; have HZZ := Lib.hid t2; clear s1 s2 s3 s4 t1 t2))
            go_roundw
            case rel =>
              obtain ⟨Ro', hz⟩ := HZZ.out
              exact ⟨k + 1, _, Ro', by go_num, by omega, Lib.hid hz⟩
            case measure => simp [intOf]; omega
      · have HP := HPB
        clear HPA HPB HSS hmk K0
        generalize wr.heap.size + 1 = Z at HP ⊢
        generalize wr.heap.size = C at HP ⊢
        generalize ((wr.alloc (.cells #[.int .i64 r.c.ty, .bool r.c.fr, .slice (some ⟨Z, 0, none⟩) F F] 46)).alloc (.cells (ints (zeros F)).toArray 3)).drew = wq at HP ⊢
        go_wp2_with fail
        go_loopw [8] (fun t wr => ∃ j : Nat, t = .int .i64 j ∧ j ≤ F ∧ Hid (PartI F w wr O C Z vo Ro ((loaded F l).take k) l.length r.c j)) (fun t _ => F - (intOf t).toNat)
        case atStart => exact ⟨0, rfl, Nat.zero_le _, HP⟩
        case round =>
          obtain ⟨j, rfl, hj, HJ⟩ := hrel
          by_cases hjF : j < F
          · have e2 := HC2.out wr HJ.out.load.below
            have i1 : wr.cell? ⟨C, 1, none⟩ = some (.bool r.c.fr) := HJ.out.item.cell 1
            have hj0 : (0 : Int) ≤ (j : Int) := Int.natCast_nonneg _
            have hj1 : (j : Int) < (F : Int) := by omega
            have hjB : (j : Int) ≤ 2000000 := by omega
            by_cases hjt : j < r.c.to.length
            · obtain ⟨qb, qo, eq, hto⟩ := HTO.out wr j HJ.out.load.below hjt
              rw [eq] at e2
              have hj2 : (j : Int) < (r.c.to.length : Int) := by omega
              generalize hat : r.c.at j = a at hto
              cases hfr : r.c.fr with
              | true =>
                rw [hfr] at i1
                have HS := Lib.hid (HJ.out.skip hjF (by rw [hfr]; rfl))
                go_wp2_with fail
                go_roundw
                case rel => exact ⟨j + 1, by go_num, by omega, HS⟩
                case measure => simp [intOf]; omega
              | false =>
                rw [hfr] at i1
                by_cases ha1 : 1 ≤ a
                · have hd1 : decide (1 ≤ a) = true := decide_eq_true ha1
                  by_cases ha2 : a ≤ (l.length : Int)
                  · have hd2 : decide (a ≤ (l.length : Int)) = true := decide_eq_true ha2
                    have HS := Lib.hid ((HJ.out.go (wz := wr.drew) (below_drew (Below.refl _ _))).put hjF a (by rw [hfr, hat]; unfold okTo isCell; rw [hd1, hd2]; rfl))
                    have i2 : wr.cell? ⟨C, 2, none⟩ = some (.slice (some ⟨Z, 0, none⟩) F F) := HJ.out.item.cell 2
                    have z1 : wr.cell? ⟨Z, j, none⟩ = some (.int .i64 ((partC F l.length j r.c).at j)) := by
                      rw [HJ.out.row.cell, List.getElem?_toArray]; unfold ints; rw [List.getElem?_map, at_get _ j (by rw [part_len]; exact hjF)]; rfl
                    have z2 : wr.frozen? ⟨Z, j, none⟩ = false := HJ.out.row.frozen j
                    clear ha1 ha2
                    go_wp2_with fail
                    go_still_tail 12, (by kernel_rfl)
                    change wpList _ _ _ _ _ wr.drew
                    go_wp2_with fail
                    go_roundw
                    case rel => exact ⟨j + 1, by go_num, by omega, HS⟩
                    case measure => simp [intOf]; omega
                  · have hd2 : decide (a ≤ (l.length : Int)) = false := decide_eq_false ha2
                    have HS := Lib.hid (HJ.out.skip hjF (by rw [hfr, hat]; unfold okTo isCell; rw [hd1, hd2]; rfl))
                    clear ha1 ha2
                    go_wp2_with fail
                    go_roundw
                    case rel => exact ⟨j + 1, by go_num, by omega, HS⟩
                    case measure => simp [intOf]; omega
                · have hd1 : decide (1 ≤ a) = false := decide_eq_false ha1
                  have HS := Lib.hid (HJ.out.skip hjF (by rw [hfr, hat]; unfold okTo isCell; rw [hd1]; rfl))
                  clear ha1
                  go_wp2_with fail
                  go_roundw
                  case rel => exact ⟨j + 1, by go_num, by omega, HS⟩
                  case measure => simp [intOf]; omega
            · have HS := Lib.hid (HJ.out.skip hjF (by rw [at_over r.c j (by omega)]; split <;> rfl))
              go_wp2_with fail
              go_roundw
              case rel => exact ⟨j + 1, by go_num, by omega, HS⟩
              case measure => simp [intOf]; omega
          · obtain rfl : j = F := by omega
            have o1 := HJ.out.load.out.cell 1
            obtain ⟨ys, hys0, hyl, hys⟩ := (HJ.out.load.lie.below (alloc_below wr (.cells #[.int .i64 r.c.ty, .bool r.c.fr, .slice (some ⟨Z, 0, none⟩) j j] 46))).owns (base := 0) (fun _ _ => Nat.zero_le _)
            have HQ := Lib.hid (fun g cap w6 => HJ.out.push (by unfold maxLen; omega) (g := g) (cap := cap) (w6 := w6) hys hyl)
            have HYS := Lib.hid hys0
            have HN2 : Hid (∀ i u, ([.int .i64 r.c.ty, .bool r.c.fr, .slice (some ⟨Z, 0, none⟩) j j] : List Value)[i]? = some u → (wr.alloc (.cells #[.int .i64 r.c.ty, .bool r.c.fr, .slice (some ⟨Z, 0, none⟩) j j] 46)).cell? ((⟨wr.heap.size, 0, none⟩ : Addr).add i) = some u) := Lib.hid (fun i u hu => by
              have e : ((⟨wr.heap.size, 0, none⟩ : Addr).add i) = ⟨wr.heap.size, i, none⟩ := by rw [Addr.add_mid]; simp
              rw [e]
              exact (World.cell?_alloc_at _ _ _ _ rfl).trans (by simpa using hu))
            obtain ⟨i46, hi4, hz4, hs4, hb4⟩ := z46
            have HI4 := Lib.hid hi4
            have HZ4 := Lib.hid hz4
            have HS4 := Lib.hid hs4
            have HY4 := Lib.hid hb4
            rw [HLK.out, HTK.out] at HQ
            rw [HLK.out] at HYS
            have hm1 : k + 1 ≤ maxLen := by unfold maxLen; omega
            have hm2 : (k + 1) * 40 ≤ 140737488355328 := by omega
            have H2 : Hid (∀ u ∈ ([.int .i64 r.c.ty, .bool r.c.fr, .slice (some ⟨Z, 0, none⟩) j j] : List Value), u.oneCell' = true) := Lib.hid (by intro u hu; simp at hu; rcases hu with rfl | rfl | rfl <;> rfl)
            clear hys hyl hys0 hi4 hz4 hs4 hb4
            go_wp2_with (first
              | ((with_reducible show wpList _ _ _ (Oper.mk (some 88) _ _ _ _ _ :: _) _ _); refine wpList_load_bk rfl 46 (.tmp 7) rfl C 46 #[.int .i64 r.c.ty, .bool r.c.fr, .slice (some ⟨Z, 0, none⟩) j j] rfl _ HJ.out.item Try.underlying46 rfl size46 ?_)
              | (at_builtin; refine wpList_append_lies _ rfl (.tmp 87) (.tmp 89) 23 rfl 0 46 i46 _ 3 40 Try.underlying23 HI4.out HZ4.out HS4.out HY4.out rfl (by decide) vo k ys rfl HYS.out _ 1 1 [.int .i64 r.c.ty, .bool r.c.fr, .slice (some ⟨Z, 0, none⟩) j j] rfl rfl HN2.out H2.out (by decide) hm1 hm2 (Nat.zero_le _) _ rfl ?_; intro g7 cap7 w6 s1 s2 s3 s4; obtain ⟨t1, t2⟩ := HQ.out g7 cap7 w6 s1 s2 s3 s4; have f6 := t1.frozen 1; have g6 := t1.cell 1; have HZZ := Lib.hid t2; clear s1 s2 s3 s4 t1 t2))
            go_roundw
            case rel =>
              obtain ⟨Ro', hz⟩ := HZZ.out
              exact ⟨k + 1, _, Ro', by go_num, by omega, Lib.hid hz⟩
            case measure => simp [intOf]; omega
    · have hke : k = l.length := by omega
      have HE : Hid (LoadI F w wr O vo Ro (loaded F l)) := Lib.hid (by have := HI.out; rwa [hke, show l.length = (loaded F l).length by simp [loaded], List.take_length] at this)
      have HO9 := Lib.hid HE.out.out
      have HR9 := Lib.hid HE.out.res
      have hoh := HO.out
      clear hke
      go_wp2_with (first
        | ((with_reducible show wpList _ _ _ (Oper.mk (some 92) _ _ _ _ _ :: _) _ _); refine wpList_load_bk rfl 29 (.tmp 5) rfl O 29 (RefA F vo) rfl _ HO9.out Try.underlying29 rfl size29 ?_)
        | ((with_reducible show wpList _ _ _ (Oper.mk none (Op.store 29 _ _) _ _ _ _ :: _) _ _); refine wpList_store_part rfl 29 (.tmp 4) (.tmp 92) rfl w.heap.size 0 29 _ (RefA F vo) rfl rfl HR9.out size29 (by simp) (HE.out.lie.oneA) ?_; intro w7 cur7 q1 q2 q3 q4 q5; have HQ := Lib.hid q1; have HQ2 := Lib.hid q2; have HQ3 := Lib.hid q3; have HQ5 := Lib.hid q5; clear q1 q2 q3 q4 q5))
      have hcur : cur7 = RefA F vo := own_res HQ2.out HQ3.out
      have hB : Bk w7 w.heap.size 29 (RefA F vo) := hcur ▸ HQ.out
      refine bodyPost_ret (results_cell_row Try.results8 _ w7 w.heap.size 29 (RefA F vo) (0, 0) _ rfl hB Try.underlying29 rfl size29) rfl ?_
      exact ⟨vo, Ro, rfl, HE.out.lie.gr (Gr.of_grown HQ5.out) (fun k hk e => by injection e with e; have := HE.out.new k hk; omega), fun b hb => by have := HE.out.new b hb; omega, HE.out.below.grown HQ5.out HE.out.below.size (fun j hj => by injection hj with hj; omega)⟩
end Go.Proofs.Ytocgallcmgnmgaa
