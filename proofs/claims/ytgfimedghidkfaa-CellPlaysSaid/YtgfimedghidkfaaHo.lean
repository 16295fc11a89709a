/-
  DERIVED. The walk of Cells.
-/
import Derived.Test.YtgfimedghidkfaaHn
namespace Go.Proofs.Ytgfimedghidkfaa
open Go.RowKit Go.Maps

theorem HIs.below {w w' : World} {b : Nat} {R : Nat → Prop} {F : Nat} {cs : List PC} {v : Value} (h : HIs w b R F cs v) (hb : Below w.heap.size w w') : HIs w' b R F cs v :=
  ⟨h.top.below hb h.top.lt, h.out, h.lie.below hb⟩
/-- What Cells hands out. -/
def CellsP (F : Nat) (w : World) (cs : List PC) (e : Ending) (w' : World) : Prop :=
  ∃ v, e = .returned v ∧ (CellK F).Lie w' (fun k => w.heap.size ≤ k ∧ k < w'.heap.size) v cs ∧ Below w.heap.size w w'
def CellsAt (F : Nat) (w wr : World) (n : Nat) (xs : List PC) : Prop := ∃ cur fm, (CellK F).At wr (fun k => w.heap.size ≤ k) w.heap.size n cur fm xs
theorem cells_end {F : Nat} {w wr : World} {cs : List PC} (h : CellsAt F w wr cs.length cs) (hb : Below w.heap.size w wr) : CellsP F w cs (.returned (.slice (some ⟨w.heap.size, 0, none⟩) cs.length cs.length)) wr := by
  obtain ⟨cur, fm, ha⟩ := h
  refine ⟨_, rfl, ⟨fun k hk => hk.2, .inr ⟨_, _, cur, fm, rfl, { ha with mine := ⟨Nat.le_refl _, ha.row.lt⟩, own := fun i m hi hm => ?_ }⟩⟩, hb⟩
  obtain ⟨h1, h2⟩ := ha.own i m hi hm
  exact ⟨⟨h1, (CellK F).has wr _ _ m (ha.sub i _ (List.getElem?_eq_getElem hi)) hm⟩, h2⟩
theorem cells_step {F : Nat} {w wr w2 w3 : World} {cs : List PC} {k : Nat} {x : PC} {cur cur3 : Array Value} {fm : Nat → Value} (ha : (CellK F).At wr (fun k => w.heap.size ≤ k) w.heap.size cs.length cur fm (cs.take k)) (hx : cs[k]? = some x) (hk : k < cs.length) (hl : x.to.length = F) (hF : F ≤ maxLen)
    (hp : Bk w2 wr.heap.size 3 (ints x.to).toArray) (hb : Below wr.heap.size wr w2) (hw : w.heap.size ≤ wr.heap.size)
    (h3 : Bk w3 w.heap.size 46 cur3) (hs3 : cur3.size = cur.size) (hin : ∀ j, j < 3 → cur3[k * 3 + j]? = ([.int .i64 x.ty, .bool x.fr, .slice (some ⟨wr.heap.size, 0, none⟩) F F] : List Value)[j]?) (hout : ∀ j, (j < k * 3 ∨ k * 3 + 3 ≤ j) → cur3[j]? = cur[j]?) (hg : w2.grownBy w3 (some w.heap.size)) :
    CellsAt F w w3 cs.length (cs.take (k + 1)) := by
  have hlk : (cs.take k).length = k := by rw [List.length_take]; omega
  have ht : cs.take (k + 1) = cs.take k ++ [x] := by rw [List.take_add_one, hx]; rfl
  have hH : w.heap.size < wr.heap.size := ha.row.lt
  have hp3 : Bk w3 wr.heap.size 3 (ints x.to).toArray := (hg.block _ hp.lt (by intro e; injection e with e; omega)).trans hp
  have hgr : Gr wr w3 (fun k => some k = some w.heap.size) := (Gr.of_below hb).grown hg (fun _ _ h => h)
  rw [ht]
  refine ⟨cur3, _, ha.snoc (b' := .slice (some ⟨wr.heap.size, 0, none⟩) F F) hgr h3 hs3 (by omega) (fun j hj => by rw [hlk]; exact hin j hj) (fun j hj => hout j (.inl (by rw [hlk] at hj; exact hj))) ⟨hl, ownsRow_new hp3 hl hF, by intro e; cases e⟩ (fun k _ hk => by injection hk) (fun m hm => ?_) (fun _ h => h)⟩
  have hm' : wr.heap.size = m := by
    have : some wr.heap.size = some m := hm
    injection this
  subst hm'
  refine ⟨by omega, hw, fun i hi e => ?_⟩
  have := (CellK F).has wr _ _ _ (ha.sub i _ (List.getElem?_eq_getElem hi)) e
  omega

/-- The same, behind three stores. -/
theorem cells_step3 {F : Nat} {w wr w2 : World} {cs : List PC} {k : Nat} {x : PC} (h : CellsAt F w wr cs.length (cs.take k)) (hx : cs[k]? = some x) (hk : k < cs.length) (hl : x.to.length = F) (hF : F ≤ maxLen)
    (hp : Bk w2 wr.heap.size 3 (ints x.to).toArray) (hb : Below wr.heap.size wr w2) (hw : Below w.heap.size w wr) :
    (∃ u0 u1 u2, w2.cell? ⟨w.heap.size, k * 3, none⟩ = some u0 ∧ w2.cell? ⟨w.heap.size, k * 3 + 1, none⟩ = some u1 ∧ w2.cell? ⟨w.heap.size, k * 3 + 2, none⟩ = some u2) ∧ (∀ j, w2.frozen? ⟨w.heap.size, j, none⟩ = false) ∧
    Hid (CellsAt F w (((w2.setCell ⟨w.heap.size, k * 3, none⟩ (.int .i64 x.ty)).setCell ⟨w.heap.size, k * 3 + 1, none⟩ (.bool x.fr)).setCell ⟨w.heap.size, k * 3 + 2, none⟩ (.slice (some ⟨wr.heap.size, 0, none⟩) F F)) cs.length (cs.take (k + 1))) ∧
    Hid (Below w.heap.size w (((w2.setCell ⟨w.heap.size, k * 3, none⟩ (.int .i64 x.ty)).setCell ⟨w.heap.size, k * 3 + 1, none⟩ (.bool x.fr)).setCell ⟨w.heap.size, k * 3 + 2, none⟩ (.slice (some ⟨wr.heap.size, 0, none⟩) F F))) := by
  obtain ⟨cur, fm, ha⟩ := h
  have hrow : Bk w2 w.heap.size 46 cur := ha.row.below hb ha.row.lt
  have hsz : k * 3 + 3 ≤ cur.size := by
    have h1 := ha.size
    have h2 := Nat.mul_le_mul_right 3 (Nat.succ_le_of_lt hk)
    have h3 : (CellK F).sz = 3 := rfl
    rw [h3] at h1; omega
  refine ⟨⟨cur[k * 3], cur[k * 3 + 1], cur[k * 3 + 2], ?_, ?_, ?_⟩, fun j => hrow.frozen j, Lib.hid ?_, Lib.hid ?_⟩
  · rw [hrow.cell]; exact Array.getElem?_eq_getElem (by omega)
  · rw [hrow.cell]; exact Array.getElem?_eq_getElem (by omega)
  · rw [hrow.cell]; exact Array.getElem?_eq_getElem (by omega)
  · refine cells_step ha hx hk hl hF hp hb hw.size (((hrow.set_ _ _).set_ _ _).set_ _ _) (by simp) (fun j hj => ?_) (fun j hj => ?_) (grownBy_tr (grownBy_tr (grownBy_setC _ _ _) (grownBy_setC _ _ _)) (grownBy_setC _ _ _))
    · match j, hj with
      | 0, _ => simp [Array.getElem?_setIfInBounds]; omega
      | 1, _ => simp [Array.getElem?_setIfInBounds]; omega
      | 2, _ => simp [Array.getElem?_setIfInBounds]; omega
    · rw [Array.getElem?_setIfInBounds, if_neg (by omega), Array.getElem?_setIfInBounds, if_neg (by omega), Array.getElem?_setIfInBounds, if_neg (by omega)]
  · exact ((((hw.trans (hb.mono hw.size)).setCell (Nat.le_refl _) _).setCell (Nat.le_refl _) _).setCell (Nat.le_refl _) _)

set_option maxHeartbeats 3200000 in
set_option maxRecDepth 100000 in
theorem cells_any (F b : Nat) (R : Nat → Prop) (cs : List PC) (v : Value) (w : World) (h : HIs w b R F cs v) (hF : F ≤ 1000000) (hn : cs.length ≤ 1000000) :
    Calls Try.prog 14 #[hp b] w (CellsP F w cs) := by
  have HL := Lib.hid h.len
  have HI := Lib.hid h
  have hmk := make23 cs.length w hn
  have hst := cells_start F w cs.length hn
  have HB0 : Hid (Below w.heap.size w (w.alloc (.cells (Zc cs.length) 46))) := Lib.hid ((Below.refl _ _).alloc (Nat.le_refl _) _)
  have HST : Hid (CellsAt F w (w.alloc (.cells (Zc cs.length) 46)) cs.length (cs.take 0)) := Lib.hid ⟨_, _, hst⟩
  have hn0 : (0 : Int) ≤ (cs.length : Int) := Int.natCast_nonneg _
  have hn1 : cs.length ≤ 1000000 := hn
  clear h hst
  unfold hp at HL ⊢
  go_enter Try.func14, Try.ntmps14
  go_wp2_with (go_at_call 17; refine HL.out.mono ?_; rintro e w' ⟨rfl, rfl⟩)
  clear hmk
  generalize w.alloc (.cells (Zc cs.length) 46) = w1 at HB0 HST ⊢
  go_loopw [11] (fun i wr => ∃ k : Nat, i = .int .i64 k ∧ k ≤ cs.length ∧ Hid (CellsAt F w wr cs.length (cs.take k)) ∧ Hid (Below w.heap.size w wr)) (fun i _ => cs.length - (intOf i).toNat)
  case atStart => exact ⟨0, rfl, Nat.zero_le _, HST, HB0⟩
  case round =>
    obtain ⟨k, rfl, hk, HAT, HB⟩ := hrel
    by_cases hkl : k < cs.length
    · obtain ⟨x, hx⟩ : ∃ x, cs[k]? = some x := ⟨_, List.getElem?_eq_getElem hkl⟩
      have hh := HI.out.below HB.out
      obtain ⟨g, cap, cur, fm, rfl, ha⟩ := At.sl hh.lie hx
      have c2 : wr.cell? ⟨b, 2, none⟩ = some (.slice (some ⟨g, 0, none⟩) cs.length cap) := hh.top.cell 2
      have c1 : wr.cell? ⟨b, 1, none⟩ = some (.int .i64 F) := hh.top.cell 1
      have e0 : wr.cell? ⟨g, k * 11, none⟩ = some (.int .i64 x.ty) := ha.at_cell hx 0 _ rfl
      have e1 : wr.cell? ⟨g, k * 11 + 1, none⟩ = some (.bool x.fr) := ha.at_cell hx 1 _ rfl
      have hP := places_any F g (k * 11) x (fm k) wr.drew (ha.gr ((Gr.refl _ (fun _ => False)).drew) (fun _ _ h => h) |>.range hx) ha.row.lt (ha.gr ((Gr.refl _ (fun _ => False)).drew) (fun _ _ h => h) |>.sub k x hx) hF
      have HP := Lib.hid hP
      have HX := Lib.hid hx
      have HXL : Hid (x.to.length = F) := Lib.hid (ha.sub k x hx).1
      have hk1 : (k : Int) < (cs.length : Int) := by omega
      have hk0 : (0 : Int) ≤ (k : Int) := Int.natCast_nonneg _
      obtain ⟨g', cap', cur', fm', eg, ha'⟩ := At.sl HI.out.lie hx
      obtain ⟨rfl, rfl⟩ : g = g' ∧ cap = cap' := by
        injection eg with e1 e2 e3; injection e1 with e1; injection e1 with e1; exact ⟨e1, e3⟩
      have HGL : Hid (g < w.heap.size) := Lib.hid ha'.row.lt
      have HBL : Hid (b < w.heap.size) := Lib.hid HI.out.top.lt
      have d0 : w.cell? ⟨g, k * 11, none⟩ = some (.int .i64 x.ty) := ha'.at_cell hx 0 _ rfl
      have d1 : w.cell? ⟨g, k * 11 + 1, none⟩ = some (.bool x.fr) := ha'.at_cell hx 1 _ rfl
      have d2 : w.cell? ⟨b, 1, none⟩ = some (.int .i64 F) := HI.out.top.cell 1
      have HST : Hid (∀ w', Below w.heap.size w w' → w'.cell? ⟨g, k * 11, none⟩ = some (.int .i64 x.ty) ∧ w'.cell? ⟨g, k * 11 + 1, none⟩ = some (.bool x.fr) ∧ w'.cell? ⟨b, 1, none⟩ = some (.int .i64 F)) := Lib.hid (fun w' hb => ⟨(hb.cell (p := ⟨g, k * 11, none⟩) HGL.out).trans d0, (hb.cell (p := ⟨g, k * 11 + 1, none⟩) HGL.out).trans d1, (hb.cell (p := ⟨b, 1, none⟩) HBL.out).trans d2⟩)
      clear eg ha' d0 d1 d2
      have hFm : F ≤ maxLen := by unfold maxLen; omega
      clear hh ha hP hx
      go_wp2_with fail
      have HB00 : Hid (Below w.heap.size w wr.drew) := Lib.hid (below_drew HB.out)
      clear e0 e1 c1 c2
      go_region_held3 (fun w' => w'.cell? ⟨g, k * 11, none⟩ = some (.int .i64 x.ty) ∧ w'.cell? ⟨g, k * 11 + 1, none⟩ = some (.bool x.fr) ∧ w'.cell? ⟨b, 1, none⟩ = some (.int .i64 F)) (first | exact HST.out _ HB3.out | exact HST.out _ HBW.out | exact HST.out _ HB00.out | fail) (first | (go_at_call 28; refine HP.out.mono ?_; rintro e w2 ⟨rfl, hp2, hb2⟩; have HB2 : Hid (Below wr.heap.size wr w2) := Lib.hid ⟨hb2.os, hb2.tape, hb2.output, hb2.size, hb2.block⟩; have HBW : Hid (Below w.heap.size w w2) := Lib.hid (HB.out.trans (HB2.out.mono HB.out.size)); obtain ⟨⟨u0, u1, u2, hu0, hu1, hu2⟩, hfz, HZ, HB3⟩ := cells_step3 HAT.out HX.out hkl HXL.out hFm hp2 HB2.out HB.out; have hf0 := hfz (k * 3); have hf1 := hfz (k * 3 + 1); have hf2 := hfz (k * 3 + 2); clear hp2 hb2 hfz))
      go_wp2_with fail
      go_roundw
      case rel => exact ⟨k + 1, by go_num, by omega, HZ, HB3⟩
      case measure => simp [intOf]; omega
    · have hke : k = cs.length := by omega
      have HAT' : Hid (CellsAt F w wr cs.length cs) := Lib.hid (by have := HAT.out; rwa [hke, List.take_length] at this)
      have HE := Lib.hid (cells_end HAT'.out HB.out)
      clear hke
      go_wp2_with fail
      go_ret
      exact HE.out
end Go.Proofs.Ytgfimedghidkfaa
