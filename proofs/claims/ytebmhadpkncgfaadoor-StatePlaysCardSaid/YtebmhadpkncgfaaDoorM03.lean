/-
  The document's heap: Free. Two lists of cells that are alike are told so: Same. The document's Load. The program's Load. The walk of the program's Load. Actions, plainly (no program in this text): what may be, the text of an action, and what is read from a text. Actions, plainly: an action that may 
-/
import Derived.Test.YtebmhadpkncgfaaDoorM02
import Derived.IntWalk
import Derived.Lib.AtoiTie
import Derived.Lib.ItoaNum
import Derived.Lib.ItoaLen
import Derived.Lib.IndexMore
set_option maxHeartbeats 40000000
set_option maxRecDepth 100000
namespace Go.Proofs.YtebmhadpkncgfaaDoor
open Go.RowKit Go.Maps
theorem Out.free {F : Nat} {wX : World} {N : Nat → Prop} {v : Value} {cs : List PC} (h : Out F wX N v cs) (hF : F ≤ maxLen) {i : Nat} {x : PC} (hi : cs[i]? = some x) :
    ∃ g cap q0, v = .slice (some ⟨g, 0, none⟩) cs.length cap ∧ wX.cell? ⟨g, i * 3 + 1, none⟩ = some (.bool x.fr) ∧ wX.cell? ⟨g, i * 3 + 2, none⟩ = some q0 ∧ (∀ j, wX.frozen? ⟨g, j, none⟩ = false) ∧ N g ∧ g < wX.heap.size ∧
      Gr wX (((wX.setCell ⟨g, i * 3 + 1, none⟩ (.bool true)).alloc (.cells (ints (zeros F)).toArray 3)).setCell ⟨g, i * 3 + 2, none⟩ (.slice (some ⟨wX.heap.size, 0, none⟩) F F)) (fun k => k = g) ∧ Out F (((wX.setCell ⟨g, i * 3 + 1, none⟩ (.bool true)).alloc (.cells (ints (zeros F)).toArray 3)).setCell ⟨g, i * 3 + 2, none⟩ (.slice (some ⟨wX.heap.size, 0, none⟩) F F)) (fun k => N k ∨ k = wX.heap.size) v (cs.set i (freed F x)) := by
  obtain ⟨g, cap, cur, fm, hv, ha⟩ := Out.sl h hi
  have hil : i < cs.length := (List.getElem?_eq_some_iff.1 hi).1
  have hs : (wX.setCell ⟨g, i * 3 + 1, none⟩ (.bool true)).heap.size = wX.heap.size := by simp [World.setCell]
  have hcs : i * 3 + 3 ≤ cur.size := by
    have h1 := ha.size; have h2 := ha.room
    have : (CellK F).sz = 3 := rfl
    rw [this] at h1
    have := Nat.mul_le_mul_right 3 (Nat.le_trans (Nat.succ_le_of_lt hil) h2)
    omega
  have hgl := ha.row.lt
  have hgr : Gr wX (((wX.setCell ⟨g, i * 3 + 1, none⟩ (.bool true)).alloc (.cells (ints (zeros F)).toArray 3)).setCell ⟨g, i * 3 + 2, none⟩ (.slice (some ⟨wX.heap.size, 0, none⟩) F F)) (fun k => k = g) := (((Gr.refl wX (fun k => k = g)).setCell (p := ⟨g, i * 3 + 1, none⟩) (fun _ => rfl) _).alloc _).setCell (p := ⟨g, i * 3 + 2, none⟩) (fun _ => rfl) _
  have b6 : Bk (wX.setCell ⟨g, i * 3 + 1, none⟩ (.bool true)) g 85 (cur.setIfInBounds (i * 3 + 1) (.bool true)) := ha.row.set_ _ _
  have b7 := b6.below (alloc_below _ (.cells (ints (zeros F)).toArray 3)) b6.lt
  have hz : Bk ((wX.setCell ⟨g, i * 3 + 1, none⟩ (.bool true)).alloc (.cells (ints (zeros F)).toArray 3)) wX.heap.size 3 (ints (zeros F)).toArray := by rw [← hs]; exact (MapKept.heap_alloc _ _).1
  have hz2 : Bk (((wX.setCell ⟨g, i * 3 + 1, none⟩ (.bool true)).alloc (.cells (ints (zeros F)).toArray 3)).setCell ⟨g, i * 3 + 2, none⟩ (.slice (some ⟨wX.heap.size, 0, none⟩) F F)) wX.heap.size 3 (ints (zeros F)).toArray := hz.far (by show wX.heap.size ≠ g; omega) _
  refine ⟨g, cap, _, hv, ha.at_cell hi 1 _ rfl, ha.at_cell hi 2 _ rfl, fun j => ha.row.frozen j, ha.mine, hgl, hgr, fun k hk => ?_, .inr ⟨g, cap, _, _, by rw [List.length_set]; exact hv, ha.put (b' := .slice (some ⟨wX.heap.size, 0, none⟩) F F) hi hgr (b7.set_ _ _) (by simp) (fun j hj => ?_) (fun j hj => ?_) ⟨by simp [freed, zeros], ownsRow_new (c := freed F x) hz2 (by simp [freed, zeros]) hF, by intro e; cases e⟩ (fun k _ hk => .inl hk) (fun _ h => .inl h) h.1 (.inr (.inr ⟨wX.heap.size, rfl, Nat.le_refl _, .inr rfl⟩))⟩⟩
  · rcases hk with hk | hk
    · exact Nat.lt_of_lt_of_le (h.1 k hk) hgr.size
    · rw [hk]; exact hz2.lt
  · have hj3 : j < 3 := hj
    show (Array.setIfInBounds _ _ _)[i * 3 + j]? = ([.int .i64 x.ty, .bool true, .slice (some ⟨wX.heap.size, 0, none⟩) F F] : List Value)[j]?
    match j, hj3 with
    | 0, _ =>
      rw [Array.getElem?_setIfInBounds, if_neg (by omega), Array.getElem?_setIfInBounds, if_neg (by omega)]
      exact ha.cell i x hi 0 (show 0 < 3 by decide)
    | 1, _ => rw [Array.getElem?_setIfInBounds, if_neg (by omega), Array.getElem?_setIfInBounds, if_pos rfl, if_pos (by omega)]; rfl
    | 2, _ => rw [Array.getElem?_setIfInBounds, if_pos rfl, if_pos (by simp; omega)]; rfl
  · have hj' : j < i * 3 ∨ i * 3 + 3 ≤ j := hj
    rw [Array.getElem?_setIfInBounds, if_neg (by omega), Array.getElem?_setIfInBounds, if_neg (by omega)]
theorem refFree_any (F : Nat) (N : Nat → Prop) (cs : List PC) (v : Value) (c : Int) (w : World) (h : Out F w N v cs) (hF : F ≤ 2000000) (hn : cs.length ≤ 2000000) :
    Calls Tryd.prog 31 #[.agg (RefA F v), .int .i64 c] w (RefQ F w N (freeC F cs c) (freeE cs c)) := by
  have hfr := FrA.start F w v
  have hN : ∀ b, N b → (N b ∨ w.heap.size ≤ b) ∧ b ≠ w.heap.size + 1 := fun b hb => ⟨.inl hb, by have := h.1 b hb; omega⟩
  have HFR := hdn hfr
  have HH := hdn h
  have HN := hdn hN
  have HFA := hdn (fault_any F N cs v c _ (Kin.Lie.below h hfr.below) hn)
  obtain ⟨pv, cv, rfl⟩ := h.form
  rcases fault_ways cs c with ⟨_, hf⟩ | ⟨i, x, rfl, hi, hil, hw⟩
  · rw [freeC_no F cs c (by rw [hf]; decide), freeE_of hf, if_neg (by decide)]
    rw [hf] at HFA
    clear h hf hfr hN
    go_enter Tryd.func31, Tryd.ntmps31
    go_wp2_with (first | ((with_reducible show wpList _ _ _ (Oper.mk (some 7) _ _ _ _ _ :: _) _ _); refine wpList_load_bk rfl 59 (.tmp 2) rfl w.heap.size 59 (RefA F (.slice pv cs.length cv)) rfl _ HFR.out.box Tryd.underlying59 rfl size29 ?_))
    generalize (w.alloc (.cells (RefA F (.slice pv cs.length cv)) 59)).alloc (.cells #[.int .i64 0, .slice none 0 0, .bool false] 59) = w1 at HFR HFA ⊢
    refine HFA.out.mono ?_; rintro e w2 ⟨rfl, hb2⟩
    have HF2 := hdn (HFR.out.go hb2)
    have HR2 := hdn HF2.out.res
    have HO2 := hdn (Kin.Lie.below HH.out HF2.out.below)
    clear hb2 HFA HFR
    go_wp2_with (first | ((with_reducible show wpList _ _ _ (Oper.mk (some 12) _ _ _ _ _ :: _) _ _); refine wpList_load_bk rfl 59 (.tmp 2) rfl w.heap.size 59 (RefA F (.slice pv cs.length cv)) rfl _ HF2.out.box Tryd.underlying59 rfl size29 ?_) | ((with_reducible show wpList _ _ _ (Oper.mk none (Op.store 59 _ _) _ _ _ _ :: _) _ _); refine wpList_store_part rfl 59 (.tmp 4) (.tmp 12) rfl (w.heap.size + 1) 0 59 _ (RefA F (.slice pv cs.length cv)) rfl rfl HR2.out size29 (by simp) (HO2.out.oneA) ?_; intro wz cur q1 q2 q3 q4 q5; obtain ⟨y1, y2⟩ := ref_ret (N := N) (n := 1) HF2.out HO2.out HN.out q1 q2 q3 q5; have Y1 := hdn y1; have Y2 := hdn y2; clear q1 q2 q3 q4 q5 y1 y2))
    exact bodyPost_ret (results_heap Tryd.results31 rfl rfl Y1.out) rfl Y2.out
  · rcases hw with ⟨hx, hf⟩ | ⟨hx, hf⟩
    · rw [freeC_no F cs _ (by rw [hf]; decide), freeE_of hf, if_pos rfl]
      rw [hf] at HFA
      clear h hf hfr hN hx hi
      go_enter Tryd.func31, Tryd.ntmps31
      go_wp2_with (first | ((with_reducible show wpList _ _ _ (Oper.mk (some 7) _ _ _ _ _ :: _) _ _); refine wpList_load_bk rfl 59 (.tmp 2) rfl w.heap.size 59 (RefA F (.slice pv cs.length cv)) rfl _ HFR.out.box Tryd.underlying59 rfl size29 ?_))
      generalize (w.alloc (.cells (RefA F (.slice pv cs.length cv)) 59)).alloc (.cells #[.int .i64 0, .slice none 0 0, .bool false] 59) = w1 at HFR HFA ⊢
      refine HFA.out.mono ?_; rintro e w2 ⟨rfl, hb2⟩
      have HF2 := hdn (HFR.out.go hb2)
      have HR2 := hdn HF2.out.res
      have HO2 := hdn (Kin.Lie.below HH.out HF2.out.below)
      clear hb2 HFA HFR
      go_wp2_with (first | ((with_reducible show wpList _ _ _ (Oper.mk (some 15) _ _ _ _ _ :: _) _ _); refine wpList_load_bk rfl 59 (.tmp 2) rfl w.heap.size 59 (RefA F (.slice pv cs.length cv)) rfl _ HF2.out.box Tryd.underlying59 rfl size29 ?_) | ((with_reducible show wpList _ _ _ (Oper.mk none (Op.store 59 _ _) _ _ _ _ :: _) _ _); refine wpList_store_part rfl 59 (.tmp 4) (.tmp 15) rfl (w.heap.size + 1) 0 59 _ (RefA F (.slice pv cs.length cv)) rfl rfl HR2.out size29 (by simp) (HO2.out.oneA) ?_; intro wz cur q1 q2 q3 q4 q5; obtain ⟨y1, y2⟩ := ref_ret (N := N) (n := 3) HF2.out HO2.out HN.out q1 q2 q3 q5; have Y1 := hdn y1; have Y2 := hdn y2; clear q1 q2 q3 q4 q5 y1 y2))
      exact bodyPost_ret (results_heap Tryd.results31 rfl rfl Y1.out) rfl Y2.out
    · rw [freeC_at F cs i x hi hx, freeE_of hf, if_neg (by decide)]
      rw [hf] at HFA
      have HOW := hdn (fun (w3 : World) (hb : Below w.heap.size w w3) => own_any F N cs (.slice pv cs.length cv) w3 (Kin.Lie.below HH.out hb) hF hn)
      have HI := hdn hi
      have hi1 : ((i : Int) + 1 - 1) = (i : Int) := by omega
      have hi2 : (i : Int) < (cs.length : Int) := by omega
      have hi0 : (0 : Int) ≤ (i : Int) := Int.natCast_nonneg _
      have hiB : (i : Int) ≤ 2000000 := by omega
      clear hf h hx hi hfr hN
      go_enter Tryd.func31, Tryd.ntmps31
      go_wp2_with (first | ((with_reducible show wpList _ _ _ (Oper.mk (some 7) _ _ _ _ _ :: _) _ _); refine wpList_load_bk rfl 59 (.tmp 2) rfl w.heap.size 59 (RefA F (.slice pv cs.length cv)) rfl _ HFR.out.box Tryd.underlying59 rfl size29 ?_))
      generalize (w.alloc (.cells (RefA F (.slice pv cs.length cv)) 59)).alloc (.cells #[.int .i64 0, .slice none 0 0, .bool false] 59) = w1 at HFR HFA ⊢
      refine HFA.out.mono ?_; rintro e w2 ⟨rfl, hb2⟩
      have HF2 := hdn (HFR.out.go hb2)
      have HR2 := hdn HF2.out.res
      have HO2 := hdn (Kin.Lie.below HH.out HF2.out.below)
      clear hb2 HFA HFR
      have HOW3 := hdn (HOW.out w2 HF2.out.below)
      clear HO2 HR2
      go_wp2_with (first | ((with_reducible show wpList _ _ _ (Oper.mk (some 16) _ _ _ _ _ :: _) _ _); refine wpList_load_bk rfl 59 (.tmp 2) rfl w.heap.size 59 (RefA F (.slice pv cs.length cv)) rfl _ HF2.out.box Tryd.underlying59 rfl size29 ?_))
      refine HOW3.out.mono ?_; rintro e w4 ⟨v4, N4, rfl, ho4, hn4, hb4⟩
      have HF4 := hdn (HF2.out.go hb4)
      have HO4 := hdn ho4
      have HN4 : Hid (∀ b, N4 b → w.heap.size + 2 ≤ b) := hdn (fun b hb => by have := hn4 b hb; have := HF2.out.res.lt; omega)
      clear ho4 hn4 hb4
      go_upto_region 7 with (first | ((with_reducible show wpList _ _ _ (Oper.mk none (Op.store _ _ _) _ _ _ _ :: _) _ _); refine wpList_store_new rfl 59 (.tmp 6) (.tmp 17) rfl _ (RefA F v4) rfl rfl size29 rfl HO4.out.oneA ?_))
      have hbX := alloc_below w4 (.cells (RefA F v4) 59)
      have HFX := hdn (HF4.out.go hbX)
      have HOX : Hid (Out F (w4.alloc (.cells (RefA F v4) 59)) N4 v4 cs) := hdn (Kin.Lie.below HO4.out hbX)
      have HOO : Hid (Bk (w4.alloc (.cells (RefA F v4) 59)) w4.heap.size 59 (RefA F v4)) := hdn (MapKept.heap_alloc w4 _).1
      have HON : Hid (∀ b, N4 b → b ≠ w4.heap.size) := hdn (fun b hb e => by have := HO4.out.1 b hb; omega)
      generalize w4.alloc (.cells (RefA F v4) 59) = wX at HFX HOX HOO ⊢
      generalize w4.heap.size = O at HOO HON ⊢
      clear hbX
      obtain ⟨g, cp, q0, rfl, p1, p2, p3, p4, p5, p6, p7⟩ := Out.free HOX.out (by unfold maxLen; omega) HI.out
      have hmk := fun w => make44 F w hF
      have o1 := HOO.out.cell 1
      have hg1 : g ≠ O := HON.out g p4
      have hg2 : w.heap.size + 2 ≤ g := HN4.out g p4
      have f1 := p3 (i * 3 + 1)
      have hs : (wX.setCell ⟨g, i * 3 + 1, none⟩ (.bool true)).heap.size = wX.heap.size := by simp [World.setCell]
      have hbox : Bk (wX.setCell ⟨g, i * 3 + 1, none⟩ (.bool true)) w.heap.size 59 _ := HFX.out.box.far (by show w.heap.size ≠ g; omega) _
      have hOo : Bk (wX.setCell ⟨g, i * 3 + 1, none⟩ (.bool true)) O 59 _ := HOO.out.far (by show O ≠ g; exact fun e => hg1 e.symm) _
      have G7 := hdn p6
      have HO7 := hdn p7
      clear p6 p7
      go_upto_region 8 with fail
      have hcell : (wX.setCell ⟨g, i * 3 + 1, none⟩ (.bool true)).cell? ⟨g, i * 3 + 2, none⟩ = some q0 := (World.cell?_setCell_other _ _ _ _ (by intro e; injection e with _ e; omega)).trans p2
      have hfz : (wX.setCell ⟨g, i * 3 + 1, none⟩ (.bool true)).frozen? ⟨g, i * 3 + 2, none⟩ = false := (World.frozen?_setCell _ _ _ _).trans (p3 _)
      rw [← hs] at G7 HO7
      generalize wX.setCell ⟨g, i * 3 + 1, none⟩ (.bool true) = w6 at G7 HO7 hcell hfz hbox hOo hs ⊢
      have hgl6 : g < w6.heap.size := by rw [hs]; exact p5
      have hbA := alloc_below w6 (.cells (ints (zeros F)).toArray 3)
      have a1 : w6.drew.cell? ⟨O, 1, none⟩ = some (.slice (some ⟨g, 0, none⟩) cs.length cp) := hOo.cell 1
      have a2 : (w6.alloc (.cells (ints (zeros F)).toArray 3)).drew.cell? ⟨O, 1, none⟩ = some (.slice (some ⟨g, 0, none⟩) cs.length cp) := (hOo.below hbA hOo.lt).cell 1
      have a3 : w6.drew.cell? ⟨w.heap.size, 0, none⟩ = some (.int .i64 F) := hbox.cell 0
      have a4 : (w6.alloc (.cells (ints (zeros F)).toArray 3)).drew.cell? ⟨g, i * 3 + 2, none⟩ = some q0 := (hbA.cell (p := ⟨g, i * 3 + 2, none⟩) hgl6).trans hcell
      have a5 : (w6.alloc (.cells (ints (zeros F)).toArray 3)).drew.frozen? ⟨g, i * 3 + 2, none⟩ = false := (hbA.frozen (p := ⟨g, i * 3 + 2, none⟩) hgl6).trans hfz
      have hgO : Gr wX (((w6.alloc (.cells (ints (zeros F)).toArray 3)).setCell ⟨g, i * 3 + 2, none⟩ (.slice (some ⟨w6.heap.size, 0, none⟩) F F)).drew) (fun k => k = g) := G7.out.drew
      have HFZ : Hid (FrA F w (((w6.alloc (.cells (ints (zeros F)).toArray 3)).setCell ⟨g, i * 3 + 2, none⟩ (.slice (some ⟨w6.heap.size, 0, none⟩) F F)).drew) (.slice pv cs.length cv)) := hdn ⟨hgO.bk HFX.out.box (by omega), hgO.bk HFX.out.res (by omega), HFX.out.below.trans (hgO.below (by have := HFX.out.res.lt; omega) (fun k h => by omega))⟩
      have HOZ : Hid (Bk (((w6.alloc (.cells (ints (zeros F)).toArray 3)).setCell ⟨g, i * 3 + 2, none⟩ (.slice (some ⟨w6.heap.size, 0, none⟩) F F)).drew) O 59 (RefA F (.slice (some ⟨g, 0, none⟩) cs.length cp))) := hdn (hgO.bk HOO.out (by omega))
      have HUZ : Hid (Out F (((w6.alloc (.cells (ints (zeros F)).toArray 3)).setCell ⟨g, i * 3 + 2, none⟩ (.slice (some ⟨w6.heap.size, 0, none⟩) F F)).drew) (fun k => N4 k ∨ k = w6.heap.size) (.slice (some ⟨g, 0, none⟩) cs.length cp) (cs.set i (freed F x))) := hdn (Kin.Lie.gr HO7.out (Gr.refl _ (fun _ => False)).drew (fun _ _ h => h))
      have HNZ : Hid (∀ b, (N4 b ∨ b = w6.heap.size) → (N b ∨ w.heap.size ≤ b) ∧ b ≠ w.heap.size + 1) := hdn (fun b hb => by
        have h1 : w.heap.size + 2 ≤ b := by
          rcases hb with hb | hb
          · exact HN4.out b hb
          · have := HFX.out.res.lt; omega
        exact ⟨.inr (by omega), by omega⟩)
      clear hOo hbox hbA hgO hgl6 hcell hfz p1 p2 p3 p4 p5 o1 f1 hs G7 HO7
      have hwi : IntKind.i64.wrap (i : Int) = (i : Int) := IntWalk.i64_in _ (by omega)
      have hti : ((i : Int)).toNat = i := Int.toNat_natCast i
      go_region_law (fail)
      all_goals
        have HRZ := hdn HFZ.out.res
        clear a1 a2 a3 a4 a5 hmk
        generalize (((w6.alloc (.cells (ints (zeros F)).toArray 3)).setCell ⟨g, i * 3 + 2, none⟩ (.slice (some ⟨w6.heap.size, 0, none⟩) F F)).drew) = w9 at HFZ HOZ HUZ HRZ ⊢
        go_wp2_with (first | ((with_reducible show wpList _ _ _ (Oper.mk (some 33) _ _ _ _ _ :: _) _ _); refine wpList_load_bk rfl 59 (.tmp 6) rfl O 59 (RefA F (.slice (some ⟨g, 0, none⟩) cs.length cp)) rfl _ HOZ.out Tryd.underlying59 rfl size29 ?_) | ((with_reducible show wpList _ _ _ (Oper.mk none (Op.store 59 _ _) _ _ _ _ :: _) _ _); refine wpList_store_part rfl 59 (.tmp 4) (.tmp 33) rfl (w.heap.size + 1) 0 59 _ (RefA F (.slice (some ⟨g, 0, none⟩) cs.length cp)) rfl rfl HRZ.out size29 (by simp) (HUZ.out.oneA) ?_; intro wz cur q1 q2 q3 q4 q5; obtain ⟨y1, y2⟩ := ref_ret (N := N) (n := 0) HFZ.out HUZ.out HNZ.out q1 q2 q3 q5; have Y1 := hdn y1; have Y2 := hdn y2; clear q1 q2 q3 q4 q5 y1 y2))
        exact bodyPost_ret (results_heap Tryd.results31 rfl rfl Y1.out) rfl Y2.out
end Go.Proofs.YtebmhadpkncgfaaDoor
namespace Go.Proofs.YtebmhadpkncgfaaDoor
open Go.RowKit Go.Maps
theorem ints_at {w : World} {q o : Nat} {x : PC} (h : w.rangeAt q o (ints x.to)) {j : Nat} (hj : j < x.to.length) : w.cell? ⟨q, o + j, none⟩ = some (.int .i64 (x.at j)) :=
  h j (.int .i64 (x.at j)) (by unfold ints; rw [List.getElem?_map, at_get x j hj]; rfl)
theorem OutR.whole {F : Nat} {w : World} {N : Nat → Prop} {p : Option Addr} {n cap : Nat} {cs : List PC} (h : OutR F w N (.slice p n cap) cs) {i : Nat} {x : PC} (hi : cs[i]? = some x) :
    ∃ g q o cq, p = some ⟨g, 0, none⟩ ∧ w.rangeAt g (i * 3) [.int .i64 x.ty, .bool x.fr, .slice (some ⟨q, o, none⟩) F cq] ∧ w.rangeAt q o (ints x.to) ∧ x.to.length = F := by
  obtain ⟨p', cap', hv, _, hx⟩ := h
  obtain ⟨g, q, o, cq, h1, _, _, h4, h5, h6⟩ := hx i x hi
  exact ⟨g, q, o, cq, by injection hv with e; rw [e, h1], h4, h5, h6⟩
theorem at_below {w w' : World} {p : Addr} {v : Value} (hb : Below w.heap.size w w') (h : w.cell? p = some v) : w'.cell? p = some v := (hb.cell (World.block_lt_of_cell? _ _ h)).trans h
theorem Out.read {F : Nat} {w : World} {N : Nat → Prop} {v : Value} {cs : List PC} (h : Out F w N v cs) : OutR F w N v cs := by
  obtain ⟨p, cap, hv⟩ := h.form
  refine ⟨p, cap, hv, h.1, fun i x hi => ?_⟩
  obtain ⟨g, cap', cur, fm, hv', ha⟩ := Out.sl h hi
  have hs := ha.sub i x hi
  have hr := ha.range hi
  obtain ⟨g2, cap2, q, cq, hv2, h1, h2, h3⟩ := Out.whole h hi
  obtain rfl : g = g2 := by rw [hv'] at hv2; injection hv2 with e1; injection e1 with e1; injection e1
  have hfm : fm i = .slice (some ⟨q, 0, none⟩) F cq := by
    have e1 := hr 2 (fm i) rfl
    have e2 := h1 2 _ rfl
    have e3 : (CellK F).sz = 3 := rfl
    rw [e3, e2] at e1
    injection e1 with e1; exact e1.symm
  refine ⟨g, q, 0, cq, by rw [hv] at hv'; injection hv', ha.mine, (ha.own i q (List.getElem?_eq_some_iff.1 hi).1 (by rw [hfm]; rfl)).1, h1, h2, h3⟩
theorem same_any (F : Nat) (N1 N2 : Nat → Prop) (cs : List PC) (v1 v2 : Value) (w : World) (h1 : OutR F w N1 v1 cs) (h2 : OutR F w N2 v2 cs) (hF : F ≤ 2000000) (hn : cs.length ≤ 2000000) :
    Calls Tryd.prog 20 #[v1, v2] w (RetB w true) := by
  obtain ⟨p1, c1, rfl⟩ := h1.form
  obtain ⟨p2, c2, rfl⟩ := h2.form
  have H1 := hdn h1
  have H2 := hdn h2
  have HB0 : Hid (Below w.heap.size w w) := hdn (Below.refl _ _)
  clear h1 h2
  go_enter Tryd.func20, Tryd.ntmps20
  go_wp2_with fail
  go_loopw [5] (fun t wr => ∃ k : Nat, t = .int .i64 k ∧ k ≤ cs.length ∧ Hid (Below w.heap.size w wr)) (fun t _ => cs.length - (intOf t).toNat)
  case atStart => exact ⟨0, rfl, Nat.zero_le _, HB0⟩
  case round =>
    obtain ⟨k, rfl, hk, HB⟩ := hrel
    by_cases hkl : k < cs.length
    · obtain ⟨x, hx⟩ : ∃ x, cs[k]? = some x := ⟨_, List.getElem?_eq_getElem hkl⟩
      obtain ⟨g1, q1, o1, cq1, ev1, r1, s1, hl⟩ := OutR.whole H1.out hx
      obtain ⟨g2, q2, o2, cq2, ev2, r2, s2, _⟩ := OutR.whole H2.out hx
      subst ev1; subst ev2
      have a0 : wr.cell? ⟨g1, k * 3, none⟩ = some (.int .i64 x.ty) := at_below HB.out (r1 0 _ rfl)
      have a1 : wr.cell? ⟨g1, k * 3 + 1, none⟩ = some (.bool x.fr) := at_below HB.out (r1 1 _ rfl)
      have a2 : wr.cell? ⟨g1, k * 3 + 2, none⟩ = some (.slice (some ⟨q1, o1, none⟩) F cq1) := at_below HB.out (r1 2 _ rfl)
      have b0 : wr.cell? ⟨g2, k * 3, none⟩ = some (.int .i64 x.ty) := at_below HB.out (r2 0 _ rfl)
      have b1 : wr.cell? ⟨g2, k * 3 + 1, none⟩ = some (.bool x.fr) := at_below HB.out (r2 1 _ rfl)
      have b2 : wr.cell? ⟨g2, k * 3 + 2, none⟩ = some (.slice (some ⟨q2, o2, none⟩) F cq2) := at_below HB.out (r2 2 _ rfl)
      have HA2 : Hid (∀ w', Below w.heap.size w w' → w'.cell? ⟨g1, k * 3 + 2, none⟩ = some (.slice (some ⟨q1, o1, none⟩) F cq1)) := hdn (fun w' hb => at_below hb (r1 2 _ rfl))
      have HB2 : Hid (∀ w', Below w.heap.size w w' → w'.cell? ⟨g2, k * 3 + 2, none⟩ = some (.slice (some ⟨q2, o2, none⟩) F cq2)) := hdn (fun w' hb => at_below hb (r2 2 _ rfl))
      have HS : Hid (∀ w', Below w.heap.size w w' → ∀ j, j < F → w'.cell? ⟨q1, o1 + j, none⟩ = some (.int .i64 (x.at j)) ∧ w'.cell? ⟨q2, o2 + j, none⟩ = some (.int .i64 (x.at j))) := hdn (fun w' hb j hj => ⟨at_below hb (ints_at s1 (by omega)), at_below hb (ints_at s2 (by omega))⟩)
      have hk0 : (0 : Int) ≤ (k : Int) := Int.natCast_nonneg _
      have hk1 : (k : Int) < (cs.length : Int) := by omega
      clear r1 r2 s1 s2 hx hl
      go_wp2_with fail
      go_quiet (fail)
      clear a0 a1 a2 b0 b1 b2
      go_wp2_with fail
      rename_i nq _
      have HBQ : Hid (Below w.heap.size w (wr.drewN nq)) := hdn (below_drewN_ HB.out _)
      generalize wr.drewN nq = wq at HBQ ⊢
      clear HB
      go_loopw [6] (fun t wr => ∃ j : Nat, t = .int .i64 j ∧ j ≤ F ∧ Hid (Below w.heap.size w wr)) (fun t _ => F - (intOf t).toNat)
      case atStart => exact ⟨0, rfl, Nat.zero_le _, HBQ⟩
      case round =>
        obtain ⟨j, rfl, hj, HBJ⟩ := hrel
        have a2 := HA2.out wr HBJ.out
        have b2 := HB2.out wr HBJ.out
        by_cases hjF : j < F
        · obtain ⟨s1, s2⟩ := HS.out wr HBJ.out j hjF
          have hj0 : (0 : Int) ≤ (j : Int) := Int.natCast_nonneg _
          have hj1 : (j : Int) < (F : Int) := by omega
          go_wp2_with fail
          go_quiet (fail)
          go_wp2_with fail
          go_roundw
          case rel => exact ⟨j + 1, by go_num, by omega, hdn (below_drewN_ HBJ.out _)⟩
          case measure => simp [intOf]; omega
        · go_wp2_with fail
          go_roundw
          case rel => exact ⟨k + 1, by go_num, by omega, HBJ⟩
          case measure => simp [intOf]; omega
    · go_wp2_with fail
      go_ret
      exact ⟨rfl, HB.out⟩
end Go.Proofs.YtebmhadpkncgfaaDoor
namespace Go.Proofs.YtebmhadpkncgfaaDoor
open Go.RowKit Go.Maps
def loaded (F : Nat) (l : List RC) : List PC := l.map fun r => loadC F l.length r.c
/-- A cell, its first places loaded. -/
def partC (F n k : Nat) (r : PC) : PC := ⟨r.ty, r.fr, (List.range F).map fun f => if f < k then (if r.fr = true then 0 else okTo n (r.at f)) else 0⟩
theorem part_len (F n k : Nat) (r : PC) : (partC F n k r).to.length = F := by simp [partC]
theorem part_at (F n k f : Nat) (r : PC) (h : f < F) : (partC F n k r).at f = if f < k then (if r.fr = true then 0 else okTo n (r.at f)) else 0 := by
  unfold PC.at partC
  rw [List.getD_eq_getElem?_getD, List.getElem?_map, List.getElem?_range h]; rfl
theorem part_zero (F n : Nat) (r : PC) : partC F n 0 r = ⟨r.ty, r.fr, zeros F⟩ := by
  refine pc_ext rfl rfl (by simp [partC, zeros]) fun k hk => ?_
  rw [part_at F n 0 k r (by simpa [partC] using hk), if_neg (by omega)]
  exact (zeros_at F k).symm
theorem part_full (F n : Nat) (r : PC) : partC F n F r = loadC F n r := by
  refine pc_ext rfl rfl (by simp [partC, loadC]) fun k hk => ?_
  have hkF : k < F := by simpa [partC] using hk
  rw [part_at F n F k r hkF, if_pos hkF]
  symm
  show ((List.range F).map fun f => if r.fr = true then 0 else okTo n (r.at f)).getD k 0 = _
  rw [List.getD_eq_getElem?_getD, List.getElem?_map, List.getElem?_range hkF]; rfl
theorem part_put (F n k : Nat) (r : PC) (hk : k < F) : putTo (partC F n k r) k (if r.fr = true then 0 else okTo n (r.at k)) = partC F n (k + 1) r := by
  refine pc_ext rfl rfl (by rw [putTo_len, part_len, part_len]) fun j hj => ?_
  have hj : j < F := by rw [putTo_len, part_len] at hj; exact hj
  rw [at_set _ _ _ _ (by rw [part_len]; exact hk), part_at F n (k + 1) j r hj, part_at F n k j r hj]
  by_cases e : j = k
  · subst e; rw [if_pos rfl, if_pos (show j < j + 1 by omega)]
  · rw [if_neg e]
    by_cases h : j < k
    · rw [if_pos h, if_pos (show j < k + 1 by omega)]
    · rw [if_neg h, if_neg (show ¬ j < k + 1 by omega)]
theorem part_same (F n k : Nat) (r : PC) (hk : k < F) (h : (if r.fr = true then 0 else okTo n (r.at k)) = 0) : partC F n (k + 1) r = partC F n k r := by
  refine pc_ext rfl rfl (by rw [part_len, part_len]) fun j hj => ?_
  have hj : j < F := by rw [part_len] at hj; exact hj
  rw [part_at F n (k + 1) j r hj, part_at F n k j r hj]
  by_cases e : j = k
  · subst e; rw [if_pos (show j < j + 1 by omega), if_neg (show ¬ j < j by omega), h]
  · by_cases h : j < k
    · rw [if_pos h, if_pos (show j < k + 1 by omega)]
    · rw [if_neg h, if_neg (show ¬ j < k + 1 by omega)]
/-- The document's Load under way. -/
structure LoadI (F : Nat) (w wr : World) (O : Nat) (vo : Value) (Ro : Nat → Prop) (xs : List PC) : Prop where
  res : Bk wr w.heap.size 59 #[.int .i64 0, .slice none 0 0, .bool false]
  out : Bk wr O 59 (RefA F vo)
  lie : (CellK F).Lie wr Ro vo xs
  new : ∀ b, Ro b → O + 1 ≤ b
  below : Below w.heap.size w wr
theorem RC.lies_below {w w' : World} {x : RC} (h : x.lies w) (hb : Below w.heap.size w w') : x.lies w' := by
  refine ⟨?_, h.2⟩
  rcases h.1 with h1 | ⟨b, o, hq, hr⟩
  · exact .inl h1
  · exact .inr ⟨b, o, hq, rangeAt_below hr hb⟩
/-- One of its cells under way. -/
structure PartI (F : Nat) (w wq : World) (O C Z : Nat) (vo : Value) (Ro : Nat → Prop) (xs : List PC) (n : Nat) (r : PC) (j : Nat) : Prop where
  load : LoadI F w wq O vo Ro xs
  item : Bk wq C 85 #[.int .i64 r.ty, .bool r.fr, .slice (some ⟨Z, 0, none⟩) F F]
  row : Bk wq Z 3 (ints (partC F n j r).to).toArray
  far : ∀ k, Ro k → k < C ∧ k < Z
  big : O < C ∧ O < Z
  ne : C ≠ Z
  low : w.heap.size + 1 ≤ O
theorem PartI.go {F : Nat} {w wq wz : World} {O C Z : Nat} {vo : Value} {Ro : Nat → Prop} {xs : List PC} {n : Nat} {r : PC} {j : Nat} (h : PartI F w wq O C Z vo Ro xs n r j) (hb : Below wq.heap.size wq wz) : PartI F w wz O C Z vo Ro xs n r j :=
  ⟨⟨h.load.res.below hb h.load.res.lt, h.load.out.below hb h.load.out.lt, h.load.lie.below hb, h.load.new, h.load.below.trans (hb.mono h.load.below.size)⟩, h.item.below hb h.item.lt, h.row.below hb h.row.lt, h.far, h.big, h.ne, h.low⟩
theorem PartI.skip {F : Nat} {w wq : World} {O C Z : Nat} {vo : Value} {Ro : Nat → Prop} {xs : List PC} {n : Nat} {r : PC} {j : Nat} (h : PartI F w wq O C Z vo Ro xs n r j) (hj : j < F) (hz : (if r.fr = true then 0 else okTo n (r.at j)) = 0) : PartI F w wq O C Z vo Ro xs n r (j + 1) :=
  { h with row := by rw [part_same F n j r hj hz]; exact h.row }
theorem PartI.put {F : Nat} {w wq : World} {O C Z : Nat} {vo : Value} {Ro : Nat → Prop} {xs : List PC} {n : Nat} {r : PC} {j : Nat} (h : PartI F w wq O C Z vo Ro xs n r j) (hj : j < F) (t : Int) (hz : (if r.fr = true then 0 else okTo n (r.at j)) = t) : PartI F w (wq.setCell ⟨Z, j, none⟩ (.int .i64 t)) O C Z vo Ro xs n r (j + 1) := by
  have hgr : wq.grownBy (wq.setCell ⟨Z, j, none⟩ (.int .i64 t)) (some Z) := grownBy_setC wq _ _
  refine ⟨⟨h.load.res.far (by show w.heap.size ≠ Z; have := h.low; have := h.big.2; omega) _, h.load.out.far (by show O ≠ Z; have := h.big.2; omega) _, h.load.lie.gr (Gr.of_grown hgr) (fun k hk e => by injection e with e; have := (h.far k hk).2; omega), h.load.new, h.load.below.setCell (by show w.heap.size ≤ Z; have := h.low; have := h.big.2; omega) _⟩, h.item.far h.ne _, ?_, h.far, h.big, h.ne, h.low⟩
  have := h.row.set_ j (.int .i64 t)
  rw [← part_put F n j r hj, hz]
  rw [List.setIfInBounds_toArray] at this
  unfold ints at this ⊢
  simpa [putTo, List.map_set] using this
theorem PartI.push {F : Nat} {w w4 w6 : World} {O C Z : Nat} {vo : Value} {Ro : Nat → Prop} {xs : List PC} {n : Nat} {r : PC} {g cap : Nat} {ys : List Value} (h : PartI F w w4 O C Z vo Ro xs n r F) (hF : F ≤ maxLen)
    (hys : (vo = .slice none 0 0 ∧ xs = []) ∨ ∃ g cap cur fm, vo = .slice (some ⟨g, 0, none⟩) xs.length cap ∧ (CellK F).At (w4.alloc (.cells #[.int .i64 r.ty, .bool r.fr, .slice (some ⟨Z, 0, none⟩) F F] 85)) Ro g cap cur fm xs ∧ ∀ j, j < xs.length * 3 → ys[j]? = cur[j]?) (hyl : ys.length = xs.length * 3)
    (hown : w6.ownsRow 0 85 3 (.slice (some ⟨g, 0, none⟩) (xs.length + 1) cap) (xs.length + 1) (ys ++ [.int .i64 r.ty, .bool r.fr, .slice (some ⟨Z, 0, none⟩) F F])) (hg : (w4.alloc (.cells #[.int .i64 r.ty, .bool r.fr, .slice (some ⟨Z, 0, none⟩) F F] 85)).grownBy w6 vo.ownBlock) (hat : vo.ownBlock = some g ∨ g = (w4.alloc (.cells #[.int .i64 r.ty, .bool r.fr, .slice (some ⟨Z, 0, none⟩) F F] 85)).heap.size) (hlt : g < w6.heap.size) :
    Bk w6 O 59 (RefA F vo) ∧ ∃ Ro', LoadI F w (w6.setCell ⟨O, 1, none⟩ (.slice (some ⟨g, 0, none⟩) (xs.length + 1) cap)) O (.slice (some ⟨g, 0, none⟩) (xs.length + 1) cap) Ro' (xs ++ [loadC F n r]) := by
  have hvo : ∀ k, some k = vo.ownBlock → Ro k := fun k hk => by
    rcases h.load.lie.2 with ⟨e, _⟩ | ⟨g0, c0, r0, f0, e, ha0⟩
    · rw [e] at hk; cases hk
    · rw [e] at hk; simp only [Value.ownBlock] at hk; injection hk with hk; subst hk; exact ha0.mine
  have hb5 := alloc_below w4 (.cells #[.int .i64 r.ty, .bool r.fr, .slice (some ⟨Z, 0, none⟩) F F] 85)
  have hkeep : ∀ k t cs, k ≤ O → Bk w4 k t cs → Bk w6 k t cs := fun k t cs hk hb => by
    have h5 := hb.below hb5 hb.lt
    exact (hg.block k h5.lt (fun e => by have := h.load.new k (hvo k e); omega)).trans h5
  have hout := hkeep _ _ _ (Nat.le_refl _) h.load.out
  have hgn : O + 1 ≤ g := by
    rcases hat with e | e
    · exact h.load.new g (hvo g e.symm)
    · rw [e]; have := h.load.out.lt; simp; omega
  have hlie5 := h.load.lie.below hb5
  have hzl := h.row.lt
  have hz6 : Bk w6 Z 3 (ints (loadC F n r).to).toArray := by
    have h1 := h.row
    rw [part_full] at h1
    have h5 := h1.below hb5 h1.lt
    exact (hg.block Z h5.lt (fun e => by have := (h.far Z (hvo Z e)).2; omega)).trans h5
  have hsub6 : (CellK F).sub w6 (loadC F n r) (.slice (some ⟨Z, 0, none⟩) F F) := ⟨by simp [loadC], ownsRow_new hz6 (by simp [loadC]) hF, by intro e; cases e⟩
  have hl6 := Kin.Lie.push (K := CellK F) (R' := fun k => Ro k ∨ k = g ∨ k = Z) (x' := loadC F n r) (b' := .slice (some ⟨Z, 0, none⟩) F F) hlie5 hys hyl hown hg hat (Nat.le_refl _) hsub6
    (fun m hm => by
      have hm' : Z = m := by
        have : some Z = some m := hm
        injection this
      subst hm'
      refine ⟨fun hR => by have := (h.far _ hR).2; omega, fun e => ?_, .inr (.inr rfl)⟩
      rcases hat with h1 | h1
      · have := (h.far g (hvo g h1.symm)).2; omega
      · simp at h1; omega) (fun _ h => .inl h) (.inr (.inl rfl))
    (fun k hk => by
      rcases hk with hk | hk | hk
      · exact Nat.lt_of_lt_of_le (hlie5.1 k hk) hg.size
      · subst hk; exact hlt
      · subst hk; exact hz6.lt)
  have hgs : w6.grownBy (w6.setCell ⟨O, 1, none⟩ (.slice (some ⟨g, 0, none⟩) (xs.length + 1) cap)) (some O) := grownBy_setC w6 _ _
  have hlow := h.low
  have hnew : ∀ k, (Ro k ∨ k = g ∨ k = Z) → O + 1 ≤ k := fun k hk => by
    rcases hk with hk | hk | hk
    · exact h.load.new k hk
    · omega
    · have := h.big.2; omega
  refine ⟨hout, _, ⟨(hkeep _ _ _ (by omega) h.load.res).far (by show w.heap.size ≠ O; omega) _, hout.set_ 1 _, hl6.gr (Gr.of_grown hgs) (fun k hk e => by injection e with e; have := hnew k hk; omega), hnew, ?_⟩⟩
  exact ((h.load.below.trans (hb5.mono h.load.below.size)).grown hg (h.load.below.trans (hb5.mono h.load.below.size)).size (fun j hj => by have := h.load.new j (hvo j hj.symm); omega)).setCell (by show w.heap.size ≤ O; omega) _
theorem load_take (F : Nat) (l : List RC) {k : Nat} {r : RC} (h : l[k]? = some r) : (loaded F l).take k ++ [loadC F l.length r.c] = (loaded F l).take (k + 1) := by
  rw [List.take_add_one]
  congr 1
  unfold loaded
  rw [List.getElem?_map, h]; rfl
theorem rc_at {w w' : World} {r : RC} {j : Nat} (h : r.lies w) (hb : Below w.heap.size w w') (hj : j < r.c.to.length) : ∃ qb qo, r.q = some ⟨qb, qo, none⟩ ∧ w'.cell? ⟨qb, qo + j, none⟩ = some (.int .i64 (r.c.at j)) := by
  rcases h.1 with h1 | ⟨b, o, hq, hr⟩
  · rw [h1] at hj; simp at hj
  · refine ⟨b, o, hq, at_below hb (hr j _ ?_)⟩
    unfold ints; rw [List.getElem?_map, at_get r.c j hj]; rfl
theorem part_a {F : Nat} {w wr : World} {O : Nat} {vo : Value} {Ro : Nat → Prop} {xs : List PC} {n : Nat} {r : PC} (h : LoadI F w wr O vo Ro xs) (hO : w.heap.size + 1 ≤ O) :
    PartI F w ((wr.alloc (.cells (ints (zeros F)).toArray 3)).alloc (.cells #[.int .i64 r.ty, .bool r.fr, .slice (some ⟨wr.heap.size, 0, none⟩) F F] 85)).drew O (wr.heap.size + 1) wr.heap.size vo Ro xs n r 0 := by
  have e1 : (wr.alloc (.cells (ints (zeros F)).toArray 3)).heap.size = wr.heap.size + 1 := by simp
  have hb : Below wr.heap.size wr ((wr.alloc (.cells (ints (zeros F)).toArray 3)).alloc (.cells #[.int .i64 r.ty, .bool r.fr, .slice (some ⟨wr.heap.size, 0, none⟩) F F] 85)).drew := below_drew (((Below.refl _ _).alloc (Nat.le_refl _) _).alloc (by simp) _)
  have b1 : Bk (wr.alloc (.cells (ints (zeros F)).toArray 3)) wr.heap.size 3 (ints (zeros F)).toArray := (MapKept.heap_alloc wr _).1
  have hol := h.out.lt
  refine ⟨⟨h.res.below hb h.res.lt, h.out.below hb h.out.lt, h.lie.below hb, h.new, h.below.trans (hb.mono h.below.size)⟩, by rw [← e1]; exact (MapKept.heap_alloc _ _).1, ?_, fun k hk => by have := h.lie.1 k hk; omega, by omega, by omega, hO⟩
  rw [part_zero]; exact b1.below (below_drew (alloc_below _ _)) b1.lt
theorem part_b {F : Nat} {w wr : World} {O : Nat} {vo : Value} {Ro : Nat → Prop} {xs : List PC} {n : Nat} {r : PC} (h : LoadI F w wr O vo Ro xs) (hO : w.heap.size + 1 ≤ O) :
    PartI F w ((wr.alloc (.cells #[.int .i64 r.ty, .bool r.fr, .slice (some ⟨wr.heap.size + 1, 0, none⟩) F F] 85)).alloc (.cells (ints (zeros F)).toArray 3)).drew O wr.heap.size (wr.heap.size + 1) vo Ro xs n r 0 := by
  have e1 : (wr.alloc (.cells #[.int .i64 r.ty, .bool r.fr, .slice (some ⟨wr.heap.size + 1, 0, none⟩) F F] 85)).heap.size = wr.heap.size + 1 := by simp
  have hb : Below wr.heap.size wr ((wr.alloc (.cells #[.int .i64 r.ty, .bool r.fr, .slice (some ⟨wr.heap.size + 1, 0, none⟩) F F] 85)).alloc (.cells (ints (zeros F)).toArray 3)).drew := below_drew (((Below.refl _ _).alloc (Nat.le_refl _) _).alloc (by simp) _)
  have b1 : Bk (wr.alloc (.cells #[.int .i64 r.ty, .bool r.fr, .slice (some ⟨wr.heap.size + 1, 0, none⟩) F F] 85)) wr.heap.size 85 #[.int .i64 r.ty, .bool r.fr, .slice (some ⟨wr.heap.size + 1, 0, none⟩) F F] := (MapKept.heap_alloc wr _).1
  have hol := h.out.lt
  refine ⟨⟨h.res.below hb h.res.lt, h.out.below hb h.out.lt, h.lie.below hb, h.new, h.below.trans (hb.mono h.below.size)⟩, b1.below (below_drew (alloc_below _ _)) b1.lt, ?_, fun k hk => by have := h.lie.1 k hk; omega, by omega, by omega, hO⟩
  have b2 : Bk ((wr.alloc (.cells #[.int .i64 r.ty, .bool r.fr, .slice (some ⟨wr.heap.size + 1, 0, none⟩) F F] 85)).alloc (.cells (ints (zeros F)).toArray 3)) (wr.alloc (.cells #[.int .i64 r.ty, .bool r.fr, .slice (some ⟨wr.heap.size + 1, 0, none⟩) F F] 85)).heap.size 3 (ints (zeros F)).toArray := (MapKept.heap_alloc _ _).1
  rw [e1] at b2
  rw [part_zero]; exact b2
theorem refLoad_any (F cl cc : Nat) (pl pc : Option Addr) (l : List RC) (w : World) (hl : LayR 3 RC.cells RC.lies w pc l) (hF : F ≤ 2000000) (hn : l.length ≤ 2000000) :
    Calls Tryd.prog 24 #[.slice pl F cl, .slice pc l.length cc] w (OwnP F w (loaded F l)) := by
  have HN := hdn (fun w => refNew_any F cl pl w)
  have b1 : Bk (w.alloc (.cells #[.int .i64 0, .slice none 0 0, .bool false] 59)) w.heap.size 59 #[.int .i64 0, .slice none 0 0, .bool false] := (MapKept.heap_alloc w _).1
  have HB1 := hdn b1
  have HB0 := hdn (alloc_below w (.cells #[.int .i64 0, .slice none 0 0, .bool false] 59))
  clear b1
  go_enter Tryd.func24, Tryd.ntmps24
  go_wp2_with fail
  generalize w.alloc (.cells #[.int .i64 0, .slice none 0 0, .bool false] 59) = w1 at HB0 HB1 ⊢
  refine (HN.out w1).mono ?_; rintro e w2 ⟨rfl, hb2⟩
  have HB2 := hdn (HB1.out.below hb2 HB1.out.lt)
  have HBB := hdn (HB0.out.trans (hb2.mono HB0.out.size))
  clear hb2
  go_wp2_with (first | ((with_reducible show wpList _ _ _ (Oper.mk none (Op.store _ _ _) _ _ _ _ :: _) _ _); refine wpList_store_new rfl 59 (.tmp 5) (.tmp 10) rfl _ (RefA F (.slice none 0 0)) rfl rfl size29 rfl (by simp [Value.oneCell']) ?_))
  have hst : LoadI F w (w2.alloc (.cells (RefA F (.slice none 0 0)) 59)) w2.heap.size (.slice none 0 0) (fun _ => False) [] :=
    ⟨HB2.out.below (alloc_below _ _) HB2.out.lt, (MapKept.heap_alloc w2 _).1, Kin.Lie.nil _ _ (fun _ h => h.elim), fun _ h => h.elim, HBB.out.trans ((alloc_below _ _).mono HBB.out.size)⟩
  have HST := hdn hst
  have HO : Hid (w.heap.size + 1 ≤ w2.heap.size) := hdn HB2.out.lt
  clear hst HB2 HBB HB0 HB1 HN
  generalize w2.alloc (.cells (RefA F (.slice none 0 0)) 59) = wS at HST ⊢
  generalize w2.heap.size = O at HST HO ⊢
  have HL := hdn hl
  clear hl
  go_loopw [6] (fun t wr => ∃ (k : Nat) (vo : Value) (Ro : Nat → Prop), t = .int .i64 k ∧ k ≤ l.length ∧ Hid (LoadI F w wr O vo Ro ((loaded F l).take k))) (fun t _ => l.length - (intOf t).toNat)
  case atStart => exact ⟨0, _, _, rfl, Nat.zero_le _, HST⟩
  case round =>
    obtain ⟨k, vo, Ro, rfl, hk, HI⟩ := hrel
    by_cases hkl : k < l.length
    · obtain ⟨r, hr⟩ : ∃ r, l[k]? = some r := ⟨_, List.getElem?_eq_getElem hkl⟩
      obtain ⟨cb, co, rfl, hit, hrl⟩ := (HL.out.below HI.out.below (fun x h => RC.lies_below h HI.out.below)).at_ hr
      have d0 : wr.cell? ⟨cb, co + k * 3, none⟩ = some (.int .i64 r.c.ty) := hit 0 _ rfl
      have d1 : wr.cell? ⟨cb, co + k * 3 + 1, none⟩ = some (.bool r.c.fr) := hit 1 _ rfl
      have d2 : wr.cell? ⟨cb, co + k * 3 + 2, none⟩ = some (.slice r.q r.c.to.length r.k) := hit 2 _ rfl
      have HD0 := hdn d0
      have HD1 := hdn d1
      have HD2 := hdn d2
      have HRL := hdn hrl
      have HSS : Hid (∀ w', Below wr.heap.size wr w' → w'.cell? ⟨cb, co + k * 3, none⟩ = some (.int .i64 r.c.ty) ∧ w'.cell? ⟨cb, co + k * 3 + 1, none⟩ = some (.bool r.c.fr)) := hdn (fun w' hb => ⟨at_below hb HD0.out, at_below hb HD1.out⟩)
      have hmk := fun w => make44 F w hF
      have hk0 : (0 : Int) ≤ (k : Int) := Int.natCast_nonneg _
      have hk1 : (k : Int) < (l.length : Int) := by omega
      have HTK : Hid ((loaded F l).take k ++ [loadC F l.length r.c] = (loaded F l).take (k + 1)) := hdn (load_take F l hr)
      have HLK : Hid (((loaded F l).take k).length = k) := hdn (by rw [List.length_take]; simp [loaded]; omega)
      have HPA : Hid (PartI F w ((wr.alloc (.cells (ints (zeros F)).toArray 3)).alloc (.cells #[.int .i64 r.c.ty, .bool r.c.fr, .slice (some ⟨wr.heap.size, 0, none⟩) F F] 85)).drew O (wr.heap.size + 1) wr.heap.size vo Ro ((loaded F l).take k) l.length r.c 0) := hdn (part_a HI.out HO.out)
      have HPB : Hid (PartI F w ((wr.alloc (.cells #[.int .i64 r.c.ty, .bool r.c.fr, .slice (some ⟨wr.heap.size + 1, 0, none⟩) F F] 85)).alloc (.cells (ints (zeros F)).toArray 3)).drew O wr.heap.size (wr.heap.size + 1) vo Ro ((loaded F l).take k) l.length r.c 0) := hdn (part_b HI.out HO.out)
      have HW : Hid (Below w.heap.size w wr) := hdn HI.out.below
      have HC2 : Hid (∀ w', Below w.heap.size w w' → w'.cell? ⟨cb, co + k * 3 + 2, none⟩ = some (.slice r.q r.c.to.length r.k)) := hdn (fun w' hb => by
        obtain ⟨cb', co', e1, hit', _⟩ := HL.out.at_ hr
        injection e1 with e1; injection e1 with e2 e3; subst e2; subst e3
        exact at_below hb (hit' 2 _ rfl))
      have HTO : Hid (∀ w' j, Below w.heap.size w w' → j < r.c.to.length → ∃ qb qo, r.q = some ⟨qb, qo, none⟩ ∧ w'.cell? ⟨qb, qo + j, none⟩ = some (.int .i64 (r.c.at j))) := hdn (fun w' j hb hj => by
        obtain ⟨_, _, _, _, hrl'⟩ := HL.out.at_ hr
        exact rc_at hrl' hb hj)
      clear hit hrl d0 d1 d2 hr
      go_upto_region 5 with fail
      have K0 : Hid (Below wr.heap.size wr wr.drew) := hdn (below_drew (Below.refl _ _))
      go_region_held3 (fun w' => w'.cell? ⟨cb, co + k * 3, none⟩ = some (.int .i64 r.c.ty) ∧ w'.cell? ⟨cb, co + k * 3 + 1, none⟩ = some (.bool r.c.fr)) (first | exact HSS.out _ K0.out | exact HSS.out _ (K0.out.alloc (Nat.le_refl _) _) | exact HSS.out _ ((K0.out.alloc (Nat.le_refl _) _).alloc (by simp) _) | exact HSS.out _ (((((K0.out.alloc (Nat.le_refl _) _).alloc (by simp) _).setCell (by simp) _).setCell (by simp) _).setCell (by simp) _) | fail) (fail)
      · have HP := HPA
        clear HPA HPB HSS hmk K0
        generalize wr.heap.size + 1 = C at HP ⊢
        generalize wr.heap.size = Z at HP ⊢
        generalize ((wr.alloc (.cells (ints (zeros F)).toArray 3)).alloc (.cells #[.int .i64 r.c.ty, .bool r.c.fr, .slice (some ⟨Z, 0, none⟩) F F] 85)).drew = wq at HP ⊢
        go_wp2_with fail
        go_loopw [8] (fun t wr => ∃ j : Nat, t = .int .i64 j ∧ j ≤ F ∧ Hid (PartI F w wr O C Z vo Ro ((loaded F l).take k) l.length r.c j)) (fun t _ => F - (intOf t).toNat)
        case atStart => exact ⟨0, rfl, Nat.zero_le _, HP⟩
        case round =>
          obtain ⟨j, rfl, hj, HJ⟩ := hrel
          by_cases hjF : j < F
          · have e2 := HC2.out wr HJ.out.load.below
            have i1 : wr.cell? ⟨C, 1, none⟩ = some (.bool r.c.fr) := HJ.out.item.cell 1
            have hj0 : (0 : Int) ≤ (j : Int) := Int.natCast_nonneg _
            have hj1 : (j : Int) < (F : Int) := by omega
            have hjB : (j : Int) ≤ 2000000 := by omega
            by_cases hjt : j < r.c.to.length
            · obtain ⟨qb, qo, eq, hto⟩ := HTO.out wr j HJ.out.load.below hjt
              rw [eq] at e2
              have hj2 : (j : Int) < (r.c.to.length : Int) := by omega
              generalize hat : r.c.at j = a at hto
              cases hfr : r.c.fr with
              | true =>
                rw [hfr] at i1
                have HS := hdn (HJ.out.skip hjF (by rw [hfr]; rfl))
                go_wp2_with fail
                go_roundw
                case rel => exact ⟨j + 1, by go_num, by omega, HS⟩
                case measure => simp [intOf]; omega
              | false =>
                rw [hfr] at i1
                by_cases ha1 : 1 ≤ a
                · have hd1 : decide (1 ≤ a) = true := decide_eq_true ha1
                  by_cases ha2 : a ≤ (l.length : Int)
                  · have hd2 : decide (a ≤ (l.length : Int)) = true := decide_eq_true ha2
                    have HS := hdn ((HJ.out.go (wz := wr.drew) (below_drew (Below.refl _ _))).put hjF a (by rw [hfr, hat]; unfold okTo isCell; rw [hd1, hd2]; rfl))
                    have i2 : wr.cell? ⟨C, 2, none⟩ = some (.slice (some ⟨Z, 0, none⟩) F F) := HJ.out.item.cell 2
                    have z1 : wr.cell? ⟨Z, j, none⟩ = some (.int .i64 ((partC F l.length j r.c).at j)) := by
                      rw [HJ.out.row.cell, List.getElem?_toArray]; unfold ints; rw [List.getElem?_map, at_get _ j (by rw [part_len]; exact hjF)]; rfl
                    have z2 : wr.frozen? ⟨Z, j, none⟩ = false := HJ.out.row.frozen j
                    clear ha1 ha2
                    go_wp2_with fail
                    go_still_tail 12, (by kernel_rfl)
                    change wpList _ _ _ _ _ wr.drew
                    go_wp2_with fail
                    go_roundw
                    case rel => exact ⟨j + 1, by go_num, by omega, HS⟩
                    case measure => simp [intOf]; omega
                  · have hd2 : decide (a ≤ (l.length : Int)) = false := decide_eq_false ha2
                    have HS := hdn (HJ.out.skip hjF (by rw [hfr, hat]; unfold okTo isCell; rw [hd1, hd2]; rfl))
                    clear ha1 ha2
                    go_wp2_with fail
                    go_roundw
                    case rel => exact ⟨j + 1, by go_num, by omega, HS⟩
                    case measure => simp [intOf]; omega
                · have hd1 : decide (1 ≤ a) = false := decide_eq_false ha1
                  have HS := hdn (HJ.out.skip hjF (by rw [hfr, hat]; unfold okTo isCell; rw [hd1]; rfl))
                  clear ha1
                  go_wp2_with fail
                  go_roundw
                  case rel => exact ⟨j + 1, by go_num, by omega, HS⟩
                  case measure => simp [intOf]; omega
            · have HS := hdn (HJ.out.skip hjF (by rw [at_over r.c j (by omega)]; split <;> rfl))
              go_wp2_with fail
              go_roundw
              case rel => exact ⟨j + 1, by go_num, by omega, HS⟩
              case measure => simp [intOf]; omega
          · obtain rfl : j = F := by omega
            have o1 := HJ.out.load.out.cell 1
            obtain ⟨ys, hys0, hyl, hys⟩ := (HJ.out.load.lie.below (alloc_below wr (.cells #[.int .i64 r.c.ty, .bool r.c.fr, .slice (some ⟨Z, 0, none⟩) j j] 85))).owns (base := 0) (fun _ _ => Nat.zero_le _)
            have HQ := hdn (fun g cap w6 => HJ.out.push (by unfold maxLen; omega) (g := g) (cap := cap) (w6 := w6) hys hyl)
            have HYS := hdn hys0
            have HN2 : Hid (∀ i u, ([.int .i64 r.c.ty, .bool r.c.fr, .slice (some ⟨Z, 0, none⟩) j j] : List Value)[i]? = some u → (wr.alloc (.cells #[.int .i64 r.c.ty, .bool r.c.fr, .slice (some ⟨Z, 0, none⟩) j j] 85)).cell? ((⟨wr.heap.size, 0, none⟩ : Addr).add i) = some u) := hdn (fun i u hu => by
              have e : ((⟨wr.heap.size, 0, none⟩ : Addr).add i) = ⟨wr.heap.size, i, none⟩ := by rw [Addr.add_mid]; simp
              rw [e]
              exact (World.cell?_alloc_at _ _ _ _ rfl).trans (by simpa using hu))
            obtain ⟨i46, hi4, hz4, hs4, hb4⟩ := z46
            have HI4 := hdn hi4
            have HZ4 := hdn hz4
            have HS4 := hdn hs4
            have HY4 := hdn hb4
            rw [HLK.out, HTK.out] at HQ
            rw [HLK.out] at HYS
            have hm1 : k + 1 ≤ maxLen := by unfold maxLen; omega
            have hm2 : (k + 1) * 40 ≤ 140737488355328 := by omega
            have H2 : Hid (∀ u ∈ ([.int .i64 r.c.ty, .bool r.c.fr, .slice (some ⟨Z, 0, none⟩) j j] : List Value), u.oneCell' = true) := hdn (by intro u hu; simp at hu; rcases hu with rfl | rfl | rfl <;> rfl)
            clear hys hyl hys0 hi4 hz4 hs4 hb4
            go_wp2_with (first
              | ((with_reducible show wpList _ _ _ (Oper.mk (some 88) _ _ _ _ _ :: _) _ _); refine wpList_load_bk rfl 85 (.tmp 7) rfl C 85 #[.int .i64 r.c.ty, .bool r.c.fr, .slice (some ⟨Z, 0, none⟩) j j] rfl _ HJ.out.item Tryd.underlying85 rfl size46 ?_)
              | (at_builtin; refine wpList_append_lies _ rfl (.tmp 87) (.tmp 89) 31 rfl 0 85 i46 _ 3 40 Tryd.underlying31 HI4.out HZ4.out HS4.out HY4.out rfl (by decide) vo k ys rfl HYS.out _ 1 1 [.int .i64 r.c.ty, .bool r.c.fr, .slice (some ⟨Z, 0, none⟩) j j] rfl rfl HN2.out H2.out (by decide) hm1 hm2 (Nat.zero_le _) _ rfl ?_; intro g7 cap7 w6 s1 s2 s3 s4; obtain ⟨t1, t2⟩ := HQ.out g7 cap7 w6 s1 s2 s3 s4; have f6 := t1.frozen 1; have g6 := t1.cell 1; have HZZ := hdn t2; clear s1 s2 s3 s4 t1 t2))
            go_roundw
            case rel =>
              obtain ⟨Ro', hz⟩ := HZZ.out
              exact ⟨k + 1, _, Ro', by go_num, by omega, hdn hz⟩
            case measure => simp [intOf]; omega
      · have HP := HPB
        clear HPA HPB HSS hmk K0
        generalize wr.heap.size + 1 = Z at HP ⊢
        generalize wr.heap.size = C at HP ⊢
        generalize ((wr.alloc (.cells #[.int .i64 r.c.ty, .bool r.c.fr, .slice (some ⟨Z, 0, none⟩) F F] 85)).alloc (.cells (ints (zeros F)).toArray 3)).drew = wq at HP ⊢
        go_wp2_with fail
        go_loopw [8] (fun t wr => ∃ j : Nat, t = .int .i64 j ∧ j ≤ F ∧ Hid (PartI F w wr O C Z vo Ro ((loaded F l).take k) l.length r.c j)) (fun t _ => F - (intOf t).toNat)
        case atStart => exact ⟨0, rfl, Nat.zero_le _, HP⟩
        case round =>
          obtain ⟨j, rfl, hj, HJ⟩ := hrel
          by_cases hjF : j < F
          · have e2 := HC2.out wr HJ.out.load.below
            have i1 : wr.cell? ⟨C, 1, none⟩ = some (.bool r.c.fr) := HJ.out.item.cell 1
            have hj0 : (0 : Int) ≤ (j : Int) := Int.natCast_nonneg _
            have hj1 : (j : Int) < (F : Int) := by omega
            have hjB : (j : Int) ≤ 2000000 := by omega
            by_cases hjt : j < r.c.to.length
            · obtain ⟨qb, qo, eq, hto⟩ := HTO.out wr j HJ.out.load.below hjt
              rw [eq] at e2
              have hj2 : (j : Int) < (r.c.to.length : Int) := by omega
              generalize hat : r.c.at j = a at hto
              cases hfr : r.c.fr with
              | true =>
                rw [hfr] at i1
                have HS := hdn (HJ.out.skip hjF (by rw [hfr]; rfl))
                go_wp2_with fail
                go_roundw
                case rel => exact ⟨j + 1, by go_num, by omega, HS⟩
                case measure => simp [intOf]; omega
              | false =>
                rw [hfr] at i1
                by_cases ha1 : 1 ≤ a
                · have hd1 : decide (1 ≤ a) = true := decide_eq_true ha1
                  by_cases ha2 : a ≤ (l.length : Int)
                  · have hd2 : decide (a ≤ (l.length : Int)) = true := decide_eq_true ha2
                    have HS := hdn ((HJ.out.go (wz := wr.drew) (below_drew (Below.refl _ _))).put hjF a (by rw [hfr, hat]; unfold okTo isCell; rw [hd1, hd2]; rfl))
                    have i2 : wr.cell? ⟨C, 2, none⟩ = some (.slice (some ⟨Z, 0, none⟩) F F) := HJ.out.item.cell 2
                    have z1 : wr.cell? ⟨Z, j, none⟩ = some (.int .i64 ((partC F l.length j r.c).at j)) := by
                      rw [HJ.out.row.cell, List.getElem?_toArray]; unfold ints; rw [List.getElem?_map, at_get _ j (by rw [part_len]; exact hjF)]; rfl
                    have z2 : wr.frozen? ⟨Z, j, none⟩ = false := HJ.out.row.frozen j
                    clear ha1 ha2
                    go_wp2_with fail
                    go_still_tail 12, (by kernel_rfl)
                    change wpList _ _ _ _ _ wr.drew
                    go_wp2_with fail
                    go_roundw
                    case rel => exact ⟨j + 1, by go_num, by omega, HS⟩
                    case measure => simp [intOf]; omega
                  · have hd2 : decide (a ≤ (l.length : Int)) = false := decide_eq_false ha2
                    have HS := hdn (HJ.out.skip hjF (by rw [hfr, hat]; unfold okTo isCell; rw [hd1, hd2]; rfl))
                    clear ha1 ha2
                    go_wp2_with fail
                    go_roundw
                    case rel => exact ⟨j + 1, by go_num, by omega, HS⟩
                    case measure => simp [intOf]; omega
                · have hd1 : decide (1 ≤ a) = false := decide_eq_false ha1
                  have HS := hdn (HJ.out.skip hjF (by rw [hfr, hat]; unfold okTo isCell; rw [hd1]; rfl))
                  clear ha1
                  go_wp2_with fail
                  go_roundw
                  case rel => exact ⟨j + 1, by go_num, by omega, HS⟩
                  case measure => simp [intOf]; omega
            · have HS := hdn (HJ.out.skip hjF (by rw [at_over r.c j (by omega)]; split <;> rfl))
              go_wp2_with fail
              go_roundw
              case rel => exact ⟨j + 1, by go_num, by omega, HS⟩
              case measure => simp [intOf]; omega
          · obtain rfl : j = F := by omega
            have o1 := HJ.out.load.out.cell 1
            obtain ⟨ys, hys0, hyl, hys⟩ := (HJ.out.load.lie.below (alloc_below wr (.cells #[.int .i64 r.c.ty, .bool r.c.fr, .slice (some ⟨Z, 0, none⟩) j j] 85))).owns (base := 0) (fun _ _ => Nat.zero_le _)
            have HQ := hdn (fun g cap w6 => HJ.out.push (by unfold maxLen; omega) (g := g) (cap := cap) (w6 := w6) hys hyl)
            have HYS := hdn hys0
            have HN2 : Hid (∀ i u, ([.int .i64 r.c.ty, .bool r.c.fr, .slice (some ⟨Z, 0, none⟩) j j] : List Value)[i]? = some u → (wr.alloc (.cells #[.int .i64 r.c.ty, .bool r.c.fr, .slice (some ⟨Z, 0, none⟩) j j] 85)).cell? ((⟨wr.heap.size, 0, none⟩ : Addr).add i) = some u) := hdn (fun i u hu => by
              have e : ((⟨wr.heap.size, 0, none⟩ : Addr).add i) = ⟨wr.heap.size, i, none⟩ := by rw [Addr.add_mid]; simp
              rw [e]
              exact (World.cell?_alloc_at _ _ _ _ rfl).trans (by simpa using hu))
            obtain ⟨i46, hi4, hz4, hs4, hb4⟩ := z46
            have HI4 := hdn hi4
            have HZ4 := hdn hz4
            have HS4 := hdn hs4
            have HY4 := hdn hb4
            rw [HLK.out, HTK.out] at HQ
            rw [HLK.out] at HYS
            have hm1 : k + 1 ≤ maxLen := by unfold maxLen; omega
            have hm2 : (k + 1) * 40 ≤ 140737488355328 := by omega
            have H2 : Hid (∀ u ∈ ([.int .i64 r.c.ty, .bool r.c.fr, .slice (some ⟨Z, 0, none⟩) j j] : List Value), u.oneCell' = true) := hdn (by intro u hu; simp at hu; rcases hu with rfl | rfl | rfl <;> rfl)
            clear hys hyl hys0 hi4 hz4 hs4 hb4
            go_wp2_with (first
              | ((with_reducible show wpList _ _ _ (Oper.mk (some 88) _ _ _ _ _ :: _) _ _); refine wpList_load_bk rfl 85 (.tmp 7) rfl C 85 #[.int .i64 r.c.ty, .bool r.c.fr, .slice (some ⟨Z, 0, none⟩) j j] rfl _ HJ.out.item Tryd.underlying85 rfl size46 ?_)
              | (at_builtin; refine wpList_append_lies _ rfl (.tmp 87) (.tmp 89) 31 rfl 0 85 i46 _ 3 40 Tryd.underlying31 HI4.out HZ4.out HS4.out HY4.out rfl (by decide) vo k ys rfl HYS.out _ 1 1 [.int .i64 r.c.ty, .bool r.c.fr, .slice (some ⟨Z, 0, none⟩) j j] rfl rfl HN2.out H2.out (by decide) hm1 hm2 (Nat.zero_le _) _ rfl ?_; intro g7 cap7 w6 s1 s2 s3 s4; obtain ⟨t1, t2⟩ := HQ.out g7 cap7 w6 s1 s2 s3 s4; have f6 := t1.frozen 1; have g6 := t1.cell 1; have HZZ := hdn t2; clear s1 s2 s3 s4 t1 t2))
            go_roundw
            case rel =>
              obtain ⟨Ro', hz⟩ := HZZ.out
              exact ⟨k + 1, _, Ro', by go_num, by omega, hdn hz⟩
            case measure => simp [intOf]; omega
    · have hke : k = l.length := by omega
      have HE : Hid (LoadI F w wr O vo Ro (loaded F l)) := hdn (by have := HI.out; rwa [hke, show l.length = (loaded F l).length by simp [loaded], List.take_length] at this)
      have HO9 := hdn HE.out.out
      have HR9 := hdn HE.out.res
      have hoh := HO.out
      clear hke
      go_wp2_with (first
        | ((with_reducible show wpList _ _ _ (Oper.mk (some 92) _ _ _ _ _ :: _) _ _); refine wpList_load_bk rfl 59 (.tmp 5) rfl O 59 (RefA F vo) rfl _ HO9.out Tryd.underlying59 rfl size29 ?_)
        | ((with_reducible show wpList _ _ _ (Oper.mk none (Op.store 59 _ _) _ _ _ _ :: _) _ _); refine wpList_store_part rfl 59 (.tmp 4) (.tmp 92) rfl w.heap.size 0 59 _ (RefA F vo) rfl rfl HR9.out size29 (by simp) (HE.out.lie.oneA) ?_; intro w7 cur7 q1 q2 q3 q4 q5; have HQ := hdn q1; have HQ2 := hdn q2; have HQ3 := hdn q3; have HQ5 := hdn q5; clear q1 q2 q3 q4 q5))
      have hcur : cur7 = RefA F vo := own_res HQ2.out HQ3.out
      have hB : Bk w7 w.heap.size 59 (RefA F vo) := hcur ▸ HQ.out
      refine bodyPost_ret (results_cell_row Tryd.results24 _ w7 w.heap.size 59 (RefA F vo) (0, 0) _ rfl hB Tryd.underlying59 rfl size29) rfl ?_
      exact ⟨vo, Ro, rfl, HE.out.lie.gr (Gr.of_grown HQ5.out) (fun k hk e => by injection e with e; have := HE.out.new k hk; omega), fun b hb => by have := HE.out.new b hb; omega, HE.out.below.grown HQ5.out HE.out.below.size (fun j hj => by injection hj with hj; omega)⟩
end Go.Proofs.YtebmhadpkncgfaaDoor
namespace Go.Proofs.YtebmhadpkncgfaaDoor
open Go.RowKit Go.Maps
/-- The program's Load under way: its row has room for all cells; these are loaded. -/
structure LdI (F : Nat) (w wr : World) (b g n : Nat) (R : Nat → Prop) (xs : List PC) : Prop where
  top : Bk wr b 101 #[.bool true, .int .i64 F, .slice (some ⟨g, 0, none⟩) n n]
  out : ¬ R b
  row : ∃ cur fm, (HeldK F).At wr R g n cur fm xs
  lt : ∀ k, R k → k < wr.heap.size
  new : ∀ k, R k → w.heap.size ≤ k
  base : w.heap.size ≤ b
  below : Below w.heap.size w wr
theorem LdI.go {F : Nat} {w wr wz : World} {b g n : Nat} {R : Nat → Prop} {xs : List PC} (h : LdI F w wr b g n R xs) (hb : Below wr.heap.size wr wz) : LdI F w wz b g n R xs := by
  obtain ⟨cur, fm, ha⟩ := h.row
  exact ⟨h.top.below hb h.top.lt, h.out, ⟨cur, fm, ha.gr (Gr.of_below (S := fun _ => False) hb) (fun _ _ h => h)⟩, fun k hk => Nat.lt_of_lt_of_le (h.lt k hk) hb.size, h.new, h.base, h.below.trans (hb.mono h.below.size)⟩
/-- One cell more is there, without places. -/
theorem LdI.snoc {F : Nat} {w wr wz : World} {b g n : Nat} {R : Nat → Prop} {xs : List PC} (h : LdI F w wr b g n R xs) (hx : xs.length < n) (m : Nat) (r : PC) {cur cur' : Array Value} (hc : Bk wr g 106 cur) (q1 : Bk wz g 106 cur') (q2 : cur'.size = cur.size)
    (q3 : ∀ j, j < 11 → cur'[xs.length * 11 + j]? = ([.int .i64 r.ty, .bool r.fr, .int .i64 0, .int .i64 0, .int .i64 0, .int .i64 0, .int .i64 0, .int .i64 0, .int .i64 0, .int .i64 0, .map none] : List Value)[j]?) (q4 : ∀ j, (j < xs.length * 11 ∨ xs.length * 11 + 11 ≤ j) → cur'[j]? = cur[j]?) (q5 : wr.grownBy wz (some g)) :
    LdI F w wz b g n R (xs ++ [partC F m 0 r]) := by
  obtain ⟨cur0, fm, ha⟩ := h.row
  obtain rfl : cur0 = cur := by
    have h1 : Bk wr g 106 cur0 := ha.row
    have := h1.symm.trans hc
    injection this with this; injection this
  have hgb : g ≠ b := fun e => h.out (e ▸ ha.mine)
  have hz : hcells (partC F m 0 r) none = [.int .i64 r.ty, .bool r.fr, .int .i64 0, .int .i64 0, .int .i64 0, .int .i64 0, .int .i64 0, .int .i64 0, .int .i64 0, .int .i64 0, .map none] := by
    rw [part_zero]; unfold hcells; simp only [at_zeros (c := (⟨r.ty, r.fr, zeros F⟩ : PC)) (F := F) rfl]
  refine ⟨(q5.block b h.top.lt (by intro e; injection e with e; exact hgb e.symm)).trans h.top, h.out, ⟨cur', _, ha.snoc (b' := none) (S := fun k => some k = some g) (Gr.of_grown q5) q1 q2 hx (fun j hj => by
    have := q3 j hj
    rw [← hz] at this; exact this) (fun j hj => q4 j (.inl hj)) ⟨part_len F m 0 r, fun k => ?_, fun k _ => ?_⟩ (fun k _ hk => by injection hk) (fun m hm => by cases hm) (fun _ h => h)⟩, fun k hk => Nat.lt_of_lt_of_le (h.lt k hk) q5.size, h.new, h.base, h.below.grown q5 h.below.size (fun j hj => by injection hj with hj; subst hj; exact h.new _ ha.mine)⟩
  · rw [part_zero]; show okI ((zeros F).getD k 0); rw [zeros_at]; rfl
  · rw [part_zero]; exact zeros_at F k
/-- A place has been made to lead. -/
theorem LdI.lead {F : Nat} {w wr wz : World} {b g n : Nat} {R : Nat → Prop} {xs : List PC} {m j : Nat} {r : PC} {e : Ending} (h : LdI F w wr b g n R (xs ++ [partC F m j r])) (hj : j < F) (t : Int) (ht : (if r.fr = true then 0 else okTo m (r.at j)) = t)
    (hp : RowPost F wr R g n ((xs ++ [partC F m j r]).set xs.length (putTo (partC F m j r) j t)) e wz) : ∃ R', LdI F w wz b g n R' (xs ++ [partC F m (j + 1) r]) := by
  obtain ⟨_, R', cur', fm', ha, hst⟩ := hp
  have hset : (xs ++ [partC F m j r]).set xs.length (putTo (partC F m j r) j t) = xs ++ [partC F m (j + 1) r] := by
    rw [List.set_append_right _ _ (Nat.le_refl _), Nat.sub_self, ← ht, part_put F m j r hj]; rfl
  rw [hset] at ha
  refine ⟨R', hst.gr.bk h.top h.out, fun hb => ?_, ⟨cur', fm', ha⟩, hst.lt, fun k hk => ?_, h.base, h.below.trans (hst.gr.below h.below.size h.new)⟩
  · rcases hst.new b hb with h1 | h1
    · exact h.out h1
    · have := h.top.lt; omega
  · rcases hst.new k hk with h1 | h1
    · exact h.new k h1
    · have := h.below.size; omega
theorem LdI.skip {F : Nat} {w wr : World} {b g n : Nat} {R : Nat → Prop} {xs : List PC} {m j : Nat} {r : PC} (h : LdI F w wr b g n R (xs ++ [partC F m j r])) (hj : j < F) (hz : (if r.fr = true then 0 else okTo m (r.at j)) = 0) : LdI F w wr b g n R (xs ++ [partC F m (j + 1) r]) := by
  rw [part_same F m j r hj hz]; exact h
/-- Places behind the end are nought. -/
theorem part_end (F m j : Nat) (r : PC) (h : r.to.length ≤ j) : partC F m j r = loadC F m r := by
  rw [← part_full]
  refine pc_ext rfl rfl (by rw [part_len, part_len]) fun k hk => ?_
  have hk : k < F := by rw [part_len] at hk; exact hk
  rw [part_at F m j k r hk, part_at F m F k r hk, if_pos (show k < F from hk)]
  by_cases hkj : k < j
  · rw [if_pos hkj]
  · rw [if_neg hkj, at_over r k (by omega)]
    split <;> rfl
def LoadP (F : Nat) (w : World) (cs : List PC) (e : Ending) (w' : World) : Prop :=
  ∃ b R v, e = .returned (.pointer (some ⟨b, 0, none⟩)) ∧ HIs w' b R F cs v ∧ (∀ k, R k → w.heap.size ≤ k) ∧ w.heap.size ≤ b ∧ Below w.heap.size w w'
theorem LdI.done {F : Nat} {w wr : World} {b g n : Nat} {R : Nat → Prop} {xs : List PC} (h : LdI F w wr b g n R xs) (hn : xs.length = n) : LoadP F w xs (.returned (.pointer (some ⟨b, 0, none⟩))) wr := by
  obtain ⟨cur, fm, ha⟩ := h.row
  subst hn
  exact ⟨b, R, _, rfl, ⟨h.top, h.out, ⟨h.lt, .inr ⟨g, _, cur, fm, rfl, ha⟩⟩⟩, h.new, h.base, h.below⟩
def Hc (n : Nat) : Array Value := madeCells (#[.int .i64 0, .bool false, .int .i64 0, .int .i64 0, .int .i64 0, .int .i64 0, .int .i64 0, .int .i64 0, .int .i64 0, .int .i64 0, .map none] : Array Value) (n * 11)
theorem make48 (n : Nat) (w : World) (h : n ≤ 2000000) : (Instr.makeSlice 99 (.int .i64 n) (.int .i64 n)).run Tryd.prog w = .ok (.slice (some ⟨w.heap.size, 0, none⟩) n n) (w.alloc (.cells (Hc n) 106)) := by
  obtain ⟨i, hi, hz, hs, hb⟩ := z59
  have hr := run_make (P := Tryd.prog) w 99 106 i _ Tryd.underlying99 hi hz .i64 .i64 n n (by omega) (Int.le_refl _) (by rw [hb]; omega) (by omega)
  simp only [Int.toNat_natCast, hs] at hr
  exact hr
theorem ld_start (F : Nat) (w w1 : World) (b n : Nat) (h : n ≤ 2000000) (hw : Below w.heap.size w w1) (hb : w.heap.size ≤ b) (ht : Bk w1 b 101 #[.bool true, .int .i64 F, .slice none 0 0]) :
    LdI F w ((w1.alloc (.cells (Hc n) 106)).setCell ⟨b, 2, none⟩ (.slice (some ⟨w1.heap.size, 0, none⟩) n n)) b w1.heap.size n (fun k => k = w1.heap.size) [] := by
  have hbl := ht.lt
  have h1 : Bk (w1.alloc (.cells (Hc n) 106)) w1.heap.size 106 (Hc n) := (MapKept.heap_alloc w1 _).1
  have h2 : Bk ((w1.alloc (.cells (Hc n) 106)).setCell ⟨b, 2, none⟩ (.slice (some ⟨w1.heap.size, 0, none⟩) n n)) w1.heap.size 106 (Hc n) := h1.far (by show w1.heap.size ≠ b; omega) _
  refine ⟨(ht.below (alloc_below _ _) hbl).set_ 2 _, by intro e; omega, ⟨Hc n, fun _ => none, ⟨h2, rfl, Nat.zero_le _, by unfold maxLen; omega, size_madeCells _ _, fun i x hi => by simp at hi, fun i x hi => by simp at hi, fun i m hi => by simp at hi, fun i j m _ hj => by simp at hj⟩⟩, fun k hk => by rw [hk]; exact h2.lt, fun k hk => by have := hw.size; omega, hb, ?_⟩
  exact (hw.trans ((alloc_below _ _).mono hw.size)).setCell hb _
end Go.Proofs.YtebmhadpkncgfaaDoor
namespace Go.Proofs.YtebmhadpkncgfaaDoor
open Go.RowKit Go.Maps
theorem LdI.lead2 {F : Nat} {w wr wz : World} {b g n C : Nat} {R : Nat → Prop} {xs : List PC} {m j : Nat} {r : PC} {e : Ending} {it : Array Value} (h : LdI F w wr b g n R (xs ++ [partC F m j r])) (hj : j < F) (t : Int) (ht : (if r.fr = true then 0 else okTo m (r.at j)) = t)
    (hp : RowPost F wr R g n ((xs ++ [partC F m j r]).set xs.length (putTo (partC F m j r) j t)) e wz) (hc : Bk wr C 85 it) (hcr : ¬ R C) : ∃ R', LdI F w wz b g n R' (xs ++ [partC F m (j + 1) r]) ∧ Bk wz C 85 it ∧ ¬ R' C := by
  obtain ⟨_, R', cur', fm', ha, hst⟩ := hp
  have hset : (xs ++ [partC F m j r]).set xs.length (putTo (partC F m j r) j t) = xs ++ [partC F m (j + 1) r] := by
    rw [List.set_append_right _ _ (Nat.le_refl _), Nat.sub_self, ← ht, part_put F m j r hj]; rfl
  rw [hset] at ha
  refine ⟨R', ⟨hst.gr.bk h.top h.out, fun hb => ?_, ⟨cur', fm', ha⟩, hst.lt, fun k hk => ?_, h.base, h.below.trans (hst.gr.below h.below.size h.new)⟩, hst.gr.bk hc hcr, fun hb => ?_⟩
  · rcases hst.new b hb with h1 | h1
    · exact h.out h1
    · have := h.top.lt; omega
  · rcases hst.new k hk with h1 | h1
    · exact h.new k h1
    · have := h.below.size; omega
  · rcases hst.new C hb with h1 | h1
    · exact hcr h1
    · have := hc.lt; omega
theorem load_any (F cl cc : Nat) (pl pc : Option Addr) (l : List RC) (w : World) (hl : LayR 3 RC.cells RC.lies w pc l) (hF : F ≤ 2000000) (hn : l.length ≤ 2000000) :
    Calls Tryd.prog 55 #[.slice pl F cl, .slice pc l.length cc] w (LoadP F w (loaded F l)) := by
  have HN := hdn (new_any F cl pl w)
  have HL := hdn hl
  clear hl
  go_enter Tryd.func55, Tryd.ntmps55
  go_wp2_with fail
  refine HN.out.mono ?_; rintro e w1 ⟨rfl, hi, hb⟩
  have HST := hdn (ld_start F w w1 w.heap.size l.length hn hb (Nat.le_refl _) hi.top)
  have t0 := hi.top.cell 2
  have f0 := hi.top.frozen 2
  have htA := hi.top.below (alloc_below w1 (.cells (Hc l.length) 106)) hi.top.lt
  have t1 := htA.cell 2
  have f1 := htA.frozen 2
  have hmk := make48 l.length w1 hn
  clear hi hb htA HN
  go_wp2_with fail
  clear t0 f0 t1 f1 hmk
  generalize (w1.alloc (.cells (Hc l.length) 106)).setCell ⟨w.heap.size, 2, none⟩ (.slice (some ⟨w1.heap.size, 0, none⟩) l.length l.length) = wS at HST ⊢
  generalize w1.heap.size = g at HST ⊢
  generalize hbb : w.heap.size = b at HST ⊢
  have HBB := hdn hbb
  clear hbb
  go_loopw [20] (fun t wr => ∃ (k : Nat) (R : Nat → Prop), t = .int .i64 k ∧ k ≤ l.length ∧ Hid (LdI F w wr b g l.length R ((loaded F l).take k))) (fun t _ => l.length - (intOf t).toNat)
  case atStart => exact ⟨0, _, rfl, Nat.zero_le _, HST⟩
  case round =>
    obtain ⟨k, R, rfl, hk, HI⟩ := hrel
    by_cases hkl : k < l.length
    · obtain ⟨r, hr⟩ : ∃ r, l[k]? = some r := ⟨_, List.getElem?_eq_getElem hkl⟩
      obtain ⟨cb, co, rfl, hit, hrl⟩ := (HL.out.below HI.out.below (fun x h => RC.lies_below h HI.out.below)).at_ hr
      have HIT : Hid (wr.rangeAt cb (co + k * 3) (#[.int .i64 r.c.ty, .bool r.c.fr, .slice r.q r.c.to.length r.k] : Array Value).toList) := hdn hit
      have HTK : Hid ((loaded F l).take k ++ [loadC F l.length r.c] = (loaded F l).take (k + 1)) := hdn (load_take F l hr)
      have HLK : Hid (((loaded F l).take k).length = k) := hdn (by rw [List.length_take]; simp [loaded]; omega)
      have HRO : Hid (∀ j, okI (r.c.at j)) := hdn hrl.2
      have HTO : Hid (∀ w' j, Below w.heap.size w w' → j < r.c.to.length → ∃ qb qo, r.q = some ⟨qb, qo, none⟩ ∧ w'.cell? ⟨qb, qo + j, none⟩ = some (.int .i64 (r.c.at j))) := hdn (fun w' j hb hj => by
        obtain ⟨_, _, _, _, hrl'⟩ := HL.out.at_ hr
        exact rc_at hrl' hb hj)
      have HI2 := hdn (HI.out.go (alloc_below wr (.cells #[.int .i64 r.c.ty, .bool r.c.fr, .slice r.q r.c.to.length r.k] 85)))
      have HC2 : Hid (Bk (wr.alloc (.cells #[.int .i64 r.c.ty, .bool r.c.fr, .slice r.q r.c.to.length r.k] 85)) wr.heap.size 85 #[.int .i64 r.c.ty, .bool r.c.fr, .slice r.q r.c.to.length r.k]) := hdn (MapKept.heap_alloc wr _).1
      have HCN : Hid (∀ m, R m → m ≠ wr.heap.size) := hdn (fun m hm e => by have := HI.out.lt m hm; omega)
      have HCW : Hid (w.heap.size ≤ wr.heap.size) := hdn HI.out.below.size
      have HCB : Hid (wr.heap.size ≠ b) := hdn (by have := HI.out.top.lt; omega)
      have hk0 : (0 : Int) ≤ (k : Int) := Int.natCast_nonneg _
      have hk1 : (k : Int) < (l.length : Int) := by omega
      clear hit hrl hr
      go_upto_region 6 with (first
        | ((with_reducible show wpList _ _ _ (Oper.mk (some 24) _ _ _ _ _ :: _) _ _); refine wpList_load_arr rfl 85 (.tmp 23) rfl cb (co + k * 3) rfl #[.int .i64 r.c.ty, .bool r.c.fr, .slice r.q r.c.to.length r.k] _ HIT.out Tryd.underlying85 rfl size46 ?_)
        | ((with_reducible show wpList _ _ _ (Oper.mk none (Op.store 85 _ _) _ _ _ _ :: _) _ _); refine wpList_store_new rfl 85 (.tmp 7) (.tmp 24) rfl _ #[.int .i64 r.c.ty, .bool r.c.fr, .slice r.q r.c.to.length r.k] rfl rfl size46 rfl (by simp [Value.oneCell']) ?_))
      generalize wr.alloc (.cells #[.int .i64 r.c.ty, .bool r.c.fr, .slice r.q r.c.to.length r.k] 85) = w2 at HI2 HC2 ⊢
      generalize wr.heap.size = C at HC2 HCN HCW HCB ⊢
      have x2 := HI2.out.top.cell 2
      have y0 := HC2.out.cell 0
      have y1 := HC2.out.cell 1
      obtain ⟨cur, fm, ha⟩ := HI2.out.row
      have HA : Hid (Bk w2.drew g 106 cur) := hdn ha.row
      have HSZ : Hid (k * 11 + 11 ≤ cur.size) := hdn (by
        have h1 := ha.size
        have h2 := Nat.mul_le_mul_right 11 (Nat.succ_le_of_lt hkl)
        have h3 : (HeldK F).sz = 11 := rfl
        rw [h3] at h1; omega)
      have HID := hdn (HI2.out.go (wz := w2.drew) (below_drew (Below.refl _ _)))
      have hgC : g ≠ C := HCN.out g ha.mine
      clear ha HI
      go_still_tail 11, (by kernel_rfl)
      change wpList _ _ _ _ _ w2.drew
      clear x2 y0 y1
      go_wp2_with (first
        | (show wpList _ _ _ (Oper.mk none (Op.store 106 _ _) _ _ _ _ :: _) _ _; refine wpList_store_part rfl 106 (.tmp 35) (.tmp 34) rfl g (k * 11) 106 cur #[.int .i64 r.c.ty, .bool r.c.fr, .int .i64 0, .int .i64 0, .int .i64 0, .int .i64 0, .int .i64 0, .int .i64 0, .int .i64 0, .int .i64 0, .map none] rfl rfl HA.out size59 HSZ.out (by simp [Value.oneCell']) ?_; intro w3 cur3 q1 q2 q3 q4 q5; have HI3 : Hid (LdI F w w3 b g l.length R ((loaded F l).take k ++ [partC F l.length 0 r.c])) := hdn (HID.out.snoc (by rw [HLK.out]; exact hkl) _ _ HA.out q1 q2 (fun j hj => by rw [HLK.out, q3 j hj]; simp) (fun j hj => q4 j (by rw [HLK.out] at hj; exact hj)) q5); have HC3 : Hid (Bk w3 C 85 #[.int .i64 r.c.ty, .bool r.c.fr, .slice r.q r.c.to.length r.k]) := hdn ((q5.block C HC2.out.lt (by intro e; injection e with e; exact hgC e.symm)).trans HC2.out); clear q1 q2 q3 q4 q5))
      clear HA HID hgC
      have z0 := HI3.out.top.cell 1
      have z1 := HC3.out.cell 2
      have f0 := HI3.out.top.frozen 1
      have f1 := HC3.out.frozen 2
      go_quiet (fail)
      rename_i nq _
      have hmn : (if r.c.to.length < F then (r.c.to.length : Int) else (F : Int)) = ((min F r.c.to.length : Nat) : Int) := by split <;> omega
      simp only [hmn]
      have hMF : min F r.c.to.length ≤ F := Nat.min_le_left _ _
      have hMT : min F r.c.to.length ≤ r.c.to.length := Nat.min_le_right _ _
      have HME : Hid (partC F l.length (min F r.c.to.length) r.c = loadC F l.length r.c) := hdn (by
        by_cases h : F ≤ r.c.to.length
        · rw [Nat.min_eq_left h, part_full]
        · rw [Nat.min_eq_right (by omega), part_end F _ _ _ (Nat.le_refl _)])
      have HJ0 : Hid (LdI F w (w3.drewN nq) b g l.length R ((loaded F l).take k ++ [partC F l.length 0 r.c])) := hdn (HI3.out.go (below_drewN_ (Below.refl _ _) _))
      have HC0 : Hid (Bk (w3.drewN nq) C 85 #[.int .i64 r.c.ty, .bool r.c.fr, .slice r.q r.c.to.length r.k]) := hdn (HC3.out.below (below_drewN_ (Below.refl _ _) _) HC3.out.lt)
      have HCR : Hid (¬ R C) := hdn (fun h => HCN.out C h rfl)
      clear z0 z1 f0 f1 HI2 HC2 HCN HCW HI3 HC3 hmn
      generalize w3.drewN nq = w4 at HJ0 HC0 ⊢
      generalize min F r.c.to.length = M at hMF hMT HME ⊢
      go_wp2_with fail
      go_loopw [44] (fun t wr => ∃ (j : Nat) (R' : Nat → Prop), t = .int .i64 j ∧ j ≤ M ∧ Hid (LdI F w wr b g l.length R' ((loaded F l).take k ++ [partC F l.length j r.c])) ∧ Hid (Bk wr C 85 #[.int .i64 r.c.ty, .bool r.c.fr, .slice r.q r.c.to.length r.k]) ∧ Hid (¬ R' C)) (fun t _ => M - (intOf t).toNat)
      case atStart => exact ⟨0, _, rfl, Nat.zero_le _, HJ0, HC0, HCR⟩
      case round =>
        obtain ⟨j, R', rfl, hj, HJ, HCJ, HRJ⟩ := hrel
        by_cases hjM : j < M
        · obtain ⟨qb, qo, eq0, hto⟩ := HTO.out wr j HJ.out.below (by omega)
          have hj0 : (0 : Int) ≤ (j : Int) := Int.natCast_nonneg _
          have hj1 : (j : Int) < (M : Int) := by omega
          have hj2 : (j : Int) < (r.c.to.length : Int) := by omega
          have hjF : j < F := by omega
          have e1 := HCJ.out.cell 1
          have e2 := HCJ.out.cell 2
          have b2 := HJ.out.top.cell 2
          have hri := HRO.out j
          simp only [List.getElem?_toArray, List.getElem?_cons_succ, List.getElem?_cons_zero] at e1 e2 b2
          rw [eq0] at e2
          clear eq0
          have HH := hdn (hasCell_of (r.c.at j) l.length (hp b) wr (len_any b _ _ _ _ _ wr HJ.out.top))
          have HNX : Hid (∀ R1 wz, (LdI F w wz b g l.length R1 ((loaded F l).take k ++ [partC F l.length (j + 1) r.c]) ∧ Bk wz C 85 #[.int .i64 r.c.ty, .bool r.c.fr, .slice r.q r.c.to.length r.k] ∧ ¬ R1 C) → ∃ (j' : Nat) (R' : Nat → Prop), Value.int .i64 ((j : Int) + 1) = .int .i64 j' ∧ j' ≤ M ∧ Hid (LdI F w wz b g l.length R' ((loaded F l).take k ++ [partC F l.length j' r.c])) ∧ Hid (Bk wz C 85 #[.int .i64 r.c.ty, .bool r.c.fr, .slice r.q r.c.to.length r.k]) ∧ Hid (¬ R' C)) := hdn (fun R1 wz h => ⟨j + 1, R1, by rw [Int.natCast_add]; rfl, by omega, hdn h.1, hdn h.2.1, hdn h.2.2⟩)
          generalize hat : r.c.at j = a at hto HH hri
          have HAT := hdn hat
          clear hat
          obtain hfr | hfr : Hid (r.c.fr = true) ∨ Hid (r.c.fr = false) := by
            cases h : r.c.fr
            · exact .inr (hdn rfl)
            · exact .inl (hdn rfl)
          · rw [hfr.out] at e1
            have HS := hdn (HJ.out.skip hjF (by rw [hfr.out]; rfl))
            clear HH
            go_wp2_with fail
            go_roundw
            case rel => exact HNX.out _ _ ⟨HS.out, HCJ.out, HRJ.out⟩
            case measure => simp [intOf]; omega
          · rw [hfr.out] at e1
            cases hct : isCell l.length a with
            | false =>
              have HS := hdn (HJ.out.skip hjF (by rw [hfr.out, HAT.out]; unfold okTo; rw [hct]; rfl))
              rw [hct] at HH
              go_wp2_with (go_at_call 75; refine HH.out.mono ?_; rintro e w' ⟨rfl, rfl⟩)
              go_roundw
              case rel => exact HNX.out _ _ ⟨HS.out, HCJ.out, HRJ.out⟩
              case measure => simp [intOf]; omega
            | true =>
              obtain ⟨cur, fm, ha⟩ := HJ.out.row
              have HG := hdn (lead_any F g l.length k j a wr R' cur fm _ (partC F l.length j r.c) ha HJ.out.lt (by rw [List.getElem?_append_right (by rw [HLK.out]; exact Nat.le_refl _), HLK.out, Nat.sub_self]; rfl) hjF hF hri)
              have HE : Hid (∀ e wz, RowPost F wr R' g l.length (((loaded F l).take k ++ [partC F l.length j r.c]).set k (putTo (partC F l.length j r.c) j a)) e wz → ∃ R1, LdI F w wz b g l.length R1 ((loaded F l).take k ++ [partC F l.length (j + 1) r.c]) ∧ Bk wz C 85 #[.int .i64 r.c.ty, .bool r.c.fr, .slice r.q r.c.to.length r.k] ∧ ¬ R1 C) := hdn (fun e wz hp => HJ.out.lead2 hjF a (by rw [hfr.out, HAT.out]; unfold okTo; rw [hct]; rfl) (by rw [HLK.out]; exact hp) HCJ.out HRJ.out)
              rw [hct] at HH
              clear ha hri
              go_wp2_with (first | (go_at_call 75; refine HH.out.mono ?_; rintro e w' ⟨rfl, rfl⟩) | (go_at_call 76; refine HG.out.mono ?_; intro e w5 hp2; have HZ := hdn (HE.out e w5 hp2); obtain ⟨rfl, _⟩ := hp2))
              go_roundw
              case rel => obtain ⟨R1, h1⟩ := HZ.out; exact HNX.out _ _ h1
              case measure => simp [intOf]; omega
        · obtain rfl : j = M := by omega
          have HN : Hid (LdI F w wr b g l.length R' ((loaded F l).take (k + 1))) := hdn (by rw [← HTK.out, ← HME.out]; exact HJ.out)
          clear HJ
          go_wp2_with fail
          go_roundw
          case rel => exact ⟨k + 1, _, by go_num, by omega, HN⟩
          case measure => simp [intOf]; omega
    · obtain rfl : k = l.length := by omega
      have HD : Hid (LoadP F w (loaded F l) (.returned (.pointer (some ⟨b, 0, none⟩))) wr) := hdn (by
        have h := HI.out
        rw [List.take_of_length_le (by simp [loaded])] at h
        exact h.done (by simp [loaded]))
      clear HI
      go_wp2_with fail
      go_ret
      exact HD.out
end Go.Proofs.YtebmhadpkncgfaaDoor
namespace Go.Proofs.YtebmhadpkncgfaaDoor
namespace Aw
namespace Ac
open Go
structure Opd where
  v : Int
  n : Int
  deriving DecidableEq
structure Acn where
  kind : Int
  x : Int
  y : Int
  f : Int
  t : Int
  pl : Int
  op : Int
  l : Opd
  r : Opd
  sense : Bool
  deriving DecidableEq
def Opd.zero : Opd := ⟨0, 0⟩
def Acn.zero : Acn := ⟨0, 0, 0, 0, 0, 0, 0, ⟨0, 0⟩, ⟨0, 0⟩, false⟩
def within (n lo hi : Int) : Bool := decide (lo ≤ n) && decide (n ≤ hi)
def opTk (o : Opd) : Bool × Opd := if o.v = -1 then (within o.n 0 999999999, ⟨0, 0⟩) else (within o.v 0 23 && decide (o.n = 0), ⟨0, o.n⟩)
/-- What each kind has, in the order of its text. -/
def formOf : Nat → List Nat
  | 0 => [8, 0, 0, 0, 0]
  | 1 => [1, 8, 0, 0, 0]
  | 2 => [1, 2, 8, 0, 0]
  | 3 => [1, 2, 6, 8, 0]
  | 4 => [1, 6, 8, 0, 0]
  | 5 => [1, 6, 2, 8, 0]
  | 6 => [1, 7, 8, 0, 0]
  | 7 => [1, 8, 0, 0, 0]
  | 8 => [3, 4, 13, 8, 0]
  | 9 => [13, 8, 0, 0, 0]
  | 10 => [5, 8, 0, 0, 0]
  | 11 => [5, 9, 11, 8, 0]
  | 12 => [9, 12, 10, 13, 8]
  | _ => []
def numOf (p : Nat) (a : Acn) : Int :=
  match p with
  | 1 => a.x
  | 3 => a.x
  | 5 => a.x
  | 2 => a.y
  | 4 => a.y
  | 6 => a.f
  | 7 => a.t
  | _ => a.pl
def setNum (p : Nat) (a : Acn) (n : Int) : Acn :=
  match p with
  | 1 => { a with x := n }
  | 3 => { a with x := n }
  | 5 => { a with x := n }
  | 2 => { a with y := n }
  | 4 => { a with y := n }
  | 6 => { a with f := n }
  | 7 => { a with t := n }
  | _ => { a with pl := n }
def loOf (p : Nat) : Int :=
  match p with
  | 3 => -1
  | 4 => -1
  | _ => 0
def hiOf (p : Nat) : Int :=
  match p with
  | 0 => 0
  | 1 => 23
  | 2 => 23
  | 3 => 23
  | 4 => 23
  | 5 => 23
  | 6 => 7
  | 7 => 7
  | _ => 65536
/-- The letter ahead of a number. -/
def sgOf (p : Nat) : UInt8 :=
  match p with
  | 5 => 105
  | 6 => 102
  | 7 => 115
  | 8 => 64
  | _ => 112
/-- A part is taken out: was it as it may be, and what is left. -/
def tk (p : Nat) (a : Acn) : Bool × Acn :=
  match p with
  | 0 => (true, a)
  | 9 => ((opTk a.l).1, { a with l := (opTk a.l).2 })
  | 10 => ((opTk a.r).1, { a with r := (opTk a.r).2 })
  | 11 => if within a.op 0 2 then (if a.op = 0 then (true, { a with op := 0 }) else ((opTk a.r).1, { a with op := 0, r := (opTk a.r).2 })) else (false, { a with op := 0 })
  | 12 => (within a.op 0 1, { a with op := 0 })
  | 13 => (true, { a with sense := false })
  | p => (within (numOf p a) (loOf p) (hiOf p), setNum p a 0)
def goR : List Nat → Acn → Bool
  | [], r => decide (r = Acn.zero)
  | p :: ps, r => (tk p r).1 && goR ps (tk p r).2
def rights (a : Acn) : Bool := decide (0 ≤ a.kind) && decide (a.kind < 13) && goR (formOf a.kind.toNat) { a with kind := 0 }
def wordOf : Nat → List UInt8
  | 0 => [115, 107, 105, 112]
  | 1 => [110, 117, 108, 108]
  | 2 => [99, 111, 112, 121]
  | 3 => [108, 111, 97, 100]
  | 4 => [99, 117, 116]
  | 5 => [108, 105, 110, 107]
  | 6 => [110, 101, 119]
  | 7 => [102, 114, 101, 101]
  | 8 => [115, 97, 109, 101]
  | 9 => [112, 105, 99, 107]
  | 10 => [116, 97, 107, 101]
  | 11 => [112, 117, 116]
  | 12 => [116, 101, 115, 116]
  | _ => []
def nullW : List UInt8 := [110, 117, 108, 108]
def yesW : List UInt8 := [121, 101, 115]
def noW : List UInt8 := [110, 111]
def sumOf : Int → List UInt8
  | 0 => []
  | 1 => [43]
  | _ => [45]
def ordOf : Int → List UInt8
  | 0 => [61, 61]
  | _ => [60]
def opT (o : Opd) : List UInt8 := if o.v < 0 then Lib.itoa o.n else 105 :: Lib.itoa o.v
def numT (p : Nat) (n : Int) : List UInt8 := if n < 0 then nullW else sgOf p :: Lib.itoa n
/-- The words of a part, a blank ahead of each. -/
def txt (p : Nat) (a : Acn) : List UInt8 :=
  match p with
  | 0 => []
  | 9 => 32 :: opT a.l
  | 10 => 32 :: opT a.r
  | 11 => if a.op = 0 then [] else 32 :: (sumOf a.op ++ 32 :: opT a.r)
  | 12 => 32 :: ordOf a.op
  | 13 => 32 :: (if a.sense then yesW else noW)
  | p => 32 :: numT p (numOf p a)
def txts : List Nat → Acn → List UInt8
  | [], _ => []
  | p :: ps, a => txt p a ++ txts ps a
def text (a : Acn) : List UInt8 := if rights a then wordOf a.kind.toNat ++ txts (formOf a.kind.toNat) a else []
/-- What stands ahead of the first blank, and behind it. -/
def cutAt : List UInt8 → List UInt8 × List UInt8
  | [] => ([], [])
  | c :: r => if c = 32 then ([], r) else (c :: (cutAt r).1, (cutAt r).2)
def atoiN (l : List UInt8) : Int :=
  match Lib.atoiAll l with
  | .ok v => v
  | .range => Lib.atoiSat l
  | _ => 0
def numberOf (w : List UInt8) : Int := if w = [] ∨ w = nullW then -1 else atoiN (w.drop 1)
def operandOf (w : List UInt8) : Opd := if w.head? = some 105 then ⟨numberOf w, 0⟩ else ⟨-1, atoiN w⟩
/-- A part is read: what is left of the text, and the action so far. -/
def rd (p : Nat) (s : List UInt8 × Acn) : List UInt8 × Acn :=
  match p with
  | 0 => s
  | 9 => ((cutAt s.1).2, { s.2 with l := operandOf (cutAt s.1).1 })
  | 10 => ((cutAt s.1).2, { s.2 with r := operandOf (cutAt s.1).1 })
  | 11 =>
    if s.1.head? = some 43 then ((cutAt (cutAt s.1).2).2, { s.2 with op := 1, r := operandOf (cutAt (cutAt s.1).2).1 })
    else if s.1.head? = some 45 then ((cutAt (cutAt s.1).2).2, { s.2 with op := 2, r := operandOf (cutAt (cutAt s.1).2).1 })
    else (s.1, { s.2 with op := 0 })
  | 12 => ((cutAt s.1).2, if (cutAt s.1).1 = [60] then { s.2 with op := 1 } else s.2)
  | 13 => ((cutAt s.1).2, { s.2 with sense := decide ((cutAt s.1).1 = yesW) })
  | p => ((cutAt s.1).2, setNum p s.2 (numberOf (cutAt s.1).1))
def rds : List Nat → List UInt8 × Acn → List UInt8 × Acn
  | [], s => s
  | p :: ps, s => rds ps (rd p s)
def kindGo (w : List UInt8) : Nat → Nat → Option Nat
  | 0, _ => none
  | n + 1, k => if wordOf k = w then some k else kindGo w n (k + 1)
def kindOf (w : List UInt8) : Option Nat := kindGo w 13 0
def guess (k : Nat) (s : List UInt8) : Acn := (rds (formOf k) ((cutAt s).2, { Acn.zero with kind := k })).2
def parse (s : List UInt8) : Option Acn :=
  match kindOf (cutAt s).1 with
  | none => none
  | some k => if text (guess k s) = s then some (guess k s) else none
def branch (a : Acn) : Bool := decide (a.kind = 8 ∨ a.kind = 9 ∨ a.kind = 12)
def needs (a : Acn) : Bool := decide (a.kind = 6 ∨ a.kind = 9 ∨ a.kind = 10)
def not (a : Acn) : Acn := if branch a then { a with sense := !a.sense } else a
/-! ### What follows -/
theorem not_not (a : Acn) : not (not a) = a := by
  unfold not
  by_cases h : branch a = true
  · have : branch { a with sense := !a.sense } = true := h
    rw [if_pos h, if_pos this]; simp
  · rw [if_neg h, if_neg h]
def nb (w : List UInt8) : Prop := ∀ c ∈ w, c ≠ 32
theorem nb_nil : nb [] := fun _ h => by cases h
theorem nb_cons {c : UInt8} {w : List UInt8} (h : c ≠ 32) (hw : nb w) : nb (c :: w) := by
  intro d hd
  rcases List.mem_cons.1 hd with rfl | hd
  · exact h
  · exact hw d hd
theorem cutAt_at {w : List UInt8} (r : List UInt8) (h : nb w) : cutAt (w ++ 32 :: r) = (w, r) := by
  induction w with
  | nil => simp [cutAt]
  | cons c w ih =>
    have h1 := ih (fun d hd => h d (List.mem_cons_of_mem _ hd))
    have h2 : c ≠ 32 := h c (List.mem_cons_self ..)
    simp [cutAt, h1, h2]
theorem cutAt_end {w : List UInt8} (h : nb w) : cutAt w = (w, []) := by
  induction w with
  | nil => simp [cutAt]
  | cons c w ih =>
    have h1 := ih (fun d hd => h d (List.mem_cons_of_mem _ hd))
    have h2 : c ≠ 32 := h c (List.mem_cons_self ..)
    simp [cutAt, h1, h2]
theorem digit_nat {k : Nat} (h : k < 10) : (UInt8.ofNat (48 + k)).toNat = 48 + k := by
  rw [UInt8.toNat_ofNat']; omega
theorem dec_digits : ∀ (u : Nat), ∀ c ∈ Lib.decDigits u, 48 ≤ c.toNat ∧ c.toNat ≤ 57 := by
  intro u
  induction u using Nat.strongRecOn with
  | _ u ih =>
    intro c hc
    rw [Lib.decDigits] at hc
    split at hc
    · rename_i h
      rw [List.mem_singleton] at hc
      subst hc
      rw [digit_nat h]; omega
    · rename_i h
      rcases List.mem_append.1 hc with hc | hc
      · exact ih (u / 10) (by omega) c hc
      · rw [List.mem_singleton] at hc
        subst hc
        rw [digit_nat (by omega)]; omega
theorem dec_ne (u : Nat) : Lib.decDigits u ≠ [] := by
  rw [Lib.decDigits]; split <;> simp
theorem decFrom_append : ∀ (l r : List UInt8) (acc : Nat), Lib.decFrom acc (l ++ r) = (Lib.decFrom acc l).bind fun n => Lib.decFrom n r
  | [], _, _ => rfl
  | c :: l, r, acc => by
    simp only [List.cons_append, Lib.decFrom]
    cases Lib.digitVal c with
    | none => rfl
    | some d => exact decFrom_append l r _
theorem decFrom_dec : ∀ (u : Nat), Lib.decFrom 0 (Lib.decDigits u) = some u := by
  intro u
  induction u using Nat.strongRecOn with
  | _ u ih =>
    have hv : ∀ k, k < 10 → Lib.digitVal (UInt8.ofNat (48 + k)) = some k := by
      intro k hk
      unfold Lib.digitVal
      rw [digit_nat hk, if_pos (by omega)]
      congr 1; omega
    rw [Lib.decDigits]
    split
    · rename_i h
      simp only [Lib.decFrom, hv u h]
      congr 1; omega
    · rename_i h
      rw [decFrom_append, ih (u / 10) (by omega)]
      simp only [Option.bind_some, Lib.decFrom, hv (u % 10) (by omega)]
      congr 1; omega
theorem dec_len (u : Nat) (h : u ≤ 999999999) : (Lib.decDigits u).length ≤ 18 := by
  rw [Lib.decDigits_length]
  by_cases h0 : u < 10
  · rw [Lib.nDigits_small h0]; omega
  by_cases h1 : u < 10 ^ 9
  · have : ∀ k, ∀ u, u < 10 ^ (k + 1) → Lib.nDigits u ≤ k + 1 := by
      intro k
      induction k with
      | zero => intro u hu; rw [Lib.nDigits_small (by simpa using hu)]; omega
      | succ k ih =>
        intro u hu
        by_cases hb : u < 10
        · rw [Lib.nDigits_small hb]; omega
        · rw [Lib.nDigits_big hb]
          have := ih (u / 10) (by rw [Nat.pow_succ] at hu; omega)
          omega
    have := this 8 u h1
    omega
  · omega
theorem itoa_of {n : Int} (h : 0 ≤ n) : Lib.itoa n = Lib.decDigits n.toNat := by unfold Lib.itoa; rw [if_neg (by omega)]
theorem atoiN_itoa {n : Int} (h : 0 ≤ n) (hn : n ≤ 999999999) : atoiN (Lib.itoa n) = n := by
  rw [itoa_of h]
  have hl := dec_len n.toNat (by omega)
  unfold atoiN
  rw [Lib.atoiAll_short _ hl]
  have hd := dec_digits n.toNat
  have hf := decFrom_dec n.toNat
  cases e : Lib.decDigits n.toNat with
  | nil => exact absurd e (dec_ne _)
  | cons c r =>
    rw [e] at hd hf
    have hc := hd c (List.mem_cons_self ..)
    have h45 : (c == 45) = false := by
      rw [beq_eq_false_iff_ne]; rintro rfl; exact absurd hc.1 (by decide)
    have h43 : (c == 43) = false := by
      rw [beq_eq_false_iff_ne]; rintro rfl; exact absurd hc.1 (by decide)
    simp only [Lib.atoi, h45, h43, Lib.decNat, List.isEmpty_cons, Bool.false_eq_true, if_false, hf, Option.map, Lib.NumEnd.ofOption]
    omega
theorem itoa_nb {n : Int} (h : 0 ≤ n) : nb (Lib.itoa n) := by
  rw [itoa_of h]
  intro c hc e
  have := dec_digits _ c hc
  rw [e] at this
  exact absurd this.1 (by decide)
theorem itoa_head {n : Int} (h : 0 ≤ n) {c : UInt8} (hc : c.toNat < 48 ∨ 57 < c.toNat) : (Lib.itoa n).head? ≠ some c := by
  rw [itoa_of h]
  intro e
  have := dec_digits _ c (List.mem_of_mem_head? (by rw [e]; rfl))
  omega
theorem null_nb : nb nullW := by intro c hc; simp [nullW] at hc; rcases hc with rfl | rfl | rfl <;> decide
theorem yes_nb : nb yesW := by intro c hc; simp [yesW] at hc; rcases hc with rfl | rfl | rfl <;> decide
theorem no_nb : nb noW := by intro c hc; simp [noW] at hc; rcases hc with rfl | rfl <;> decide
theorem sg_ne (p : Nat) : sgOf p ≠ 32 := by unfold sgOf; split <;> decide
theorem sg_null (p : Nat) : sgOf p ≠ 110 := by unfold sgOf; split <;> decide
theorem numT_nb (p : Nat) (n : Int) : nb (numT p n) := by
  unfold numT
  split
  · exact null_nb
  · exact nb_cons (sg_ne p) (itoa_nb (by omega))
theorem numberOf_numT (p : Nat) {n : Int} (h : -1 ≤ n) (hn : n ≤ 999999999) : numberOf (numT p n) = n := by
  unfold numT
  split
  · unfold numberOf; rw [if_pos (Or.inr rfl)]; omega
  · unfold numberOf
    rw [if_neg (by rintro (e | e) <;> injection e; rename_i e _; exact absurd e (sg_null p))]
    exact atoiN_itoa (by omega) hn
def opOk (o : Opd) : Bool := (opTk o).1 && decide ((opTk o).2 = ⟨0, 0⟩)
theorem opOk_cases {o : Opd} (h : opOk o = true) : (o.v = -1 ∧ 0 ≤ o.n ∧ o.n ≤ 999999999) ∨ (0 ≤ o.v ∧ o.v ≤ 23 ∧ o.n = 0) := by
  unfold opOk opTk within at h
  split at h
  · rename_i e; left; simp at h; exact ⟨e, h.1, h.2⟩
  · right; simp at h; exact ⟨h.1.1, h.1.2, h.2⟩
theorem opT_nb {o : Opd} (h : opOk o = true) : nb (opT o) := by
  unfold opT
  rcases opOk_cases h with ⟨h1, h2, _⟩ | ⟨h1, _⟩
  · rw [if_pos (by omega)]; exact itoa_nb h2
  · rw [if_neg (by omega)]; exact nb_cons (by decide) (itoa_nb h1)
theorem operandOf_opT {o : Opd} (h : opOk o = true) : operandOf (opT o) = o := by
  rcases opOk_cases h with ⟨h1, h2, h3⟩ | ⟨h1, h2, h3⟩
  · have e : opT o = Lib.itoa o.n := by unfold opT; rw [if_pos (by omega)]
    unfold operandOf
    rw [e, if_neg (itoa_head h2 (by decide)), atoiN_itoa h2 h3, ← h1]
  · have e : opT o = 105 :: Lib.itoa o.v := by unfold opT; rw [if_neg (by omega)]
    unfold operandOf
    rw [e, if_pos (show (105 :: Lib.itoa o.v).head? = some 105 from rfl)]
    unfold numberOf
    rw [if_neg (by rintro (e | e) <;> injection e; rename_i e _; exact absurd e (by decide))]
    show (⟨atoiN (Lib.itoa o.v), 0⟩ : Opd) = o
    rw [atoiN_itoa h1 (by omega), ← h3]
end Ac
end Aw
end Go.Proofs.YtebmhadpkncgfaaDoor
namespace Go.Proofs.YtebmhadpkncgfaaDoor
namespace Aw
namespace Ac
open Go
theorem word_nb (k : Nat) : nb (wordOf k) := by
  unfold wordOf nb
  split <;> decide
theorem kind_word (k : Nat) (h : k < 13) : kindOf (wordOf k) = some k := by
  match k, h with
  | 0, _ => decide
  | 1, _ => decide
  | 2, _ => decide
  | 3, _ => decide
  | 4, _ => decide
  | 5, _ => decide
  | 6, _ => decide
  | 7, _ => decide
  | 8, _ => decide
  | 9, _ => decide
  | 10, _ => decide
  | 11, _ => decide
  | 12, _ => decide
/-- Where a kind is told, its word stands there. -/
theorem kindGo_some : ∀ (w : List UInt8) (n k j : Nat), kindGo w n k = some j → k ≤ j ∧ j < k + n ∧ wordOf j = w
  | _, 0, _, _, h => by cases h
  | w, n + 1, k, j, h => by
    unfold kindGo at h
    split at h
    · injection h with h; subst h; rename_i e; exact ⟨by omega, by omega, e⟩
    · obtain ⟨h1, h2, h3⟩ := kindGo_some w n (k + 1) j h
      exact ⟨by omega, by omega, h3⟩
theorem wordOf_ne (k : Nat) (h : k < 13) : wordOf k ≠ [] := by
  match k, h with
  | 0, _ => decide
  | 1, _ => decide
  | 2, _ => decide
  | 3, _ => decide
  | 4, _ => decide
  | 5, _ => decide
  | 6, _ => decide
  | 7, _ => decide
  | 8, _ => decide
  | 9, _ => decide
  | 10, _ => decide
  | 11, _ => decide
  | 12, _ => decide
/-- One part that is a number, behind a blank, is read as it stands. -/
theorem rd_num (p : Nat) (hp : p = 1 ∨ p = 2 ∨ p = 3 ∨ p = 4 ∨ p = 5 ∨ p = 6 ∨ p = 7 ∨ p = 8) (n : Int) (h0 : -1 ≤ n) (h1 : n ≤ 999999999) (r : List UInt8) (b : Acn) :
    rd p (numT p n ++ 32 :: r, b) = (r, setNum p b n) := by
  have h2 := cutAt_at r (numT_nb p n)
  have h3 := numberOf_numT p h0 h1
  rcases hp with rfl | rfl | rfl | rfl | rfl | rfl | rfl | rfl <;> simp [rd, h2, h3]
theorem rd_end (p : Nat) (hp : p = 8) (n : Int) (h0 : -1 ≤ n) (h1 : n ≤ 999999999) (b : Acn) :
    rd p (numT p n, b) = ([], setNum p b n) := by
  have h2 := cutAt_end (numT_nb p n)
  have h3 := numberOf_numT p h0 h1
  subst hp
  simp [rd, h2, h3]
theorem rd_left (o : Opd) (h : opOk o = true) (r : List UInt8) (b : Acn) : rd 9 (opT o ++ 32 :: r, b) = (r, { b with l := o }) := by
  have h2 := cutAt_at r (opT_nb h)
  simp [rd, h2, operandOf_opT h]
theorem rd_right (o : Opd) (h : opOk o = true) (r : List UInt8) (b : Acn) : rd 10 (opT o ++ 32 :: r, b) = (r, { b with r := o }) := by
  have h2 := cutAt_at r (opT_nb h)
  simp [rd, h2, operandOf_opT h]
theorem rd_sense (s : Bool) (r : List UInt8) (b : Acn) : rd 13 ((if s then yesW else noW) ++ 32 :: r, b) = (r, { b with sense := s }) := by
  cases s
  · have h2 := cutAt_at r no_nb
    simp [rd, h2]; decide
  · have h2 := cutAt_at r yes_nb
    simp [rd, h2]
theorem rd_order (op : Int) (h0 : 0 ≤ op) (h1 : op ≤ 1) (r : List UInt8) (b : Acn) (hb : b.op = 0) : rd 12 (ordOf op ++ 32 :: r, b) = (r, { b with op := op }) := by
  have : op = 0 ∨ op = 1 := by omega
  rcases this with rfl | rfl
  · have h2 := cutAt_at (w := ordOf 0) r (by intro c hc; simp [ordOf] at hc; subst hc; decide)
    cases b
    simp only at hb
    subst hb
    simp only [rd, h2]
    rfl
  · have h2 := cutAt_at (w := ordOf 1) r (by intro c hc; simp [ordOf] at hc; subst hc; decide)
    simp only [rd, h2]
    rfl
theorem rd_more0 (n : Int) (b : Acn) (hn : 0 ≤ n) (hb : b.op = 0) : rd 11 (numT 8 n, b) = (numT 8 n, b) := by
  have h1 : (numT 8 n).head? = some 64 := by unfold numT; rw [if_neg (by omega)]; rfl
  cases b
  simp only at hb
  subst hb
  simp [rd, h1]
theorem rd_more (op : Int) (h0 : 1 ≤ op) (h1 : op ≤ 2) (o : Opd) (h : opOk o = true) (r : List UInt8) (b : Acn) :
    rd 11 (sumOf op ++ 32 :: (opT o ++ 32 :: r), b) = (r, { b with op := op, r := o }) := by
  have : op = 1 ∨ op = 2 := by omega
  have h2 := cutAt_at r (opT_nb h)
  have h3 := operandOf_opT h
  rcases this with rfl | rfl
  · have h4 : cutAt ([43] ++ 32 :: (opT o ++ 32 :: r)) = ([43], opT o ++ 32 :: r) := cutAt_at _ (by intro c hc; simp at hc; subst hc; decide)
    simp only [List.singleton_append] at h4
    simp [rd, sumOf, h4, h2, h3]
  · have h4 : cutAt ([45] ++ 32 :: (opT o ++ 32 :: r)) = ([45], opT o ++ 32 :: r) := cutAt_at _ (by intro c hc; simp at hc; subst hc; decide)
    simp only [List.singleton_append] at h4
    simp [rd, sumOf, h4, h2, h3]
/-- What a kind has may be, and nothing else is there: told by the kind. -/
theorem rights_k {a : Acn} (h : rights a = true) : 0 ≤ a.kind ∧ a.kind < 13 ∧ goR (formOf a.kind.toNat) { a with kind := 0 } = true := by
  unfold rights at h
  simp only [Bool.and_eq_true, decide_eq_true_eq] at h
  exact ⟨h.1.1, h.1.2, h.2⟩
theorem within_iff {n lo hi : Int} : within n lo hi = true ↔ lo ≤ n ∧ n ≤ hi := by
  unfold within; simp
theorem opTk_ok {o : Opd} (h1 : (opTk o).1 = true) (h2 : (opTk o).2 = ⟨0, 0⟩) : opOk o = true := by
  unfold opOk; simp [h1, h2]
theorem opTk_ok1 {o : Opd} (h1 : (opTk o).1 = true) : opOk o = true ∧ (opTk o).2 = ⟨0, 0⟩ := by
  have : (opTk o).2 = ⟨0, 0⟩ := by
    unfold opTk at h1 ⊢
    split
    · rfl
    · rename_i e; rw [if_neg e] at h1; simp at h1; simp [h1.2]
  exact ⟨opTk_ok h1 this, this⟩
theorem back_k (k : Nat) (hk : k < 13) (a : Acn) (ha : a.kind = k) (h : goR (formOf k) { a with kind := 0 } = true) :
    guess k (wordOf k ++ txts (formOf k) a) = a := by
  obtain ⟨kind, x, y, f, t, pl, op, l, r, sense⟩ := a
  simp only at ha
  subst ha
  unfold guess
  match k, hk with
  | 0, _ =>
    simp [formOf, goR, tk, numOf, setNum, loOf, hiOf, within_iff, Acn.zero, and_assoc] at h
    repeat (obtain ⟨_, h⟩ := h)
    subst_vars
    simp only [formOf, txts, txt, numOf, List.append_nil, cutAt_at _ (word_nb 0), rds, rd_end 8 rfl pl (by omega) (by omega)]
    simp [rd, setNum, Acn.zero]
  | 1, _ =>
    simp [formOf, goR, tk, numOf, setNum, loOf, hiOf, within_iff, Acn.zero, and_assoc] at h
    repeat (obtain ⟨_, h⟩ := h)
    subst_vars
    simp only [formOf, txts, txt, numOf, List.append_nil, List.cons_append, cutAt_at _ (word_nb 1), rds, rd_num 1 (by decide) x (by omega) (by omega), rd_end 8 rfl pl (by omega) (by omega)]
    simp [rd, setNum, Acn.zero]
  | 2, _ =>
    simp [formOf, goR, tk, numOf, setNum, loOf, hiOf, within_iff, Acn.zero, and_assoc] at h
    repeat (obtain ⟨_, h⟩ := h)
    subst_vars
    simp only [formOf, txts, txt, numOf, List.append_nil, List.cons_append, cutAt_at _ (word_nb 2), rds, rd_num 1 (by decide) x (by omega) (by omega), rd_num 2 (by decide) y (by omega) (by omega), rd_end 8 rfl pl (by omega) (by omega)]
    simp [rd, setNum, Acn.zero]
  | 3, _ =>
    simp [formOf, goR, tk, numOf, setNum, loOf, hiOf, within_iff, Acn.zero, and_assoc] at h
    repeat (obtain ⟨_, h⟩ := h)
    subst_vars
    simp only [formOf, txts, txt, numOf, List.append_nil, List.cons_append, cutAt_at _ (word_nb 3), rds, rd_num 1 (by decide) x (by omega) (by omega), rd_num 2 (by decide) y (by omega) (by omega), rd_num 6 (by decide) f (by omega) (by omega), rd_end 8 rfl pl (by omega) (by omega)]
    simp [rd, setNum, Acn.zero]
  | 4, _ =>
    simp [formOf, goR, tk, numOf, setNum, loOf, hiOf, within_iff, Acn.zero, and_assoc] at h
    repeat (obtain ⟨_, h⟩ := h)
    subst_vars
    simp only [formOf, txts, txt, numOf, List.append_nil, List.cons_append, cutAt_at _ (word_nb 4), rds, rd_num 1 (by decide) x (by omega) (by omega), rd_num 6 (by decide) f (by omega) (by omega), rd_end 8 rfl pl (by omega) (by omega)]
    simp [rd, setNum, Acn.zero]
  | 5, _ =>
    simp [formOf, goR, tk, numOf, setNum, loOf, hiOf, within_iff, Acn.zero, and_assoc] at h
    repeat (obtain ⟨_, h⟩ := h)
    subst_vars
    simp only [formOf, txts, txt, numOf, List.append_nil, List.cons_append, cutAt_at _ (word_nb 5), rds, rd_num 1 (by decide) x (by omega) (by omega), rd_num 6 (by decide) f (by omega) (by omega), rd_num 2 (by decide) y (by omega) (by omega), rd_end 8 rfl pl (by omega) (by omega)]
    simp [rd, setNum, Acn.zero]
  | 6, _ =>
    simp [formOf, goR, tk, numOf, setNum, loOf, hiOf, within_iff, Acn.zero, and_assoc] at h
    repeat (obtain ⟨_, h⟩ := h)
    subst_vars
    simp only [formOf, txts, txt, numOf, List.append_nil, List.cons_append, cutAt_at _ (word_nb 6), rds, rd_num 1 (by decide) x (by omega) (by omega), rd_num 7 (by decide) t (by omega) (by omega), rd_end 8 rfl pl (by omega) (by omega)]
    simp [rd, setNum, Acn.zero]
  | 7, _ =>
    simp [formOf, goR, tk, numOf, setNum, loOf, hiOf, within_iff, Acn.zero, and_assoc] at h
    repeat (obtain ⟨_, h⟩ := h)
    subst_vars
    simp only [formOf, txts, txt, numOf, List.append_nil, List.cons_append, cutAt_at _ (word_nb 7), rds, rd_num 1 (by decide) x (by omega) (by omega), rd_end 8 rfl pl (by omega) (by omega)]
    simp [rd, setNum, Acn.zero]
  | 8, _ =>
    simp [formOf, goR, tk, numOf, setNum, loOf, hiOf, within_iff, Acn.zero, and_assoc] at h
    repeat (obtain ⟨_, h⟩ := h)
    subst_vars
    simp only [formOf, txts, txt, numOf, List.append_nil, List.cons_append, cutAt_at _ (word_nb 8), rds, rd_num 3 (by decide) x (by omega) (by omega), rd_num 4 (by decide) y (by omega) (by omega), rd_sense sense, rd_end 8 rfl pl (by omega) (by omega)]
    simp [rd, setNum, Acn.zero]
  | 9, _ =>
    simp [formOf, goR, tk, numOf, setNum, loOf, hiOf, within_iff, Acn.zero, and_assoc] at h
    repeat (obtain ⟨_, h⟩ := h)
    subst_vars
    simp only [formOf, txts, txt, numOf, List.append_nil, List.cons_append, cutAt_at _ (word_nb 9), rds, rd_sense sense, rd_end 8 rfl pl (by omega) (by omega)]
    simp [rd, setNum, Acn.zero]
  | 10, _ =>
    simp [formOf, goR, tk, numOf, setNum, loOf, hiOf, within_iff, Acn.zero, and_assoc] at h
    repeat (obtain ⟨_, h⟩ := h)
    subst_vars
    simp only [formOf, txts, txt, numOf, List.append_nil, List.cons_append, cutAt_at _ (word_nb 10), rds, rd_num 5 (by decide) x (by omega) (by omega), rd_end 8 rfl pl (by omega) (by omega)]
    simp [rd, setNum, Acn.zero]
  | 11, _ =>
    by_cases h0 : op = 0
    · subst h0
      simp [formOf, goR, tk, numOf, setNum, loOf, hiOf, within_iff, Acn.zero, and_assoc] at h
      repeat (obtain ⟨_, h⟩ := h)
      subst_vars
      have hl : opOk l = true := opTk_ok ‹_› ‹_›
      simp only [formOf, txts, txt, numOf, if_true, List.append_nil, List.cons_append, List.nil_append, cutAt_at _ (word_nb 11), rds, rd_num 5 (by decide) x (by omega) (by omega), rd_left l hl, setNum]
      rw [rd_more0 pl _ (by omega) rfl, rd_end 8 rfl pl (by omega) (by omega)]
      simp [rd, setNum, Acn.zero]
    · by_cases hw : within op 0 2 = true
      · simp [formOf, goR, tk, numOf, setNum, loOf, hiOf, hw, h0, Acn.zero] at h
        simp only [within_iff] at h hw
        simp only [and_assoc] at h
        repeat (obtain ⟨_, h⟩ := h)
        obtain ⟨hw1, hw2⟩ := hw
        subst_vars
        have hl : opOk l = true := opTk_ok ‹_› ‹_›
        have hr : opOk r = true := opTk_ok ‹_› ‹_›
        simp only [formOf, txts, txt, numOf, if_neg h0, List.append_nil, List.cons_append, List.append_assoc, cutAt_at _ (word_nb 11), rds, rd_num 5 (by decide) x (by omega) (by omega), rd_left l hl, rd_more op (by omega) hw2 r hr, rd_end 8 rfl pl (by omega) (by omega)]
        simp [rd, setNum, Acn.zero]
      · simp [formOf, goR, tk, numOf, setNum, loOf, hiOf, hw] at h
  | 12, _ =>
    simp [formOf, goR, tk, numOf, setNum, loOf, hiOf, within_iff, Acn.zero, and_assoc] at h
    repeat (obtain ⟨_, h⟩ := h)
    subst_vars
    have hl : opOk l = true := opTk_ok ‹_› ‹_›
    have hr : opOk r = true := opTk_ok ‹_› ‹_›
    simp only [formOf, txts, txt, numOf, Acn.zero, List.append_nil, List.cons_append, cutAt_at _ (word_nb 12), rds, rd_left l hl, rd_order op (by omega) (by omega), rd_right r hr, rd_sense sense, rd_end 8 rfl pl (by omega) (by omega)]
    simp [setNum]
theorem back (a : Acn) (h : rights a = true) : parse (text a) = some a := by
  obtain ⟨h1, h2, h3⟩ := rights_k h
  obtain ⟨k, hk⟩ : ∃ k : Nat, a.kind = k := ⟨a.kind.toNat, by omega⟩
  have e : a.kind.toNat = k := by omega
  have hk' : k < 13 := by omega
  rw [e] at h3
  have hb := back_k k hk' a hk h3
  have ht : text a = wordOf k ++ txts (formOf k) a := by unfold text; rw [if_pos h, e]
  have hc : ∃ r, txts (formOf k) a = 32 :: r := by
    match k, hk' with
    | 0, _ => exact ⟨_, rfl⟩
    | 1, _ => exact ⟨_, rfl⟩
    | 2, _ => exact ⟨_, rfl⟩
    | 3, _ => exact ⟨_, rfl⟩
    | 4, _ => exact ⟨_, rfl⟩
    | 5, _ => exact ⟨_, rfl⟩
    | 6, _ => exact ⟨_, rfl⟩
    | 7, _ => exact ⟨_, rfl⟩
    | 8, _ => exact ⟨_, rfl⟩
    | 9, _ => exact ⟨_, rfl⟩
    | 10, _ => exact ⟨_, rfl⟩
    | 11, _ => exact ⟨_, rfl⟩
    | 12, _ => exact ⟨_, rfl⟩
  obtain ⟨r, hr⟩ := hc
  unfold parse
  have hw : (cutAt (text a)).1 = wordOf k := by rw [ht, hr, cutAt_at _ (word_nb k)]
  have hg : guess k (text a) = a := by rw [ht]; exact hb
  rw [hw, kind_word k hk']
  show (if text (guess k (text a)) = text a then some (guess k (text a)) else none) = some a
  rw [hg, if_pos rfl]
theorem text_ne (a : Acn) : text a = [] ↔ rights a = false := by
  unfold text
  by_cases h : rights a = true
  · rw [if_pos h]
    obtain ⟨h1, h2, _⟩ := rights_k h
    have := wordOf_ne a.kind.toNat (by omega)
    simp [h, this]
  · rw [if_neg h]; simpa using h
theorem parse_nil : parse [] = none := by decide
theorem parse_some {s : List UInt8} {c : Acn} (h : parse s = some c) : text c = s ∧ rights c = true := by
  have h0 : s ≠ [] := by rintro rfl; rw [parse_nil] at h; cases h
  unfold parse at h
  split at h
  · cases h
  · split at h
    · injection h with h
      rename_i e
      rw [h] at e
      refine ⟨e, ?_⟩
      cases hr : rights c
      · exact absurd ((text_ne c).2 hr) (by rw [e]; exact h0)
      · rfl
    · cases h
end Ac
end Aw
end Go.Proofs.YtebmhadpkncgfaaDoor
namespace Go.Proofs.YtebmhadpkncgfaaDoor
namespace Aw
namespace Ac
open Go
/-- Which things a kind has: X, Y, F, T, Op, L, R, Sense. -/
def hasOf (k op : Int) : Bool × Bool × Bool × Bool × Bool × Bool × Bool × Bool :=
  if k = 1 ∨ k = 7 ∨ k = 10 then (true, false, false, false, false, false, false, false)
  else if k = 2 then (true, true, false, false, false, false, false, false)
  else if k = 3 ∨ k = 5 then (true, true, true, false, false, false, false, false)
  else if k = 4 then (true, false, true, false, false, false, false, false)
  else if k = 6 then (true, false, false, true, false, false, false, false)
  else if k = 8 then (true, true, false, false, false, false, false, true)
  else if k = 9 then (false, false, false, false, false, false, false, true)
  else if k = 11 then (true, false, false, false, true, true, decide (0 < op), false)
  else if k = 12 then (false, false, false, false, true, true, true, true)
  else (false, false, false, false, false, false, false, false)
def numB (n lim : Int) : Bool := decide (0 ≤ n) && decide (n < lim)
def operB (o : Opd) : Bool := if o.v = -1 then decide (0 ≤ o.n) && decide (o.n ≤ 999999999) else numB o.v 24 && decide (o.n = 0)
def xB (h : Bool) (lo x : Int) : Bool := (!h && decide (x = 0)) || (h && decide (lo ≤ x) && decide (x < 24))
def fB (h : Bool) (x lim : Int) : Bool := (!h && decide (x = 0)) || (h && numB x lim)
def oB (h : Bool) (o : Opd) : Bool := (!h && decide (o = ⟨0, 0⟩)) || (h && operB o)
def leastOf (k : Int) : Int := if k = 8 then -1 else 0
def mostOf (k : Int) : Int := if k = 12 then 2 else 3
def rRight (a : Acn) : Bool :=
  if a.kind < 0 ∨ 12 < a.kind ∨ a.pl < 0 ∨ 65536 < a.pl then false
  else
    let h := hasOf a.kind a.op
    xB h.1 (leastOf a.kind) a.x && xB h.2.1 (leastOf a.kind) a.y && fB h.2.2.1 a.f 8 && fB h.2.2.2.1 a.t 8 && fB h.2.2.2.2.1 a.op (mostOf a.kind)
      && oB h.2.2.2.2.2.1 a.l && oB h.2.2.2.2.2.2.1 a.r && (h.2.2.2.2.2.2.2 || !a.sense)
theorem operB_iff (o : Opd) : operB o = (opTk o).1 := by
  unfold operB opTk within numB
  split
  · rfl
  · rw [Bool.eq_iff_iff]; simp; omega
theorem opTk_zero {o : Opd} (h : (opTk o).1 = true) : (opTk o).2 = ⟨0, 0⟩ := (opTk_ok1 h).2
theorem b_and {a b : Bool} {P : Prop} [Decidable P] (h : a = true → P) : (a = true ∧ P ∧ b = true ↔ a = true ∧ b = true) := ⟨fun x => ⟨x.1, x.2.2⟩, fun x => ⟨x.1, h x.1, x.2⟩⟩
theorem right_k (k : Nat) (hk : k < 13) (a : Acn) (ha : a.kind = k) : rRight a = goR (formOf k) { a with kind := 0 } := by
  obtain ⟨kind, x, y, f, t, pl, op, l, r, sense⟩ := a
  simp only at ha
  subst ha
  have hl := @opTk_zero l
  have hr := @opTk_zero r
  match k, hk with
  | 0, _ =>
    rw [Bool.eq_iff_iff]
    simp [rRight, hasOf, formOf, goR, tk, numOf, setNum, loOf, hiOf, within_iff, Acn.zero, xB, fB, oB, numB, leastOf, mostOf, operB_iff]
    grind
  | 1, _ =>
    rw [Bool.eq_iff_iff]
    simp [rRight, hasOf, formOf, goR, tk, numOf, setNum, loOf, hiOf, within_iff, Acn.zero, xB, fB, oB, numB, leastOf, mostOf, operB_iff]
    grind
  | 2, _ =>
    rw [Bool.eq_iff_iff]
    simp [rRight, hasOf, formOf, goR, tk, numOf, setNum, loOf, hiOf, within_iff, Acn.zero, xB, fB, oB, numB, leastOf, mostOf, operB_iff]
    grind
  | 3, _ =>
    rw [Bool.eq_iff_iff]
    simp [rRight, hasOf, formOf, goR, tk, numOf, setNum, loOf, hiOf, within_iff, Acn.zero, xB, fB, oB, numB, leastOf, mostOf, operB_iff]
    grind
  | 4, _ =>
    rw [Bool.eq_iff_iff]
    simp [rRight, hasOf, formOf, goR, tk, numOf, setNum, loOf, hiOf, within_iff, Acn.zero, xB, fB, oB, numB, leastOf, mostOf, operB_iff]
    grind
  | 5, _ =>
    rw [Bool.eq_iff_iff]
    simp [rRight, hasOf, formOf, goR, tk, numOf, setNum, loOf, hiOf, within_iff, Acn.zero, xB, fB, oB, numB, leastOf, mostOf, operB_iff]
    grind
  | 6, _ =>
    rw [Bool.eq_iff_iff]
    simp [rRight, hasOf, formOf, goR, tk, numOf, setNum, loOf, hiOf, within_iff, Acn.zero, xB, fB, oB, numB, leastOf, mostOf, operB_iff]
    grind
  | 7, _ =>
    rw [Bool.eq_iff_iff]
    simp [rRight, hasOf, formOf, goR, tk, numOf, setNum, loOf, hiOf, within_iff, Acn.zero, xB, fB, oB, numB, leastOf, mostOf, operB_iff]
    grind
  | 8, _ =>
    rw [Bool.eq_iff_iff]
    simp [rRight, hasOf, formOf, goR, tk, numOf, setNum, loOf, hiOf, within_iff, Acn.zero, xB, fB, oB, numB, leastOf, mostOf, operB_iff]
    grind
  | 9, _ =>
    rw [Bool.eq_iff_iff]
    simp [rRight, hasOf, formOf, goR, tk, numOf, setNum, loOf, hiOf, within_iff, Acn.zero, xB, fB, oB, numB, leastOf, mostOf, operB_iff]
    grind
  | 10, _ =>
    rw [Bool.eq_iff_iff]
    simp [rRight, hasOf, formOf, goR, tk, numOf, setNum, loOf, hiOf, within_iff, Acn.zero, xB, fB, oB, numB, leastOf, mostOf, operB_iff]
    grind
  | 11, _ =>
    rw [Bool.eq_iff_iff]
    by_cases h0 : op = 0
    · subst h0
      simp [rRight, hasOf, formOf, goR, tk, numOf, setNum, loOf, hiOf, within_iff, Acn.zero, xB, fB, oB, numB, leastOf, mostOf, operB_iff]
      grind
    · by_cases hw : within op 0 2 = true
      · have hw' := within_iff.1 hw
        have hp : 0 < op := by omega
        simp [rRight, hasOf, formOf, goR, tk, numOf, setNum, loOf, hiOf, hw, h0, hp, within_iff, Acn.zero, xB, fB, oB, numB, leastOf, mostOf, operB_iff]
        grind
      · have hw' : ¬ (0 ≤ op ∧ op ≤ 2) := fun e => hw (within_iff.2 e)
        simp [rRight, hasOf, formOf, goR, tk, numOf, setNum, loOf, hiOf, hw, Acn.zero, xB, fB, oB, numB, leastOf, mostOf, operB_iff]
        grind
  | 12, _ =>
    rw [Bool.eq_iff_iff]
    simp [rRight, hasOf, formOf, goR, tk, numOf, setNum, loOf, hiOf, within_iff, Acn.zero, xB, fB, oB, numB, leastOf, mostOf, operB_iff]
    grind
theorem right_eq (a : Acn) : rRight a = rights a := by
  by_cases h : 0 ≤ a.kind ∧ a.kind < 13
  · obtain ⟨k, hk⟩ : ∃ k : Nat, a.kind = k := ⟨a.kind.toNat, by omega⟩
    rw [right_k k (by omega) a hk]
    unfold rights
    have e : a.kind.toNat = k := by omega
    simp [h, e]
  · unfold rights rRight
    rw [if_pos (by omega)]
    by_cases h1 : 0 ≤ a.kind
    · have h2 : ¬ a.kind < 13 := fun e => h ⟨h1, e⟩
      simp [h1, h2]
    · simp [h1]
end Ac
end Aw
end Go.Proofs.YtebmhadpkncgfaaDoor
