/-
  DERIVED. The document's heap: Free.
-/
import Derived.Test.YtocgallcmgnmgaaJd
import Derived.IntWalk
namespace Go.Proofs.Ytocgallcmgnmgaa
open Go.RowKit Go.Maps

theorem Out.free {F : Nat} {wX : World} {N : Nat → Prop} {v : Value} {cs : List PC} (h : Out F wX N v cs) (hF : F ≤ maxLen) {i : Nat} {x : PC} (hi : cs[i]? = some x) :
    ∃ g cap q0, v = .slice (some ⟨g, 0, none⟩) cs.length cap ∧ wX.cell? ⟨g, i * 3 + 1, none⟩ = some (.bool x.fr) ∧ wX.cell? ⟨g, i * 3 + 2, none⟩ = some q0 ∧ (∀ j, wX.frozen? ⟨g, j, none⟩ = false) ∧ N g ∧ g < wX.heap.size ∧
      Gr wX (((wX.setCell ⟨g, i * 3 + 1, none⟩ (.bool true)).alloc (.cells (ints (zeros F)).toArray 3)).setCell ⟨g, i * 3 + 2, none⟩ (.slice (some ⟨wX.heap.size, 0, none⟩) F F)) (fun k => k = g) ∧ Out F (((wX.setCell ⟨g, i * 3 + 1, none⟩ (.bool true)).alloc (.cells (ints (zeros F)).toArray 3)).setCell ⟨g, i * 3 + 2, none⟩ (.slice (some ⟨wX.heap.size, 0, none⟩) F F)) (fun k => N k ∨ k = wX.heap.size) v (cs.set i (freed F x)) := by
  obtain ⟨g, cap, cur, fm, hv, ha⟩ := Out.sl h hi
  have hil : i < cs.length := (List.getElem?_eq_some_iff.1 hi).1
  have hs : (wX.setCell ⟨g, i * 3 + 1, none⟩ (.bool true)).heap.size = wX.heap.size := by simp [World.setCell]
  have hcs : i * 3 + 3 ≤ cur.size := by
    have h1 := ha.size; have h2 := ha.room
    have : (CellK F).sz = 3 := rfl
    rw [this] at h1
    have := Nat.mul_le_mul_right 3 (Nat.le_trans (Nat.succ_le_of_lt hil) h2)
    omega
  have hgl := ha.row.lt
  have hgr : Gr wX (((wX.setCell ⟨g, i * 3 + 1, none⟩ (.bool true)).alloc (.cells (ints (zeros F)).toArray 3)).setCell ⟨g, i * 3 + 2, none⟩ (.slice (some ⟨wX.heap.size, 0, none⟩) F F)) (fun k => k = g) := (((Gr.refl wX (fun k => k = g)).setCell (p := ⟨g, i * 3 + 1, none⟩) (fun _ => rfl) _).alloc _).setCell (p := ⟨g, i * 3 + 2, none⟩) (fun _ => rfl) _
  have b6 : Bk (wX.setCell ⟨g, i * 3 + 1, none⟩ (.bool true)) g 46 (cur.setIfInBounds (i * 3 + 1) (.bool true)) := ha.row.set_ _ _
  have b7 := b6.below (alloc_below _ (.cells (ints (zeros F)).toArray 3)) b6.lt
  have hz : Bk ((wX.setCell ⟨g, i * 3 + 1, none⟩ (.bool true)).alloc (.cells (ints (zeros F)).toArray 3)) wX.heap.size 3 (ints (zeros F)).toArray := by rw [← hs]; exact (MapKept.heap_alloc _ _).1
  have hz2 : Bk (((wX.setCell ⟨g, i * 3 + 1, none⟩ (.bool true)).alloc (.cells (ints (zeros F)).toArray 3)).setCell ⟨g, i * 3 + 2, none⟩ (.slice (some ⟨wX.heap.size, 0, none⟩) F F)) wX.heap.size 3 (ints (zeros F)).toArray := hz.far (by show wX.heap.size ≠ g; omega) _
  refine ⟨g, cap, _, hv, ha.at_cell hi 1 _ rfl, ha.at_cell hi 2 _ rfl, fun j => ha.row.frozen j, ha.mine, hgl, hgr, fun k hk => ?_, .inr ⟨g, cap, _, _, by rw [List.length_set]; exact hv, ha.put (b' := .slice (some ⟨wX.heap.size, 0, none⟩) F F) hi hgr (b7.set_ _ _) (by simp) (fun j hj => ?_) (fun j hj => ?_) ⟨by simp [freed, zeros], ownsRow_new (c := freed F x) hz2 (by simp [freed, zeros]) hF, by intro e; cases e⟩ (fun k _ hk => .inl hk) (fun _ h => .inl h) h.1 (.inr (.inr ⟨wX.heap.size, rfl, Nat.le_refl _, .inr rfl⟩))⟩⟩
  · rcases hk with hk | hk
    · exact Nat.lt_of_lt_of_le (h.1 k hk) hgr.size
    · rw [hk]; exact hz2.lt
  · have hj3 : j < 3 := hj
    show (Array.setIfInBounds _ _ _)[i * 3 + j]? = ([.int .i64 x.ty, .bool true, .slice (some ⟨wX.heap.size, 0, none⟩) F F] : List Value)[j]?
    match j, hj3 with
    | 0, _ =>
      rw [Array.getElem?_setIfInBounds, if_neg (by omega), Array.getElem?_setIfInBounds, if_neg (by omega)]
      exact ha.cell i x hi 0 (show 0 < 3 by decide)
    | 1, _ => rw [Array.getElem?_setIfInBounds, if_neg (by omega), Array.getElem?_setIfInBounds, if_pos rfl, if_pos (by omega)]; rfl
    | 2, _ => rw [Array.getElem?_setIfInBounds, if_pos rfl, if_pos (by simp; omega)]; rfl
  · have hj' : j < i * 3 ∨ i * 3 + 3 ≤ j := hj
    rw [Array.getElem?_setIfInBounds, if_neg (by omega), Array.getElem?_setIfInBounds, if_neg (by omega)]
set_option maxHeartbeats 3200000 in
set_option maxRecDepth 100000 in
theorem refFree_any (F : Nat) (N : Nat → Prop) (cs : List PC) (v : Value) (c : Int) (w : World) (h : Out F w N v cs) (hF : F ≤ 2000000) (hn : cs.length ≤ 2000000) :
    Calls Try.prog 24 #[.agg (RefA F v), .int .i64 c] w (RefQ F w N (freeC F cs c) (freeE cs c)) := by
  have hfr := FrA.start F w v
  have hN : ∀ b, N b → (N b ∨ w.heap.size ≤ b) ∧ b ≠ w.heap.size + 1 := fun b hb => ⟨.inl hb, by have := h.1 b hb; omega⟩
  have HFR := Lib.hid hfr
  have HH := Lib.hid h
  have HN := Lib.hid hN
  have HFA := Lib.hid (fault_any F N cs v c _ (Kin.Lie.below h hfr.below) hn)
  obtain ⟨pv, cv, rfl⟩ := h.form
  rcases fault_ways cs c with ⟨_, hf⟩ | ⟨i, x, rfl, hi, hil, hw⟩
  · rw [freeC_no F cs c (by rw [hf]; decide), freeE_of hf, if_neg (by decide)]
    rw [hf] at HFA
    clear h hf hfr hN
    go_enter Try.func24, Try.ntmps24
    go_wp2_with (first | ((with_reducible show wpList _ _ _ (Oper.mk (some 7) _ _ _ _ _ :: _) _ _); refine wpList_load_bk rfl 29 (.tmp 2) rfl w.heap.size 29 (RefA F (.slice pv cs.length cv)) rfl _ HFR.out.box Try.underlying29 rfl size29 ?_))
    generalize (w.alloc (.cells (RefA F (.slice pv cs.length cv)) 29)).alloc (.cells #[.int .i64 0, .slice none 0 0, .bool false] 29) = w1 at HFR HFA ⊢
    refine HFA.out.mono ?_; rintro e w2 ⟨rfl, hb2⟩
    have HF2 := Lib.hid (HFR.out.go hb2)
    have HR2 := Lib.hid HF2.out.res
    have HO2 := Lib.hid (Kin.Lie.below HH.out HF2.out.below)
    clear hb2 HFA HFR
    go_wp2_with (first | ((with_reducible show wpList _ _ _ (Oper.mk (some 12) _ _ _ _ _ :: _) _ _); refine wpList_load_bk rfl 29 (.tmp 2) rfl w.heap.size 29 (RefA F (.slice pv cs.length cv)) rfl _ HF2.out.box Try.underlying29 rfl size29 ?_) | ((with_reducible show wpList _ _ _ (Oper.mk none (Op.store 29 _ _) _ _ _ _ :: _) _ _); refine wpList_store_part rfl 29 (.tmp 4) (.tmp 12) rfl (w.heap.size + 1) 0 29 _ (RefA F (.slice pv cs.length cv)) rfl rfl HR2.out size29 (by simp) (HO2.out.oneA) ?_; intro wz cur q1 q2 q3 q4 q5; obtain ⟨y1, y2⟩ := ref_ret (N := N) (n := 1) HF2.out HO2.out HN.out q1 q2 q3 q5; have Y1 := Lib.hid y1; have Y2 := Lib.hid y2; clear q1 q2 q3 q4 q5 y1 y2))
    exact bodyPost_ret (results_heap Try.results24 rfl rfl Y1.out) rfl Y2.out
  · rcases hw with ⟨hx, hf⟩ | ⟨hx, hf⟩
    · rw [freeC_no F cs _ (by rw [hf]; decide), freeE_of hf, if_pos rfl]
      rw [hf] at HFA
      clear h hf hfr hN hx hi
      go_enter Try.func24, Try.ntmps24
      go_wp2_with (first | ((with_reducible show wpList _ _ _ (Oper.mk (some 7) _ _ _ _ _ :: _) _ _); refine wpList_load_bk rfl 29 (.tmp 2) rfl w.heap.size 29 (RefA F (.slice pv cs.length cv)) rfl _ HFR.out.box Try.underlying29 rfl size29 ?_))
      generalize (w.alloc (.cells (RefA F (.slice pv cs.length cv)) 29)).alloc (.cells #[.int .i64 0, .slice none 0 0, .bool false] 29) = w1 at HFR HFA ⊢
      refine HFA.out.mono ?_; rintro e w2 ⟨rfl, hb2⟩
      have HF2 := Lib.hid (HFR.out.go hb2)
      have HR2 := Lib.hid HF2.out.res
      have HO2 := Lib.hid (Kin.Lie.below HH.out HF2.out.below)
      clear hb2 HFA HFR
      go_wp2_with (first | ((with_reducible show wpList _ _ _ (Oper.mk (some 15) _ _ _ _ _ :: _) _ _); refine wpList_load_bk rfl 29 (.tmp 2) rfl w.heap.size 29 (RefA F (.slice pv cs.length cv)) rfl _ HF2.out.box Try.underlying29 rfl size29 ?_) | ((with_reducible show wpList _ _ _ (Oper.mk none (Op.store 29 _ _) _ _ _ _ :: _) _ _); refine wpList_store_part rfl 29 (.tmp 4) (.tmp 15) rfl (w.heap.size + 1) 0 29 _ (RefA F (.slice pv cs.length cv)) rfl rfl HR2.out size29 (by simp) (HO2.out.oneA) ?_; intro wz cur q1 q2 q3 q4 q5; obtain ⟨y1, y2⟩ := ref_ret (N := N) (n := 3) HF2.out HO2.out HN.out q1 q2 q3 q5; have Y1 := Lib.hid y1; have Y2 := Lib.hid y2; clear q1 q2 q3 q4 q5 y1 y2))
      exact bodyPost_ret (results_heap Try.results24 rfl rfl Y1.out) rfl Y2.out
    · rw [freeC_at F cs i x hi hx, freeE_of hf, if_neg (by decide)]
      rw [hf] at HFA
      have HOW := Lib.hid (fun (w3 : World) (hb : Below w.heap.size w w3) => own_any F N cs (.slice pv cs.length cv) w3 (Kin.Lie.below HH.out hb) hF hn)
      have HI := Lib.hid hi
      have hi1 : ((i : Int) + 1 - 1) = (i : Int) := by omega
      have hi2 : (i : Int) < (cs.length : Int) := by omega
      have hi0 : (0 : Int) ≤ (i : Int) := Int.natCast_nonneg _
      have hiB : (i : Int) ≤ 2000000 := by omega
      clear hf h hx hi hfr hN
      go_enter Try.func24, Try.ntmps24
      go_wp2_with (first | ((with_reducible show wpList _ _ _ (Oper.mk (some 7) _ _ _ _ _ :: _) _ _); refine wpList_load_bk rfl 29 (.tmp 2) rfl w.heap.size 29 (RefA F (.slice pv cs.length cv)) rfl _ HFR.out.box Try.underlying29 rfl size29 ?_))
      generalize (w.alloc (.cells (RefA F (.slice pv cs.length cv)) 29)).alloc (.cells #[.int .i64 0, .slice none 0 0, .bool false] 29) = w1 at HFR HFA ⊢
      refine HFA.out.mono ?_; rintro e w2 ⟨rfl, hb2⟩
      have HF2 := Lib.hid (HFR.out.go hb2)
      have HR2 := Lib.hid HF2.out.res
      have HO2 := Lib.hid (Kin.Lie.below HH.out HF2.out.below)
      clear hb2 HFA HFR
      have HOW3 := Lib.hid (HOW.out w2 HF2.out.below)
      clear HO2 HR2
      go_wp2_with (first | ((with_reducible show wpList _ _ _ (Oper.mk (some 16) _ _ _ _ _ :: _) _ _); refine wpList_load_bk rfl 29 (.tmp 2) rfl w.heap.size 29 (RefA F (.slice pv cs.length cv)) rfl _ HF2.out.box Try.underlying29 rfl size29 ?_))
      refine HOW3.out.mono ?_; rintro e w4 ⟨v4, N4, rfl, ho4, hn4, hb4⟩
      have HF4 := Lib.hid (HF2.out.go hb4)
      have HO4 := Lib.hid ho4
      have HN4 : Hid (∀ b, N4 b → w.heap.size + 2 ≤ b) := Lib.hid (fun b hb => by have := hn4 b hb; have := HF2.out.res.lt; omega)
      clear ho4 hn4 hb4
      go_upto_region 7 with (first | ((with_reducible show wpList _ _ _ (Oper.mk none (Op.store _ _ _) _ _ _ _ :: _) _ _); refine wpList_store_new rfl 29 (.tmp 6) (.tmp 17) rfl _ (RefA F v4) rfl rfl size29 rfl HO4.out.oneA ?_))
      have hbX := alloc_below w4 (.cells (RefA F v4) 29)
      have HFX := Lib.hid (HF4.out.go hbX)
      have HOX : Hid (Out F (w4.alloc (.cells (RefA F v4) 29)) N4 v4 cs) := Lib.hid (Kin.Lie.below HO4.out hbX)
      have HOO : Hid (Bk (w4.alloc (.cells (RefA F v4) 29)) w4.heap.size 29 (RefA F v4)) := Lib.hid (MapKept.heap_alloc w4 _).1
      have HON : Hid (∀ b, N4 b → b ≠ w4.heap.size) := Lib.hid (fun b hb e => by have := HO4.out.1 b hb; omega)
      generalize w4.alloc (.cells (RefA F v4) 29) = wX at HFX HOX HOO ⊢
      generalize w4.heap.size = O at HOO HON ⊢
      clear hbX
      obtain ⟨g, cp, q0, rfl, p1, p2, p3, p4, p5, p6, p7⟩ := Out.free HOX.out (by unfold maxLen; omega) HI.out
      have hmk := fun w => make44 F w hF
      have o1 := HOO.out.cell 1
      have hg1 : g ≠ O := HON.out g p4
      have hg2 : w.heap.size + 2 ≤ g := HN4.out g p4
      have f1 := p3 (i * 3 + 1)
      have hs : (wX.setCell ⟨g, i * 3 + 1, none⟩ (.bool true)).heap.size = wX.heap.size := by simp [World.setCell]
      have hbox : Bk (wX.setCell ⟨g, i * 3 + 1, none⟩ (.bool true)) w.heap.size 29 _ := HFX.out.box.far (by show w.heap.size ≠ g; omega) _
      have hOo : Bk (wX.setCell ⟨g, i * 3 + 1, none⟩ (.bool true)) O 29 _ := HOO.out.far (by show O ≠ g; exact fun e => hg1 e.symm) _
      have G7 := Lib.hid p6
      have HO7 := Lib.hid p7
      clear p6 p7
      go_upto_region 8 with fail
      have hcell : (wX.setCell ⟨g, i * 3 + 1, none⟩ (.bool true)).cell? ⟨g, i * 3 + 2, none⟩ = some q0 := (World.cell?_setCell_other _ _ _ _ (by intro e; injection e with _ e; omega)).trans p2
      have hfz : (wX.setCell ⟨g, i * 3 + 1, none⟩ (.bool true)).frozen? ⟨g, i * 3 + 2, none⟩ = false := (World.frozen?_setCell _ _ _ _).trans (p3 _)
      rw [← hs] at G7 HO7
      generalize wX.setCell ⟨g, i * 3 + 1, none⟩ (.bool true) = w6 at G7 HO7 hcell hfz hbox hOo hs ⊢
      have hgl6 : g < w6.heap.size := by rw [hs]; exact p5
      have hbA := alloc_below w6 (.cells (ints (zeros F)).toArray 3)
      have a1 : w6.drew.cell? ⟨O, 1, none⟩ = some (.slice (some ⟨g, 0, none⟩) cs.length cp) := hOo.cell 1
      have a2 : (w6.alloc (.cells (ints (zeros F)).toArray 3)).drew.cell? ⟨O, 1, none⟩ = some (.slice (some ⟨g, 0, none⟩) cs.length cp) := (hOo.below hbA hOo.lt).cell 1
      have a3 : w6.drew.cell? ⟨w.heap.size, 0, none⟩ = some (.int .i64 F) := hbox.cell 0
      have a4 : (w6.alloc (.cells (ints (zeros F)).toArray 3)).drew.cell? ⟨g, i * 3 + 2, none⟩ = some q0 := (hbA.cell (p := ⟨g, i * 3 + 2, none⟩) hgl6).trans hcell
      have a5 : (w6.alloc (.cells (ints (zeros F)).toArray 3)).drew.frozen? ⟨g, i * 3 + 2, none⟩ = false := (hbA.frozen (p := ⟨g, i * 3 + 2, none⟩) hgl6).trans hfz
      have hgO : Gr wX (((w6.alloc (.cells (ints (zeros F)).toArray 3)).setCell ⟨g, i * 3 + 2, none⟩ (.slice (some ⟨w6.heap.size, 0, none⟩) F F)).drew) (fun k => k = g) := G7.out.drew
      have HFZ : Hid (FrA F w (((w6.alloc (.cells (ints (zeros F)).toArray 3)).setCell ⟨g, i * 3 + 2, none⟩ (.slice (some ⟨w6.heap.size, 0, none⟩) F F)).drew) (.slice pv cs.length cv)) := Lib.hid ⟨hgO.bk HFX.out.box (by omega), hgO.bk HFX.out.res (by omega), HFX.out.below.trans (hgO.below (by have := HFX.out.res.lt; omega) (fun k h => by omega))⟩
      have HOZ : Hid (Bk (((w6.alloc (.cells (ints (zeros F)).toArray 3)).setCell ⟨g, i * 3 + 2, none⟩ (.slice (some ⟨w6.heap.size, 0, none⟩) F F)).drew) O 29 (RefA F (.slice (some ⟨g, 0, none⟩) cs.length cp))) := Lib.hid (hgO.bk HOO.out (by omega))
      have HUZ : Hid (Out F (((w6.alloc (.cells (ints (zeros F)).toArray 3)).setCell ⟨g, i * 3 + 2, none⟩ (.slice (some ⟨w6.heap.size, 0, none⟩) F F)).drew) (fun k => N4 k ∨ k = w6.heap.size) (.slice (some ⟨g, 0, none⟩) cs.length cp) (cs.set i (freed F x))) := Lib.hid (Kin.Lie.gr HO7.out (Gr.refl _ (fun _ => False)).drew (fun _ _ h => h))
      have HNZ : Hid (∀ b, (N4 b ∨ b = w6.heap.size) → (N b ∨ w.heap.size ≤ b) ∧ b ≠ w.heap.size + 1) := Lib.hid (fun b hb => by
        have h1 : w.heap.size + 2 ≤ b := by
          rcases hb with hb | hb
          · exact HN4.out b hb
          · have := HFX.out.res.lt; omega
        exact ⟨.inr (by omega), by omega⟩)
      clear hOo hbox hbA hgO hgl6 hcell hfz p1 p2 p3 p4 p5 o1 f1 hs G7 HO7
      have hwi : IntKind.i64.wrap (i : Int) = (i : Int) := IntWalk.i64_in _ (by omega)
      have hti : ((i : Int)).toNat = i := Int.toNat_natCast i
      go_region_law (fail)
      all_goals
        have HRZ := Lib.hid HFZ.out.res
        clear a1 a2 a3 a4 a5 hmk
        generalize (((w6.alloc (.cells (ints (zeros F)).toArray 3)).setCell ⟨g, i * 3 + 2, none⟩ (.slice (some ⟨w6.heap.size, 0, none⟩) F F)).drew) = w9 at HFZ HOZ HUZ HRZ ⊢
        go_wp2_with (first | ((with_reducible show wpList _ _ _ (Oper.mk (some 33) _ _ _ _ _ :: _) _ _); refine wpList_load_bk rfl 29 (.tmp 6) rfl O 29 (RefA F (.slice (some ⟨g, 0, none⟩) cs.length cp)) rfl _ HOZ.out Try.underlying29 rfl size29 ?_) | ((with_reducible show wpList _ _ _ (Oper.mk none (Op.store 29 _ _) _ _ _ _ :: _) _ _); refine wpList_store_part rfl 29 (.tmp 4) (.tmp 33) rfl (w.heap.size + 1) 0 29 _ (RefA F (.slice (some ⟨g, 0, none⟩) cs.length cp)) rfl rfl HRZ.out size29 (by simp) (HUZ.out.oneA) ?_; intro wz cur q1 q2 q3 q4 q5; obtain ⟨y1, y2⟩ := ref_ret (N := N) (n := 0) HFZ.out HUZ.out HNZ.out q1 q2 q3 q5; have Y1 := Lib.hid y1; have Y2 := Lib.hid y2; clear q1 q2 q3 q4 q5 y1 y2))
        exact bodyPost_ret (results_heap Try.results24 rfl rfl Y1.out) rfl Y2.out
end Go.Proofs.Ytocgallcmgnmgaa
