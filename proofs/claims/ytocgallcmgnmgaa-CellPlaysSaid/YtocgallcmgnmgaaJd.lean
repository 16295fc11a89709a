/-
  DERIVED. The document's heap: Put, Free.
-/
import Derived.Test.YtocgallcmgnmgaaJc
namespace Go.Proofs.Ytocgallcmgnmgaa
open Go.RowKit Go.Maps

/-- What a call on the document's heap hands back: a heap, old or new, and a number. -/
def RefQ (F : Nat) (w : World) (N : Nat → Prop) (cs : List PC) (n : Int) (e : Ending) (w' : World) : Prop :=
  ∃ v N', e = .returned (.tuple #[.agg (RefA F v), .int .i64 n]) ∧ Out F w' N' v cs ∧ (∀ b, N' b → N b ∨ w.heap.size ≤ b) ∧ Below w.heap.size w w'
/-- The frame of such a call: the heap that came in, boxed, and the result's block. -/
structure FrA (F : Nat) (w wr : World) (v : Value) : Prop where
  box : Bk wr w.heap.size 29 (RefA F v)
  res : Bk wr (w.heap.size + 1) 29 #[.int .i64 0, .slice none 0 0, .bool false]
  below : Below w.heap.size w wr
theorem FrA.start (F : Nat) (w : World) (v : Value) : FrA F w ((w.alloc (.cells (RefA F v) 29)).alloc (.cells #[.int .i64 0, .slice none 0 0, .bool false] 29)) v := by
  have e1 : (w.alloc (.cells (RefA F v) 29)).heap.size = w.heap.size + 1 := by simp
  have b1 : Bk (w.alloc (.cells (RefA F v) 29)) w.heap.size 29 (RefA F v) := (MapKept.heap_alloc w _).1
  exact ⟨b1.below (alloc_below _ _) b1.lt, by rw [← e1]; exact (MapKept.heap_alloc _ _).1, ((Below.refl _ _).alloc (Nat.le_refl _) _).alloc (by simp) _⟩
theorem FrA.go {F : Nat} {w wr wz : World} {v : Value} (h : FrA F w wr v) (hb : Below wr.heap.size wr wz) : FrA F w wz v :=
  ⟨h.box.below hb h.box.lt, h.res.below hb h.res.lt, h.below.trans (hb.mono h.below.size)⟩
/-- The result's block has been written. -/
theorem ref_ret {F : Nat} {w wr wz : World} {v v' : Value} {N N' : Nat → Prop} {cs : List PC} {n : Int} {cur : Array Value} (h : FrA F w wr v) (ho : Out F wr N' v' cs) (hN : ∀ b, N' b → (N b ∨ w.heap.size ≤ b) ∧ b ≠ w.heap.size + 1)
    (q1 : Bk wz (w.heap.size + 1) 29 cur) (q2 : cur.size = (#[.int .i64 0, .slice none 0 0, .bool false] : Array Value).size) (q3 : ∀ j, j < (RefA F v').size → cur[0 + j]? = (RefA F v')[j]?) (q5 : wr.grownBy wz (some (w.heap.size + 1))) :
    Bk wz (w.heap.size + 1) 29 (RefA F v') ∧ RefQ F w N cs n (.returned (.tuple #[.agg (RefA F v'), .int .i64 n])) wz := by
  refine ⟨own_res q2 q3 ▸ q1, v', N', rfl, Kin.Lie.gr ho (Gr.of_grown q5) (fun k hk e => by injection e with e; exact (hN k hk).2 e), fun b hb => (hN b hb).1, h.below.grown q5 h.below.size (fun j hj => by injection hj with hj; omega)⟩

/-- One item of a heap of the document's has become another one; its places lie in the same block. -/
theorem Out.put {F : Nat} {w : World} {N : Nat → Prop} {v : Value} {cs : List PC} (h : Out F w N v cs) {i f : Nat} {x : PC} (hi : cs[i]? = some x) (hf : f < F) (t : Int) :
    ∃ g cap q cq u, v = .slice (some ⟨g, 0, none⟩) cs.length cap ∧ w.cell? ⟨g, i * 3 + 2, none⟩ = some (.slice (some ⟨q, 0, none⟩) F cq) ∧ w.cell? ⟨q, f, none⟩ = some u ∧ w.frozen? ⟨q, f, none⟩ = false ∧ N q ∧
      Out F (w.setCell ⟨q, f, none⟩ (.int .i64 t)) N v (cs.set i (putTo x f t)) := by
  obtain ⟨g, cap, cur, fm, hv, ha⟩ := Out.sl h hi
  have hs := ha.sub i x hi
  have hil : i < cs.length := (List.getElem?_eq_some_iff.1 hi).1
  rcases hs.2.1.2 with ⟨e, _⟩ | ⟨q, cq, cr, e, _, hb, hr, hm, hsz, ht⟩
  · exact absurd e hs.2.2
  · have hbk : Bk w q 3 cr := hb
    have hblk : (CellK F).blk (fm i) = some q := by show (fm i).ownBlock = _; rw [e]; rfl
    have hown := ha.own i q hil hblk
    have hfl : f < cr.size := by rw [hsz]; omega
    have hgr : w.grownBy (w.setCell ⟨q, f, none⟩ (.int .i64 t)) (some q) := grownBy_setC w _ _
    refine ⟨g, cap, q, cq, cr[f], hv, (ha.at_cell hi 2 _ rfl).trans (by rw [e]), by rw [hbk.cell]; exact Array.getElem?_eq_getElem hfl, hbk.frozen f, hown.1, fun k hk => by have := h.1 k hk; simpa [World.setCell] using this, .inr ⟨g, cap, cur, _, by rw [List.length_set]; exact hv, ha.put (S := fun k => some k = some q) (b' := fm i) hi (Gr.of_grown hgr) (ha.row.far (by show g ≠ q; exact fun e => hown.2 e.symm) _) rfl (fun j hj => ha.cell i x hi j hj) (fun _ _ => rfl) ⟨(putTo_len x f t).trans hs.1, ⟨by simp [ints, putTo_len, hs.1], .inr ⟨q, cq, _, e, Nat.zero_le _, hbk.set_ f _, hr, hm, by simpa using hsz, ?_⟩⟩, hs.2.2⟩ (fun k _ hk => .inr (by rw [hblk]; exact hk.symm)) (fun _ h => h) h.1 (.inl rfl)⟩⟩
    rw [Array.toList_setIfInBounds, List.take_set, ht]
    unfold ints putTo
    simp [List.map_set]
set_option maxHeartbeats 6400000 in
set_option maxRecDepth 100000 in
theorem refPut_any (F : Nat) (N : Nat → Prop) (cs : List PC) (v : Value) (c f t : Int) (w : World) (h : Out F w N v cs) (hF : F ≤ 2000000) (hn : cs.length ≤ 2000000) :
    Calls Try.prog 23 #[.agg (RefA F v), .int .i64 c, .int .i64 f, .int .i64 t] w (RefQ F w N (putC F cs c f t) (faultC cs c)) := by
  have hfr := FrA.start F w v
  have hN : ∀ b, N b → (N b ∨ w.heap.size ≤ b) ∧ b ≠ w.heap.size + 1 := fun b hb => ⟨.inl hb, by have := h.1 b hb; omega⟩
  have HFR := Lib.hid hfr
  have HH := Lib.hid h
  have HN := Lib.hid hN
  have HFA := Lib.hid (fault_any F N cs v c _ (Kin.Lie.below h hfr.below) hn)
  obtain ⟨pv, cv, rfl⟩ := h.form
  by_cases hf : faultC cs c = 0
  · rcases fault_ways cs c with ⟨_, hf'⟩ | ⟨i, x, rfl, hi, hil, hw⟩
    · rw [hf] at hf'; cases hf'
    · have hx : x.fr = false := by
        rcases hw with ⟨_, h2⟩ | ⟨h1, _⟩
        · rw [hf] at h2; cases h2
        · exact h1
      rw [hf] at HFA
      cases hfi : isField F f with
      | false =>
        rw [putC_no F cs _ f t (.inr hfi), hf]
        clear hw hf h hx hi hfr hN
        by_cases hf0 : f < 0
        · have hd : decide (f < 0) = true := decide_eq_true hf0
          clear hf0 hfi
          go_enter Try.func23, Try.ntmps23
          go_wp2_with (first | ((with_reducible show wpList _ _ _ (Oper.mk (some 12) _ _ _ _ _ :: _) _ _); refine wpList_load_bk rfl 29 (.tmp 4) rfl w.heap.size 29 (RefA F (.slice pv cs.length cv)) rfl _ HFR.out.box Try.underlying29 rfl size29 ?_))
          generalize (w.alloc (.cells (RefA F (.slice pv cs.length cv)) 29)).alloc (.cells #[.int .i64 0, .slice none 0 0, .bool false] 29) = w1 at HFR HFA ⊢
          refine HFA.out.mono ?_; rintro e w2 ⟨rfl, hb2⟩
          have HF2 := Lib.hid (HFR.out.go hb2)
          have HR2 := Lib.hid HF2.out.res
          have HO2 := Lib.hid (Kin.Lie.below HH.out HF2.out.below)
          clear hb2 HFA HFR
          go_wp2_with (first | ((with_reducible show wpList _ _ _ (Oper.mk (some 27) _ _ _ _ _ :: _) _ _); refine wpList_load_bk rfl 29 (.tmp 4) rfl w.heap.size 29 (RefA F (.slice pv cs.length cv)) rfl _ HF2.out.box Try.underlying29 rfl size29 ?_) | ((with_reducible show wpList _ _ _ (Oper.mk none (Op.store 29 _ _) _ _ _ _ :: _) _ _); refine wpList_store_part rfl 29 (.tmp 8) (.tmp 27) rfl (w.heap.size + 1) 0 29 _ (RefA F (.slice pv cs.length cv)) rfl rfl HR2.out size29 (by simp) (HO2.out.oneA) ?_; intro wz cur q1 q2 q3 q4 q5; obtain ⟨y1, y2⟩ := ref_ret (N := N) (n := 0) HF2.out HO2.out HN.out q1 q2 q3 q5; have Y1 := Lib.hid y1; have Y2 := Lib.hid y2; clear q1 q2 q3 q4 q5 y1 y2))
          exact bodyPost_ret (results_heap Try.results23 rfl rfl Y1.out) rfl Y2.out
        · have hd : decide (f < 0) = false := decide_eq_false hf0
          have hd2 : decide ((F : Int) ≤ f) = true := by
            unfold isField at hfi
            simp at hfi
            exact decide_eq_true (hfi (by omega))
          clear hf0 hfi
          go_enter Try.func23, Try.ntmps23
          go_wp2_with (first | ((with_reducible show wpList _ _ _ (Oper.mk (some 12) _ _ _ _ _ :: _) _ _); refine wpList_load_bk rfl 29 (.tmp 4) rfl w.heap.size 29 (RefA F (.slice pv cs.length cv)) rfl _ HFR.out.box Try.underlying29 rfl size29 ?_))
          generalize (w.alloc (.cells (RefA F (.slice pv cs.length cv)) 29)).alloc (.cells #[.int .i64 0, .slice none 0 0, .bool false] 29) = w1 at HFR HFA ⊢
          refine HFA.out.mono ?_; rintro e w2 ⟨rfl, hb2⟩
          have HF2 := Lib.hid (HFR.out.go hb2)
          have HR2 := Lib.hid HF2.out.res
          have HO2 := Lib.hid (Kin.Lie.below HH.out HF2.out.below)
          clear hb2 HFA HFR
          have c0 : w2.cell? ⟨w.heap.size, 0, none⟩ = some (.int .i64 F) := HF2.out.box.cell 0
          go_wp2_with (first | ((with_reducible show wpList _ _ _ (Oper.mk (some 27) _ _ _ _ _ :: _) _ _); refine wpList_load_bk rfl 29 (.tmp 4) rfl w.heap.size 29 (RefA F (.slice pv cs.length cv)) rfl _ HF2.out.box Try.underlying29 rfl size29 ?_) | ((with_reducible show wpList _ _ _ (Oper.mk none (Op.store 29 _ _) _ _ _ _ :: _) _ _); refine wpList_store_part rfl 29 (.tmp 8) (.tmp 27) rfl (w.heap.size + 1) 0 29 _ (RefA F (.slice pv cs.length cv)) rfl rfl HR2.out size29 (by simp) (HO2.out.oneA) ?_; intro wz cur q1 q2 q3 q4 q5; obtain ⟨y1, y2⟩ := ref_ret (N := N) (n := 0) HF2.out HO2.out HN.out q1 q2 q3 q5; have Y1 := Lib.hid y1; have Y2 := Lib.hid y2; clear q1 q2 q3 q4 q5 y1 y2))
          exact bodyPost_ret (results_heap Try.results23 rfl rfl Y1.out) rfl Y2.out
      | true =>
        obtain ⟨k, hk, rfl⟩ := isField_iff.1 hfi
        rw [putC_at F cs i k t x hi hx hk, hf]
        have HT := Lib.hid (fun w' => there_any F cs.length cv pv t w')
        have HOW := Lib.hid (fun (w3 : World) (hb : Below w.heap.size w w3) => own_any F N cs (.slice pv cs.length cv) w3 (Kin.Lie.below HH.out hb) hF hn)
        have HI := Lib.hid hi
        have hi1 : ((i : Int) + 1 - 1) = (i : Int) := by omega
        have hi2 : (i : Int) < (cs.length : Int) := by omega
        have hi0 : (0 : Int) ≤ (i : Int) := Int.natCast_nonneg _
        have hiB : (i : Int) ≤ 2000000 := by omega
        have hk0 : decide ((k : Int) < 0) = false := decide_eq_false (by omega)
        have hk1 : decide ((F : Int) ≤ (k : Int)) = false := decide_eq_false (by omega)
        have hk2 : decide (F ≤ k) = false := decide_eq_false (by omega)
        have hk3 : (0 : Int) ≤ (k : Int) := Int.natCast_nonneg _
        have hk4 : (k : Int) < (F : Int) := by omega
        clear hf hw h hx hi hfr hN hfi
        go_enter Try.func23, Try.ntmps23
        go_wp2_with (first | ((with_reducible show wpList _ _ _ (Oper.mk (some 12) _ _ _ _ _ :: _) _ _); refine wpList_load_bk rfl 29 (.tmp 4) rfl w.heap.size 29 (RefA F (.slice pv cs.length cv)) rfl _ HFR.out.box Try.underlying29 rfl size29 ?_))
        generalize (w.alloc (.cells (RefA F (.slice pv cs.length cv)) 29)).alloc (.cells #[.int .i64 0, .slice none 0 0, .bool false] 29) = w1 at HFR HFA ⊢
        refine HFA.out.mono ?_; rintro e w2 ⟨rfl, hb2⟩
        have HF2 := Lib.hid (HFR.out.go hb2)
        have c0 : w2.cell? ⟨w.heap.size, 0, none⟩ = some (.int .i64 F) := HF2.out.box.cell 0
        clear hb2 HFA HFR
        go_wp2_with (first | ((with_reducible show wpList _ _ _ (Oper.mk (some 28) _ _ _ _ _ :: _) _ _); refine wpList_load_bk rfl 29 (.tmp 4) rfl w.heap.size 29 (RefA F (.slice pv cs.length cv)) rfl _ HF2.out.box Try.underlying29 rfl size29 ?_))
        refine (HT.out w2).mono ?_; rintro e w3 ⟨rfl, hb3⟩
        have HF3 := Lib.hid (HF2.out.go hb3)
        clear hb3 HF2 c0
        have HOW3 := Lib.hid (HOW.out w3 HF3.out.below)
        have HEQ : Hid (okTo cs.length t = if isCell cs.length t = true then t else 0) := Lib.hid rfl
        generalize isCell cs.length t = ic at HEQ ⊢
        cases ic
        all_goals
          go_wp2_with (first | ((with_reducible show wpList _ _ _ (Oper.mk (some 32) _ _ _ _ _ :: _) _ _); refine wpList_load_bk rfl 29 (.tmp 4) rfl w.heap.size 29 (RefA F (.slice pv cs.length cv)) rfl _ HF3.out.box Try.underlying29 rfl size29 ?_))
          refine HOW3.out.mono ?_; rintro e w4 ⟨v4, N4, rfl, ho4, hn4, hb4⟩
          have HF4 := Lib.hid (HF3.out.go hb4)
          have HO4 := Lib.hid ho4
          have HN4 : Hid (∀ b, N4 b → w.heap.size + 2 ≤ b) := Lib.hid (fun b hb => by have := hn4 b hb; have := HF3.out.res.lt; omega)
          clear ho4 hn4 hb4
          go_upto_region 9 with (first | ((with_reducible show wpList _ _ _ (Oper.mk none (Op.store _ _ _) _ _ _ _ :: _) _ _); refine wpList_store_new rfl 29 (.tmp 11) (.tmp 33) rfl _ (RefA F v4) rfl rfl size29 rfl HO4.out.oneA ?_))
          have hbX := alloc_below w4 (.cells (RefA F v4) 29)
          have HFX := Lib.hid (HF4.out.go hbX)
          have HOX : Hid (Out F (w4.alloc (.cells (RefA F v4) 29)) N4 v4 cs) := Lib.hid (Kin.Lie.below HO4.out hbX)
          have HOO : Hid (Bk (w4.alloc (.cells (RefA F v4) 29)) w4.heap.size 29 (RefA F v4)) := Lib.hid (MapKept.heap_alloc w4 _).1
          have HON : Hid (∀ b, N4 b → b ≠ w4.heap.size) := Lib.hid (fun b hb e => by have := HO4.out.1 b hb; omega)
          generalize w4.alloc (.cells (RefA F v4) 29) = wX at HFX HOX HOO ⊢
          generalize w4.heap.size = O at HOO HON ⊢
          clear hbX
        · have HEQ' : Hid (okTo cs.length t = 0) := Lib.hid (HEQ.out.trans (by simp))
          obtain ⟨g, cp, q, cq, u, rfl, p1, p2, p3, p4, p5⟩ := Out.put HOX.out HI.out (show k < F by omega) 0
          have o1 := HOO.out.cell 1
          have HF5 : Hid (FrA F w (wX.setCell ⟨q, k, none⟩ (.int .i64 0)) (.slice pv cs.length cv)) := Lib.hid ⟨HFX.out.box.far (by show w.heap.size ≠ q; have := HN4.out q p4; omega) _, HFX.out.res.far (by show w.heap.size + 1 ≠ q; have := HN4.out q p4; omega) _, HFX.out.below.setCell (by show w.heap.size ≤ q; have := HN4.out q p4; omega) _⟩
          have HO5 := Lib.hid p5
          have HOO5 : Hid (Bk (wX.setCell ⟨q, k, none⟩ (.int .i64 0)) O 29 _) := Lib.hid (HOO.out.far (by show O ≠ q; exact fun e => HON.out q p4 e.symm) _)
          have HR5 := Lib.hid HF5.out.res
          clear p4 p5
          go_upto_region 10 with fail
          generalize wX.setCell ⟨q, k, none⟩ (.int .i64 0) = w5 at HF5 HO5 HOO5 HR5 ⊢
          go_wp2_with (first | ((with_reducible show wpList _ _ _ (Oper.mk (some 44) _ _ _ _ _ :: _) _ _); refine wpList_load_bk rfl 29 (.tmp 11) rfl O 29 (RefA F (.slice (some ⟨g, 0, none⟩) cs.length cp)) rfl _ HOO5.out Try.underlying29 rfl size29 ?_) | ((with_reducible show wpList _ _ _ (Oper.mk none (Op.store 29 _ _) _ _ _ _ :: _) _ _); refine wpList_store_part rfl 29 (.tmp 8) (.tmp 44) rfl (w.heap.size + 1) 0 29 _ (RefA F (.slice (some ⟨g, 0, none⟩) cs.length cp)) rfl rfl HR5.out size29 (by simp) (HO5.out.oneA) ?_; intro wz cur q1 q2 q3 q4 q5; obtain ⟨y1, y2⟩ := ref_ret (N := N) (n := 0) HF5.out HO5.out (fun b hb => ⟨.inr (by have := HN4.out b hb; omega), by have := HN4.out b hb; omega⟩) q1 q2 q3 q5; have Y1 := Lib.hid y1; have Y2 := Lib.hid y2; clear q1 q2 q3 q4 q5 y1 y2))
          exact bodyPost_ret (results_heap Try.results23 rfl rfl Y1.out) rfl (by rw [HEQ'.out]; exact Y2.out)
        · have HEQ' : Hid (okTo cs.length t = t) := Lib.hid (HEQ.out.trans (by simp))
          obtain ⟨g, cp, q, cq, u, rfl, p1, p2, p3, p4, p5⟩ := Out.put HOX.out HI.out (show k < F by omega) t
          have o1 := HOO.out.cell 1
          have HF5 : Hid (FrA F w (wX.setCell ⟨q, k, none⟩ (.int .i64 t)) (.slice pv cs.length cv)) := Lib.hid ⟨HFX.out.box.far (by show w.heap.size ≠ q; have := HN4.out q p4; omega) _, HFX.out.res.far (by show w.heap.size + 1 ≠ q; have := HN4.out q p4; omega) _, HFX.out.below.setCell (by show w.heap.size ≤ q; have := HN4.out q p4; omega) _⟩
          have HO5 := Lib.hid p5
          have HOO5 : Hid (Bk (wX.setCell ⟨q, k, none⟩ (.int .i64 t)) O 29 _) := Lib.hid (HOO.out.far (by show O ≠ q; exact fun e => HON.out q p4 e.symm) _)
          have HR5 := Lib.hid HF5.out.res
          clear p4 p5
          go_upto_region 10 with fail
          generalize wX.setCell ⟨q, k, none⟩ (.int .i64 t) = w5 at HF5 HO5 HOO5 HR5 ⊢
          go_wp2_with (first | ((with_reducible show wpList _ _ _ (Oper.mk (some 44) _ _ _ _ _ :: _) _ _); refine wpList_load_bk rfl 29 (.tmp 11) rfl O 29 (RefA F (.slice (some ⟨g, 0, none⟩) cs.length cp)) rfl _ HOO5.out Try.underlying29 rfl size29 ?_) | ((with_reducible show wpList _ _ _ (Oper.mk none (Op.store 29 _ _) _ _ _ _ :: _) _ _); refine wpList_store_part rfl 29 (.tmp 8) (.tmp 44) rfl (w.heap.size + 1) 0 29 _ (RefA F (.slice (some ⟨g, 0, none⟩) cs.length cp)) rfl rfl HR5.out size29 (by simp) (HO5.out.oneA) ?_; intro wz cur q1 q2 q3 q4 q5; obtain ⟨y1, y2⟩ := ref_ret (N := N) (n := 0) HF5.out HO5.out (fun b hb => ⟨.inr (by have := HN4.out b hb; omega), by have := HN4.out b hb; omega⟩) q1 q2 q3 q5; have Y1 := Lib.hid y1; have Y2 := Lib.hid y2; clear q1 q2 q3 q4 q5 y1 y2))
          exact bodyPost_ret (results_heap Try.results23 rfl rfl Y1.out) rfl (by rw [HEQ'.out]; exact Y2.out)
  · rw [putC_no F cs c f t (.inl hf)]
    generalize hk : faultC cs c = k at hf HFA ⊢
    have hk1 : (k == 0) = false := by simpa using hf
    have hk2 : (k != 0) = true := by simpa using hf
    clear hk h hf hfr hN
    go_enter Try.func23, Try.ntmps23
    go_wp2_with (first | ((with_reducible show wpList _ _ _ (Oper.mk (some 12) _ _ _ _ _ :: _) _ _); refine wpList_load_bk rfl 29 (.tmp 4) rfl w.heap.size 29 (RefA F (.slice pv cs.length cv)) rfl _ HFR.out.box Try.underlying29 rfl size29 ?_))
    generalize (w.alloc (.cells (RefA F (.slice pv cs.length cv)) 29)).alloc (.cells #[.int .i64 0, .slice none 0 0, .bool false] 29) = w1 at HFR HFA ⊢
    refine HFA.out.mono ?_; rintro e w2 ⟨rfl, hb2⟩
    have HF2 := Lib.hid (HFR.out.go hb2)
    have HR2 := Lib.hid HF2.out.res
    have HO2 := Lib.hid (Kin.Lie.below HH.out HF2.out.below)
    clear hb2 HFA HFR
    go_wp2_with (first | ((with_reducible show wpList _ _ _ (Oper.mk (some 17) _ _ _ _ _ :: _) _ _); refine wpList_load_bk rfl 29 (.tmp 4) rfl w.heap.size 29 (RefA F (.slice pv cs.length cv)) rfl _ HF2.out.box Try.underlying29 rfl size29 ?_) | ((with_reducible show wpList _ _ _ (Oper.mk none (Op.store 29 _ _) _ _ _ _ :: _) _ _); refine wpList_store_part rfl 29 (.tmp 8) (.tmp 17) rfl (w.heap.size + 1) 0 29 _ (RefA F (.slice pv cs.length cv)) rfl rfl HR2.out size29 (by simp) (HO2.out.oneA) ?_; intro wz cur q1 q2 q3 q4 q5; obtain ⟨y1, y2⟩ := ref_ret (N := N) (n := k) HF2.out HO2.out HN.out q1 q2 q3 q5; have Y1 := Lib.hid y1; have Y2 := Lib.hid y2; clear q1 q2 q3 q4 q5 y1 y2))
    exact bodyPost_ret (results_heap Try.results23 rfl rfl Y1.out) rfl Y2.out
end Go.Proofs.Ytocgallcmgnmgaa
