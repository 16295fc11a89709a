/-
  DERIVED. The document's heap: one cell more.
-/
import Derived.Test.YtocgallcmgnmgaaJb
namespace Go.Proofs.Ytocgallcmgnmgaa
open Go.RowKit Go.Maps

/-- What a call on the document's heap hands back: a heap, and a number. -/
def RefP (F : Nat) (w : World) (cs : List PC) (n : Int) (e : Ending) (w' : World) : Prop :=
  ∃ v N, e = .returned (.tuple #[.agg (RefA F v), .int .i64 n]) ∧ Out F w' N v cs ∧ (∀ b, N b → w.heap.size ≤ b) ∧ Below w.heap.size w w'
theorem refAdd_push {F : Nat} {wX w6 : World} {O : Nat} {v : Value} {N : Nat → Prop} {cs : List PC} {t : Int} {g cap : Nat} {ys : List Value} (hout : Out F wX N v cs) (hO : Bk wX O 29 (RefA F v)) (hON : ¬ N O) (hF : F ≤ maxLen) {z : Value} (hz : z = .slice (some ⟨wX.heap.size, 0, none⟩) F F)
    {wB : World} (hwB : wB = (wX.alloc (.cells (ints (zeros F)).toArray 3)).alloc (.cells #[.int .i64 t, .bool false, z] 46))
    (hys : (v = .slice none 0 0 ∧ cs = []) ∨ ∃ g cap cur fm, v = .slice (some ⟨g, 0, none⟩) cs.length cap ∧ (CellK F).At wB N g cap cur fm cs ∧ ∀ j, j < cs.length * 3 → ys[j]? = cur[j]?) (hyl : ys.length = cs.length * 3)
    (hown : w6.ownsRow 0 46 3 (.slice (some ⟨g, 0, none⟩) (cs.length + 1) cap) (cs.length + 1) (ys ++ [.int .i64 t, .bool false, z])) (hg : wB.grownBy w6 v.ownBlock) (hat : v.ownBlock = some g ∨ g = wB.heap.size) (hlt : g < w6.heap.size) :
    Bk w6 O 29 (RefA F v) ∧ ∃ N', Out F (w6.setCell ⟨O, 1, none⟩ (.slice (some ⟨g, 0, none⟩) (cs.length + 1) cap)) N' (.slice (some ⟨g, 0, none⟩) (cs.length + 1) cap) (cs ++ [newC F t]) ∧ Bk (w6.setCell ⟨O, 1, none⟩ (.slice (some ⟨g, 0, none⟩) (cs.length + 1) cap)) O 29 (RefA F (.slice (some ⟨g, 0, none⟩) (cs.length + 1) cap)) ∧ (∀ b, N' b → (N b ∨ wX.heap.size ≤ b) ∧ b ≠ O) ∧ Gr wX (w6.setCell ⟨O, 1, none⟩ (.slice (some ⟨g, 0, none⟩) (cs.length + 1) cap)) (fun k => N k ∨ k = O) := by
  have hvo : ∀ k, some k = v.ownBlock → N k := fun k hk => by
    rcases hout.2 with ⟨e, _⟩ | ⟨g0, c0, r0, f0, e, ha0⟩
    · rw [e] at hk; cases hk
    · rw [e] at hk; simp only [Value.ownBlock] at hk; injection hk with hk; subst hk; exact ha0.mine
  have hbB : Below wX.heap.size wX wB := by rw [hwB]; exact ((Below.refl _ _).alloc (Nat.le_refl _) _).alloc (by simp) _
  have hsz : wB.heap.size = wX.heap.size + 2 := by rw [hwB]; simp
  have hzB : Bk wB wX.heap.size 3 (ints (zeros F)).toArray := by
    have h1 : Bk (wX.alloc (.cells (ints (zeros F)).toArray 3)) wX.heap.size 3 (ints (zeros F)).toArray := (MapKept.heap_alloc wX _).1
    rw [hwB]; exact h1.below (alloc_below _ _) h1.lt
  have hOl := hO.lt
  have hO6 : Bk w6 O 29 (RefA F v) := (hg.block O (by omega) (fun e => hON (hvo O e))).trans (hO.below hbB hOl)
  have hz6 : Bk w6 wX.heap.size 3 (ints (zeros F)).toArray := (hg.block _ hzB.lt (fun e => by have := hout.1 _ (hvo _ e); omega)).trans hzB
  have hsub6 : (CellK F).sub w6 (newC F t) z := ⟨by simp [newC, zeros], by rw [hz]; exact ownsRow_new (c := newC F t) hz6 (by simp [newC, zeros]) hF, by rw [hz]; intro e; cases e⟩
  have hlieB : (CellK F).Lie wB N v cs := Kin.Lie.below hout hbB
  have hzb : z.ownBlock = some wX.heap.size := by rw [hz]; rfl
  have hl6 := Kin.Lie.push (K := CellK F) (R' := fun k => N k ∨ k = g ∨ k = wX.heap.size) (x' := newC F t) (b' := z) hlieB hys hyl hown hg hat (Nat.le_refl _) hsub6
    (fun m hm => by
      have hm' : wX.heap.size = m := by
        have : z.ownBlock = some m := hm
        rw [hzb] at this; injection this
      refine ⟨fun h => by have := hout.1 m h; omega, fun e => ?_, .inr (.inr hm'.symm)⟩
      rcases hat with h1 | h1
      · have := hout.1 g (hvo g h1.symm); omega
      · omega) (fun _ h => .inl h) (.inr (.inl rfl))
    (fun k hk => by
      rcases hk with hk | hk | hk
      · exact Nat.lt_of_lt_of_le (hlieB.1 k hk) hg.size
      · subst hk; exact hlt
      · have := hz6.lt; omega)
  have hgO : g ≠ O := by
    rcases hat with h1 | h1
    · intro e; exact hON (hvo O (by rw [h1, e]))
    · omega
  have hgs : w6.grownBy (w6.setCell ⟨O, 1, none⟩ (.slice (some ⟨g, 0, none⟩) (cs.length + 1) cap)) (some O) := grownBy_setC w6 _ _
  have hne : ∀ k, (N k ∨ k = g ∨ k = wX.heap.size) → k ≠ O := fun k hk => by
    rcases hk with hk | hk | hk
    · intro e; subst e; exact hON hk
    · omega
    · omega
  refine ⟨hO6, fun k => N k ∨ k = g ∨ k = wX.heap.size, Kin.Lie.gr hl6 (Gr.of_grown hgs) (fun k hk e => by injection e with e; exact hne k hk e), hO6.set_ 1 _, fun b hb => ⟨?_, hne b hb⟩, ?_⟩
  · rcases hb with hb | hb | hb
    · exact .inl hb
    · rcases hat with h1 | h1
      · exact .inl (by rw [hb]; exact hvo g h1.symm)
      · exact .inr (by omega)
    · exact .inr (by omega)
  · exact ((Gr.of_below (S := fun k => N k ∨ k = O) hbB).grown hg (fun i _ e => .inl (hvo i e))).setCell (fun _ => .inr rfl) _

theorem ref_end {F : Nat} {w wX w7 wZ : World} {O : Nat} {N2 N' : Nat → Prop} {v : Value} {cs : List PC} {n : Int} (h1 : Out F w7 N' v cs) (hg : Gr w7 wZ (fun k => k = w.heap.size + 1)) (h3 : ∀ b, N' b → (N2 b ∨ wX.heap.size ≤ b) ∧ b ≠ O) (h4 : Gr wX w7 (fun k => N2 k ∨ k = O)) (hb : Below w.heap.size w wX) (hN : ∀ b, N2 b → w.heap.size + 2 ≤ b) (hO : w.heap.size + 2 ≤ O) (hOl : O < wX.heap.size) :
    RefP F w cs n (.returned (.tuple #[.agg (RefA F v), .int .i64 n])) wZ := by
  have hk : ∀ b, N' b → w.heap.size + 2 ≤ b := fun b hb => by
    rcases (h3 b hb).1 with h | h
    · exact hN b h
    · omega
  refine ⟨v, N', rfl, Kin.Lie.gr h1 hg (fun k hk' e => by have := hk k hk'; omega), fun b hb => by have := hk b hb; omega, ?_⟩
  have b1 : Below w.heap.size wX w7 := h4.below (by omega) (fun k h => h.elim (fun h => by have := hN k h; omega) (fun h => by omega))
  exact (hb.trans b1).trans (hg.below (by have := hb.size; have := b1.size; omega) (fun k h => by omega))
theorem results_heap {fn : Func} {p u : Tmp} (h : fn.results = #[.cell p 29, .tmp u]) {tmps : Array Value} {w : World} {g : Nat} {cs : Array Value} (hp : tmps.getD p undef = .pointer (some ⟨g, 0, none⟩)) (hz : cs.size = 3) (hg : Bk w g 29 cs) :
    (results fn tmps).run Try.prog w = .ok (.tuple #[.agg cs, tmps.getD u undef]) w := by
  have hp' : tmps[p]?.getD undef = .pointer (some ⟨g, 0, none⟩) := by simpa using hp
  simp [results, h, hp', asAddr, run_loadVar_row w g 29 29 cs (0, 0) _ hg Try.underlying29 rfl (by rw [hz]; exact size29)]
set_option maxHeartbeats 1600000 in
set_option maxRecDepth 100000 in
theorem refAdd_any (F : Nat) (N : Nat → Prop) (cs : List PC) (v : Value) (t : Int) (w : World) (h : Out F w N v cs) (hF : F ≤ 2000000) (hn : cs.length ≤ 2000000) :
    Calls Try.prog 22 #[.agg (RefA F v), .int .i64 t] w (RefP F w (cs ++ [newC F t]) (cs.length + 1 : Nat)) := by
  have hb0 : Below w.heap.size w ((w.alloc (.cells (RefA F v) 29)).alloc (.cells #[.int .i64 0, .slice none 0 0, .bool false] 29)) := ((Below.refl _ _).alloc (Nat.le_refl _) _).alloc (by simp) _
  have HB0 := Lib.hid hb0
  have e1 : (w.alloc (.cells (RefA F v) 29)).heap.size = w.heap.size + 1 := by simp
  have b1 : Bk (w.alloc (.cells (RefA F v) 29)) w.heap.size 29 (RefA F v) := (MapKept.heap_alloc w _).1
  have HBX : Hid (Bk ((w.alloc (.cells (RefA F v) 29)).alloc (.cells #[.int .i64 0, .slice none 0 0, .bool false] 29)) w.heap.size 29 (RefA F v)) := Lib.hid (b1.below (alloc_below _ _) b1.lt)
  have HRS : Hid (Bk ((w.alloc (.cells (RefA F v) 29)).alloc (.cells #[.int .i64 0, .slice none 0 0, .bool false] 29)) (w.heap.size + 1) 29 #[.int .i64 0, .slice none 0 0, .bool false]) := Lib.hid (by rw [← e1]; exact (MapKept.heap_alloc _ _).1)
  have HOW := Lib.hid (own_any F N cs v _ (Kin.Lie.below h hb0) hF hn)
  obtain ⟨pv, cv, rfl⟩ := h.form
  clear h hb0 e1 b1
  go_enter Try.func22, Try.ntmps22
  go_wp2_with (first | ((with_reducible show wpList _ _ _ (Oper.mk (some 11) _ _ _ _ _ :: _) _ _); refine wpList_load_bk rfl 29 (.tmp 2) rfl w.heap.size 29 (RefA F (.slice pv cs.length cv)) rfl _ HBX.out Try.underlying29 rfl size29 ?_))
  generalize (w.alloc (.cells (RefA F (.slice pv cs.length cv)) 29)).alloc (.cells #[.int .i64 0, .slice none 0 0, .bool false] 29) = w1 at HB0 HBX HRS HOW ⊢
  refine HOW.out.mono ?_; rintro e w2 ⟨v2, N2, rfl, ho2, hn2, hb2⟩
  have HO2 := Lib.hid ho2
  have HN2 := Lib.hid hn2
  have HB2 := Lib.hid hb2
  clear ho2 hn2 hb2 HOW
  go_upto_region 4 with (first | ((with_reducible show wpList _ _ _ (Oper.mk none (Op.store _ _ _) _ _ _ _ :: _) _ _); refine wpList_store_new rfl 29 (.tmp 6) (.tmp 12) rfl _ (RefA F v2) rfl rfl size29 rfl HO2.out.oneA ?_))
  have hbX := alloc_below w2 (.cells (RefA F v2) 29)
  have hOX : Bk (w2.alloc (.cells (RefA F v2) 29)) w2.heap.size 29 (RefA F v2) := (MapKept.heap_alloc w2 _).1
  have hXX : Bk (w2.alloc (.cells (RefA F v2) 29)) w.heap.size 29 (RefA F (.slice pv cs.length cv)) := (HBX.out.below HB2.out HBX.out.lt).below hbX (HBX.out.below HB2.out HBX.out.lt).lt
  have HRX : Hid (Bk (w2.alloc (.cells (RefA F v2) 29)) (w.heap.size + 1) 29 #[.int .i64 0, .slice none 0 0, .bool false]) := Lib.hid ((HRS.out.below HB2.out HRS.out.lt).below hbX (HRS.out.below HB2.out HRS.out.lt).lt)
  have HOX : Hid (Out F (w2.alloc (.cells (RefA F v2) 29)) N2 v2 cs) := Lib.hid (Kin.Lie.below HO2.out hbX)
  have HBXX : Hid (Below w.heap.size w (w2.alloc (.cells (RefA F v2) 29))) := Lib.hid ((HB0.out.trans (HB2.out.mono HB0.out.size)).trans (hbX.mono (HB0.out.trans (HB2.out.mono HB0.out.size)).size))
  have HON : Hid (¬ N2 w2.heap.size) := Lib.hid (fun h => Nat.lt_irrefl _ (HO2.out.1 _ h))
  have HW2 : Hid (w.heap.size + 2 ≤ w2.heap.size) := Lib.hid (by have := HRS.out.lt; have := HB2.out.size; omega)
  have HN2' : Hid (∀ b, N2 b → w.heap.size + 2 ≤ b) := Lib.hid (fun b hb => by have := HN2.out b hb; have := HRS.out.lt; omega)
  generalize hwX : w2.alloc (.cells (RefA F v2) 29) = wX at hOX hXX HRX HOX HBXX ⊢
  generalize w2.heap.size = O at hOX HON HW2 ⊢
  have HOO := Lib.hid hOX
  have hsX := HOX.out.1
  clear hwX hbX HO2 HN2 HB2 HRS HBX HB0
  have hmk := fun w => make44 F w hF
  have hbA : Below wX.heap.size wX (wX.alloc (.cells (ints (zeros F)).toArray 3)) := alloc_below _ _
  have hbB : Below wX.heap.size wX ((wX.alloc (.cells (ints (zeros F)).toArray 3)).alloc (.cells #[.int .i64 t, .bool false, .slice (some ⟨wX.heap.size, 0, none⟩) F F] 46)) := ((Below.refl _ _).alloc (Nat.le_refl _) _).alloc (by simp) _
  have o0 : wX.drew.cell? ⟨O, 1, none⟩ = some v2 := hOX.cell 1
  have o1 : (wX.alloc (.cells (ints (zeros F)).toArray 3)).drew.cell? ⟨O, 1, none⟩ = some v2 := (hOX.below hbA hOX.lt).cell 1
  have o2 : ((wX.alloc (.cells (ints (zeros F)).toArray 3)).alloc (.cells #[.int .i64 t, .bool false, .slice (some ⟨wX.heap.size, 0, none⟩) F F] 46)).drew.cell? ⟨O, 1, none⟩ = some v2 := (hOX.below hbB hOX.lt).cell 1
  have p0 : wX.drew.cell? ⟨w.heap.size, 0, none⟩ = some (.int .i64 F) := hXX.cell 0
  obtain ⟨i46, hi4, hz4, hs4, hb4⟩ := z46
  have HI4 := Lib.hid hi4
  have HZ4 := Lib.hid hz4
  have HS4 := Lib.hid hs4
  have HY4 := Lib.hid hb4
  obtain ⟨ys, hys0, hyl, hys⟩ := (Kin.Lie.below HOX.out hbB).owns (base := 0) (fun _ _ => Nat.zero_le _)
  have HP := Lib.hid (fun g cap w6 => refAdd_push HOX.out HOO.out HON.out (by unfold maxLen; omega) rfl rfl (g := g) (cap := cap) (w6 := w6) (t := t) hys hyl)
  have HYS : Hid (((wX.alloc (.cells (ints (zeros F)).toArray 3)).alloc (.cells #[.int .i64 t, .bool false, .slice (some ⟨wX.heap.size, 0, none⟩) F F] 46)).drew.ownsRow 0 46 3 v2 cs.length ys) := Lib.hid hys0
  have HNW : Hid (∀ j u, ([.int .i64 t, .bool false, .slice (some ⟨wX.heap.size, 0, none⟩) F F] : List Value)[j]? = some u → ((wX.alloc (.cells (ints (zeros F)).toArray 3)).alloc (.cells #[.int .i64 t, .bool false, .slice (some ⟨wX.heap.size, 0, none⟩) F F] 46)).drew.cell? ((⟨wX.heap.size + 1, 0, none⟩ : Addr).add j) = some u) := Lib.hid (fun j u hu => by
    have e : ((⟨wX.heap.size + 1, 0, none⟩ : Addr).add j) = ⟨wX.heap.size + 1, j, none⟩ := by rw [Addr.add_mid]; simp
    have e1 : (wX.alloc (.cells (ints (zeros F)).toArray 3)).heap.size = wX.heap.size + 1 := by simp
    rw [e, ← e1]
    exact (World.cell?_alloc_at _ _ _ _ rfl).trans (by simpa using hu))
  have H2 : Hid (∀ u ∈ ([.int .i64 t, .bool false, .slice (some ⟨wX.heap.size, 0, none⟩) F F] : List Value), u.oneCell' = true) := Lib.hid (by intro u hu; simp at hu; rcases hu with rfl | rfl | rfl <;> rfl)
  have hm1 : cs.length + 1 ≤ maxLen := by unfold maxLen; omega
  have hm2 : (cs.length + 1) * 40 ≤ 140737488355328 := by omega
  clear hOX hXX hbA hbB hi4 hz4 hs4 hb4 hys0 hyl hys hsX
  go_region_law (first
    | (refine step_append_lies _ rfl (.tmp 14) (.tmp 20) 23 rfl 0 46 i46 _ 3 40 Try.underlying23 HI4.out HZ4.out HS4.out HY4.out rfl (by decide) v2 cs.length ys rfl HYS.out _ 1 1 [.int .i64 t, .bool false, .slice (some ⟨wX.heap.size, 0, none⟩) F F] rfl rfl HNW.out H2.out (by decide) hm1 hm2 (Nat.zero_le _) _ rfl ?_; intro g7 cap7 w6 s1 s2 s3 s4; obtain ⟨t1, t2⟩ := HP.out g7 cap7 w6 s1 ⟨s2.os, s2.tape, s2.output, s2.size, s2.block⟩ s3 s4; have f6 := t1.frozen 1; have g6 := t1.cell 1; have HZ := Lib.hid t2; clear s1 s2 s3 s4 t1 t2))
  all_goals
    obtain ⟨N', z1, z2, z3, z4⟩ := HZ.out
    have Z1 := Lib.hid z1
    have Z3 := Lib.hid z3
    have Z4 := Lib.hid z4
    have ZR : Hid (Bk (w6.setCell ⟨O, 1, none⟩ (.slice (some ⟨g7, 0, none⟩) (cs.length + 1) cap7)) (w.heap.size + 1) 29 #[.int .i64 0, .slice none 0 0, .bool false]) := Lib.hid (z4.bk HRX.out (fun h => h.elim (fun h => by have := HN2'.out _ h; omega) (fun h => by have := HW2.out; omega)))
    clear z1 z3 z4 f6 g6 o0 o1 o2 p0 hmk
    generalize w6.setCell ⟨O, 1, none⟩ (.slice (some ⟨g7, 0, none⟩) (cs.length + 1) cap7) = w7 at Z1 Z3 Z4 ZR z2 ⊢
    have HO7 := Lib.hid z2
    have o7 := z2.cell 1
    clear z2
    have o6 := HO7.out.cell 0
    have o8 := HO7.out.cell 2
    have hOH : O ≠ w.heap.size + 1 := by have := HW2.out; omega
    have hOH' : w.heap.size + 1 ≠ O := fun e => hOH e.symm
    have HS : Hid (∀ w', Gr w7 w' (fun k => k = w.heap.size + 1) → w'.cell? ⟨O, 0, none⟩ = some (.int .i64 F) ∧ w'.cell? ⟨O, 1, none⟩ = some (.slice (some ⟨g7, 0, none⟩) (cs.length + 1) cap7) ∧ w'.cell? ⟨O, 2, none⟩ = some (.bool true)) := Lib.hid (fun w' hg => by
      have hb := hg.bk HO7.out (by omega)
      exact ⟨hb.cell 0, hb.cell 1, hb.cell 2⟩)
    have HG0 : Hid (Gr w7 w7.drew (fun k => k = w.heap.size + 1)) := Lib.hid (Gr.refl w7 _).drew
    have r0 : w7.drew.cell? ⟨w.heap.size + 1, 0, none⟩ = some (.int .i64 0) := ZR.out.cell 0
    have r1 : w7.drew.cell? ⟨w.heap.size + 1, 1, none⟩ = some (.slice none 0 0) := ZR.out.cell 1
    have r2 : w7.drew.cell? ⟨w.heap.size + 1, 2, none⟩ = some (.bool false) := ZR.out.cell 2
    have r1' : w7.cell? ⟨w.heap.size + 1, 1, none⟩ = some (.slice none 0 0) := ZR.out.cell 1
    have r2' : w7.cell? ⟨w.heap.size + 1, 2, none⟩ = some (.bool false) := ZR.out.cell 2
    have f1' := ZR.out.frozen 1
    have f2' := ZR.out.frozen 2
    have f0 : w7.drew.frozen? ⟨w.heap.size + 1, 0, none⟩ = false := ZR.out.frozen 0
    have f1 : w7.drew.frozen? ⟨w.heap.size + 1, 1, none⟩ = false := ZR.out.frozen 1
    have f2 : w7.drew.frozen? ⟨w.heap.size + 1, 2, none⟩ = false := ZR.out.frozen 2
    have HG3 : Hid (Gr w7 (((w7.setCell ⟨w.heap.size + 1, 0, none⟩ (.int .i64 F)).setCell ⟨w.heap.size + 1, 1, none⟩ (.slice (some ⟨g7, 0, none⟩) (cs.length + 1) cap7)).setCell ⟨w.heap.size + 1, 2, none⟩ (.bool true)).drew (fun k => k = w.heap.size + 1)) := Lib.hid ((((Gr.refl w7 (fun k => k = w.heap.size + 1)).setCell (p := ⟨w.heap.size + 1, 0, none⟩) (fun _ => rfl) _).setCell (p := ⟨w.heap.size + 1, 1, none⟩) (fun _ => rfl) _).setCell (p := ⟨w.heap.size + 1, 2, none⟩) (fun _ => rfl) _).drew
    have HRR : Hid (Bk (((w7.setCell ⟨w.heap.size + 1, 0, none⟩ (.int .i64 F)).setCell ⟨w.heap.size + 1, 1, none⟩ (.slice (some ⟨g7, 0, none⟩) (cs.length + 1) cap7)).setCell ⟨w.heap.size + 1, 2, none⟩ (.bool true)).drew (w.heap.size + 1) 29 (RefA F (.slice (some ⟨g7, 0, none⟩) (cs.length + 1) cap7))) := Lib.hid (by
      have hd : Bk w7 (w.heap.size + 1) 29 #[.int .i64 0, .slice none 0 0, .bool false] := ZR.out
      exact ((hd.set_ 0 _).set_ 1 _).set_ 2 _)
    go_wp2_with fail
    clear o6 o7 o8
    have HEND : Hid (RefP F w (cs ++ [newC F t]) (cs.length + 1 : Nat) (.returned (.tuple #[.agg (RefA F (.slice (some ⟨g7, 0, none⟩) (cs.length + 1) cap7)), .int .i64 (cs.length + 1 : Nat)])) (((w7.setCell ⟨w.heap.size + 1, 0, none⟩ (.int .i64 F)).setCell ⟨w.heap.size + 1, 1, none⟩ (.slice (some ⟨g7, 0, none⟩) (cs.length + 1) cap7)).setCell ⟨w.heap.size + 1, 2, none⟩ (.bool true)).drew) := Lib.hid (ref_end Z1.out HG3.out Z3.out Z4.out HBXX.out HN2'.out HW2.out HOO.out.lt)
    go_region_held3 (fun w' => w'.cell? ⟨O, 0, none⟩ = some (.int .i64 F) ∧ w'.cell? ⟨O, 1, none⟩ = some (.slice (some ⟨g7, 0, none⟩) (cs.length + 1) cap7) ∧ w'.cell? ⟨O, 2, none⟩ = some (.bool true)) (first | exact HS.out _ HG3.out | exact HS.out _ HG0.out | fail) (fail)
  all_goals go_wp2_with fail
  all_goals exact bodyPost_ret (results_heap Try.results22 rfl rfl HRR.out) rfl HEND.out
end Go.Proofs.Ytocgallcmgnmgaa
