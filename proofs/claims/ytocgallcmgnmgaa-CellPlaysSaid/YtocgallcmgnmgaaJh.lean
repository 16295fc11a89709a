/-
  DERIVED. One call on both heaps: does, the other kinds.
-/
import Derived.Test.YtocgallcmgnmgaaJg
namespace Go.Proofs.Ytocgallcmgnmgaa
open Go.RowKit Go.Maps

set_option maxHeartbeats 3200000 in
set_option maxRecDepth 100000 in
theorem does1 (F b : Nat) (R N : Nat → Prop) (cs : List PC) (v vr : Value) (o : OpN) (w : World) (h : HIs w b R F cs v) (hr : Out F w N vr cs) (hNR : ∀ k, N k → ¬ (k = b ∨ R k)) (hF : F ≤ 2000000) (hn : cs.length ≤ 2000000) (ho : o.ok) (hk : o.kd % 4 = 1) :
    Calls Try.prog 10 #[.pointer (some ⟨b, 0, none⟩), .agg (RefA F vr), .agg (opA o.kd o.t o.c o.f o.d)] w (DoesP F w b R N (putC F cs o.c o.f o.d)) := by
  have HFR := Lib.hid (DFr.start F w vr o)
  have HH := Lib.hid h
  have HR := Lib.hid hr
  have HNR := Lib.hid hNR
  have hkd0 : 0 ≤ o.kd ∧ o.kd ≤ 255 := by
    have := ho.1
    simp [Lit.wf, IntKind.min, IntKind.max, IntKind.signed, IntKind.bits] at this; omega
  obtain ⟨hkd1, hkd2⟩ := hkd0
  have htm : Int.tmod o.kd 4 = 1 := by rw [Int.tmod_eq_emod_of_nonneg hkd1]; exact hk
  have HRA := Lib.hid (fun (wa : World) (hb : Below w.heap.size w wa) => refPut_any F N cs vr o.c o.f o.d wa (Kin.Lie.below HR.out hb) hF hn)
  have HPA := Lib.hid (fun (wa : World) (hi : HIs wa b R F cs v) => put_any F b R cs v o.c o.f o.d wa hi hF (by unfold maxLen; omega) ho.2.2.2.2)
  clear h hr hNR
  unfold hp at HPA
  go_enter Try.func10, Try.ntmps10
  go_upto_region 1 with fail
  generalize ((w.alloc (.cells (RefA F vr) 29)).alloc (.cells (opA o.kd o.t o.c o.f o.d) 35)).alloc (.cells #[.int .i64 0, .slice none 0 0, .bool false] 29) = w1 at HFR ⊢
  have x0 := HFR.out.op.cell 0
  have x2 := HFR.out.op.cell 2
  have x3 := HFR.out.op.cell 3
  have x4 := HFR.out.op.cell 4
  go_wp2_with (first | ((with_reducible show wpList _ _ _ (Oper.mk (some 40) _ _ _ _ _ :: _) _ _); refine wpList_load_bk rfl 29 (.tmp 4) rfl w.heap.size 29 (RefA F vr) rfl _ HFR.out.box Try.underlying29 rfl size29 ?_))
  refine (HRA.out w1 HFR.out.below).mono ?_; rintro e w2 ⟨v2, N2, rfl, ho2, hn2, hb2⟩
  clear x0 x2 x3 x4
  have HF2 := Lib.hid (HFR.out.go hb2)
  have HO2 := Lib.hid ho2
  have HN2 : Hid (∀ k, N2 k → N k ∨ w.heap.size + 3 ≤ k) := Lib.hid (fun k hk => (hn2 k hk).imp (fun h => h) (fun h => by have := HFR.out.res.lt; omega))
  clear ho2 hn2 hb2
  obtain ⟨p2, m2, c2, rfl⟩ : ∃ p m c, v2 = .slice p m c := by obtain ⟨p, c, h⟩ := HO2.out.form; exact ⟨_, _, _, h⟩
  go_upto_region 7 with (first | ((with_reducible show wpList _ _ _ (Oper.mk none (Op.store _ _ _) _ _ _ _ :: _) _ _); refine wpList_store_new rfl 29 (.tmp 10) (.tmp 48) rfl _ (RefA F (.slice p2 m2 c2)) rfl rfl size29 rfl HO2.out.oneA ?_))
  have hbX := alloc_below w2 (.cells (RefA F (.slice p2 m2 c2)) 29)
  have HFX := Lib.hid (HF2.out.go hbX)
  have HOX : Hid (Out F (w2.alloc (.cells (RefA F (.slice p2 m2 c2)) 29)) N2 (.slice p2 m2 c2) (putC F cs o.c o.f o.d)) := Lib.hid (Kin.Lie.below HO2.out hbX)
  have HTX : Hid (Bk (w2.alloc (.cells (RefA F (.slice p2 m2 c2)) 29)) w2.heap.size 29 (RefA F (.slice p2 m2 c2))) := Lib.hid (MapKept.heap_alloc w2 _).1
  have HT3 : Hid (w.heap.size + 3 ≤ w2.heap.size) := Lib.hid (by have := HF2.out.res.lt; omega)
  generalize w2.alloc (.cells (RefA F (.slice p2 m2 c2)) 29) = wX at HFX HOX HTX ⊢
  generalize w2.heap.size = T at HTX HT3 ⊢
  clear hbX HF2 HO2
  have HHD := Lib.hid (HH.out.below (below_drew HFX.out.below))
  have HCL := Lib.hid (HPA.out wX.drew HHD.out)
  have HSS : Hid (∀ w', Gr wX w' (fun k => (k = b ∨ R k) ∨ k = w.heap.size + 1 + 1) → w'.cell? ⟨T, 0, none⟩ = some (.int .i64 F) ∧ w'.cell? ⟨T, 1, none⟩ = some (.slice p2 m2 c2) ∧ w'.cell? ⟨T, 2, none⟩ = some (.bool true) ∧ w'.cell? ⟨w.heap.size + 1, 1, none⟩ = some (.int .i64 o.t) ∧ w'.cell? ⟨w.heap.size + 1, 2, none⟩ = some (.int .i64 o.c) ∧ w'.cell? ⟨w.heap.size + 1, 3, none⟩ = some (.int .i64 o.f) ∧ w'.cell? ⟨w.heap.size + 1, 4, none⟩ = some (.int .i64 o.d)) := Lib.hid (fun w' hg => by
    have h1 := hg.bk HTX.out (fun e => by have := HT3.out; have := HH.out.top.lt; exact e.elim (fun e => e.elim (fun e => by omega) (fun e => by have := HH.out.lie.1 _ e; omega)) (fun e => by omega))
    have h2 := hg.bk HFX.out.op (fun e => by have := HH.out.top.lt; exact e.elim (fun e => e.elim (fun e => by omega) (fun e => by have := HH.out.lie.1 _ e; omega)) (fun e => by omega))
    exact ⟨h1.cell 0, h1.cell 1, h1.cell 2, h2.cell 1, h2.cell 2, h2.cell 3, h2.cell 4⟩)
  have HGD : Hid (Gr wX wX.drew (fun k => (k = b ∨ R k) ∨ k = w.heap.size + 1 + 1)) := Lib.hid (Gr.refl wX _).drew
  go_region_held3 (fun w' => w'.cell? ⟨T, 0, none⟩ = some (.int .i64 F) ∧ w'.cell? ⟨T, 1, none⟩ = some (.slice p2 m2 c2) ∧ w'.cell? ⟨T, 2, none⟩ = some (.bool true) ∧ w'.cell? ⟨w.heap.size + 1, 1, none⟩ = some (.int .i64 o.t) ∧ w'.cell? ⟨w.heap.size + 1, 2, none⟩ = some (.int .i64 o.c) ∧ w'.cell? ⟨w.heap.size + 1, 3, none⟩ = some (.int .i64 o.f) ∧ w'.cell? ⟨w.heap.size + 1, 4, none⟩ = some (.int .i64 o.d)) (first | exact HSS.out _ HG6.out | exact HSS.out _ HG5.out | exact HSS.out _ HGD.out | fail) (first
    | (go_at_call 13; refine HCL.out.mono ?_; intro e w5 hp5; obtain ⟨y1, y2, y3, y4⟩ := does_all HFX.out HOX.out HN2.out HH.out.top.lt HH.out.lie.1 HNR.out (fun k hk => HR.out.1 k hk) hp5; have HG5 := Lib.hid y1; have HG6 := Lib.hid y2; have HBR := Lib.hid y3; have HEND := Lib.hid y4; have hrs := does_res HFX.out HH.out.top.lt HH.out.lie.1 hp5; obtain ⟨rfl, _⟩ := hp5; obtain ⟨r0, r1, r2, f0, f1, f2⟩ := hrs; clear y1 y2 y3 y4))
  go_wp2_with fail
  exact bodyPost_ret (results_heap Try.results10 rfl rfl HBR.out) rfl HEND.out
set_option maxHeartbeats 3200000 in
set_option maxRecDepth 100000 in
theorem does2 (F b : Nat) (R N : Nat → Prop) (cs : List PC) (v vr : Value) (o : OpN) (w : World) (h : HIs w b R F cs v) (hr : Out F w N vr cs) (hNR : ∀ k, N k → ¬ (k = b ∨ R k)) (hF : F ≤ 2000000) (hn : cs.length ≤ 2000000) (ho : o.ok) (hk : o.kd % 4 = 2) :
    Calls Try.prog 10 #[.pointer (some ⟨b, 0, none⟩), .agg (RefA F vr), .agg (opA o.kd o.t o.c o.f o.d)] w (DoesP F w b R N (freeC F cs o.c)) := by
  have HFR := Lib.hid (DFr.start F w vr o)
  have HH := Lib.hid h
  have HR := Lib.hid hr
  have HNR := Lib.hid hNR
  have hkd0 : 0 ≤ o.kd ∧ o.kd ≤ 255 := by
    have := ho.1
    simp [Lit.wf, IntKind.min, IntKind.max, IntKind.signed, IntKind.bits] at this; omega
  obtain ⟨hkd1, hkd2⟩ := hkd0
  have htm : Int.tmod o.kd 4 = 2 := by rw [Int.tmod_eq_emod_of_nonneg hkd1]; exact hk
  have HRA := Lib.hid (fun (wa : World) (hb : Below w.heap.size w wa) => refFree_any F N cs vr o.c wa (Kin.Lie.below HR.out hb) hF hn)
  have HPA := Lib.hid (fun (wa : World) (hi : HIs wa b R F cs v) => free_any F b R cs v o.c wa hi (by unfold maxLen; omega))
  clear h hr hNR
  unfold hp at HPA
  go_enter Try.func10, Try.ntmps10
  go_upto_region 1 with fail
  generalize ((w.alloc (.cells (RefA F vr) 29)).alloc (.cells (opA o.kd o.t o.c o.f o.d) 35)).alloc (.cells #[.int .i64 0, .slice none 0 0, .bool false] 29) = w1 at HFR ⊢
  have x0 := HFR.out.op.cell 0
  have x2 := HFR.out.op.cell 2
  have x3 := HFR.out.op.cell 3
  have x4 := HFR.out.op.cell 4
  go_wp2_with (first | ((with_reducible show wpList _ _ _ (Oper.mk (some 64) _ _ _ _ _ :: _) _ _); refine wpList_load_bk rfl 29 (.tmp 4) rfl w.heap.size 29 (RefA F vr) rfl _ HFR.out.box Try.underlying29 rfl size29 ?_))
  refine (HRA.out w1 HFR.out.below).mono ?_; rintro e w2 ⟨v2, N2, rfl, ho2, hn2, hb2⟩
  clear x0 x2 x3 x4
  have HF2 := Lib.hid (HFR.out.go hb2)
  have HO2 := Lib.hid ho2
  have HN2 : Hid (∀ k, N2 k → N k ∨ w.heap.size + 3 ≤ k) := Lib.hid (fun k hk => (hn2 k hk).imp (fun h => h) (fun h => by have := HFR.out.res.lt; omega))
  clear ho2 hn2 hb2
  obtain ⟨p2, m2, c2, rfl⟩ : ∃ p m c, v2 = .slice p m c := by obtain ⟨p, c, h⟩ := HO2.out.form; exact ⟨_, _, _, h⟩
  go_upto_region 10 with (first | ((with_reducible show wpList _ _ _ (Oper.mk none (Op.store _ _ _) _ _ _ _ :: _) _ _); refine wpList_store_new rfl 29 (.tmp 12) (.tmp 68) rfl _ (RefA F (.slice p2 m2 c2)) rfl rfl size29 rfl HO2.out.oneA ?_))
  have hbX := alloc_below w2 (.cells (RefA F (.slice p2 m2 c2)) 29)
  have HFX := Lib.hid (HF2.out.go hbX)
  have HOX : Hid (Out F (w2.alloc (.cells (RefA F (.slice p2 m2 c2)) 29)) N2 (.slice p2 m2 c2) (freeC F cs o.c)) := Lib.hid (Kin.Lie.below HO2.out hbX)
  have HTX : Hid (Bk (w2.alloc (.cells (RefA F (.slice p2 m2 c2)) 29)) w2.heap.size 29 (RefA F (.slice p2 m2 c2))) := Lib.hid (MapKept.heap_alloc w2 _).1
  have HT3 : Hid (w.heap.size + 3 ≤ w2.heap.size) := Lib.hid (by have := HF2.out.res.lt; omega)
  generalize w2.alloc (.cells (RefA F (.slice p2 m2 c2)) 29) = wX at HFX HOX HTX ⊢
  generalize w2.heap.size = T at HTX HT3 ⊢
  clear hbX HF2 HO2
  have HHD := Lib.hid (HH.out.below (below_drew HFX.out.below))
  have HCL := Lib.hid (HPA.out wX.drew HHD.out)
  have HSS : Hid (∀ w', Gr wX w' (fun k => (k = b ∨ R k) ∨ k = w.heap.size + 1 + 1) → w'.cell? ⟨T, 0, none⟩ = some (.int .i64 F) ∧ w'.cell? ⟨T, 1, none⟩ = some (.slice p2 m2 c2) ∧ w'.cell? ⟨T, 2, none⟩ = some (.bool true) ∧ w'.cell? ⟨w.heap.size + 1, 1, none⟩ = some (.int .i64 o.t) ∧ w'.cell? ⟨w.heap.size + 1, 2, none⟩ = some (.int .i64 o.c) ∧ w'.cell? ⟨w.heap.size + 1, 3, none⟩ = some (.int .i64 o.f) ∧ w'.cell? ⟨w.heap.size + 1, 4, none⟩ = some (.int .i64 o.d)) := Lib.hid (fun w' hg => by
    have h1 := hg.bk HTX.out (fun e => by have := HT3.out; have := HH.out.top.lt; exact e.elim (fun e => e.elim (fun e => by omega) (fun e => by have := HH.out.lie.1 _ e; omega)) (fun e => by omega))
    have h2 := hg.bk HFX.out.op (fun e => by have := HH.out.top.lt; exact e.elim (fun e => e.elim (fun e => by omega) (fun e => by have := HH.out.lie.1 _ e; omega)) (fun e => by omega))
    exact ⟨h1.cell 0, h1.cell 1, h1.cell 2, h2.cell 1, h2.cell 2, h2.cell 3, h2.cell 4⟩)
  have HGD : Hid (Gr wX wX.drew (fun k => (k = b ∨ R k) ∨ k = w.heap.size + 1 + 1)) := Lib.hid (Gr.refl wX _).drew
  go_region_held3 (fun w' => w'.cell? ⟨T, 0, none⟩ = some (.int .i64 F) ∧ w'.cell? ⟨T, 1, none⟩ = some (.slice p2 m2 c2) ∧ w'.cell? ⟨T, 2, none⟩ = some (.bool true) ∧ w'.cell? ⟨w.heap.size + 1, 1, none⟩ = some (.int .i64 o.t) ∧ w'.cell? ⟨w.heap.size + 1, 2, none⟩ = some (.int .i64 o.c) ∧ w'.cell? ⟨w.heap.size + 1, 3, none⟩ = some (.int .i64 o.f) ∧ w'.cell? ⟨w.heap.size + 1, 4, none⟩ = some (.int .i64 o.d)) (first | exact HSS.out _ HG6.out | exact HSS.out _ HG5.out | exact HSS.out _ HGD.out | fail) (first
    | (go_at_call 15; refine HCL.out.mono ?_; intro e w5 hp5; obtain ⟨y1, y2, y3, y4⟩ := does_all HFX.out HOX.out HN2.out HH.out.top.lt HH.out.lie.1 HNR.out (fun k hk => HR.out.1 k hk) hp5; have HG5 := Lib.hid y1; have HG6 := Lib.hid y2; have HBR := Lib.hid y3; have HEND := Lib.hid y4; have hrs := does_res HFX.out HH.out.top.lt HH.out.lie.1 hp5; obtain ⟨rfl, _⟩ := hp5; obtain ⟨r0, r1, r2, f0, f1, f2⟩ := hrs; clear y1 y2 y3 y4))
  go_wp2_with fail
  exact bodyPost_ret (results_heap Try.results10 rfl rfl HBR.out) rfl HEND.out
theorem does_get {F : Nat} {w wX wz : World} {b : Nat} {R N : Nat → Prop} {v vr : Value} {o : OpN} {cs : List PC} (hf : DFr F w wX vr o) (hh : HIs w b R F cs v) (ho : Out F w N vr cs) (hNR : ∀ k, N k → ¬ (k = b ∨ R k)) (hg : wX.grownBy wz (some (w.heap.size + 1 + 1))) :
    DoesP F w b R N cs (.returned (.tuple #[.agg (RefA F vr), .bool true])) wz := by
  have hb : Below w.heap.size w wz := hf.below.grown hg hf.below.size (fun j hj => by injection hj with hj; omega)
  exact ⟨vr, N, R, v, rfl, hh.below hb, Kin.Lie.below ho hb, ⟨Gr.of_below hb, fun _ h => h, fun _ h => .inl h⟩, fun _ h => .inl h, hNR⟩
set_option maxHeartbeats 3200000 in
set_option maxRecDepth 100000 in
theorem does3 (F b : Nat) (R N : Nat → Prop) (cs : List PC) (v vr : Value) (o : OpN) (w : World) (h : HIs w b R F cs v) (hr : Out F w N vr cs) (hNR : ∀ k, N k → ¬ (k = b ∨ R k)) (hF : F ≤ 2000000) (hn : cs.length ≤ 2000000) (ho : o.ok) (hk : o.kd % 4 = 3) :
    Calls Try.prog 10 #[.pointer (some ⟨b, 0, none⟩), .agg (RefA F vr), .agg (opA o.kd o.t o.c o.f o.d)] w (DoesP F w b R N cs) := by
  have HFR := Lib.hid (DFr.start F w vr o)
  have HH := Lib.hid h
  have HR := Lib.hid hr
  have HNR := Lib.hid hNR
  have hkd0 : 0 ≤ o.kd ∧ o.kd ≤ 255 := by
    have := ho.1
    simp [Lit.wf, IntKind.min, IntKind.max, IntKind.signed, IntKind.bits] at this; omega
  obtain ⟨hkd1, hkd2⟩ := hkd0
  have htm : Int.tmod o.kd 4 = 3 := by rw [Int.tmod_eq_emod_of_nonneg hkd1]; exact hk
  have HRA := Lib.hid (fun (wa : World) (hb : Below w.heap.size w wa) => refGet_any F N cs vr o.c o.f wa (Kin.Lie.below HR.out hb) hn)
  have HPA := Lib.hid (fun (wa : World) (hi : HIs wa b R F cs v) => get_any F b R cs v o.c o.f wa hi hF (by unfold maxLen; omega))
  clear h hr hNR
  unfold hp at HPA
  generalize getV F cs o.c o.f = gv at HRA HPA
  generalize faultC cs o.c = gf at HRA HPA
  go_enter Try.func10, Try.ntmps10
  go_upto_region 1 with fail
  generalize ((w.alloc (.cells (RefA F vr) 29)).alloc (.cells (opA o.kd o.t o.c o.f o.d) 35)).alloc (.cells #[.int .i64 0, .slice none 0 0, .bool false] 29) = w1 at HFR ⊢
  have x0 := HFR.out.op.cell 0
  have x2 := HFR.out.op.cell 2
  have x3 := HFR.out.op.cell 3
  have HG1 := Lib.hid (HPA.out w1 (HH.out.below HFR.out.below))
  have HG2 := Lib.hid (HRA.out w1 HFR.out.below)
  go_wp2_with (first
    | ((with_reducible show wpList _ _ _ (Oper.mk (some 87) _ _ _ _ _ :: _) _ _); refine wpList_load_bk rfl 29 (.tmp 4) rfl w.heap.size 29 (RefA F vr) rfl _ HFR.out.box Try.underlying29 rfl size29 ?_)
    | (go_at_call 16; refine HG1.out.mono ?_; rintro e w' ⟨rfl, rfl⟩; unfold two))
  refine HG2.out.mono ?_; rintro e w2 ⟨rfl, hb2⟩
  have HF2 := Lib.hid (HFR.out.go hb2)
  have HR2 := Lib.hid HF2.out.res
  clear x0 x2 x3 hb2 HG1 HG2 HFR
  obtain ⟨p2, m2, c2, rfl⟩ : ∃ p m c, vr = .slice p m c := by obtain ⟨p, c, h⟩ := HR.out.form; exact ⟨_, _, _, h⟩
  go_wp2_with (first
    | ((with_reducible show wpList _ _ _ (Oper.mk (some 95) _ _ _ _ _ :: _) _ _); refine wpList_load_bk rfl 29 (.tmp 4) rfl w.heap.size 29 (RefA F (.slice p2 m2 c2)) rfl _ HF2.out.box Try.underlying29 rfl size29 ?_)
    | ((with_reducible show wpList _ _ _ (Oper.mk none (Op.store 29 _ _) _ _ _ _ :: _) _ _); refine wpList_store_part rfl 29 (.tmp 6) (.tmp 95) rfl (w.heap.size + 1 + 1) 0 29 _ (RefA F (.slice p2 m2 c2)) rfl rfl HR2.out size29 (by simp) (by simp [Value.oneCell']) ?_; intro wz cur q1 q2 q3 q4 q5; have HB : Hid (Bk wz (w.heap.size + 1 + 1) 29 (RefA F (.slice p2 m2 c2))) := Lib.hid (own_res q2 q3 ▸ q1); have HEND := Lib.hid (does_get HF2.out HH.out HR.out HNR.out q5); clear q1 q2 q3 q4 q5))
  exact bodyPost_ret (results_heap Try.results10 rfl rfl HB.out) rfl HEND.out
/-- One call on both. -/
theorem does_any (F b : Nat) (R N : Nat → Prop) (cs : List PC) (v vr : Value) (o : OpN) (w : World) (h : HIs w b R F cs v) (hr : Out F w N vr cs) (hNR : ∀ k, N k → ¬ (k = b ∨ R k)) (hF : F ≤ 2000000) (hn : cs.length ≤ 2000000) (ho : o.ok) :
    Calls Try.prog 10 #[.pointer (some ⟨b, 0, none⟩), .agg (RefA F vr), .agg (opA o.kd o.t o.c o.f o.d)] w (DoesP F w b R N (stepC F cs o)) := by
  unfold stepC
  by_cases h0 : o.kd % 4 = 0
  · rw [if_pos h0]; exact does0 F b R N cs v vr o w h hr hNR hF hn ho h0
  · rw [if_neg h0]
    by_cases h1 : o.kd % 4 = 1
    · rw [if_pos h1]; exact does1 F b R N cs v vr o w h hr hNR hF hn ho h1
    · rw [if_neg h1]
      by_cases h2 : o.kd % 4 = 2
      · rw [if_pos h2]; exact does2 F b R N cs v vr o w h hr hNR hF hn ho h2
      · rw [if_neg h2]; exact does3 F b R N cs v vr o w h hr hNR hF hn ho (by omega)
end Go.Proofs.Ytocgallcmgnmgaa
