/-
  DERIVED. One call on both heaps: does.
-/
import Derived.Test.YtocgallcmgnmgaaJf
namespace Go.Proofs.Ytocgallcmgnmgaa
open Go.RowKit Go.Maps

/-- What a call makes of the cells. -/
def stepC (F : Nat) (cs : List PC) (o : OpN) : List PC :=
  if o.kd % 4 = 0 then cs ++ [newC F o.t] else if o.kd % 4 = 1 then putC F cs o.c o.f o.d else if o.kd % 4 = 2 then freeC F cs o.c else cs
def DoesP (F : Nat) (w : World) (b : Nat) (R N : Nat → Prop) (cs : List PC) (e : Ending) (w' : World) : Prop :=
  ∃ v' N' R' vh, e = .returned (.tuple #[.agg (RefA F v'), .bool true]) ∧ HIs w' b R' F cs vh ∧ Out F w' N' v' cs ∧ HStp w w' b R R' ∧ (∀ k, N' k → N k ∨ w.heap.size ≤ k) ∧ (∀ k, N' k → ¬ (k = b ∨ R' k))
/-- The law's frame: the heap of the document's, the call, the result. -/
structure DFr (F : Nat) (w wr : World) (vr : Value) (o : OpN) : Prop where
  box : Bk wr w.heap.size 29 (RefA F vr)
  op : Bk wr (w.heap.size + 1) 35 (opA o.kd o.t o.c o.f o.d)
  res : Bk wr (w.heap.size + 1 + 1) 29 #[.int .i64 0, .slice none 0 0, .bool false]
  below : Below w.heap.size w wr
theorem DFr.start (F : Nat) (w : World) (vr : Value) (o : OpN) : DFr F w (((w.alloc (.cells (RefA F vr) 29)).alloc (.cells (opA o.kd o.t o.c o.f o.d) 35)).alloc (.cells #[.int .i64 0, .slice none 0 0, .bool false] 29)) vr o := by
  have e1 : (w.alloc (.cells (RefA F vr) 29)).heap.size = w.heap.size + 1 := by simp
  have e2 : ((w.alloc (.cells (RefA F vr) 29)).alloc (.cells (opA o.kd o.t o.c o.f o.d) 35)).heap.size = w.heap.size + 1 + 1 := by simp
  have b1 : Bk (w.alloc (.cells (RefA F vr) 29)) w.heap.size 29 (RefA F vr) := (MapKept.heap_alloc w _).1
  have b2 : Bk ((w.alloc (.cells (RefA F vr) 29)).alloc (.cells (opA o.kd o.t o.c o.f o.d) 35)) (w.heap.size + 1) 35 (opA o.kd o.t o.c o.f o.d) := by rw [← e1]; exact (MapKept.heap_alloc _ _).1
  exact ⟨(b1.below (alloc_below _ _) b1.lt).below (alloc_below _ _) (b1.below (alloc_below _ _) b1.lt).lt, b2.below (alloc_below _ _) b2.lt, by rw [← e2]; exact (MapKept.heap_alloc _ _).1, (((Below.refl _ _).alloc (Nat.le_refl _) _).alloc (by simp) _).alloc (by simp; omega) _⟩
theorem DFr.go {F : Nat} {w wr wz : World} {vr : Value} {o : OpN} (h : DFr F w wr vr o) (hb : Below wr.heap.size wr wz) : DFr F w wz vr o :=
  ⟨h.box.below hb h.box.lt, h.op.below hb h.op.lt, h.res.below hb h.res.lt, h.below.trans (hb.mono h.below.size)⟩
theorem RefP.q {F : Nat} {w : World} {N : Nat → Prop} {cs : List PC} {n : Int} {e : Ending} {w' : World} (h : RefP F w cs n e w') : RefQ F w N cs n e w' := by
  obtain ⟨v, N', h1, h2, h3, h4⟩ := h
  exact ⟨v, N', h1, h2, fun b hb => .inr (h3 b hb), h4⟩
/-- Behind both calls. -/
theorem does_end {F : Nat} {w wX wc w2 wz : World} {b : Nat} {R N N2 : Nat → Prop} {vr v2 : Value} {o : OpN} {cs : List PC} {ret : Value} {e : Ending} (hf : DFr F w wX vr o) (ho : Out F wX N2 v2 cs) (hN2 : ∀ k, N2 k → N k ∨ w.heap.size + 3 ≤ k)
    (hbl : b < w.heap.size) (hRl : ∀ k, R k → k < w.heap.size) (hNR : ∀ k, N k → ¬ (k = b ∨ R k)) (hNl : ∀ k, N k → k < w.heap.size) (hg1 : Gr wX wc (fun k => k = w.heap.size + 1 + 1)) (hp : HPost F wc b R cs ret e w2) (hg2 : Gr w2 wz (fun k => k = w.heap.size + 1 + 1)) :
    DoesP F w b R N cs (.returned (.tuple #[.agg (RefA F v2), .bool true])) wz := by
  obtain ⟨_, R', vh, h1, h2⟩ := hp
  have hres := hf.res.lt
  have hR' : ∀ k, R' k → R k ∨ wX.heap.size ≤ k := fun k hk => by
    rcases h2.new k hk with h | h
    · exact .inl h
    · exact .inr (by have := hg1.size; omega)
  have hne : ∀ k, N2 k → k ≠ w.heap.size + 1 + 1 := fun k hk e => by
    rcases hN2 k hk with h | h
    · have := hNl k h; omega
    · omega
  refine ⟨v2, N2, R', vh, rfl, ⟨hg2.bk h1.top (by omega), h1.out, Kin.Lie.gr h1.lie hg2 (fun k hk e => ?_)⟩, Kin.Lie.gr (Kin.Lie.gr (Kin.Lie.gr ho hg1 (fun k hk e => hne k hk e)) h2.gr (fun k hk e => ?_)) hg2 (fun k hk e => hne k hk e), ⟨?_, h2.sub, fun k hk => ?_⟩, fun k hk => ?_, fun k hk e => ?_⟩
  · rcases hR' k hk with h | h
    · have := hRl k h; omega
    · omega
  · rcases hN2 k hk with h | h
    · exact hNR k h e
    · rcases e with e | e
      · omega
      · have := hRl k e; omega
  · exact (((Gr.of_below (S := fun k => k = b ∨ R k) hf.below).then hg1 (fun i hi e => by omega)).then h2.gr (fun i hi e => e)).then hg2 (fun i hi e => by omega)
  · rcases hR' k hk with h | h
    · exact .inl h
    · exact .inr (by have := hf.below.size; omega)
  · rcases hN2 k hk with h | h
    · exact .inl h
    · exact .inr (by omega)
  · have hkl := ho.1 k hk
    rcases e with e | e
    · rcases hN2 k hk with h | h
      · exact hNR k h (.inl e)
      · omega
    · rcases hR' k e with h' | h'
      · rcases hN2 k hk with h | h
        · exact hNR k h (.inr h')
        · have := hRl k h'; omega
      · omega
theorem does_res {F : Nat} {w wX w5 : World} {b : Nat} {R : Nat → Prop} {vr : Value} {o : OpN} {cs : List PC} {ret : Value} {e : Ending} (hf : DFr F w wX vr o) (hbl : b < w.heap.size) (hRl : ∀ k, R k → k < w.heap.size) (hp : HPost F wX.drew b R cs ret e w5) :
    w5.cell? ⟨w.heap.size + 1 + 1, 0, none⟩ = some (.int .i64 0) ∧ w5.cell? ⟨w.heap.size + 1 + 1, 1, none⟩ = some (.slice none 0 0) ∧ w5.cell? ⟨w.heap.size + 1 + 1, 2, none⟩ = some (.bool false) ∧ w5.frozen? ⟨w.heap.size + 1 + 1, 0, none⟩ = false ∧ w5.frozen? ⟨w.heap.size + 1 + 1, 1, none⟩ = false ∧ w5.frozen? ⟨w.heap.size + 1 + 1, 2, none⟩ = false := by
  obtain ⟨_, R', vh, h1, h2⟩ := hp
  have hr : Bk wX.drew (w.heap.size + 1 + 1) 29 #[.int .i64 0, .slice none 0 0, .bool false] := hf.res
  have hb := h2.gr.bk hr (fun e => e.elim (fun e => by omega) (fun e => by have := hRl _ e; omega))
  exact ⟨hb.cell 0, hb.cell 1, hb.cell 2, hb.frozen 0, hb.frozen 1, hb.frozen 2⟩
theorem does_all {F : Nat} {w wX w5 : World} {b : Nat} {R N N2 : Nat → Prop} {vr v2 : Value} {o : OpN} {cs : List PC} {ret : Value} {e : Ending} (hf : DFr F w wX vr o) (ho : Out F wX N2 v2 cs) (hN2 : ∀ k, N2 k → N k ∨ w.heap.size + 3 ≤ k)
    (hbl : b < w.heap.size) (hRl : ∀ k, R k → k < w.heap.size) (hNR : ∀ k, N k → ¬ (k = b ∨ R k)) (hNl : ∀ k, N k → k < w.heap.size) (hp : HPost F wX.drew b R cs ret e w5) :
    Gr wX w5 (fun k => (k = b ∨ R k) ∨ k = w.heap.size + 1 + 1) ∧ Gr wX (((w5.setCell ⟨w.heap.size + 1 + 1, 0, none⟩ (.int .i64 F)).setCell ⟨w.heap.size + 1 + 1, 1, none⟩ v2).setCell ⟨w.heap.size + 1 + 1, 2, none⟩ (.bool true)) (fun k => (k = b ∨ R k) ∨ k = w.heap.size + 1 + 1) ∧
    Bk (((w5.setCell ⟨w.heap.size + 1 + 1, 0, none⟩ (.int .i64 F)).setCell ⟨w.heap.size + 1 + 1, 1, none⟩ v2).setCell ⟨w.heap.size + 1 + 1, 2, none⟩ (.bool true)) (w.heap.size + 1 + 1) 29 (RefA F v2) ∧
    DoesP F w b R N cs (.returned (.tuple #[.agg (RefA F v2), .bool true])) (((w5.setCell ⟨w.heap.size + 1 + 1, 0, none⟩ (.int .i64 F)).setCell ⟨w.heap.size + 1 + 1, 1, none⟩ v2).setCell ⟨w.heap.size + 1 + 1, 2, none⟩ (.bool true)) := by
  have hg2 : Gr w5 (((w5.setCell ⟨w.heap.size + 1 + 1, 0, none⟩ (.int .i64 F)).setCell ⟨w.heap.size + 1 + 1, 1, none⟩ v2).setCell ⟨w.heap.size + 1 + 1, 2, none⟩ (.bool true)) (fun k => k = w.heap.size + 1 + 1) :=
    (((Gr.refl w5 (fun k => k = w.heap.size + 1 + 1)).setCell (p := ⟨w.heap.size + 1 + 1, 0, none⟩) (fun _ => rfl) _).setCell (p := ⟨w.heap.size + 1 + 1, 1, none⟩) (fun _ => rfl) _).setCell (p := ⟨w.heap.size + 1 + 1, 2, none⟩) (fun _ => rfl) _
  have hend := does_end (wc := wX.drew) hf ho hN2 hbl hRl hNR hNl (Gr.refl wX _).drew hp hg2
  obtain ⟨_, R', vh, h1, h2⟩ := hp
  have hg1 : Gr wX w5 (fun k => (k = b ∨ R k) ∨ k = w.heap.size + 1 + 1) := ⟨h2.gr.os, h2.gr.tape, h2.gr.output, h2.gr.size, fun k hk hn => h2.gr.block k hk (fun e => hn (.inl e))⟩
  have hr : Bk wX.drew (w.heap.size + 1 + 1) 29 #[.int .i64 0, .slice none 0 0, .bool false] := hf.res
  have hb := h2.gr.bk hr (fun e => e.elim (fun e => by omega) (fun e => by have := hRl _ e; omega))
  exact ⟨hg1, hg1.then hg2 (fun i _ e => .inr e), ((hb.set_ 0 _).set_ 1 _).set_ 2 _, hend⟩
set_option maxHeartbeats 3200000 in
set_option maxRecDepth 100000 in
theorem does0 (F b : Nat) (R N : Nat → Prop) (cs : List PC) (v vr : Value) (o : OpN) (w : World) (h : HIs w b R F cs v) (hr : Out F w N vr cs) (hNR : ∀ k, N k → ¬ (k = b ∨ R k)) (hF : F ≤ 2000000) (hn : cs.length ≤ 2000000) (ho : o.ok) (hk : o.kd % 4 = 0) :
    Calls Try.prog 10 #[.pointer (some ⟨b, 0, none⟩), .agg (RefA F vr), .agg (opA o.kd o.t o.c o.f o.d)] w (DoesP F w b R N (cs ++ [newC F o.t])) := by
  have HFR := Lib.hid (DFr.start F w vr o)
  have HH := Lib.hid h
  have HR := Lib.hid hr
  have HNR := Lib.hid hNR
  have hkd0 : 0 ≤ o.kd ∧ o.kd ≤ 255 := by
    have := ho.1
    simp [Lit.wf, IntKind.min, IntKind.max, IntKind.signed, IntKind.bits] at this; omega
  obtain ⟨hkd1, hkd2⟩ := hkd0
  have htm : Int.tmod o.kd 4 = 0 := by rw [Int.tmod_eq_emod_of_nonneg hkd1]; exact hk
  have HRA := Lib.hid (fun (wa : World) (hb : Below w.heap.size w wa) => refAdd_any F N cs vr o.t wa (Kin.Lie.below HR.out hb) hF hn)
  have HPA := Lib.hid (fun (wa : World) (hi : HIs wa b R F cs v) => add_any F b R cs v o.t wa hi hn)
  clear h hr hNR
  unfold hp at HPA
  go_enter Try.func10, Try.ntmps10
  go_upto_region 1 with fail
  generalize ((w.alloc (.cells (RefA F vr) 29)).alloc (.cells (opA o.kd o.t o.c o.f o.d) 35)).alloc (.cells #[.int .i64 0, .slice none 0 0, .bool false] 29) = w1 at HFR ⊢
  have x0 := HFR.out.op.cell 0
  have x1 := HFR.out.op.cell 1
  go_wp2_with (first | ((with_reducible show wpList _ _ _ (Oper.mk (some 24) _ _ _ _ _ :: _) _ _); refine wpList_load_bk rfl 29 (.tmp 4) rfl w.heap.size 29 (RefA F vr) rfl _ HFR.out.box Try.underlying29 rfl size29 ?_))
  refine (HRA.out w1 HFR.out.below).mono ?_; rintro e w2 ⟨v2, N2, rfl, ho2, hn2, hb2⟩
  clear x0 x1
  have HF2 := Lib.hid (HFR.out.go hb2)
  have HO2 := Lib.hid ho2
  have HN2 : Hid (∀ k, N2 k → N k ∨ w.heap.size + 3 ≤ k) := Lib.hid (fun k hk => .inr (by have := hn2 k hk; have := HFR.out.res.lt; omega))
  clear ho2 hn2 hb2
  obtain ⟨p2, m2, c2, rfl⟩ : ∃ p m c, v2 = .slice p m c := by obtain ⟨p, c, h⟩ := HO2.out.form; exact ⟨_, _, _, h⟩
  go_upto_region 4 with (first | ((with_reducible show wpList _ _ _ (Oper.mk none (Op.store _ _ _) _ _ _ _ :: _) _ _); refine wpList_store_new rfl 29 (.tmp 8) (.tmp 28) rfl _ (RefA F (.slice p2 m2 c2)) rfl rfl size29 rfl HO2.out.oneA ?_))
  have hbX := alloc_below w2 (.cells (RefA F (.slice p2 m2 c2)) 29)
  have HFX := Lib.hid (HF2.out.go hbX)
  have HOX : Hid (Out F (w2.alloc (.cells (RefA F (.slice p2 m2 c2)) 29)) N2 (.slice p2 m2 c2) (cs ++ [newC F o.t])) := Lib.hid (Kin.Lie.below HO2.out hbX)
  have HTX : Hid (Bk (w2.alloc (.cells (RefA F (.slice p2 m2 c2)) 29)) w2.heap.size 29 (RefA F (.slice p2 m2 c2))) := Lib.hid (MapKept.heap_alloc w2 _).1
  have HT3 : Hid (w.heap.size + 3 ≤ w2.heap.size) := Lib.hid (by have := HF2.out.res.lt; omega)
  generalize w2.alloc (.cells (RefA F (.slice p2 m2 c2)) 29) = wX at HFX HOX HTX ⊢
  generalize w2.heap.size = T at HTX HT3 ⊢
  clear hbX HF2 HO2
  have HHD := Lib.hid (HH.out.below (below_drew HFX.out.below))
  have HCL := Lib.hid (HPA.out wX.drew HHD.out)
  have HSS : Hid (∀ w', Gr wX w' (fun k => (k = b ∨ R k) ∨ k = w.heap.size + 1 + 1) → w'.cell? ⟨T, 0, none⟩ = some (.int .i64 F) ∧ w'.cell? ⟨T, 1, none⟩ = some (.slice p2 m2 c2) ∧ w'.cell? ⟨T, 2, none⟩ = some (.bool true) ∧ w'.cell? ⟨w.heap.size + 1, 1, none⟩ = some (.int .i64 o.t) ∧ w'.cell? ⟨w.heap.size + 1, 2, none⟩ = some (.int .i64 o.c) ∧ w'.cell? ⟨w.heap.size + 1, 3, none⟩ = some (.int .i64 o.f) ∧ w'.cell? ⟨w.heap.size + 1, 4, none⟩ = some (.int .i64 o.d)) := Lib.hid (fun w' hg => by
    have h1 := hg.bk HTX.out (fun e => by have := HT3.out; have := HH.out.top.lt; exact e.elim (fun e => e.elim (fun e => by omega) (fun e => by have := HH.out.lie.1 _ e; omega)) (fun e => by omega))
    have h2 := hg.bk HFX.out.op (fun e => by have := HH.out.top.lt; exact e.elim (fun e => e.elim (fun e => by omega) (fun e => by have := HH.out.lie.1 _ e; omega)) (fun e => by omega))
    exact ⟨h1.cell 0, h1.cell 1, h1.cell 2, h2.cell 1, h2.cell 2, h2.cell 3, h2.cell 4⟩)
  have HGD : Hid (Gr wX wX.drew (fun k => (k = b ∨ R k) ∨ k = w.heap.size + 1 + 1)) := Lib.hid (Gr.refl wX _).drew
  go_region_held3 (fun w' => w'.cell? ⟨T, 0, none⟩ = some (.int .i64 F) ∧ w'.cell? ⟨T, 1, none⟩ = some (.slice p2 m2 c2) ∧ w'.cell? ⟨T, 2, none⟩ = some (.bool true) ∧ w'.cell? ⟨w.heap.size + 1, 1, none⟩ = some (.int .i64 o.t) ∧ w'.cell? ⟨w.heap.size + 1, 2, none⟩ = some (.int .i64 o.c) ∧ w'.cell? ⟨w.heap.size + 1, 3, none⟩ = some (.int .i64 o.f) ∧ w'.cell? ⟨w.heap.size + 1, 4, none⟩ = some (.int .i64 o.d)) (first | exact HSS.out _ HG6.out | exact HSS.out _ HG5.out | exact HSS.out _ HGD.out | fail) (first
    | (go_at_call 12; refine HCL.out.mono ?_; intro e w5 hp5; obtain ⟨y1, y2, y3, y4⟩ := does_all HFX.out HOX.out HN2.out HH.out.top.lt HH.out.lie.1 HNR.out (fun k hk => HR.out.1 k hk) hp5; have HG5 := Lib.hid y1; have HG6 := Lib.hid y2; have HBR := Lib.hid y3; have HEND := Lib.hid y4; have hrs := does_res HFX.out HH.out.top.lt HH.out.lie.1 hp5; obtain ⟨rfl, _⟩ := hp5; obtain ⟨r0, r1, r2, f0, f1, f2⟩ := hrs; clear y1 y2 y3 y4))
  go_wp2_with fail
  exact bodyPost_ret (results_heap Try.results10 rfl rfl HBR.out) rfl HEND.out
end Go.Proofs.Ytocgallcmgnmgaa
