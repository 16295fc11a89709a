/-
  DERIVED. The walk of the search for circles (circles).
-/
import Derived.Test.YtnkimfbdcghgpaaDoorXx
import Derived.Scope
namespace Go.Proofs.YtnkimfbdcghgpaaDoor
open Go.RowKit Go.Sort Go.Shelf
attribute [local go_sem] Oper.semAt_some

/-- The frame of the search's loop. -/
def FrC (C n wb mb s0 mbx fbx obx : Nat) (L : List Nat) (a : Act) : Prop := ∃ u3 u4 u8 u9 u10 u11 u12 u13 u14 u15 u16 u17 u18 u19 u20 u21 u22 u23 u24 u25 u26 u27 u28 u29 u30 u31 u32 u33 u34 u35 u36 u37 u38 u39 u40 u41 u42 u43 u44 u45 u46 u47 u48 u49 : Value, a = { tmps := #[.slice (some ⟨wb, 0, none⟩) n C, .int .i64 s0, .slice (some ⟨mb, 0, none⟩) n n, u3, u4, .pointer (some ⟨mbx, 0, none⟩), .pointer (some ⟨fbx, 0, none⟩), .pointer (some ⟨obx, 0, none⟩), u8, u9, u10, u11, u12, u13, u14, u15, u16, u17, u18, u19, u20, u21, u22, u23, u24, u25, u26, u27, u28, u29, u30, u31, u32, u33, u34, u35, u36, u37, u38, u39, u40, u41, u42, u43, u44, u45, u46, u47, u48, u49], defers := L.map mark }
theorem scopeIn {c : Code} {n : Nat} {P : Program} {Q : Exit → Act → World → Prop} {a : Act} {w : World} (h : c.wpIn Fence.wide n P (Exit.noGoto Q) a w) : (Code.scope c).wpIn Fence.wide n P Q a w := wpIn_wide.2 (wp_scope_straight ((wpIn_wide (n := n)).1 h))
theorem sct_start {w : World} {wb mb n s0 : Nat} {m : List Int} (hm : Bk w mb 66 (m.map mv).toArray) (hne : mb ≠ wb) :
    Sct w wb mb ((((w.alloc (.cells #[.slice (some ⟨mb, 0, none⟩) n n] 65)).alloc (.cells #[.bool false] 4)).alloc (.cells #[.int .i64 s0] 3)).alloc (.cells #[.slice (some ⟨w.heap.size + 1 + 1, 0, none⟩) 1 1] 23)) n w.heap.size (w.heap.size + 1) (w.heap.size + 1 + 1 + 1) (fun g => g = w.heap.size ∨ g = w.heap.size + 1 ∨ g = w.heap.size + 1 + 1 + 1) m (stk [s0]) (.slice (some ⟨w.heap.size + 1 + 1, 0, none⟩) 1 1) [] := by
  have hml := hm.lt
  have k1 := heap_alloc_new w (.cells #[.slice (some ⟨mb, 0, none⟩) n n] 65)
  have g1 := Gr.new (A := w) (.cells #[.slice (some ⟨mb, 0, none⟩) n n] 65)
  have z1 := World.size_alloc w (.cells #[.slice (some ⟨mb, 0, none⟩) n n] 65)
  generalize w.alloc (.cells #[.slice (some ⟨mb, 0, none⟩) n n] 65) = w1 at *
  have k2 := heap_alloc_new w1 (.cells #[.bool false] 4)
  have g2 := Gr.new (A := w1) (.cells #[.bool false] 4)
  have z2 := World.size_alloc w1 (.cells #[.bool false] 4)
  rw [z1] at k2 z2
  generalize w1.alloc (.cells #[.bool false] 4) = w2 at *
  have k3 := heap_alloc_new w2 (.cells #[.int .i64 s0] 3)
  have g3 := Gr.new (A := w2) (.cells #[.int .i64 s0] 3)
  have z3 := World.size_alloc w2 (.cells #[.int .i64 s0] 3)
  rw [z2] at k3 z3
  generalize w2.alloc (.cells #[.int .i64 s0] 3) = w3 at *
  have k4 := heap_alloc_new w3 (.cells #[.slice (some ⟨w.heap.size + 1 + 1, 0, none⟩) 1 1] 23)
  have g4 := Gr.new (A := w3) (.cells #[.slice (some ⟨w.heap.size + 1 + 1, 0, none⟩) 1 1] 23)
  have z4 := World.size_alloc w3 (.cells #[.slice (some ⟨w.heap.size + 1 + 1, 0, none⟩) 1 1] 23)
  rw [z3] at k4 z4
  generalize w3.alloc (.cells #[.slice (some ⟨w.heap.size + 1 + 1, 0, none⟩) 1 1] 23) = w4 at *
  have hF : ∀ {A B : World}, Gr A B (fun _ => False) → Gr A B (fun k => k = wb ∨ k = mb) := fun h => h.mono (fun _ _ e => e.elim)
  have hb3 : Bk w4 (w.heap.size + 1 + 1) 3 #[.int .i64 s0] := g4.bk k3 id
  refine ⟨(((hF g1).trans (hF g2)).trans (hF g3)).trans (hF g4), ⟨Nat.le_refl _, by omega, by omega⟩, ⟨hml, hne⟩, g4.bk (g3.bk (g2.bk (g1.bk hm id) id) id) id, g4.bk (g3.bk (g2.bk k1 id) id) id, g4.bk (g3.bk k2 id) id, k4,
    .inr ⟨w.heap.size + 1 + 1, 0, 1, [.int .i64 s0], rfl, by omega, hb3, Nat.le_refl _, by unfold maxLen; omega, by simp, by simp [iv, stk]⟩, ?_, ⟨.inl rfl, .inr (.inl rfl), .inr (.inr rfl), ?_⟩, List.nodup_nil, fun D hD => by cases hD⟩
  · rintro g h e
    have e2 : w.heap.size + 1 + 1 = g := Option.some.inj e
    omega
  · rintro g h
    omega
theorem res30 (tmps : Array Value) (W : World) (fbx : Nat) (b : Bool) (h6 : tmps[6]?.getD undef = .pointer (some ⟨fbx, 0, none⟩)) (hc : W.cell? ⟨fbx, 0, none⟩ = some (.bool b)) : (results Tryd.f30 tmps).run Tryd.prog W = .ok (.bool b) W := by
  simp [results, h6, loadVar, isAgg, hc, go_sem]
theorem OT.cut {w : World} {B g off c k : Nat} {xs : List Int} {x : Int} (h : OT w B (.slice (some ⟨g, off, none⟩) (k + 1) c) (xs ++ [x])) (hk : xs.length = k) : OT w B (.slice (some ⟨g, off, none⟩) k c) xs := by
  obtain ⟨g', off', c', e, -, -, h1⟩ := h.last
  injection e with e1 e2 e3
  injection e1 with e1
  injection e1 with e4 e5
  subst e4; subst e5; subst e3
  rw [← hk]; exact h1
theorem sct_round {w W : World} {wb mb n C mbx fbx obx t : Nat} {m os : List Int} {v : Value} {L : List Nat} (h : Sct w wb mb W n mbx fbx obx (fun g => g = mbx ∨ g = fbx ∨ g = obx) m os v L) :
    Sct w wb mb (((W.setCell ⟨mb, t, none⟩ (.int .u8 1)).alloc (.cells #[.slice (some ⟨wb, 0, none⟩) n C] 41)).alloc (.cells #[.int .i64 t] 3)) n mbx fbx obx (fun g => g = mbx ∨ g = fbx ∨ g = obx ∨ g = W.heap.size ∨ g = W.heap.size + 1) (m.set t 1) os v L ∧
    Bk (((W.setCell ⟨mb, t, none⟩ (.int .u8 1)).alloc (.cells #[.slice (some ⟨wb, 0, none⟩) n C] 41)).alloc (.cells #[.int .i64 t] 3)) W.heap.size 41 #[.slice (some ⟨wb, 0, none⟩) n C] ∧
    Bk (((W.setCell ⟨mb, t, none⟩ (.int .u8 1)).alloc (.cells #[.slice (some ⟨wb, 0, none⟩) n C] 41)).alloc (.cells #[.int .i64 t] 3)) (W.heap.size + 1) 3 #[.int .i64 t] ∧
    Gr W (((W.setCell ⟨mb, t, none⟩ (.int .u8 1)).alloc (.cells #[.slice (some ⟨wb, 0, none⟩) n C] 41)).alloc (.cells #[.int .i64 t] 3)) (fun k => k = mb) := by
  have s1 := h.put t 1
  have g1 : Gr W (W.setCell ⟨mb, t, none⟩ (.int .u8 1)) (fun k => k = mb) := Gr.one mb t _
  have z1 : (W.setCell ⟨mb, t, none⟩ (.int .u8 1)).heap.size = W.heap.size := World.size_setCell ..
  generalize W.setCell ⟨mb, t, none⟩ (.int .u8 1) = w1 at *
  have k2 := heap_alloc_new w1 (.cells #[.slice (some ⟨wb, 0, none⟩) n C] 41)
  have g2 := Gr.new (A := w1) (.cells #[.slice (some ⟨wb, 0, none⟩) n C] 41)
  have z2 := World.size_alloc w1 (.cells #[.slice (some ⟨wb, 0, none⟩) n C] 41)
  rw [z1] at k2 z2
  have s2 := s1.kept g2 (fun _ e => e.elim) id id id id (fun _ _ => id) (fun _ _ => id)
  generalize w1.alloc (.cells #[.slice (some ⟨wb, 0, none⟩) n C] 41) = w2 at *
  have k3 := heap_alloc_new w2 (.cells #[.int .i64 t] 3)
  have g3 := Gr.new (A := w2) (.cells #[.int .i64 t] 3)
  have z3 := World.size_alloc w2 (.cells #[.int .i64 t] 3)
  rw [z2] at k3 z3
  have s3 := s2.kept g3 (fun _ e => e.elim) id id id id (fun _ _ => id) (fun _ _ => id)
  refine ⟨s3.more (fun _ e => by omega) (fun q hq e => ?_) (fun q hq => ?_), g3.bk k2 id, k3, (g1.trans (g2.mono (fun _ _ e => e.elim))).trans (g3.mono (fun _ _ e => e.elim))⟩
  · have e1 := (h.q.lt q e).2
    have h1 := h.ne q
    have : ¬ (q = mbx ∨ q = fbx ∨ q = obx) := fun e2 => h1 e2 e
    omega
  · have h1 := h.sb.lt
    have h2 := h.fb.lt
    have h3 := h.ob.lt
    omega
/-- What the search leaves behind. -/
def CiPost (XS : List (List Ed)) (m : List Int) (wb mb b0 s0 : Nat) (w w' : World) (e : Ending) : Prop :=
  ∃ r : Bool, e = .returned (.bool r) ∧ Gr w w' (fun k => k = wb ∨ k = mb) ∧ (r = true → Circ XS) ∧
    (r = false → ∃ (RS : List (List Ed)) (m' : List Int) (sh : List Nat) (vs : List Value), Df XS RS m' sh [] ∧ Bk w' mb 66 (m'.map mv).toArray ∧ Wv w' wb (fun k => k < b0) vs RS ∧ (∀ p : Nat, m'[p]? = some (0 : Int) → m[p]? = some (0 : Int)) ∧ m'[s0]? ≠ some (0 : Int) ∧ left RS ≤ 40000)
set_option maxRecDepth 100000 in
set_option maxHeartbeats 3200000 in
theorem circles_any {XS RS : List (List Ed)} {m : List Int} {sh : List Nat} (w : World) (wb mb b0 C s0 n : Nat) (vs : List Value) (hw : Wv w wb (fun k => k < b0) vs RS) (hwb : wb < b0) (hb0 : b0 ≤ mb) (hm : Bk w mb 66 (m.map mv).toArray) (hn : n = XS.length) (hn2 : n ≤ 2000) (hE : InE XS) (hd : Df XS RS m sh [s0]) (hlf : left RS ≤ 40000) :
    Calls Tryd.prog 30 #[.slice (some ⟨wb, 0, none⟩) n C, .int .i64 s0, .slice (some ⟨mb, 0, none⟩) n n] w fun e w' => CiPost XS m wb mb b0 s0 w w' e := by
  refine (callsIn_wide (n := 9)).1 ?_
  refine callsIn_of_wp_marks Tryd.func30 rfl trivial ?_ rfl
  simp only [Tryd.ntmps30, List.size_toArray, List.length_cons, List.length_nil, Nat.reduceAdd, Nat.reduceSub, Array.replicate_succ, Array.replicate_zero, List.push_toArray, List.append_toArray, List.nil_append, List.cons_append]
  have HNN := Lib.hid hn
  have HW := Lib.hid hw
  have HM := Lib.hid hm
  have HD := Lib.hid hd
  have HE := Lib.hid hE
  have HBO := Lib.hid (And.intro hwb hb0)
  have HMB : Hid (mb < w.heap.size) := Lib.hid hm.lt
  have hm0 : 0 < n := by have := hd.inr s0 (by simp); omega
  clear hn hw hm hd hE hwb hb0
  gi_wp2
  refine scopeIn ?_
  gi_wp2
  refine wpIn_label ?_
  gi_wp2
  have HST0 := Lib.hid (sct_start (wb := wb) (n := n) (s0 := s0) HM.out (by have := HBO.out; omega))
  have HWV0 : Hid (Wv ((((w.alloc (.cells #[.slice (some ⟨mb, 0, none⟩) n n] 65)).alloc (.cells #[.bool false] 4)).alloc (.cells #[.int .i64 s0] 3)).alloc (.cells #[.slice (some ⟨w.heap.size + 1 + 1, 0, none⟩) 1 1] 23)) wb (fun k => k < b0) vs RS) := Lib.hid ((((HW.out.alloc _).alloc _).alloc _).alloc _)
  obtain ⟨mbx, hmbx⟩ : ∃ mbx, mbx = w.heap.size := ⟨_, rfl⟩
  have HMX := Lib.hid hmbx
  generalize ((((w.alloc (.cells #[.slice (some ⟨mb, 0, none⟩) n n] 65)).alloc (.cells #[.bool false] 4)).alloc (.cells #[.int .i64 s0] 3)).alloc (.cells #[.slice (some ⟨w.heap.size + 1 + 1, 0, none⟩) 1 1] 23)) = w1 at HST0 HWV0 ⊢
  rw [← hmbx] at HST0 ⊢
  clear hmbx
  generalize mbx + 1 + 1 + 1 = obx at HST0 ⊢
  generalize (Value.slice (some ⟨mbx + 1 + 1, 0, none⟩) 1 1) = v0 at HST0 ⊢
  generalize mbx + 1 = fbx at HST0 ⊢
  refine wpIn_loop_ghost (fun k a W => ∃ (L : List Nat) (m' : List Int) (sh' ps : List Nat) (v : Value) (RS' : List (List Ed)) (ws : List Value), FrC C n wb mb s0 mbx fbx obx L a ∧ Hid (Sct w wb mb W n mbx fbx obx (fun g => g = mbx ∨ g = fbx ∨ g = obx) m' (stk ps) v L) ∧ Hid (Wv W wb (fun k => k < b0) ws RS') ∧ Hid (Df XS RS' m' sh' ps) ∧ Hid ((∀ p : Nat, m'[p]? = some (0 : Int) → m[p]? = some (0 : Int)) ∧ (m'[s0]? = some (0 : Int) → s0 ∈ ps)) ∧ Hid (k = 2 * left RS' + ps.length ∧ k ≤ 80001 ∧ left RS' ≤ 40000))
    ⟨_, [], m, sh, [s0], v0, RS, vs, ⟨_, _, _, _, _, _, _, _, _, _, _, _, _, _, _, _, _, _, _, _, _, _, _, _, _, _, _, _, _, _, _, _, _, _, _, _, _, _, _, _, _, _, _, _, rfl⟩, by rw [HMX.out] at HST0 ⊢; exact HST0, HWV0, HD, Lib.hid ⟨fun _ h => h, fun _ => by simp⟩, Lib.hid ⟨rfl, by simp only [List.length_singleton]; omega, hlf⟩⟩ ?_
  clear HST0 HWV0
  rintro k a W ⟨L, m', sh', ps, v, RS', ws, ⟨u3', u4', u8', u9', u10', u11', u12', u13', u14', u15', u16', u17', u18', u19', u20', u21', u22', u23', u24', u25', u26', u27', u28', u29', u30', u31', u32', u33', u34', u35', u36', u37', u38', u39', u40', u41', u42', u43', u44', u45', u46', u47', u48', u49', rfl⟩, HST, HWV, HDF, HQ, HK⟩
  rcases ps with _ | ⟨t, r⟩
  · obtain ⟨p, c, rfl⟩ := HST.out.q.shape
    have b5 : W.cell? ⟨obx, 0, none⟩ = some (.slice p 0 c) := HST.out.ob.cell 0
    have b6 : W.cell? ⟨fbx, 0, none⟩ = some (.bool false) := HST.out.fb.cell 0
    have f6 : W.frozen? ⟨fbx, 0, none⟩ = false := HST.out.fb.frozen 0
    gi_wp2
    have g1 : Gr W (W.setCell ⟨fbx, 0, none⟩ (.bool false)) (fun k => k = fbx) := Gr.one fbx 0 _
    have hlt := HST.out.lt
    have hbo := HBO.out
    have hmb := HMB.out
    refine leaves_marks L _ ⟨HST.out.mks.nd, fun D hD => ⟨(HST.out.mks.at_ D hD).1, (g1.block D (Array.getElem?_eq_some_iff.1 (HST.out.mks.at_ D hD).2).1 (HST.out.mk_ne hD HST.out.fb)).trans (HST.out.mks.at_ D hD).2⟩⟩ fun W' hg => ⟨_, res30 _ W' fbx false rfl ?_, false, rfl, ?_, fun e => (by cases e), fun _ => ⟨RS', m', sh', ws, HDF.out, ?_, ?_, HQ.out.1, fun e => (by cases HQ.out.2 e), HK.out.2.2⟩⟩
    · have h1 := HST.out.fb.set_ 0 (.bool false)
      have h2 : Bk W' fbx 4 #[.bool false] := hg.bk (by simpa using h1) (fun e => HST.out.mk_ne e HST.out.fb rfl)
      exact h2.cell 0
    · exact (HST.out.gr.then g1 fun i hi e => by omega).then hg fun i hi e => absurd (HST.out.mks.at_ i e).1 (by omega)
    · exact hg.bk (g1.bk HST.out.row (by omega)) (fun e => HST.out.mk_ne e HST.out.row rfl)
    · exact (HWV.out.kept2 (fun k hk hlt2 => g1.block k hlt2 (fun (e : k = fbx) => by have : k < b0 := hk; omega)) hbo.1).kept2 (fun k hk hlt2 => hg.block k hlt2 (fun e => by have := (HST.out.mks.at_ k e).1; have : k < b0 := hk; omega)) hbo.1
  · have hq := HST.out.q
    rw [stk_cons] at hq
    obtain ⟨g, off, c, rfl, hcc, hgx, hot⟩ := hq.last
    rw [stk_len] at hcc hgx hot
    have HOT := Lib.hid hot
    have htm : t < m'.length := by rw [HDF.out.len]; exact HDF.out.inr t (by simp)
    have htn : (t : Int) < (n : Int) := by have := HDF.out.len; have := HNN.out; omega
    obtain ⟨z, hz⟩ : ∃ z, m'[t]? = some z := ⟨_, List.getElem?_eq_getElem htm⟩
    have b5 : W.cell? ⟨obx, 0, none⟩ = some (.slice (some ⟨g, off, none⟩) (r.length + 1) c) := by have := HST.out.ob.cell 0; rw [this]; simp [stk_len]
    have b7 : W.cell? ⟨mbx, 0, none⟩ = some (.slice (some ⟨mb, 0, none⟩) n n) := HST.out.sb.cell 0
    have b8 : W.cell? ⟨mb, t, none⟩ = some (.int .u8 z) := by rw [HST.out.row.cell]; simp [hz, mv]
    have f8 : W.frozen? ⟨mb, t, none⟩ = false := HST.out.row.frozen t
    have hrl : r.length ≤ 80001 := by have := HK.out; simp only [List.length_cons] at this; omega
    have hrc : (r.length : Int) ≤ (c : Int) := by omega
    clear hq hot hz htm
    gi_wp2_with (refine ⟨trivial, ?_⟩; gi_at_call 29; refine (taken_any _ _ _ _ _ _).mono ?_; rintro en w' ⟨rfl, rfl⟩)
    obtain ⟨hs1, hs2, hs3, hs4⟩ := sct_round (C := C) (t := t) HST.out
    obtain ⟨hm1, hm2⟩ := HDF.out.mark
    obtain ⟨r0, hr0⟩ : ∃ r0, RS'[t]? = some r0 := ⟨_, List.getElem?_eq_getElem (by rw [HDF.out.lenR]; exact HDF.out.inr t (by simp))⟩
    have hlt := HST.out.lt
    have hbo := HBO.out
    have hmb := HMB.out
    have hz1 := HST.out.sb.lt
    have hz2 := HST.out.fb.lt
    have hz3 := HST.out.ob.lt
    have hgs := HST.out.gr.size
    have hkk := HK.out
    simp only [List.length_cons] at hkk
    have hl0 := left_set RS' t r0 [] hr0
    have hmono : ∀ p : Nat, (m'.set t 1)[p]? = some (0 : Int) → m'[p]? = some (0 : Int) ∧ p ≠ t := by
      intro p hp
      by_cases hpt : t = p
      · subst hpt; rw [hm2] at hp; cases hp
      · rw [List.getElem?_set_ne hpt] at hp
        exact ⟨hp, fun e => hpt e.symm⟩
    change rf30.wpIn Fence.wide 9 Tryd.prog _ _ _
    refine round30 _ _ _ _ _ _ _ _ _ _ _ _ _ _ _ _ _ _ _ _ _ _ _ _ _ _ _ _ _ _ _ _ _ _ _ _ _ _ _ _ _ _ hs1 (HWV.out.kept2 (fun k hk hlt2 => hs4.block k hlt2 (fun (e : k = mb) => by have : k < b0 := hk; omega)) hbo.1) hbo.1 hbo.2 hs2 hs3 ⟨by omega, by omega⟩ ⟨by omega, by omega, by omega, by omega, by omega, by omega⟩ hm1 hm2 HNN.out HE.out hr0 (fun D hD => Nat.lt_of_lt_of_le (Array.getElem?_eq_some_iff.1 (HST.out.mks.at_ D hD).2).1 hs4.size) (by omega) ?_ ?_ ?_
    · intro D W' ws' hst' hwv' hdf'
      have HS' := Lib.hid hst'
      have HW' := Lib.hid hwv'
      have HD' := Lib.hid hdf'
      clear hst' hwv' hdf' hs1 hs2 hs3 hs4 b5 b7 b8 f8
      have hom : obx ≠ mb := by omega
      have c5 : W'.cell? ⟨obx, 0, none⟩ = some (.slice (some ⟨g, off, none⟩) (r.length + 1) c) := by have := HS'.out.ob.cell 0; rw [this]; simp [stk_len]
      have c7 : W'.cell? ⟨mbx, 0, none⟩ = some (.slice (some ⟨mb, 0, none⟩) n n) := HS'.out.sb.cell 0
      have c8 : W'.cell? ⟨mb, t, none⟩ = some (.int .u8 1) := by rw [HS'.out.row.cell, List.getElem?_toArray, List.getElem?_map, hm2]; rfl
      have f8 : W'.frozen? ⟨mb, t, none⟩ = false := HS'.out.row.frozen t
      have f5 : W'.frozen? ⟨obx, 0, none⟩ = false := HS'.out.ob.frozen 0
      gi_wp2
      have hst2 := HS'.out.put t 2
      have q1 := hst2.q
      rw [stk_cons] at q1
      have q2 := OT.cut q1 rfl
      have hst3 := Sct.queue (v' := .slice (some ⟨g, off, none⟩) (stk r).length c) hst2 (B := W'.setCell ⟨mb, t, none⟩ (.int .u8 2)) ⟨rfl, rfl, rfl, Nat.le_refl _, fun _ _ _ => rfl⟩ (.inl rfl) q2
      have hwv1 : Wv (W'.setCell ⟨mb, t, none⟩ (.int .u8 2)) wb (fun k => k < b0) ws' (RS'.set t []) := HW'.out.kept2 (fun k hk hlt2 => (Gr.one (A := W') mb t (.int .u8 2)).block k hlt2 (fun (e : k = mb) => by have : k < b0 := hk; omega)) hbo.1
      have hwv2 : Wv ((W'.setCell ⟨mb, t, none⟩ (.int .u8 2)).setCell ⟨obx, 0, none⟩ (.slice (some ⟨g, off, none⟩) (stk r).length c)) wb (fun k => k < b0) ws' (RS'.set t []) := hwv1.kept2 (fun k hk hlt2 => (Gr.one (A := W'.setCell ⟨mb, t, none⟩ (.int .u8 2)) obx 0 (.slice (some ⟨g, off, none⟩) (stk r).length c)).block k hlt2 (fun (e : k = obx) => by have : k < b0 := hk; omega)) hbo.1
      have hd2 := HD'.out.pop hm2 (getD_at (List.getElem?_set_self (by rw [HDF.out.lenR]; exact HDF.out.inr t (by simp))))
      rw [stk_len] at hst3 hwv2
      have hmono2 : ∀ p : Nat, ((m'.set t 1).set t 2)[p]? = some (0 : Int) → m'[p]? = some (0 : Int) ∧ p ≠ t := by
        intro p hp
        by_cases hpt : t = p
        · subst hpt
          rw [List.getElem?_set_self (by rw [List.length_set]; exact (by rw [HDF.out.len]; exact HDF.out.inr t (by simp))) ] at hp
          cases hp
        · rw [List.getElem?_set_ne hpt] at hp
          exact hmono p hp
      simp only [List.length_nil] at hl0
      exact ⟨2 * left (RS'.set t []) + r.length, by omega, D :: L, (m'.set t 1).set t 2, sh' ++ [t], r, _, RS'.set t [], ws', ⟨_, _, _, _, _, _, _, _, _, _, _, _, _, _, _, _, _, _, _, _, _, _, _, _, _, _, _, _, _, _, _, _, _, _, _, _, _, _, _, _, _, _, _, _, rfl⟩, Lib.hid (hst3.less (fun g h => by omega) ⟨.inl rfl, .inr (.inl rfl), .inr (.inr rfl)⟩), Lib.hid hwv2, Lib.hid hd2, Lib.hid ⟨fun p hp => HQ.out.1 p (hmono2 p hp).1, fun hp => by
        have h1 := hmono2 s0 hp
        rcases List.mem_cons.1 (HQ.out.2 h1.1) with h2 | h2
        · exact absurd h2 h1.2
        · exact h2⟩, Lib.hid ⟨rfl, by omega, by omega⟩⟩
    · intro D W' hci hmet
      refine leaves_marks (D :: L) W' hmet.mks fun W2 hg => ⟨_, res30 _ W2 fbx true rfl ?_, true, rfl, ?_, fun _ => hci, fun e => (by cases e)⟩
      · have h2 : Bk W2 fbx 4 #[.bool true] := hg.bk hmet.fb (fun e => by have := (hmet.mks.at_ fbx e).2; rw [show W'.heap[fbx]? = _ from hmet.fb] at this; cases this)
        exact h2.cell 0
      · exact hmet.gr.then hg fun i hi e => absurd (hmet.mks.at_ i e).1 (by omega)
    · intro D W' ws' rest j v' hrl' hst' hwv' hdf'
      have hl1 := left_set RS' t r0 rest hr0
      simp only [List.length_nil] at hl0
      exact ⟨2 * left (RS'.set t rest) + (r.length + 2), by omega, D :: L, m'.set t 1, sh', j :: t :: r, v', RS'.set t rest, ws', ⟨_, _, _, _, _, _, _, _, _, _, _, _, _, _, _, _, _, _, _, _, _, _, _, _, _, _, _, _, _, _, _, _, _, _, _, _, _, _, _, _, _, _, _, _, rfl⟩, Lib.hid (hst'.less (fun g h => by omega) ⟨.inl rfl, .inr (.inl rfl), .inr (.inr rfl)⟩), Lib.hid hwv', Lib.hid hdf', Lib.hid ⟨fun p hp => HQ.out.1 p (hmono p hp).1, fun hp => by have := HQ.out.2 (hmono s0 hp).1; simp only [List.mem_cons] at this ⊢; right; exact this⟩, Lib.hid ⟨rfl, by omega, by omega⟩⟩
end Go.Proofs.YtnkimfbdcghgpaaDoor
