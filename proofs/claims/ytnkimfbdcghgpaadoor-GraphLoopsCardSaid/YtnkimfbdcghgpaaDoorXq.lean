/-
  DERIVED. The walk of the search by breadth (steps).
-/
import Derived.Test.YtnkimfbdcghgpaaDoorXr
namespace Go.Proofs.YtnkimfbdcghgpaaDoor
open Go.RowKit Go.Sort Go.Shelf
attribute [local go_sem] Oper.semAt_some

theorem stt_round {w W : World} {wb n rb obx g off o1 c C cx : Nat} {st os : List Int} {L : List Nat} (h : Stt w wb W n rb (rb + 1) obx (fun g => g = rb ∨ g = rb + 1 ∨ g = obx) st ((cx : Int) :: os) (.slice (some ⟨g, off, none⟩) (os.length + 1) (c + 1)) L) (hot : OT W w.heap.size (.slice (some ⟨g, o1, none⟩) os.length c) os) (hne : obx ≠ W.heap.size) :
    Stt w wb ((((W.alloc (.cells #[.int .i64 cx] 3)).setCell ⟨obx, 0, none⟩ (.slice (some ⟨g, o1, none⟩) os.length c)).alloc (.cells #[.slice (some ⟨wb, 0, none⟩) n C] 41)).alloc (.cells #[.int .i64 cx] 3)) n rb (rb + 1) obx (fun g => g = rb ∨ g = rb + 1 ∨ g = obx ∨ g = W.heap.size ∨ g = W.heap.size + 1 ∨ g = W.heap.size + 1 + 1) st os (.slice (some ⟨g, o1, none⟩) os.length c) L ∧
    Bk ((((W.alloc (.cells #[.int .i64 cx] 3)).setCell ⟨obx, 0, none⟩ (.slice (some ⟨g, o1, none⟩) os.length c)).alloc (.cells #[.slice (some ⟨wb, 0, none⟩) n C] 41)).alloc (.cells #[.int .i64 cx] 3)) W.heap.size 3 #[.int .i64 cx] ∧
    Bk ((((W.alloc (.cells #[.int .i64 cx] 3)).setCell ⟨obx, 0, none⟩ (.slice (some ⟨g, o1, none⟩) os.length c)).alloc (.cells #[.slice (some ⟨wb, 0, none⟩) n C] 41)).alloc (.cells #[.int .i64 cx] 3)) (W.heap.size + 1) 41 #[.slice (some ⟨wb, 0, none⟩) n C] ∧
    Bk ((((W.alloc (.cells #[.int .i64 cx] 3)).setCell ⟨obx, 0, none⟩ (.slice (some ⟨g, o1, none⟩) os.length c)).alloc (.cells #[.slice (some ⟨wb, 0, none⟩) n C] 41)).alloc (.cells #[.int .i64 cx] 3)) (W.heap.size + 1 + 1) 3 #[.int .i64 cx] ∧
    Gr W ((((W.alloc (.cells #[.int .i64 cx] 3)).setCell ⟨obx, 0, none⟩ (.slice (some ⟨g, o1, none⟩) os.length c)).alloc (.cells #[.slice (some ⟨wb, 0, none⟩) n C] 41)).alloc (.cells #[.int .i64 cx] 3)) (fun k => k = obx) := by
  have hob := h.ob.lt
  have k0 := heap_alloc_new W (.cells #[.int .i64 cx] 3)
  have g1 : Gr W (W.alloc (.cells #[.int .i64 cx] 3)) (fun _ => False) := Gr.new _
  have s1 := h.kept g1 (fun _ e => e.elim) id id id (fun _ _ => id) (fun _ _ => id)
  have q1 : OT (W.alloc (.cells #[.int .i64 cx] 3)) w.heap.size (.slice (some ⟨g, o1, none⟩) os.length c) os := hot.alloc _
  have s2 := Stt.queue (v' := .slice (some ⟨g, o1, none⟩) os.length c) s1 (B := W.alloc (.cells #[.int .i64 cx] 3)) ⟨rfl, rfl, rfl, Nat.le_refl _, fun _ _ _ => rfl⟩ (.inl rfl) q1
  have z1 : (W.alloc (.cells #[.int .i64 cx] 3)).heap.size = W.heap.size + 1 := World.size_alloc ..
  have z2 : ((W.alloc (.cells #[.int .i64 cx] 3)).setCell ⟨obx, 0, none⟩ (.slice (some ⟨g, o1, none⟩) os.length c)).heap.size = W.heap.size + 1 := (World.size_setCell ..).trans z1
  have g2 : Gr W ((W.alloc (.cells #[.int .i64 cx] 3)).setCell ⟨obx, 0, none⟩ (.slice (some ⟨g, o1, none⟩) os.length c)) (fun k => k = obx) := (g1.mono (fun _ _ e => e.elim)).trans (Gr.one obx 0 _)
  have k1 : Bk ((W.alloc (.cells #[.int .i64 cx] 3)).setCell ⟨obx, 0, none⟩ (.slice (some ⟨g, o1, none⟩) os.length c)) W.heap.size 3 #[.int .i64 cx] := Bk.far k0 (p := ⟨obx, 0, none⟩) (fun e => hne e.symm) _
  generalize (W.alloc (.cells #[.int .i64 cx] 3)).setCell ⟨obx, 0, none⟩ (.slice (some ⟨g, o1, none⟩) os.length c) = w2 at *
  have k2 := heap_alloc_new w2 (.cells #[.slice (some ⟨wb, 0, none⟩) n C] 41)
  rw [z2] at k2
  have g3 : Gr w2 (w2.alloc (.cells #[.slice (some ⟨wb, 0, none⟩) n C] 41)) (fun _ => False) := Gr.new _
  have s3 := s2.kept g3 (fun _ e => e.elim) id id id (fun _ _ => id) (fun _ _ => id)
  have z3 : (w2.alloc (.cells #[.slice (some ⟨wb, 0, none⟩) n C] 41)).heap.size = W.heap.size + 1 + 1 := by rw [World.size_alloc, z2]
  have k3 := g3.bk k1 id
  generalize w2.alloc (.cells #[.slice (some ⟨wb, 0, none⟩) n C] 41) = w3 at *
  have k4 := heap_alloc_new w3 (.cells #[.int .i64 cx] 3)
  rw [z3] at k4
  have g4 : Gr w3 (w3.alloc (.cells #[.int .i64 cx] 3)) (fun _ => False) := Gr.new _
  have s4 := s3.kept g4 (fun _ e => e.elim) id id id (fun _ _ => id) (fun _ _ => id)
  have z4 : (w3.alloc (.cells #[.int .i64 cx] 3)).heap.size = W.heap.size + 1 + 1 + 1 := by rw [World.size_alloc, z3]
  refine ⟨s4.more (fun _ e => by omega) (fun q hq e => ?_) (fun q hq => ?_), g4.bk k3 id, g4.bk k2 id, k4, (g2.trans (g3.mono (fun _ _ e => e.elim))).trans (g4.mono (fun _ _ e => e.elim))⟩
  · have e : g = q := Option.some.inj e
    have e1 : g < W.heap.size := (h.q.lt g rfl).2
    have h1 := h.far.2.2.2.1
    have h2 := h.far.2.2.2.2.1
    have h3 := h.far.2.2.2.2.2
    have h1' : g ≠ rb := fun e => h1 (by rw [e]; rfl)
    have h2' : g ≠ rb + 1 := fun e => h2 (by rw [e]; rfl)
    have h3' : g ≠ obx := fun e => h3 (by rw [e]; rfl)
    omega
  · have h1 := h.row.lt
    have h2 := h.sb.lt
    omega
theorem stt_start {w wr : World} {wb n rb s0 : Nat} (hrb : rb = w.heap.size) (hsz : rb + 1 < wr.heap.size) (hr : Bk wr rb 3 ((List.replicate n (-1 : Int)).map iv).toArray) (hs : Bk wr (rb + 1) 23 #[.slice (some ⟨rb, 0, none⟩) n n]) (hg : Gr w wr (fun k => k = wb)) :
    Stt w wb (((wr.setCell ⟨rb, s0, none⟩ (.int .i64 0)).alloc (.cells #[.int .i64 s0] 3)).alloc (.cells #[.slice (some ⟨wr.heap.size, 0, none⟩) 1 1] 23)) n rb (rb + 1) (wr.heap.size + 1) (fun g => g = rb ∨ g = rb + 1 ∨ g = wr.heap.size + 1) ((List.replicate n (-1)).set s0 0) [(s0 : Int)] (.slice (some ⟨wr.heap.size, 0, none⟩) 1 1) [] := by
  have h1 : Bk (wr.setCell ⟨rb, s0, none⟩ (.int .i64 0)) rb 3 (((List.replicate n (-1 : Int)).set s0 0).map iv).toArray := by
    have := hr.set_ s0 (.int .i64 0)
    rwa [List.setIfInBounds_toArray, show (.int .i64 0 : Value) = iv 0 from rfl, ← List.map_set] at this
  have h2 : Bk (wr.setCell ⟨rb, s0, none⟩ (.int .i64 0)) (rb + 1) 23 #[.slice (some ⟨rb, 0, none⟩) n n] := hs.far (p := ⟨rb, s0, none⟩) (by simp) _
  have hg1 : Gr w (wr.setCell ⟨rb, s0, none⟩ (.int .i64 0)) (fun k => k = wb) := hg.setCell (p := ⟨rb, s0, none⟩) (fun h => by simp at h; omega) _
  have hz : (wr.setCell ⟨rb, s0, none⟩ (.int .i64 0)).heap.size = wr.heap.size := World.size_setCell ..
  have h3 := heap_alloc_new (wr.setCell ⟨rb, s0, none⟩ (.int .i64 0)) (.cells #[.int .i64 s0] 3)
  have h4 := heap_alloc_new ((wr.setCell ⟨rb, s0, none⟩ (.int .i64 0)).alloc (.cells #[.int .i64 s0] 3)) (.cells #[.slice (some ⟨wr.heap.size, 0, none⟩) 1 1] 23)
  rw [World.size_alloc, hz] at h4
  rw [hz] at h3
  generalize wr.setCell ⟨rb, s0, none⟩ (.int .i64 0) = w1 at *
  have ha := Gr.new (A := w1) (.cells #[.int .i64 s0] 3)
  have hb := Gr.new (A := w1.alloc (.cells #[.int .i64 s0] 3)) (.cells #[.slice (some ⟨wr.heap.size, 0, none⟩) 1 1] 23)
  have hb3 : Bk ((w1.alloc (.cells #[.int .i64 s0] 3)).alloc (.cells #[.slice (some ⟨wr.heap.size, 0, none⟩) 1 1] 23)) wr.heap.size 3 #[.int .i64 s0] := hb.bk h3 id
  have hle := hg.size
  refine ⟨(hg1.alloc _).alloc _, ⟨by omega, by omega, by omega⟩, hb.bk (ha.bk h1 id) id, hb.bk (ha.bk h2 id) id, h4, .inr ⟨wr.heap.size, 0, 1, [.int .i64 s0], rfl, by omega, hb3, Nat.le_refl _, by unfold maxLen; omega, by simp, by simp [iv]⟩, ?_, ⟨.inl rfl, .inr (.inl rfl), .inr (.inr rfl), ?_⟩, List.nodup_nil, fun D hD => by cases hD⟩
  · rintro g h e
    have e2 : wr.heap.size = g := Option.some.inj e
    omega
  · rintro g h
    rw [World.size_alloc, World.size_alloc, hz]
    omega
/-- The frame of the search's loop. -/
def FrS (C n wb s0 rb obx : Nat) (L : List Nat) (a : Act) : Prop := ∃ u2 u3 u4 u6 u8 u9 u10 u11 u12 u13 u14 u15 u16 u17 u18 u19 u20 u21 u22 u23 u24 u25 u26 u27 u28 u29 u30 u31 u32 u33 u34 u35 u36 u37 u38 u39 u40 u41 u42 u43 u44 u45 u46 u47 u48 u49 u50 u51 u52 u53 u54 u55 u56 u57 u58 u59 u60 u61 u62 u63 u64 u65 u66 u67 u68 : Value, a = { tmps := #[.slice (some ⟨wb, 0, none⟩) n C, .int .i64 s0, u2, u3, u4, .pointer (some ⟨rb + 1, 0, none⟩), u6, .pointer (some ⟨obx, 0, none⟩), u8, u9, u10, u11, u12, u13, u14, u15, u16, u17, u18, u19, u20, u21, u22, u23, u24, u25, u26, u27, u28, u29, u30, u31, u32, u33, u34, u35, u36, u37, u38, u39, u40, u41, u42, u43, u44, u45, u46, u47, u48, u49, u50, u51, u52, u53, u54, u55, u56, u57, u58, u59, u60, u61, u62, u63, u64, u65, u66, u67, u68], defers := L.map mark }

set_option maxRecDepth 100000 in
set_option maxHeartbeats 3200000 in
theorem steps_any {XS : List (List Ed)} (w : World) (wb C : Nat) (vs : List Value) (hw : Wv w wb (fun k => k < w.heap.size) vs XS) (hn : XS.length ≤ 2000) (hE : InE XS) (s0 : Nat) (hs : s0 < XS.length) :
    Calls Tryd.prog 14 #[.slice (some ⟨wb, 0, none⟩) XS.length C, .int .i64 s0] w fun e w' => ∃ rb st, e = .returned (.slice (some ⟨rb, 0, none⟩) XS.length XS.length) ∧ w.heap.size ≤ rb ∧ Bk w' rb 3 (st.map iv).toArray ∧ st.length = XS.length ∧ (∀ c, vis st c ↔ Rs XS s0 c) ∧ Gr w w' (fun k => k = wb) := by
  obtain ⟨ir, hir, hz0, hz1, hz2⟩ := info_parts info3
  have HIR := Lib.hid (And.intro hir (And.intro hz0 (And.intro hz1 hz2)))
  have HE := Lib.hid hE
  have HW := Lib.hid hw
  have HWB : Hid (wb < w.heap.size) := Lib.hid hw.blk.lt
  have HN := Lib.hid hn
  clear hir hz0 hz1 hz2 hE hw
  obtain ⟨n, hnn⟩ : ∃ n, n = XS.length := ⟨_, rfl⟩
  have HNN := Lib.hid hnn
  rw [← hnn] at hs hn ⊢
  clear hnn
  refine (callsIn_wide (n := 9)).1 ?_
  refine callsIn_of_wp_marks Tryd.func14 rfl trivial ?_ rfl
  simp only [Tryd.ntmps14, List.size_toArray, List.length_cons, List.length_nil, Nat.reduceAdd, Nat.reduceSub, Array.replicate_succ, Array.replicate_zero, List.push_toArray, List.append_toArray, List.nil_append, List.cons_append]
  have hs' : (s0 : Int) < (n : Int) := by omega
  gi_wp2_with (gi_at_make; refine wpListIn_make_row _ rfl _ _ 23 rfl 3 ir (.int .i64 0) Tryd.underlying23 HIR.out.1 HIR.out.2.1 HIR.out.2.2.1 rfl .i64 .i64 n rfl rfl (by rw [HIR.out.2.2.2]; have := HN.out; have := HNN.out; omega) (by omega) ?_)
  have HG1 : Hid (Gr w ((w.alloc (.cells (madeCells #[.int .i64 0] n) 3)).alloc (.cells #[.slice (some ⟨w.heap.size, 0, none⟩) n n] 23)) (fun k => k = wb)) := Lib.hid (((Gr.refl w _).alloc _).alloc _)
  have HW1 : Hid (Wv ((w.alloc (.cells (madeCells #[.int .i64 0] n) 3)).alloc (.cells #[.slice (some ⟨w.heap.size, 0, none⟩) n n] 23)) wb (fun k => k < w.heap.size) vs XS) := Lib.hid ((HW.out.alloc _).alloc _)
  have hR1 : Bk ((w.alloc (.cells (madeCells #[.int .i64 0] n) 3)).alloc (.cells #[.slice (some ⟨w.heap.size, 0, none⟩) n n] 23)) w.heap.size 3 ((List.replicate 0 (-1 : Int) ++ List.replicate (n - 0) 0).map iv).toArray := by
    have h1 := made_ints w n
    exact h1.below ((Below.refl _ _).alloc (Nat.le_refl _) _) h1.lt
  have HR1 := Lib.hid hR1
  have HS1 : Hid (Bk ((w.alloc (.cells (madeCells #[.int .i64 0] n) 3)).alloc (.cells #[.slice (some ⟨w.heap.size, 0, none⟩) n n] 23)) (w.heap.size + 1) 23 #[.slice (some ⟨w.heap.size, 0, none⟩) n n]) := Lib.hid (by
    have := heap_alloc_new (w.alloc (.cells (madeCells #[.int .i64 0] n) 3)) (.cells #[.slice (some ⟨w.heap.size, 0, none⟩) n n] 23)
    rwa [World.size_alloc] at this)
  clear hR1
  obtain ⟨rb, hrb⟩ : ∃ rb, rb = w.heap.size := ⟨_, rfl⟩
  have HRB := Lib.hid hrb
  rw [← hrb] at HG1 HR1 HS1 HW1 ⊢
  clear hrb
  have HRB' : Hid (wb < rb) := Lib.hid (by rw [HRB.out]; exact HWB.out)
  generalize (w.alloc (.cells (madeCells #[.int .i64 0] n) 3)).alloc (.cells #[.slice (some ⟨rb, 0, none⟩) n n] 23) = w1 at HG1 HR1 HS1 HW1 ⊢
  have HW1 : Hid (Wv w1 wb (fun k => k < w.heap.size) vs XS) := Lib.hid (by rw [← HRB.out]; exact HW1.out)
  gi_loopw [15] (fun si wr => ∃ j : Nat, si = .int .i64 j ∧ j ≤ n ∧ Hid (Bk wr rb 3 ((List.replicate j (-1 : Int) ++ List.replicate (n - j) 0).map iv).toArray) ∧ Hid (Bk wr (rb + 1) 23 #[.slice (some ⟨rb, 0, none⟩) n n]) ∧ Hid (Gr w wr (fun k => k = wb)) ∧ Hid (Wv wr wb (fun k => k < w.heap.size) vs XS)) (fun si _ => n - (Lib.intOf si).toNat)
  case atStart => exact ⟨0, rfl, Nat.zero_le _, HR1, HS1, HG1, HW1⟩
  case round =>
    clear HR1 HS1 HG1 HW1
    obtain ⟨j, rfl, hj, HR, HS, HG, HWR⟩ := hrel
    by_cases hlt : j < n
    · have hlt' : (j : Int) < (n : Int) := by omega
      have b0 : wr.cell? ⟨rb + 1, 0, none⟩ = some (.slice (some ⟨rb, 0, none⟩) n n) := HS.out.cell 0
      have b1 : wr.cell? ⟨rb, j, none⟩ = some (.int .i64 0) := by
        rw [HR.out.cell]
        simp [List.getElem?_append, List.getElem?_replicate, iv]; omega
      have f1 : wr.frozen? ⟨rb, j, none⟩ = false := HR.out.frozen j
      have hrn : rb + 1 ≠ rb := by omega
      gi_wp2
      have HR2 := Lib.hid (HR.out.set_ j (.int .i64 (-1)))
      rw [fill_set n j hlt] at HR2
      go_roundw
      case rel => exact ⟨j + 1, by go_num, by omega, HR2, Lib.hid (HS.out.far (p := ⟨rb, j, none⟩) hrn _), Lib.hid (HG.out.setCell (p := ⟨rb, j, none⟩) (fun h => by have := HRB.out; simp at h; omega) _), Lib.hid (HWR.out.kept2 (fun k hk hlt => (Gr.one (A := wr) rb j (.int .i64 (-1))).block k hlt (fun (e : k = rb) => by have := HRB.out; have : k < w.heap.size := hk; omega)) HWB.out)⟩
      case measure => simp [Lib.intOf]; omega
    · obtain rfl : j = n := by omega
      have HR2 : Hid (Bk wr rb 3 ((List.replicate j (-1 : Int)).map iv).toArray) := Lib.hid (by have := HR.out; simpa using this)
      clear HR
      have b0 : wr.cell? ⟨rb + 1, 0, none⟩ = some (.slice (some ⟨rb, 0, none⟩) j j) := HS.out.cell 0
      have b1 : wr.cell? ⟨rb, s0, none⟩ = some (.int .i64 (-1)) := by
        rw [HR2.out.cell]
        simp [iv, hs]
      have f1 : wr.frozen? ⟨rb, s0, none⟩ = false := HR2.out.frozen s0
      have hns : ¬ (s0 : Int) < 0 := by omega
      have hnr : rb + 1 ≠ rb := by omega
      gi_wp2
      have HSZ : Hid (rb + 1 < wr.heap.size) := Lib.hid HS.out.lt
      clear b0 b1 f1
      have HBS0 : Hid (Bs XS XS s0 ((List.replicate j (-1)).set s0 0) [(s0 : Int)]) := Lib.hid (by rw [HNN.out]; exact Bs.start (by rw [← HNN.out]; exact hs))
      have HK0 : Hid (cnt ((List.replicate j (-1)).set s0 0) = 1) := Lib.hid (by rw [cnt_set _ s0 (-1) 0 (by rw [List.getElem?_replicate, if_pos hs]) (by omega) (by omega), cnt_none])
      have HWV0 : Hid (Wv (((wr.setCell ⟨rb, s0, none⟩ (.int .i64 0)).alloc (.cells #[.int .i64 s0] 3)).alloc (.cells #[.slice (some ⟨wr.heap.size, 0, none⟩) 1 1] 23)) wb (fun k => k < w.heap.size) vs XS) := Lib.hid (by
        have h1 : Gr wr (((wr.setCell ⟨rb, s0, none⟩ (.int .i64 0)).alloc (.cells #[.int .i64 s0] 3)).alloc (.cells #[.slice (some ⟨wr.heap.size, 0, none⟩) 1 1] 23)) (fun k => k = rb) := ((Gr.one rb s0 _).alloc _).alloc _
        have h2 : Wv wr wb (fun k => k < w.heap.size) vs XS := HWR.out
        exact h2.kept2 (fun k hk hlt => h1.block k hlt (fun (e : k = rb) => by have := HRB.out; have : k < w.heap.size := hk; omega)) HWB.out)
      have HST0 : Hid (Stt w wb (((wr.setCell ⟨rb, s0, none⟩ (.int .i64 0)).alloc (.cells #[.int .i64 s0] 3)).alloc (.cells #[.slice (some ⟨wr.heap.size, 0, none⟩) 1 1] 23)) j rb (rb + 1) (wr.heap.size + 1) (fun g => g = rb ∨ g = rb + 1 ∨ g = wr.heap.size + 1) ((List.replicate j (-1)).set s0 0) [(s0 : Int)] (.slice (some ⟨wr.heap.size, 0, none⟩) 1 1) []) := Lib.hid (by
        exact stt_start HRB.out HSZ.out HR2.out HS.out HG.out)
      generalize ((wr.setCell ⟨rb, s0, none⟩ (.int .i64 0)).alloc (.cells #[.int .i64 s0] 3)).alloc (.cells #[.slice (some ⟨wr.heap.size, 0, none⟩) 1 1] 23) = w2 at HWV0 HST0 ⊢
      generalize wr.heap.size + 1 = obx at HST0 ⊢
      generalize (Value.slice (some ⟨wr.heap.size, 0, none⟩) 1 1) = v0 at HST0 ⊢
      refine wpIn_loop_ghost (fun k a W => ∃ L st os v RS ws, FrS C j wb s0 rb obx L a ∧ Hid (Stt w wb W j rb (rb + 1) obx (fun g => g = rb ∨ g = rb + 1 ∨ g = obx) st os v L) ∧ Hid (Wv W wb (fun k => k < w.heap.size) ws RS) ∧ Hid (Bs XS RS s0 st os) ∧ Hid (k = os.length + (j - cnt st) ∧ k ≤ j)) ⟨_, [], _, _, v0, _, _, ⟨_, _, _, _, _, _, _, _, _, _, _, _, _, _, _, _, _, _, _, _, _, _, _, _, _, _, _, _, _, _, _, _, _, _, _, _, _, _, _, _, _, _, _, _, _, _, _, _, _, _, _, _, _, _, _, _, _, _, _, _, _, _, _, _, _, rfl⟩, HST0, HWV0, HBS0, Lib.hid ⟨rfl, by rw [HK0.out]; show 1 + (j - 1) ≤ j; omega⟩⟩ ?_
      clear HST0 HWV0 HBS0 HK0 HR2 HS HG HSZ
      rintro k a W ⟨L, st, os, v, RS, ws, ⟨u2', u3', u4', u6', u8', u9', u10', u11', u12', u13', u14', u15', u16', u17', u18', u19', u20', u21', u22', u23', u24', u25', u26', u27', u28', u29', u30', u31', u32', u33', u34', u35', u36', u37', u38', u39', u40', u41', u42', u43', u44', u45', u46', u47', u48', u49', u50', u51', u52', u53', u54', u55', u56', u57', u58', u59', u60', u61', u62', u63', u64', u65', u66', u67', u68', rfl⟩, HST, HWV, HBS, HK⟩
      rcases os with _ | ⟨x, os⟩
      · obtain ⟨p, c, rfl⟩ := HST.out.q.shape
        have b5 : W.cell? ⟨obx, 0, none⟩ = some (.slice p 0 c) := HST.out.ob.cell 0
        have b6 : W.cell? ⟨rb + 1, 0, none⟩ = some (.slice (some ⟨rb, 0, none⟩) j j) := HST.out.sb.cell 0
        gi_wp2
        refine leaves_marks L W HST.out.mks fun W' hg => ⟨_, results_tmp rfl _ _ _, rb, st, rfl, ?_, ?_, ?_, fun c => HBS.out.end_ c, ?_⟩
        · have := HRB.out; omega
        · exact hg.bk HST.out.row (fun h => HST.out.mk_ne h HST.out.row rfl)
        · rw [HBS.out.len, HNN.out]
        · exact HST.out.gr.then hg fun i hi h => absurd (HST.out.mks.at_ i h).1 (by omega)
      · obtain ⟨cx, rfl, hcx, -⟩ := HBS.out.opn x (by simp)
        obtain ⟨g, off, c, rfl, hgx, hot⟩ := HST.out.q.head
        have b5 : W.cell? ⟨obx, 0, none⟩ = some (.slice (some ⟨g, off, none⟩) (os.length + 1) (c + 1)) := HST.out.ob.cell 0
        have f5 : W.frozen? ⟨obx, 0, none⟩ = false := HST.out.ob.frozen 0
        have hos : (0 : Int) < (os.length : Int) + 1 := by omega
        have hcl : (os.length : Int) + 1 ≤ (c : Int) + 1 := by have := hot.cap; omega
        obtain ⟨o1, ho1, hot⟩ : ∃ o1, ((c = 0 ∧ o1 = off) ∨ (c ≠ 0 ∧ o1 = off + 1)) ∧ OT W w.heap.size (.slice (some ⟨g, o1, none⟩) os.length c) os := by
          by_cases h0 : c = 0
          · rw [if_pos h0] at hot; exact ⟨off, .inl ⟨h0, rfl⟩, hot⟩
          · rw [if_neg h0] at hot; exact ⟨off + 1, .inr ⟨h0, rfl⟩, hot⟩
        have HOT := Lib.hid hot
        clear hot
        have hne : obx ≠ W.heap.size := by have := HST.out.ob.lt; omega
        have e5 : ∀ o, (W.alloc o).cell? ⟨obx, 0, none⟩ = some (.slice (some ⟨g, off, none⟩) (os.length + 1) (c + 1)) := fun o => (World.cell?_alloc_lt W o ⟨obx, 0, none⟩ HST.out.ob.lt).trans b5
        have e6 : ∀ o, (W.alloc o).frozen? ⟨obx, 0, none⟩ = false := fun o => (HST.out.ob.below ((Below.refl _ _).alloc (Nat.le_refl _) o) HST.out.ob.lt).frozen 0
        gi_wp2_with (refine ⟨trivial, ?_⟩; gi_at_call 29; refine (taken_any _ _ _ _ _ _).mono ?_; rintro en w' ⟨rfl, rfl⟩)
        case inl h0 =>
          have h1 : o1 = off := by omega
          subst h1
          obtain rfl : c = 0 := by omega
          change rf14.wpIn Fence.wide 9 Tryd.prog _ _ _
          obtain ⟨hs1, hs2, hs3, hs4, hs5⟩ := stt_round HST.out HOT.out (C := C) hne
          obtain ⟨r0, hr0⟩ : ∃ r0, RS[cx]? = some r0 := ⟨_, List.getElem?_eq_getElem (by rw [HBS.out.lenR]; exact hcx)⟩
          have hrbw : w.heap.size ≤ rb := HST.out.lt.1
          have hlt := HST.out.lt
          have hsz := HST.out.ob.lt
          have hszr := HST.out.row.lt
          have hgw := HST.out.gr.size
          refine round14 _ _ _ _ _ _ _ _ _ _ _ _ _ _ _ _ _ _ _ _ _ _ _ _ _ _ _ _ _ _ _ _ _ _ _ _ _ _ _ _ _ _ _ _ _ _ _ _ _ _ _ _ _ _ _ _ _ _ _ _ _ _ _ hs1 (HWV.out.kept2 (fun k hk hlt => hs5.block k hlt (fun (e : k = obx) => by have : k < w.heap.size := hk; omega)) HWB.out) HWB.out hs2 hs3 hs4 ⟨by omega, by omega, by omega⟩ ⟨by omega, by omega, by omega, by omega, by omega, by omega⟩ HBS.out HNN.out hn HE.out hr0 (fun D hD => Nat.lt_of_lt_of_le (Array.getElem?_eq_some_iff.1 (HST.out.mks.at_ D hD).2).1 hs5.size) (by have := HNN.out; omega) (by have := HK.out; simp only [List.length_cons] at this; omega) ?_
          intro D W' st' os' v' ws' hst' hwv' hbs' hsum
          have hk1 := HK.out
          simp only [List.length_cons] at hk1
          exact ⟨os'.length + (j - cnt st'), by omega, D :: L, st', os', v', RS.set cx [], ws', ⟨_, _, _, _, _, _, _, _, _, _, _, _, _, _, _, _, _, _, _, _, _, _, _, _, _, _, _, _, _, _, _, _, _, _, _, _, _, _, _, _, _, _, _, _, _, _, _, _, _, _, _, _, _, _, _, _, _, _, _, _, _, _, _, _, _, rfl⟩, Lib.hid (hst'.less (fun g h => by omega) ⟨.inl rfl, .inr (.inl rfl), .inr (.inr rfl)⟩), Lib.hid hwv', Lib.hid (hbs'.drop (getD_at (List.getElem?_set_self (by rw [HBS.out.lenR]; exact hcx)))), Lib.hid ⟨rfl, by omega⟩⟩
        case inr h0 =>
          have h1 : off + 1 = o1 := by omega
          rw [h1]
          change rf14.wpIn Fence.wide 9 Tryd.prog _ _ _
          obtain ⟨hs1, hs2, hs3, hs4, hs5⟩ := stt_round HST.out HOT.out (C := C) hne
          obtain ⟨r0, hr0⟩ : ∃ r0, RS[cx]? = some r0 := ⟨_, List.getElem?_eq_getElem (by rw [HBS.out.lenR]; exact hcx)⟩
          have hrbw : w.heap.size ≤ rb := HST.out.lt.1
          have hlt := HST.out.lt
          have hsz := HST.out.ob.lt
          have hszr := HST.out.row.lt
          have hgw := HST.out.gr.size
          refine round14 _ _ _ _ _ _ _ _ _ _ _ _ _ _ _ _ _ _ _ _ _ _ _ _ _ _ _ _ _ _ _ _ _ _ _ _ _ _ _ _ _ _ _ _ _ _ _ _ _ _ _ _ _ _ _ _ _ _ _ _ _ _ _ hs1 (HWV.out.kept2 (fun k hk hlt => hs5.block k hlt (fun (e : k = obx) => by have : k < w.heap.size := hk; omega)) HWB.out) HWB.out hs2 hs3 hs4 ⟨by omega, by omega, by omega⟩ ⟨by omega, by omega, by omega, by omega, by omega, by omega⟩ HBS.out HNN.out hn HE.out hr0 (fun D hD => Nat.lt_of_lt_of_le (Array.getElem?_eq_some_iff.1 (HST.out.mks.at_ D hD).2).1 hs5.size) (by have := HNN.out; omega) (by have := HK.out; simp only [List.length_cons] at this; omega) ?_
          intro D W' st' os' v' ws' hst' hwv' hbs' hsum
          have hk1 := HK.out
          simp only [List.length_cons] at hk1
          exact ⟨os'.length + (j - cnt st'), by omega, D :: L, st', os', v', RS.set cx [], ws', ⟨_, _, _, _, _, _, _, _, _, _, _, _, _, _, _, _, _, _, _, _, _, _, _, _, _, _, _, _, _, _, _, _, _, _, _, _, _, _, _, _, _, _, _, _, _, _, _, _, _, _, _, _, _, _, _, _, _, _, _, _, _, _, _, _, _, rfl⟩, Lib.hid (hst'.less (fun g h => by omega) ⟨.inl rfl, .inr (.inl rfl), .inr (.inr rfl)⟩), Lib.hid hwv', Lib.hid (hbs'.drop (getD_at (List.getElem?_set_self (by rw [HBS.out.lenR]; exact hcx)))), Lib.hid ⟨rfl, by omega⟩⟩
end Go.Proofs.YtnkimfbdcghgpaaDoor
