/-
  The deeds cut and link. The deeds fresh and free. The deeds free and put. fits, of a state that is right. load and Right, of a state that is right. Right and Holds. Same, of states that are alike. PLAIN: which cells one comes tt; the program's search and the document's. The program's search as it li
-/
import Derived.Test.YtebmhadpkncgfaaDoorM04
set_option maxHeartbeats 40000000
set_option maxRecDepth 100000
namespace Go.Proofs.YtebmhadpkncgfaaDoor
open Go.RowKit Go.Maps Go.Sort
open Aw.Ac (Acn Opd)
theorem okI_zero : okI 0 := rfl
theorem bk3 {w : World} {C : Nat} {x y z : Value} (h : Bk w C 37 #[x, y, z]) (a b c : Value) : Bk (((w.setCell ⟨C, 0, none⟩ a).setCell ⟨C, 1, none⟩ b).setCell ⟨C, 2, none⟩ c) C 37 #[a, b, c] := by
  simpa using ((h.set_ 0 a).set_ 1 b).set_ 2 c
theorem gr3 (w : World) (C : Nat) (a b c : Value) : w.grownBy (((w.setCell ⟨C, 0, none⟩ a).setCell ⟨C, 1, none⟩ b).setCell ⟨C, 2, none⟩ c) (some C) := grownBy_tr (grownBy_tr (grownBy_setC _ _ _) (grownBy_setC _ _ _)) (grownBy_setC _ _ _)
theorem Gr.s3 {w w' : World} {S : Nat → Prop} {C : Nat} (h : Gr w w' S) (hC : S C) (x y z : Value) : Gr w (((w'.setCell ⟨C, 0, none⟩ x).setCell ⟨C, 1, none⟩ y).setCell ⟨C, 2, none⟩ z) S :=
  ((h.setCell (p := ⟨C, 0, none⟩) (fun _ => hC) x).setCell (p := ⟨C, 1, none⟩) (fun _ => hC) y).setCell (p := ⟨C, 2, none⟩) (fun _ => hC) z
theorem cut_any {w0 : WK} {w : World} {F mb vb ib hb : Nat} {N : Nat → Prop} {vs is : List Int} {cs : List PC} (h : Mo w0 w F N mb vb ib hb vs is cs) (hF : F ≤ 2000000) (hn : cs.length ≤ maxLen) (a : Acn) (inp : Int) (k : Nat) (hx : a.x = k) (hk : k < vs.length) :
    Calls Tryd.prog 61 #[.pointer (some ⟨mb, 0, none⟩), .agg a.cs, .int .i64 inp] w (MoP w0 F N mb vb ib hb vs is (putC F cs (atL vs k) a.f 0) (evE a (faultC cs (atL vs k)))) := by
  obtain ⟨w2, HW, HD⟩ := dd_hid h a
  have CC := hdn (fun wz (hz : Below w2.heap.size w2 wz) => (HD.out.mo.below hz).heap.put (atL vs k) a.f 0 hF hn okI_zero)
  have HRA := hdn (fun n wz => raised_any a n wz)
  have hk0 : (0 : Int) ≤ (k : Int) := Int.natCast_nonneg _
  have hk1 : (k : Int) < (vs.length : Int) := by omega
  have hlo := HD.out.old _ HD.out.nm
  have hlv := HD.out.old _ HD.out.nv
  have HS0 : ∀ w', Gr w2 w' (fun i => ¬ (N i ∨ (w.heap.size ≤ i ∧ i < w.heap.size + 2)) ∨ i = w.heap.size + 1) → Bk w' w.heap.size 43 a.cs ∧ w'.cell? ⟨mb, 0, none⟩ = some (.slice (some ⟨vb, 0, none⟩) vs.length vs.length) ∧ w'.cell? ⟨mb, 2, none⟩ = some (.pointer (some ⟨hb, 0, none⟩)) ∧ w'.cell? ⟨vb, k, none⟩ = some (.int .i64 (atL vs k)) := fun w' hg => by
    have e1 : w'.heap[mb]? = w2.heap[mb]? := hg.block mb HD.out.mo.top.lt (fun e => by rcases e with e | e; exact e (.inl HD.out.nm); omega)
    have e2 : w'.heap[vb]? = w2.heap[vb]? := hg.block vb HD.out.mo.vr.lt (fun e => by rcases e with e | e; exact e (.inl HD.out.nv); omega)
    refine ⟨hg.bk HD.out.act (fun e => by rcases e with e | e; exact e (.inr ⟨by omega, by omega⟩); omega), (World.cell?_of_block (a := ⟨mb, 0, none⟩) e1).trans HD.out.mo.c0, (World.cell?_of_block (a := ⟨mb, 2, none⟩) e1).trans HD.out.mo.c2, (World.cell?_of_block (a := ⟨vb, k, none⟩) e2).trans (HD.out.mo.cv k hk)⟩
  clear h hF hn hlo hlv
  generalize atL vs k = y at *
  obtain ⟨kd, x, y0, f, t, pl, op, ⟨lv, ln⟩, ⟨rv, rn⟩, sn⟩ := a
  simp only at hx CC HRA ⊢
  subst hx
  have HS : Hid (∀ w', Gr w2 w' (fun i => ¬ (N i ∨ (w.heap.size ≤ i ∧ i < w.heap.size + 2)) ∨ i = w.heap.size + 1) → w'.cell? ⟨w.heap.size, 0, none⟩ = some (.int .i64 kd) ∧ w'.cell? ⟨w.heap.size, 1, none⟩ = some (.int .i64 (k : Int)) ∧ w'.cell? ⟨w.heap.size, 2, none⟩ = some (.int .i64 y0) ∧ w'.cell? ⟨w.heap.size, 3, none⟩ = some (.int .i64 f) ∧ w'.cell? ⟨w.heap.size, 4, none⟩ = some (.int .i64 t) ∧ w'.cell? ⟨w.heap.size, 5, none⟩ = some (.int .i64 pl) ∧ w'.cell? ⟨w.heap.size, 6, none⟩ = some (.int .i64 op) ∧ w'.cell? ⟨w.heap.size, 7, none⟩ = some (.int .i64 lv) ∧ w'.cell? ⟨w.heap.size, 8, none⟩ = some (.int .i64 ln) ∧ w'.cell? ⟨w.heap.size, 9, none⟩ = some (.int .i64 rv) ∧ w'.cell? ⟨w.heap.size, 10, none⟩ = some (.int .i64 rn) ∧ w'.cell? ⟨w.heap.size, 11, none⟩ = some (.bool sn) ∧ w'.cell? ⟨mb, 0, none⟩ = some (.slice (some ⟨vb, 0, none⟩) vs.length vs.length) ∧ w'.cell? ⟨mb, 2, none⟩ = some (.pointer (some ⟨hb, 0, none⟩)) ∧ w'.cell? ⟨vb, k, none⟩ = some (.int .i64 y)) := hdn (fun w' hg => by
    obtain ⟨p0, p1⟩ := HS0 w' hg
    exact ⟨p0.cell 0, p0.cell 1, p0.cell 2, p0.cell 3, p0.cell 4, p0.cell 5, p0.cell 6, p0.cell 7, p0.cell 8, p0.cell 9, p0.cell 10, p0.cell 11, p1⟩)
  clear HS0
  generalize putC F cs y f 0 = cs2 at *
  generalize faultC cs y = wr at *
  unfold Acn.cs at HW HRA ⊢
  simp only at HW HRA ⊢
  have K0 : Gr w2 w2 (fun i => ¬ (N i ∨ (w.heap.size ≤ i ∧ i < w.heap.size + 2)) ∨ i = w.heap.size + 1) := Gr.refl _ _
  have KB : Hid (Below w2.heap.size w2 w2.drew) := hdn (below_drew (Below.refl _ _))
  obtain ⟨ev, hev⟩ : ∃ ev, evE ⟨kd, (k : Int), y0, f, t, pl, op, ⟨lv, ln⟩, ⟨rv, rn⟩, sn⟩ wr = ev := ⟨_, rfl⟩
  obtain ⟨e0, e1, e2, he3⟩ : ∃ e0 e1 e2 : Int, ev = #[.int .i64 e0, .int .i64 e1, .int .i64 e2] := by
    rw [← hev]; unfold evE evA
    split
    · exact ⟨_, _, _, rfl⟩
    · exact ⟨_, _, _, rfl⟩
  subst he3
  have HRB := hdn (fun wz => (HRA.out wr wz))
  rw [hev] at HRB ⊢
  clear hev HRA
  go_enter Tryd.func61, Tryd.ntmps61
  go_upto_region 1 with fail
  rw [HW.out]
  clear HW
  go_region_held3 (fun w' => w'.cell? ⟨w.heap.size, 0, none⟩ = some (.int .i64 kd) ∧ w'.cell? ⟨w.heap.size, 1, none⟩ = some (.int .i64 (k : Int)) ∧ w'.cell? ⟨w.heap.size, 2, none⟩ = some (.int .i64 y0) ∧ w'.cell? ⟨w.heap.size, 3, none⟩ = some (.int .i64 f) ∧ w'.cell? ⟨w.heap.size, 4, none⟩ = some (.int .i64 t) ∧ w'.cell? ⟨w.heap.size, 5, none⟩ = some (.int .i64 pl) ∧ w'.cell? ⟨w.heap.size, 6, none⟩ = some (.int .i64 op) ∧ w'.cell? ⟨w.heap.size, 7, none⟩ = some (.int .i64 lv) ∧ w'.cell? ⟨w.heap.size, 8, none⟩ = some (.int .i64 ln) ∧ w'.cell? ⟨w.heap.size, 9, none⟩ = some (.int .i64 rv) ∧ w'.cell? ⟨w.heap.size, 10, none⟩ = some (.int .i64 rn) ∧ w'.cell? ⟨w.heap.size, 11, none⟩ = some (.bool sn) ∧ w'.cell? ⟨mb, 0, none⟩ = some (.slice (some ⟨vb, 0, none⟩) vs.length vs.length) ∧ w'.cell? ⟨mb, 2, none⟩ = some (.pointer (some ⟨hb, 0, none⟩)) ∧ w'.cell? ⟨vb, k, none⟩ = some (.int .i64 y))
    (first | with_reducible exact HS.out _ K5.drew | with_reducible exact HS.out _ K5 | with_reducible exact HS.out _ K3 | with_reducible exact HS.out _ K0.drew | with_reducible exact HS.out _ K6.out | exact HS.out _ (Gr.s3 K5 (.inr rfl) _ _ _) | fail) (first
    | (go_at_call 81; refine (CC.out _ KB.out).mono ?_; rintro e w3 ⟨rfl, hh3, hg3⟩; have HM3 := hdn ((HD.out.mo.below KB.out).heap_ hh3.out hg3.out); have K3 : Gr w2 w3 (fun i => ¬ (N i ∨ (w.heap.size ≤ i ∧ i < w.heap.size + 2)) ∨ i = w.heap.size + 1) := (Gr.drew K0).then hg3.out (fun _ _ e => .inl e); have HE3 : Hid (Bk w3 (w.heap.size + 1) 37 (evA 0 0 0)) := hdn ((HD.out.evk (w3 := w3) ⟨hg3.out.os, hg3.out.tape, hg3.out.output, hg3.out.size, hg3.out.block⟩).1); clear hh3 hg3)
    | (go_at_call 80; refine (HRB.out _).mono ?_; rintro e w5 ⟨rfl, hb5⟩; have HM5 := hdn (HM3.out.below hb5); have HE5 := hdn (HE3.out.below hb5 HE3.out.lt); have K5 : Gr w2 w5 (fun i => ¬ (N i ∨ (w.heap.size ≤ i ∧ i < w.heap.size + 2)) ∨ i = w.heap.size + 1) := K3.trans (Gr.of_below hb5); have z0 : w5.cell? ⟨w.heap.size + 1, 0, none⟩ = some (.int .i64 0) := HE5.out.cell 0; have z1 : w5.cell? ⟨w.heap.size + 1, 1, none⟩ = some (.int .i64 0) := HE5.out.cell 1; have z2 : w5.cell? ⟨w.heap.size + 1, 2, none⟩ = some (.int .i64 0) := HE5.out.cell 2; have f0 : w5.frozen? ⟨w.heap.size + 1, 0, none⟩ = false := HE5.out.frozen 0; have f1 : w5.frozen? ⟨w.heap.size + 1, 1, none⟩ = false := HE5.out.frozen 1; have f2 : w5.frozen? ⟨w.heap.size + 1, 2, none⟩ = false := HE5.out.frozen 2; clear hb5)
    | fail)
  all_goals
    go_wp2_with fail
    exact bodyPost_ret (results_cell_row Tryd.results61 _ _ (w.heap.size + 1) 37 #[.int .i64 e0, .int .i64 e1, .int .i64 e2] (0, 0) _ rfl (bk3 HE5.out _ _ _) Tryd.underlying37 rfl size37) rfl ⟨rfl, HD.out.fin HM5.out (gr3 _ _ _ _ _)⟩
theorem link_any {w0 : WK} {w : World} {F mb vb ib hb : Nat} {N : Nat → Prop} {vs is : List Int} {cs : List PC} (h : Mo w0 w F N mb vb ib hb vs is cs) (hF : F ≤ 2000000) (hn : cs.length ≤ maxLen) (a : Acn) (inp : Int) (k j : Nat) (hx : a.x = k) (hy : a.y = j) (hk : k < vs.length) (hj : j < vs.length) (hok : okI (atL vs j)) :
    Calls Tryd.prog 62 #[.pointer (some ⟨mb, 0, none⟩), .agg a.cs, .int .i64 inp] w (MoP w0 F N mb vb ib hb vs is (putC F cs (atL vs k) a.f (atL vs j)) (evE a (faultC cs (atL vs k)))) := by
  obtain ⟨w2, HW, HD⟩ := dd_hid h a
  have CC := hdn (fun wz (hz : Below w2.heap.size w2 wz) => (HD.out.mo.below hz).heap.put (atL vs k) a.f (atL vs j) hF hn hok)
  have HRA := hdn (fun n wz => raised_any a n wz)
  have hk0 : (0 : Int) ≤ (k : Int) := Int.natCast_nonneg _
  have hk1 : (k : Int) < (vs.length : Int) := by omega
  have hj0 : (0 : Int) ≤ (j : Int) := Int.natCast_nonneg _
  have hj1 : (j : Int) < (vs.length : Int) := by omega
  have hlo := HD.out.old _ HD.out.nm
  have hlv := HD.out.old _ HD.out.nv
  have HS0 : ∀ w', Gr w2 w' (fun i => ¬ (N i ∨ (w.heap.size ≤ i ∧ i < w.heap.size + 2)) ∨ i = w.heap.size + 1) → Bk w' w.heap.size 43 a.cs ∧ w'.cell? ⟨mb, 0, none⟩ = some (.slice (some ⟨vb, 0, none⟩) vs.length vs.length) ∧ w'.cell? ⟨mb, 2, none⟩ = some (.pointer (some ⟨hb, 0, none⟩)) ∧ w'.cell? ⟨vb, k, none⟩ = some (.int .i64 (atL vs k)) ∧ w'.cell? ⟨vb, j, none⟩ = some (.int .i64 (atL vs j)) := fun w' hg => by
    have e1 : w'.heap[mb]? = w2.heap[mb]? := hg.block mb HD.out.mo.top.lt (fun e => by rcases e with e | e; exact e (.inl HD.out.nm); omega)
    have e2 : w'.heap[vb]? = w2.heap[vb]? := hg.block vb HD.out.mo.vr.lt (fun e => by rcases e with e | e; exact e (.inl HD.out.nv); omega)
    refine ⟨hg.bk HD.out.act (fun e => by rcases e with e | e; exact e (.inr ⟨by omega, by omega⟩); omega), (World.cell?_of_block (a := ⟨mb, 0, none⟩) e1).trans HD.out.mo.c0, (World.cell?_of_block (a := ⟨mb, 2, none⟩) e1).trans HD.out.mo.c2, (World.cell?_of_block (a := ⟨vb, k, none⟩) e2).trans (HD.out.mo.cv k hk), (World.cell?_of_block (a := ⟨vb, j, none⟩) e2).trans (HD.out.mo.cv j hj)⟩
  clear h hF hn hlo hlv hok
  generalize atL vs j = y2 at *
  generalize atL vs k = y at *
  obtain ⟨kd, x, y0, f, t, pl, op, ⟨lv, ln⟩, ⟨rv, rn⟩, sn⟩ := a
  simp only at hx hy CC HRA ⊢
  subst hx; subst hy
  have HS : Hid (∀ w', Gr w2 w' (fun i => ¬ (N i ∨ (w.heap.size ≤ i ∧ i < w.heap.size + 2)) ∨ i = w.heap.size + 1) → w'.cell? ⟨w.heap.size, 0, none⟩ = some (.int .i64 kd) ∧ w'.cell? ⟨w.heap.size, 1, none⟩ = some (.int .i64 (k : Int)) ∧ w'.cell? ⟨w.heap.size, 2, none⟩ = some (.int .i64 (j : Int)) ∧ w'.cell? ⟨w.heap.size, 3, none⟩ = some (.int .i64 f) ∧ w'.cell? ⟨w.heap.size, 4, none⟩ = some (.int .i64 t) ∧ w'.cell? ⟨w.heap.size, 5, none⟩ = some (.int .i64 pl) ∧ w'.cell? ⟨w.heap.size, 6, none⟩ = some (.int .i64 op) ∧ w'.cell? ⟨w.heap.size, 7, none⟩ = some (.int .i64 lv) ∧ w'.cell? ⟨w.heap.size, 8, none⟩ = some (.int .i64 ln) ∧ w'.cell? ⟨w.heap.size, 9, none⟩ = some (.int .i64 rv) ∧ w'.cell? ⟨w.heap.size, 10, none⟩ = some (.int .i64 rn) ∧ w'.cell? ⟨w.heap.size, 11, none⟩ = some (.bool sn) ∧ w'.cell? ⟨mb, 0, none⟩ = some (.slice (some ⟨vb, 0, none⟩) vs.length vs.length) ∧ w'.cell? ⟨mb, 2, none⟩ = some (.pointer (some ⟨hb, 0, none⟩)) ∧ w'.cell? ⟨vb, k, none⟩ = some (.int .i64 y) ∧ w'.cell? ⟨vb, j, none⟩ = some (.int .i64 y2)) := hdn (fun w' hg => by
    obtain ⟨p0, p1⟩ := HS0 w' hg
    exact ⟨p0.cell 0, p0.cell 1, p0.cell 2, p0.cell 3, p0.cell 4, p0.cell 5, p0.cell 6, p0.cell 7, p0.cell 8, p0.cell 9, p0.cell 10, p0.cell 11, p1⟩)
  clear HS0
  generalize putC F cs y f y2 = cs2 at *
  generalize faultC cs y = wr at *
  unfold Acn.cs at HW HRA ⊢
  simp only at HW HRA ⊢
  have K0 : Gr w2 w2 (fun i => ¬ (N i ∨ (w.heap.size ≤ i ∧ i < w.heap.size + 2)) ∨ i = w.heap.size + 1) := Gr.refl _ _
  have KB : Hid (Below w2.heap.size w2 w2.drew) := hdn (below_drew (Below.refl _ _))
  obtain ⟨ev, hev⟩ : ∃ ev, evE ⟨kd, (k : Int), (j : Int), f, t, pl, op, ⟨lv, ln⟩, ⟨rv, rn⟩, sn⟩ wr = ev := ⟨_, rfl⟩
  obtain ⟨e0, e1, e2, he3⟩ : ∃ e0 e1 e2 : Int, ev = #[.int .i64 e0, .int .i64 e1, .int .i64 e2] := by
    rw [← hev]; unfold evE evA
    split
    · exact ⟨_, _, _, rfl⟩
    · exact ⟨_, _, _, rfl⟩
  subst he3
  have HRB := hdn (fun wz => (HRA.out wr wz))
  rw [hev] at HRB ⊢
  clear hev HRA
  go_enter Tryd.func62, Tryd.ntmps62
  go_upto_region 1 with fail
  rw [HW.out]
  clear HW
  go_region_held3 (fun w' => w'.cell? ⟨w.heap.size, 0, none⟩ = some (.int .i64 kd) ∧ w'.cell? ⟨w.heap.size, 1, none⟩ = some (.int .i64 (k : Int)) ∧ w'.cell? ⟨w.heap.size, 2, none⟩ = some (.int .i64 (j : Int)) ∧ w'.cell? ⟨w.heap.size, 3, none⟩ = some (.int .i64 f) ∧ w'.cell? ⟨w.heap.size, 4, none⟩ = some (.int .i64 t) ∧ w'.cell? ⟨w.heap.size, 5, none⟩ = some (.int .i64 pl) ∧ w'.cell? ⟨w.heap.size, 6, none⟩ = some (.int .i64 op) ∧ w'.cell? ⟨w.heap.size, 7, none⟩ = some (.int .i64 lv) ∧ w'.cell? ⟨w.heap.size, 8, none⟩ = some (.int .i64 ln) ∧ w'.cell? ⟨w.heap.size, 9, none⟩ = some (.int .i64 rv) ∧ w'.cell? ⟨w.heap.size, 10, none⟩ = some (.int .i64 rn) ∧ w'.cell? ⟨w.heap.size, 11, none⟩ = some (.bool sn) ∧ w'.cell? ⟨mb, 0, none⟩ = some (.slice (some ⟨vb, 0, none⟩) vs.length vs.length) ∧ w'.cell? ⟨mb, 2, none⟩ = some (.pointer (some ⟨hb, 0, none⟩)) ∧ w'.cell? ⟨vb, k, none⟩ = some (.int .i64 y) ∧ w'.cell? ⟨vb, j, none⟩ = some (.int .i64 y2))
    (first | with_reducible exact HS.out _ K5.drew | with_reducible exact HS.out _ K5 | with_reducible exact HS.out _ K3 | with_reducible exact HS.out _ K0.drew | with_reducible exact HS.out _ K6.out | exact HS.out _ (Gr.s3 K5 (.inr rfl) _ _ _) | fail) (first
    | (go_at_call 81; refine (CC.out _ KB.out).mono ?_; rintro e w3 ⟨rfl, hh3, hg3⟩; have HM3 := hdn ((HD.out.mo.below KB.out).heap_ hh3.out hg3.out); have K3 : Gr w2 w3 (fun i => ¬ (N i ∨ (w.heap.size ≤ i ∧ i < w.heap.size + 2)) ∨ i = w.heap.size + 1) := (Gr.drew K0).then hg3.out (fun _ _ e => .inl e); have HE3 : Hid (Bk w3 (w.heap.size + 1) 37 (evA 0 0 0)) := hdn ((HD.out.evk (w3 := w3) ⟨hg3.out.os, hg3.out.tape, hg3.out.output, hg3.out.size, hg3.out.block⟩).1); clear hh3 hg3)
    | (go_at_call 80; refine (HRB.out _).mono ?_; rintro e w5 ⟨rfl, hb5⟩; have HM5 := hdn (HM3.out.below hb5); have HE5 := hdn (HE3.out.below hb5 HE3.out.lt); have K5 : Gr w2 w5 (fun i => ¬ (N i ∨ (w.heap.size ≤ i ∧ i < w.heap.size + 2)) ∨ i = w.heap.size + 1) := K3.trans (Gr.of_below hb5); have z0 : w5.cell? ⟨w.heap.size + 1, 0, none⟩ = some (.int .i64 0) := HE5.out.cell 0; have z1 : w5.cell? ⟨w.heap.size + 1, 1, none⟩ = some (.int .i64 0) := HE5.out.cell 1; have z2 : w5.cell? ⟨w.heap.size + 1, 2, none⟩ = some (.int .i64 0) := HE5.out.cell 2; have f0 : w5.frozen? ⟨w.heap.size + 1, 0, none⟩ = false := HE5.out.frozen 0; have f1 : w5.frozen? ⟨w.heap.size + 1, 1, none⟩ = false := HE5.out.frozen 1; have f2 : w5.frozen? ⟨w.heap.size + 1, 2, none⟩ = false := HE5.out.frozen 2; clear hb5)
    | fail)
  all_goals
    go_wp2_with fail
    exact bodyPost_ret (results_cell_row Tryd.results62 _ _ (w.heap.size + 1) 37 #[.int .i64 e0, .int .i64 e1, .int .i64 e2] (0, 0) _ rfl (bk3 HE5.out _ _ _) Tryd.underlying37 rfl size37) rfl ⟨rfl, HD.out.fin HM5.out (gr3 _ _ _ _ _)⟩
end Go.Proofs.YtebmhadpkncgfaaDoor
namespace Go.Proofs.YtebmhadpkncgfaaDoor
open Go.RowKit Go.Maps Go.Sort
open Aw.Ac (Acn Opd)
theorem fresh_none {w0 : WK} {w : World} {F mb vb ib hb : Nat} {N : Nat → Prop} {vs is : List Int} {cs : List PC} (h : Mo w0 w F N mb vb ib hb vs is cs) (a : Acn) (k : Nat) (hx : a.x = k) (hk : k < vs.length) :
    Calls Tryd.prog 63 #[.pointer (some ⟨mb, 0, none⟩), .agg a.cs, .int .i64 0] w (MoP w0 F N mb vb ib hb (vs.set k 0) is cs (evA 1 a.pl 0)) := by
  obtain ⟨w2, HW, HD⟩ := dd_hid h a
  have c0 := HD.out.mo.c0
  have a1 : w2.cell? ⟨w.heap.size, 1, none⟩ = some (.int .i64 k) := by rw [← hx]; exact HD.out.ax
  have a5 := HD.out.apl
  have cv := HD.out.mo.cv k hk
  have fv : w2.frozen? ⟨vb, k, none⟩ = false := HD.out.mo.vr.frozen k
  have hlt := HD.out.old _ HD.out.nv
  have hd : Mo w0 w2.drew F (fun k => N k ∨ (w.heap.size ≤ k ∧ k < w.heap.size + 2)) mb vb ib hb vs is cs := HD.out.mo.below (below_drew (Below.refl _ _))
  have HM3 : Hid (Mo w0 (w2.setCell ⟨vb, k, none⟩ (.int .i64 0)).drew F (fun k => N k ∨ (w.heap.size ≤ k ∧ k < w.heap.size + 2)) mb vb ib hb (vs.set k 0) is cs) := hdn (hd.setv k 0)
  have HA : Hid (Bk (w2.setCell ⟨vb, k, none⟩ (.int .i64 0)).drew w.heap.size 43 a.cs) := hdn (Bk.far (w := w2.drew) HD.out.act (p := ⟨vb, k, none⟩) (by show w.heap.size ≠ vb; omega) _)
  have HE : Hid (Bk (w2.setCell ⟨vb, k, none⟩ (.int .i64 0)).drew (w.heap.size + 1) 37 (evA 0 0 0)) := hdn (Bk.far (w := w2.drew) HD.out.ev (p := ⟨vb, k, none⟩) (by show w.heap.size + 1 ≠ vb; omega) _)
  have hk0 : (0 : Int) ≤ (k : Int) := Int.natCast_nonneg _
  have hk1 : (k : Int) < (vs.length : Int) := by omega
  clear h hx hd hlt
  go_enter Tryd.func63, Tryd.ntmps63
  go_upto_region 1 with fail
  rw [HW.out]
  go_wp2_with fail
  go_still_tail 7, (by kernel_rfl)
  change wpList _ _ _ _ _ w2.drew
  go_upto_region 3 with fail
  generalize (w2.setCell ⟨vb, k, none⟩ (.int .i64 0)).drew = w4 at HM3 HA HE ⊢
  clear c0 a1 a5 cv fv
  have b5 : w4.cell? ⟨w.heap.size, 5, none⟩ = some (.int .i64 a.pl) := HA.out.cell 5
  go_wp2_with ((with_reducible show wpList _ _ _ (Oper.mk none (Op.store 37 _ _) _ _ _ _ :: _) _ _); refine wpList_store_all rfl 37 _ _ rfl (w.heap.size + 1) 37 _ (evA 1 a.pl 0) rfl rfl HE.out size37 rfl (evA_one _ _ _) ?_; intro w3 h3 g3)
  exact bodyPost_ret (results_cell_row Tryd.results63 _ w3 (w.heap.size + 1) 37 (evA 1 a.pl 0) (0, 0) _ rfl h3.out Tryd.underlying37 rfl size37) rfl ⟨rfl, HD.out.fin HM3.out g3.out⟩
theorem fresh_some {w0 : WK} {w : World} {F mb vb ib hb : Nat} {N : Nat → Prop} {vs is : List Int} {cs : List PC} (h : Mo w0 w F N mb vb ib hb vs is cs) (hn : cs.length ≤ 2000000) (a : Acn) (inp : Int) (hi : inp ≠ 0) (k : Nat) (hx : a.x = k) (hk : k < vs.length) :
    Calls Tryd.prog 63 #[.pointer (some ⟨mb, 0, none⟩), .agg a.cs, .int .i64 inp] w (MoP w0 F N mb vb ib hb (vs.set k ((cs.length + 1 : Nat) : Int)) is (cs ++ [newC F a.t]) (evA 1 a.pl 1)) := by
  obtain ⟨w2, HW, HD⟩ := dd_hid h a
  have CC := hdn (fun wz (hz : Below w2.heap.size w2 wz) => (HD.out.mo.below hz).heap.add a.t hn)
  have hk0 : (0 : Int) ≤ (k : Int) := Int.natCast_nonneg _
  have hk1 : (k : Int) < (vs.length : Int) := by omega
  have hin : (inp == 0) = false := by simpa using hi
  have hlo := HD.out.old _ HD.out.nm
  have hlv := HD.out.old _ HD.out.nv
  have a1 : w2.cell? ⟨w.heap.size, 1, none⟩ = some (.int .i64 k) := by rw [← hx]; exact HD.out.ax
  have a4 := HD.out.at_
  have HS : Hid (∀ w', Gr w2 w' (fun i => ¬ (N i ∨ (w.heap.size ≤ i ∧ i < w.heap.size + 2)) ∨ i = vb) → w'.cell? ⟨w.heap.size, 1, none⟩ = some (.int .i64 k) ∧ w'.cell? ⟨w.heap.size, 4, none⟩ = some (.int .i64 a.t) ∧ w'.cell? ⟨mb, 0, none⟩ = some (.slice (some ⟨vb, 0, none⟩) vs.length vs.length) ∧ w'.cell? ⟨mb, 2, none⟩ = some (.pointer (some ⟨hb, 0, none⟩))) := hdn (fun w' hg => by
    have e1 : w'.heap[mb]? = w2.heap[mb]? := hg.block mb HD.out.mo.top.lt (fun e => by rcases e with e | e; exact e (.inl HD.out.nm); exact HD.out.mo.ne1 e)
    have e2 : w'.heap[w.heap.size]? = w2.heap[w.heap.size]? := hg.block _ HD.out.act.lt (fun e => by rcases e with e | e; exact e (.inr ⟨by omega, by omega⟩); omega)
    exact ⟨(World.cell?_of_block (a := ⟨w.heap.size, 1, none⟩) e2).trans a1, (World.cell?_of_block (a := ⟨w.heap.size, 4, none⟩) e2).trans a4, (World.cell?_of_block (a := ⟨mb, 0, none⟩) e1).trans HD.out.mo.c0, (World.cell?_of_block (a := ⟨mb, 2, none⟩) e1).trans HD.out.mo.c2⟩)
  have HLV := hdn hlv
  clear h hn hx hi hlo hlv a1 a4
  generalize hL : ((cs.length + 1 : Nat) : Int) = L at *
  have K0 : Gr w2 w2 (fun i => ¬ (N i ∨ (w.heap.size ≤ i ∧ i < w.heap.size + 2)) ∨ i = vb) := Gr.refl _ _
  have KB : Hid (Below w2.heap.size w2 w2.drew) := hdn (below_drew (Below.refl _ _))
  clear hL
  go_enter Tryd.func63, Tryd.ntmps63
  go_upto_region 1 with fail
  rw [HW.out]
  clear HW
  go_wp2_with fail
  go_region_held3 (fun w' => w'.cell? ⟨w.heap.size, 1, none⟩ = some (.int .i64 k) ∧ w'.cell? ⟨w.heap.size, 4, none⟩ = some (.int .i64 a.t) ∧ w'.cell? ⟨mb, 0, none⟩ = some (.slice (some ⟨vb, 0, none⟩) vs.length vs.length) ∧ w'.cell? ⟨mb, 2, none⟩ = some (.pointer (some ⟨hb, 0, none⟩)))
    (first | with_reducible exact HS.out _ K3.drew | with_reducible exact HS.out _ K3 | with_reducible exact HS.out _ K0.drew | exact HS.out _ (K3.setCell (p := ⟨vb, k, none⟩) (fun _ => .inr rfl) _) | fail) (first
    | (go_at_call 82; refine (CC.out _ KB.out).mono ?_; rintro e w3 ⟨rfl, hh3, hg3⟩; have HM3 := hdn ((HD.out.mo.below KB.out).heap_ hh3.out hg3.out); have K3 : Gr w2 w3 (fun i => ¬ (N i ∨ (w.heap.size ≤ i ∧ i < w.heap.size + 2)) ∨ i = vb) := (Gr.drew K0).then hg3.out (fun _ _ e => .inl e); have HE3 := hdn (HD.out.evk (w3 := w3) ⟨hg3.out.os, hg3.out.tape, hg3.out.output, hg3.out.size, hg3.out.block⟩); have cv : w3.cell? ⟨vb, k, none⟩ = some (.int .i64 (atL vs k)) := HM3.out.cv k hk; have fv : w3.frozen? ⟨vb, k, none⟩ = false := HM3.out.vr.frozen k; clear hh3 hg3)
    | fail)
  all_goals
    have HM4 := hdn (HM3.out.setv k L)
    have HA4 : Hid (Bk (w3.setCell ⟨vb, k, none⟩ (.int .i64 L)) w.heap.size 43 a.cs) := hdn (Bk.far (w := w3) HE3.out.2 (p := ⟨vb, k, none⟩) (by have := HLV.out; show w.heap.size ≠ vb; omega) _)
    have HE4 : Hid (Bk (w3.setCell ⟨vb, k, none⟩ (.int .i64 L)) (w.heap.size + 1) 37 (evA 0 0 0)) := hdn (Bk.far (w := w3) HE3.out.1 (p := ⟨vb, k, none⟩) (by have := HLV.out; show w.heap.size + 1 ≠ vb; omega) _)
    have b5 : (w3.setCell ⟨vb, k, none⟩ (.int .i64 L)).cell? ⟨w.heap.size, 5, none⟩ = some (.int .i64 a.pl) := HA4.out.cell 5
    clear cv fv K3 K0
    generalize w3.setCell ⟨vb, k, none⟩ (.int .i64 L) = w4 at HM4 HA4 HE4 b5 ⊢
    go_wp2_with ((with_reducible show wpList _ _ _ (Oper.mk none (Op.store 37 _ _) _ _ _ _ :: _) _ _); refine wpList_store_all rfl 37 _ _ rfl (w.heap.size + 1) 37 _ (evA 1 a.pl 1) rfl rfl HE4.out size37 rfl (evA_one _ _ _) ?_; intro w5 h5 g5)
    exact bodyPost_ret (results_cell_row Tryd.results63 _ w5 (w.heap.size + 1) 37 (evA 1 a.pl 1) (0, 0) _ rfl h5.out Tryd.underlying37 rfl size37) rfl ⟨rfl, HD.out.fin HM4.out g5.out⟩
end Go.Proofs.YtebmhadpkncgfaaDoor
namespace Go.Proofs.YtebmhadpkncgfaaDoor
open Go.RowKit Go.Maps Go.Sort
open Aw.Ac (Acn Opd)
def frEv (a : Acn) (cs : List PC) (c : Int) : Array Value := if freeE cs c = 0 then evA 2 a.pl c else evE a (freeE cs c)
theorem free63_any {w0 : WK} {w : World} {F mb vb ib hb : Nat} {N : Nat → Prop} {vs is : List Int} {cs : List PC} (h : Mo w0 w F N mb vb ib hb vs is cs) (hn : cs.length ≤ maxLen) (a : Acn) (inp : Int) (k : Nat) (hx : a.x = k) (hk : k < vs.length) :
    Calls Tryd.prog 64 #[.pointer (some ⟨mb, 0, none⟩), .agg a.cs, .int .i64 inp] w (MoP w0 F N mb vb ib hb vs is (freeC F cs (atL vs k)) (frEv a cs (atL vs k))) := by
  obtain ⟨w2, HW, HD⟩ := dd_hid h a
  have c0 := HD.out.mo.c0
  have a1 : w2.cell? ⟨w.heap.size, 1, none⟩ = some (.int .i64 k) := by rw [← hx]; exact HD.out.ax
  have ck := HD.out.mo.cv k hk
  have CC := hdn (fun wz (hz : Below w2.heap.size w2 wz) => (HD.out.mo.below hz).heap.free (atL vs k) hn)
  have hk0 : (0 : Int) ≤ (k : Int) := Int.natCast_nonneg _
  have hk1 : (k : Int) < (vs.length : Int) := by omega
  have HFR : Hid (frEv a cs (atL vs k) = if freeE cs (atL vs k) = 0 then evA 2 a.pl (atL vs k) else evE a (freeE cs (atL vs k))) := hdn rfl
  generalize frEv a cs (atL vs k) = EV at *
  generalize atL vs k = y at *
  generalize freeC F cs y = cs2 at *
  generalize freeE cs y = wr at *
  clear h hn hx
  go_enter Tryd.func64, Tryd.ntmps64
  go_upto_region 1 with fail
  rw [HW.out]
  go_quiet (fail)
  go_upto_region 2 with fail
  generalize hq : w2.drewN _ = w3
  have KB : Hid (RowKit.Below w2.heap.size w2 w3) := hdn (by rw [← hq]; exact below_drewN_ (Below.refl _ _) _)
  have d2 : w3.cell? ⟨mb, 2, none⟩ = some (.pointer (some ⟨hb, 0, none⟩)) := by rw [← hq]; exact HD.out.mo.c2
  clear c0 a1 ck hq
  have CY := hdn (CC.out w3 KB.out)
  have HM2 := hdn (HD.out.mo.below KB.out)
  have KG : Hid (Gr w2 w3 (fun k => ¬ (N k ∨ (w.heap.size ≤ k ∧ k < w.heap.size + 2)))) := hdn (Gr.of_below KB.out)
  by_cases hw0 : wr = 0
  · have HV0 : Hid (EV = evA 2 a.pl y) := hdn (by rw [HFR.out, if_pos hw0])
    subst hw0
    have hd0 : ((0 : Int) != 0) = false := rfl
    go_wp2_with (first
      | (go_at_call 83; refine CY.out.mono ?_; rintro e w4 ⟨rfl, hh4, hg4⟩; have HM4 := hdn (HM2.out.heap_ hh4.out hg4.out); have HE4 := hdn (HD.out.evk (w3 := w4) (KG.out.trans hg4.out)); have b5 : w4.cell? ⟨w.heap.size, 5, none⟩ = some (.int .i64 a.pl) := HE4.out.2.cell 5; clear hh4 hg4)
      | ((with_reducible show wpList _ _ _ (Oper.mk _ (Op.load 43 _) _ _ _ _ :: _) _ _); refine wpList_load_bk rfl 43 _ rfl w.heap.size 43 a.cs rfl _ HE4.out.2 Tryd.underlying43 rfl size43 ?_)
      | (go_at_call 80; refine (raised_any a wr _).mono ?_; rintro e w5 ⟨rfl, hb5⟩; have HM5 := hdn (HM4.out.below hb5); have HE5 := hdn (HE4.out.1.below hb5 HE4.out.1.lt); clear hb5)
      | ((with_reducible show wpList _ _ _ (Oper.mk none (Op.store 37 _ _) _ _ _ _ :: _) _ _); refine wpList_store_all rfl 37 _ _ rfl (w.heap.size + 1) 37 _ (evA 2 a.pl y) rfl rfl HE4.out.1 size37 rfl (evA_one _ _ _) ?_; intro w6 h6 g6))
    rw [HV0.out]
    exact bodyPost_ret (results_cell_row Tryd.results64 _ w6 (w.heap.size + 1) 37 (evA 2 a.pl y) (0, 0) _ rfl h6.out Tryd.underlying37 rfl size37) rfl ⟨rfl, HD.out.fin HM4.out g6.out⟩
  · have HV0 : Hid (EV = evE a wr) := hdn (by rw [HFR.out, if_neg hw0])
    have hd0 : (wr != 0) = true := by simpa using hw0
    go_wp2_with (first
      | (go_at_call 83; refine CY.out.mono ?_; rintro e w4 ⟨rfl, hh4, hg4⟩; have HM4 := hdn (HM2.out.heap_ hh4.out hg4.out); have HE4 := hdn (HD.out.evk (w3 := w4) (KG.out.trans hg4.out)); have b5 : w4.cell? ⟨w.heap.size, 5, none⟩ = some (.int .i64 a.pl) := HE4.out.2.cell 5; clear hh4 hg4)
      | ((with_reducible show wpList _ _ _ (Oper.mk _ (Op.load 43 _) _ _ _ _ :: _) _ _); refine wpList_load_bk rfl 43 _ rfl w.heap.size 43 a.cs rfl _ HE4.out.2 Tryd.underlying43 rfl size43 ?_)
      | (go_at_call 80; refine (raised_any a wr _).mono ?_; rintro e w5 ⟨rfl, hb5⟩; have HM5 := hdn (HM4.out.below hb5); have HE5 := hdn (HE4.out.1.below hb5 HE4.out.1.lt); clear hb5)
      | ((with_reducible show wpList _ _ _ (Oper.mk none (Op.store 37 _ _) _ _ _ _ :: _) _ _); refine wpList_store_all rfl 37 _ _ rfl (w.heap.size + 1) 37 _ (evE a wr) rfl rfl HE5.out (evE_37 a wr) (evE_size a wr) (evE_one a wr) ?_; intro w6 h6 g6))
    rw [HV0.out]
    exact bodyPost_ret (results_cell_row Tryd.results64 _ w6 (w.heap.size + 1) 37 (evE a wr) (0, 0) _ rfl h6.out Tryd.underlying37 rfl (evE_37 a wr)) rfl ⟨rfl, HD.out.fin HM5.out g6.out⟩
/-- What a put leaves. -/
def putI (is : List Int) (k : Nat) (a : Acn) : List Int :=
  if a.op = 0 then is.set k (numL is a.l) else if a.op = 1 then is.set k (IntKind.i64.wrap (numL is a.l + numL is a.r)) else if a.op = 2 then is.set k (IntKind.i64.wrap (numL is a.l - numL is a.r)) else is
theorem Mo.ir_ {w0 : WK} {w : World} {F mb vb ib hb : Nat} {N : Nat → Prop} {vs is : List Int} {cs : List PC} (h : Mo w0 w F N mb vb ib hb vs is cs) : IR w (some ⟨ib, 0, none⟩) is := .inr ⟨ib, 0, rfl, by simpa using h.ir.range⟩
theorem put65_any {w0 : WK} {w : World} {F mb vb ib hb : Nat} {N : Nat → Prop} {vs is : List Int} {cs : List PC} (h : Mo w0 w F N mb vb ib hb vs is cs) (a : Acn) (inp : Int) (k : Nat) (hx : a.x = k) (hk : k < is.length) :
    Calls Tryd.prog 66 #[.pointer (some ⟨mb, 0, none⟩), .agg a.cs, .int .i64 inp] w (MoP w0 F N mb vb ib hb vs (putI is k a) cs (evA 0 0 0)) := by
  obtain ⟨w2, HW, HD⟩ := dd_hid h a
  have c1 := cell_regrown HD.out.mo.c1
  have a1 : w2.cell? ⟨w.heap.size, 1, none⟩ = some (.int .i64 k) := by rw [← hx]; exact HD.out.ax
  have q1 := cell_regrown HD.out.alv
  have q2 := cell_regrown HD.out.aln
  have q3 := cell_regrown HD.out.arv
  have q4 := cell_regrown HD.out.arn
  have CL := hdn (qb_call (wB := w2) (F := 41) (ar := #[.slice (some ⟨ib, 0, none⟩) is.length is.length, .agg #[.int .i64 a.l.v, .int .i64 a.l.n]]) (v := .int .i64 (numL is a.l)) (fun wr hb' => number_any (some ⟨ib, 0, none⟩) is is.length a.l wr (HD.out.mo.below hb').ir_))
  have CR := hdn (qb_call (wB := w2) (F := 41) (ar := #[.slice (some ⟨ib, 0, none⟩) is.length is.length, .agg #[.int .i64 a.r.v, .int .i64 a.r.n]]) (v := .int .i64 (numL is a.r)) (fun wr hb' => number_any (some ⟨ib, 0, none⟩) is is.length a.r wr (HD.out.mo.below hb').ir_))
  have hk0 : (0 : Int) ≤ (k : Int) := Int.natCast_nonneg _
  have hk1 : (k : Int) < (is.length : Int) := by omega
  have HXX := hdn hx
  clear h hx a1
  go_enter Tryd.func66, Tryd.ntmps66
  go_upto_region 1 with fail
  rw [HW.out]
  have cL := CL.out
  have cR := CR.out
  refine wp_region_quiet_below (by kernel_rfl) (by kernel_rfl) ?_
  repeat (go_big_quiet_step (first | (with_reducible exact cL _ _) | (with_reducible exact cR _ _)))
  refine wpQuiet_nil ?_
  intro _ hw'
  obtain ⟨⟨dq, osq⟩, hw''⟩ := hw'
  subst hw''
  have HB3 : Hid (RowKit.Below w2.heap.size w2 (grow (redrawn w2 dq) osq)) := hdn (below_regrown w2 dq osq)
  generalize grow (redrawn w2 dq) osq = w3 at HB3 ⊢
  have HM3 : Hid (Mo w0 w3.drew F (fun k => N k ∨ (w.heap.size ≤ k ∧ k < w.heap.size + 2)) mb vb ib hb vs is cs) := hdn (HD.out.mo.below (below_drew HB3.out))
  have HMz : Hid (Mo w0 w3 F (fun k => N k ∨ (w.heap.size ≤ k ∧ k < w.heap.size + 2)) mb vb ib hb vs is cs) := hdn (HD.out.mo.below HB3.out)
  have HE3 : Hid (Bk w3 (w.heap.size + 1) 37 (evA 0 0 0)) := hdn (HD.out.ev.below HB3.out HD.out.ev.lt)
  have HA3 := HD.out.act.below HB3.out HD.out.act.lt
  have b1 : w3.cell? ⟨w.heap.size, 1, none⟩ = some (.int .i64 k) := by rw [← HXX.out]; exact HA3.cell 1
  have b6 : w3.cell? ⟨w.heap.size, 6, none⟩ = some (.int .i64 a.op) := HA3.cell 6
  have d1 := HMz.out.c1
  have ci := HMz.out.ci k hk
  have fi : w3.frozen? ⟨ib, k, none⟩ = false := HMz.out.ir.frozen k
  have HPI : Hid (putI is k a = if a.op = 0 then is.set k (numL is a.l) else if a.op = 1 then is.set k (IntKind.i64.wrap (numL is a.l + numL is a.r)) else if a.op = 2 then is.set k (IntKind.i64.wrap (numL is a.l - numL is a.r)) else is) := hdn rfl
  generalize putI is k a = PI at *
  generalize numL is a.l = nl at *
  generalize numL is a.r = nr at *
  generalize a.op = op at *
  clear HA3 cL cR q1 q2 q3 q4 c1
  by_cases h0 : op = 0
  · have HV0 : Hid (PI = is.set k nl) := hdn (by rw [HPI.out, if_pos h0])
    have e0 : (op == 0) = true := by simpa using h0
    clear h0
    have HM4 : Hid (Mo w0 (w3.setCell ⟨ib, k, none⟩ (.int .i64 (nl))).drew F (fun k => N k ∨ (w.heap.size ≤ k ∧ k < w.heap.size + 2)) mb vb ib hb vs (is.set k (nl)) cs) := hdn (HM3.out.seti k (nl))
    have HE4 : Hid (Bk (w3.setCell ⟨ib, k, none⟩ (.int .i64 (nl))).drew (w.heap.size + 1) 37 (evA 0 0 0)) := hdn (Bk.far (w := w3.drew) HE3.out (p := ⟨ib, k, none⟩) (by have := HD.out.old _ HD.out.ni; show w.heap.size + 1 ≠ ib; omega) _)
    go_wp2_with fail
    go_still_tail 7, (by kernel_rfl)
    change wpList _ _ _ _ _ w3.drew
    go_upto_region 9 with fail
    generalize (w3.setCell ⟨ib, k, none⟩ (.int .i64 (nl))).drew = w4 at HM4 HE4 ⊢
    go_wp2_with ((with_reducible show wpList _ _ _ (Oper.mk none (Op.store 37 _ _) _ _ _ _ :: _) _ _); refine wpList_store_all rfl 37 _ _ rfl (w.heap.size + 1) 37 _ (evA 0 0 0) rfl rfl HE4.out size37 rfl (evA_one _ _ _) ?_; intro w6 h6 g6)
    rw [HV0.out]
    exact bodyPost_ret (results_cell_row Tryd.results66 _ w6 (w.heap.size + 1) 37 (evA 0 0 0) (0, 0) _ rfl h6.out Tryd.underlying37 rfl size37) rfl ⟨rfl, HD.out.fin HM4.out g6.out⟩
  by_cases h1 : op = 1
  · obtain ⟨sv, hsv⟩ : ∃ sv, IntKind.i64.wrap (nl + nr) = sv := ⟨_, rfl⟩
    have HV0 : Hid (PI = is.set k sv) := hdn (by rw [← hsv, HPI.out, if_neg h0, if_pos h1])
    have e0 : (op == 0) = false := by simpa using h0
    have e1 : (op == 1) = true := by simpa using h1
    clear h0 h1
    have HM4 : Hid (Mo w0 (w3.setCell ⟨ib, k, none⟩ (.int .i64 (sv))).drew F (fun k => N k ∨ (w.heap.size ≤ k ∧ k < w.heap.size + 2)) mb vb ib hb vs (is.set k (sv)) cs) := hdn (HM3.out.seti k (sv))
    have HE4 : Hid (Bk (w3.setCell ⟨ib, k, none⟩ (.int .i64 (sv))).drew (w.heap.size + 1) 37 (evA 0 0 0)) := hdn (Bk.far (w := w3.drew) HE3.out (p := ⟨ib, k, none⟩) (by have := HD.out.old _ HD.out.ni; show w.heap.size + 1 ≠ ib; omega) _)
    go_wp2_with fail
    go_still_tail 10, (by kernel_rfl)
    change wpList _ _ _ _ _ w3.drew
    go_upto_region 9 with fail
    generalize (w3.setCell ⟨ib, k, none⟩ (.int .i64 (sv))).drew = w4 at HM4 HE4 ⊢
    go_wp2_with ((with_reducible show wpList _ _ _ (Oper.mk none (Op.store 37 _ _) _ _ _ _ :: _) _ _); refine wpList_store_all rfl 37 _ _ rfl (w.heap.size + 1) 37 _ (evA 0 0 0) rfl rfl HE4.out size37 rfl (evA_one _ _ _) ?_; intro w6 h6 g6)
    rw [HV0.out]
    exact bodyPost_ret (results_cell_row Tryd.results66 _ w6 (w.heap.size + 1) 37 (evA 0 0 0) (0, 0) _ rfl h6.out Tryd.underlying37 rfl size37) rfl ⟨rfl, HD.out.fin HM4.out g6.out⟩
  by_cases h2 : op = 2
  · obtain ⟨sv, hsv⟩ : ∃ sv, IntKind.i64.wrap (nl - nr) = sv := ⟨_, rfl⟩
    have HV0 : Hid (PI = is.set k sv) := hdn (by rw [← hsv, HPI.out, if_neg h0, if_neg h1, if_pos h2])
    have e0 : (op == 0) = false := by simpa using h0
    have e1 : (op == 1) = false := by simpa using h1
    have e2 : (op == 2) = true := by simpa using h2
    clear h0 h1 h2
    have HM4 : Hid (Mo w0 (w3.setCell ⟨ib, k, none⟩ (.int .i64 (sv))).drew F (fun k => N k ∨ (w.heap.size ≤ k ∧ k < w.heap.size + 2)) mb vb ib hb vs (is.set k (sv)) cs) := hdn (HM3.out.seti k (sv))
    have HE4 : Hid (Bk (w3.setCell ⟨ib, k, none⟩ (.int .i64 (sv))).drew (w.heap.size + 1) 37 (evA 0 0 0)) := hdn (Bk.far (w := w3.drew) HE3.out (p := ⟨ib, k, none⟩) (by have := HD.out.old _ HD.out.ni; show w.heap.size + 1 ≠ ib; omega) _)
    go_wp2_with fail
    go_still_tail 10, (by kernel_rfl)
    change wpList _ _ _ _ _ w3.drew
    go_upto_region 9 with fail
    generalize (w3.setCell ⟨ib, k, none⟩ (.int .i64 (sv))).drew = w4 at HM4 HE4 ⊢
    go_wp2_with ((with_reducible show wpList _ _ _ (Oper.mk none (Op.store 37 _ _) _ _ _ _ :: _) _ _); refine wpList_store_all rfl 37 _ _ rfl (w.heap.size + 1) 37 _ (evA 0 0 0) rfl rfl HE4.out size37 rfl (evA_one _ _ _) ?_; intro w6 h6 g6)
    rw [HV0.out]
    exact bodyPost_ret (results_cell_row Tryd.results66 _ w6 (w.heap.size + 1) 37 (evA 0 0 0) (0, 0) _ rfl h6.out Tryd.underlying37 rfl size37) rfl ⟨rfl, HD.out.fin HM4.out g6.out⟩
  · have HV0 : Hid (PI = is) := hdn (by rw [HPI.out, if_neg h0, if_neg h1, if_neg h2])
    have e0 : (op == 0) = false := by simpa using h0
    have e1 : (op == 1) = false := by simpa using h1
    have e2 : (op == 2) = false := by simpa using h2
    have HM4 := HMz
    have HE4 := HE3
    clear h0 h1 h2
    go_wp2_with ((with_reducible show wpList _ _ _ (Oper.mk none (Op.store 37 _ _) _ _ _ _ :: _) _ _); refine wpList_store_all rfl 37 _ _ rfl (w.heap.size + 1) 37 _ (evA 0 0 0) rfl rfl HE4.out size37 rfl (evA_one _ _ _) ?_; intro w6 h6 g6)
    rw [HV0.out]
    exact bodyPost_ret (results_cell_row Tryd.results66 _ w6 (w.heap.size + 1) 37 (evA 0 0 0) (0, 0) _ rfl h6.out Tryd.underlying37 rfl size37) rfl ⟨rfl, HD.out.fin HM4.out g6.out⟩
end Go.Proofs.YtebmhadpkncgfaaDoor
namespace Go.Proofs.YtebmhadpkncgfaaDoor
open Go.RowKit Go.Maps Go.Sort
open Aw.Ac (Acn Opd)
/-- A graph and a state, boxed. -/
structure Bx (w w2 : World) (g : GR) (s : SV) : Prop where
  gr : Bk w2 w.heap.size 30 g.cs
  st : Bk w2 (w.heap.size + 1) 33 s.A
  below : RowKit.Below w.heap.size w w2
  sz : w2.heap.size = w.heap.size + 1 + 1
theorem Bx.start (w : World) (g : GR) (s : SV) : Bx w ((w.alloc (.cells g.cs 30)).alloc (.cells s.A 33)) g s where
  gr := alloc2_old _ _ _ _
  st := alloc2_new _ _ _ _
  below := alloc2_below _ _ _
  sz := by simp
def Z33 (s : SV) (b : Nat) (w : World) : Prop :=
  w.cell? ⟨b, 0, none⟩ = some (.int .i64 s.pt) ∧ w.cell? ⟨b, 1, none⟩ = some (.slice s.vp s.vs.length s.vc) ∧ w.cell? ⟨b, 2, none⟩ = some (.slice s.ip s.is.length s.ic) ∧ w.cell? ⟨b, 3, none⟩ = some (.slice s.cp s.rs.length s.cc)
theorem Z33.of {s : SV} {b : Nat} {w : World} (h : Bk w b 33 s.A) : Z33 s b w := ⟨h.cell 0, h.cell 1, h.cell 2, h.cell 3⟩
theorem Bx.cells {w w2 w' : World} {g : GR} {s : SV} (h : Bx w w2 g s) (hb : RowKit.Below w2.heap.size w2 w') : G10 g w.heap.size w' ∧ Z33 s (w.heap.size + 1) w' :=
  ⟨G10.of (h.gr.below hb h.gr.lt), Z33.of (h.st.below hb h.st.lt)⟩
theorem fits_any (g : GR) (s : SV) (w : World) (hg : Gok g) (hs : Rt g s) (hl : s.lies w) : Calls Tryd.prog 54 #[.agg g.cs, .agg s.A] w (RetV w (.bool true)) := by
  obtain ⟨w2, hw2⟩ : ∃ w2, (w.alloc (.cells g.cs 30)).alloc (.cells s.A 33) = w2 := ⟨_, rfl⟩
  have HX : Hid (Bx w w2 g s) := hdn (by rw [← hw2]; exact Bx.start w g s)
  have HW := hdn hw2
  have HL : Hid (s.lies w2) := hdn (hl.below HX.out.below)
  have HRt := hdn hs
  have p1 : Hid (inB g.pts.toNat s.pt = true) := hdn (by have := hs.pt; unfold inB; simp; omega)
  have CP := hdn (qb_call (wB := w2) (F := 68) (ar := #[.int .i64 g.pts, .int .i64 s.pt]) (v := .bool true) (fun wr hb' => by
    have h1 := below_any g.pts.toNat s.pt wr
    rw [p1.out] at h1
    have e : ((g.pts.toNat : Nat) : Int) = g.pts := by have := hs.pt; omega
    rw [e] at h1
    exact h1.mono (fun e w' he => ⟨he.1, same_below he.2⟩)))
  have CV := hdn (qb_call (wB := w2) (F := 17) (ar := #[.agg g.cs]) (v := .int .i64 g.V) (fun wr hb' => (vars_any g wr hg.V).mono (fun e w' he => ⟨he.1, by rw [← he.2]; exact alloc_below _ _⟩)))
  have CI := hdn (qb_call (wB := w2) (F := 18) (ar := #[.agg g.cs]) (v := .int .i64 g.I) (fun wr hb' => (ints_any g wr hg.I).mono (fun e w' he => ⟨he.1, by rw [← he.2]; exact alloc_below _ _⟩)))
  obtain ⟨⟨c0, c1, c2, c3, c4, c5, c6, c7, c8, c9⟩, ⟨s0, s1, s2, s3⟩⟩ := HX.out.cells (Below.refl _ _)
  have hvl := hs.vl
  have hil := hs.il
  have k0 := cell_regrown c0; have k1 := cell_regrown c1; have k2 := cell_regrown c2; have k3 := cell_regrown c3; have k4 := cell_regrown c4
  have k5 := cell_regrown c5; have k6 := cell_regrown c6; have k7 := cell_regrown c7; have k8 := cell_regrown c8; have k9 := cell_regrown c9
  have m0 := cell_regrown s0; have m1 := cell_regrown s1; have m2 := cell_regrown s2; have m3 := cell_regrown s3
  clear c0 c1 c2 c3 c4 c5 c6 c7 c8 c9 s0 s1 s2 s3 hw2 hl p1
  rw [hvl] at m1
  rw [hil] at m2
  have HN := hdn hs.n
  clear hs
  go_enter Tryd.func54, Tryd.ntmps54
  go_upto_region 1 with fail
  rw [HW.out]
  have cP := CP.out
  have cV := CV.out
  have cI := CI.out
  unfold GR.cs at cV cI
  refine wp_region_quiet_below (by kernel_rfl) (by kernel_rfl) ?_
  repeat (go_big_quiet_step (first | (with_reducible exact cP _ _) | (with_reducible exact cV _ _) | (with_reducible exact cI _ _)))
  refine wpQuiet_nil ?_
  intro _ hw'
  obtain ⟨⟨dq, osq⟩, hw''⟩ := hw'
  subst hw''
  have HB3 : Hid (RowKit.Below w2.heap.size w2 (grow (redrawn w2 dq) osq)) := hdn (below_regrown w2 dq osq)
  generalize grow (redrawn w2 dq) osq = w3 at HB3 ⊢
  clear cP cV cI k0 k1 k2 k3 k4 k5 k6 k7 k8 k9 m0 m1 m2 m3
  obtain ⟨_, ⟨_, s1, _, _⟩⟩ := HX.out.cells HB3.out
  have hn0 : s.rs.length ≤ 2000000 := HN.out
  have hvs : s.vs.length ≤ 24 := by rw [hvl]; exact hg.V
  clear hvl hil
  go_wp2_with fail
  clear s1
  go_loopw [34] (fun i wr => ∃ k : Nat, i = .int .i64 k ∧ k ≤ s.vs.length ∧ Hid (RowKit.Below w2.heap.size w2 wr)) (fun i _ => s.vs.length - (intOf i).toNat)
  case atStart => exact ⟨0, rfl, Nat.zero_le _, HB3⟩
  case round =>
    obtain ⟨k, rfl, hk, HB⟩ := hrel
    by_cases hkl : k < s.vs.length
    · obtain ⟨v, hv⟩ : ∃ v, s.vs[k]? = some v := ⟨_, List.getElem?_eq_getElem hkl⟩
      obtain ⟨b, o, hp, hcv⟩ := (HL.out.v.below HB.out).at_ hv
      obtain ⟨_, ⟨_, _, _, s3⟩⟩ := HX.out.cells HB.out
      have hin : inB (s.rs.length + 1) v = true := by
        have := HRt.out.vs v (List.mem_of_getElem? hv)
        unfold inB; simp; omega
      have HC : Hid (Calls Tryd.prog 68 #[.int .i64 ((s.rs.length : Int) + 1), .int .i64 v] wr fun e w' => e = .returned (.bool true) ∧ wr = w') := hdn (by
        have := below_any (s.rs.length + 1) v wr
        rw [hin] at this
        have e : (((s.rs.length + 1 : Nat)) : Int) = (s.rs.length : Int) + 1 := by omega
        rwa [e] at this)
      have hk0 : (0 : Int) ≤ (k : Int) := Int.natCast_nonneg _
      have hk1 : (k : Int) < (s.vs.length : Int) := by omega
      have hnI : (s.rs.length : Int) ≤ 2000000 := by omega
      clear hin hv
      rw [hp]
      go_wp2_with (go_at_call 68; refine HC.out.mono ?_; rintro e w' ⟨rfl, rfl⟩)
      go_roundw
      case rel => exact ⟨k + 1, by go_num, by omega, HB⟩
      case measure => simp [intOf]; omega
    · obtain ⟨_, ⟨_, _, _, s3⟩⟩ := HX.out.cells HB.out
      go_wp2_with fail
      clear s3
      go_loopw [49] (fun i wr => ∃ j : Nat, i = .int .i64 j ∧ j ≤ s.rs.length ∧ Hid (RowKit.Below w2.heap.size w2 wr)) (fun i _ => s.rs.length - (intOf i).toNat)
      case atStart => exact ⟨0, rfl, Nat.zero_le _, HB⟩
      case round =>
        obtain ⟨j, rfl, hj, HBj⟩ := hrel
        by_cases hjl : j < s.rs.length
        · obtain ⟨r, hr⟩ : ∃ r, s.rs[j]? = some r := ⟨_, List.getElem?_eq_getElem hjl⟩
          have hmem : r ∈ s.rs := List.mem_of_getElem? hr
          obtain ⟨cb, co, hcp, hit, hrl⟩ := (HL.out.c.below HBj.out (fun x h => RC.lies_below' h HBj.out)).at_ hr
          have d0 : wr.cell? ⟨cb, co + j * 3, none⟩ = some (.int .i64 r.c.ty) := hit 0 _ rfl
          have d1 : wr.cell? ⟨cb, co + j * 3 + 1, none⟩ = some (.bool r.c.fr) := hit 1 _ rfl
          have d2 : wr.cell? ⟨cb, co + j * 3 + 2, none⟩ = some (.slice r.q g.F r.k) := by
            have := hit 2 _ rfl
            rw [HRt.out.len hmem] at this; exact this
          have hty : Hid (Calls Tryd.prog 68 #[.int .i64 g.S, .int .i64 r.c.ty] = Calls Tryd.prog 68 #[.int .i64 ((g.S.toNat : Nat) : Int), .int .i64 r.c.ty]) := hdn (by
            have := HRt.out.ty r hmem
            rw [show ((g.S.toNat : Nat) : Int) = g.S by omega])
          have hin : inB g.S.toNat r.c.ty = true := by
            have := HRt.out.ty r hmem
            unfold inB; simp; omega
          have hj0 : (0 : Int) ≤ (j : Int) := Int.natCast_nonneg _
          have hj1 : (j : Int) < (s.rs.length : Int) := by omega
          have HBA : Hid (RowKit.Below w2.heap.size w2 (wr.alloc (.cells #[.int .i64 r.c.ty, .bool r.c.fr, .slice r.q g.F r.k] 85))) := hdn (HBj.out.alloc HBj.out.size _)
          have HKA : Hid (Bk (wr.alloc (.cells #[.int .i64 r.c.ty, .bool r.c.fr, .slice r.q g.F r.k] 85)) wr.heap.size 85 #[.int .i64 r.c.ty, .bool r.c.fr, .slice r.q g.F r.k]) := hdn (MapKept.heap_alloc wr _).1
          clear hit hrl hr hmem
          rw [hcp]
          go_upto_region 12 with fail
          generalize wr.alloc (.cells #[.int .i64 r.c.ty, .bool r.c.fr, .slice r.q g.F r.k] 85) = wA at HBA HKA ⊢
          generalize wr.heap.size = A at HKA ⊢
          clear d0 d1 d2
          have CT : Hid (Calls Tryd.prog 68 #[.int .i64 g.S, .int .i64 r.c.ty] wA fun e w' => e = .returned (.bool true) ∧ wA = w') := hdn (by
            rw [hty.out]
            have := below_any g.S.toNat r.c.ty wA
            rw [hin] at this
            exact this)
          obtain ⟨⟨_, _, _, _, _, _, _, _, c8, c9⟩, _⟩ := HX.out.cells HBA.out
          have z0 : wA.cell? ⟨A, 0, none⟩ = some (.int .i64 r.c.ty) := HKA.out.cell 0
          have z2 : wA.cell? ⟨A, 2, none⟩ = some (.slice r.q g.F r.k) := HKA.out.cell 2
          clear hin
          go_wp2_with (go_at_call 68; refine CT.out.mono ?_; rintro e w' ⟨rfl, rfl⟩)
          go_roundw
          case rel => exact ⟨j + 1, by go_num, by omega, HBA⟩
          case measure => simp [intOf]; omega
        · have HBW : Hid (RowKit.Below w.heap.size w wr) := hdn (HX.out.below.trans (HBj.out.mono HX.out.below.size))
          go_wp2_with fail
          go_ret
          exact ⟨rfl, HBW.out⟩
end Go.Proofs.YtebmhadpkncgfaaDoor
namespace Go.Proofs.YtebmhadpkncgfaaDoor
open Go.RowKit Go.Maps Go.Sort
open Aw.Ac (Acn Opd)
def LdP33 (F : Nat) (w : World) (cs : List PC) (e : Ending) (w' : World) : Prop := ∃ b, e = .returned (.tuple #[.pointer (some ⟨b, 0, none⟩), .bool true]) ∧ HM w w' b F cs
theorem HM.base {w w2 w' : World} {b F : Nat} {cs : List PC} (h : HM w2 w' b F cs) (hb : RowKit.Below w.heap.size w w2) : HM w w' b F cs := by
  obtain ⟨R, v, h1, h2, h3, h4⟩ := h
  exact ⟨R, v, h1, fun k hk => Nat.le_trans hb.size (h2 k hk), Nat.le_trans hb.size h3, hb.trans (h4.mono hb.size)⟩
theorem HM.bl {w0 w : World} {b F : Nat} {cs : List PC} (h : HM w0 w b F cs) : RowKit.Below w0.heap.size w0 w := by
  obtain ⟨R, v, h1, h2, h3, h4⟩ := h; exact h4
theorem get_right {F : Nat} {cs : List PC} {i j : Nat} {x : PC} (h : cs[i]? = some x) (hf : x.fr = true → x.at j = 0) (hj : j < F) : getV F cs ((i : Int) + 1) (j : Int) = x.at j := by
  cases hx : x.fr with
  | true => rw [getV_no F cs _ _ (.inl (by rw [fault_at cs i x h, hx]; decide)), hf hx]
  | false => exact getV_at F cs i j x h hx hj
theorem Rt.zero {g : GR} {s : SV} (h : Rt g s) {r : RC} (hr : r ∈ s.rs) (hf : r.c.fr = true) (j : Nat) : r.c.at j = 0 := by
  have h1 := h.ld r hr
  rw [← h1]
  unfold loadC PC.at
  rw [List.getD_eq_getElem?_getD, List.getElem?_map]
  cases (List.range g.F)[j]? with
  | none => rfl
  | some y => simp [hf]
theorem Rt.loaded {g : GR} {s : SV} (h : Rt g s) : loaded g.F s.rs = s.cs := by
  unfold Go.Proofs.YtebmhadpkncgfaaDoor.loaded SV.cs
  exact List.map_congr_left fun r hr => h.ld r hr
theorem SV.cs_get {s : SV} {i : Nat} {r : RC} (h : s.rs[i]? = some r) : s.cs[i]? = some r.c := by unfold SV.cs; rw [List.getElem?_map, h]; rfl
theorem size33A (s : SV) : (Tryd.prog.info? 33).map (·.size) = some s.A.size := size33
theorem size30A (g : GR) : (Tryd.prog.info? 30).map (·.size) = some g.cs.size := size30
theorem load33_any (g : GR) (s : SV) (w : World) (hg : Gok g) (hs : Rt g s) (hl : s.lies w) : Calls Tryd.prog 35 #[.agg g.cs, .agg s.A] w (LdP33 g.F w s.cs) := by
  obtain ⟨w2, hw2⟩ : ∃ w2, (w.alloc (.cells g.cs 30)).alloc (.cells s.A 33) = w2 := ⟨_, rfl⟩
  have HX : Hid (Bx w w2 g s) := hdn (by rw [← hw2]; exact Bx.start w g s)
  have HW := hdn hw2
  have HL : Hid (s.lies w2) := hdn (hl.below HX.out.below)
  have HRt := hdn hs
  have HFI := hdn (fits_any g s w2 hg hs HL.out)
  have HLO := hdn (fun w4 (hb : RowKit.Below w2.heap.size w2 w4) => load_any g.F g.fc s.cc g.fp s.cp s.rs w4 (HL.out.c.below hb (fun x h => RC.lies_below' h hb)) hg.F hs.n)
  have HG1 := hdn HX.out.gr
  have HS1 := hdn HX.out.st
  have hn0 := hs.n
  have hF := hg.F
  rw [hs.loaded] at HLO
  clear hw2 hl hs
  go_enter Tryd.func35, Tryd.ntmps35
  go_upto_region 1 with fail
  rw [HW.out]
  go_upto_region 3 with (first
    | ((with_reducible show wpList _ _ _ (Oper.mk _ (Op.load 30 _) _ _ _ _ :: _) _ _); refine wpList_load_bk rfl 30 _ rfl w.heap.size 30 g.cs rfl _ HG1.out Tryd.underlying30 rfl size30 ?_)
    | ((with_reducible show wpList _ _ _ (Oper.mk _ (Op.load 33 _) _ _ _ _ :: _) _ _); refine wpList_load_bk rfl 33 _ rfl (w.heap.size + 1) 33 s.A rfl _ HS1.out Tryd.underlying33 rfl size33 ?_)
    | (go_at_call 54; refine HFI.out.mono ?_; rintro e w3 ⟨rfl, hb3⟩; have HB3 : Hid (RowKit.Below w2.heap.size w2 w3) := hdn hb3; clear hb3))
  obtain ⟨⟨_, _, _, _, _, _, _, _, _, c9⟩, ⟨_, _, _, s3⟩⟩ := HX.out.cells HB3.out
  go_upto_region 4 with (go_at_call 55; refine (HLO.out _ HB3.out).mono ?_; rintro e w4 ⟨b, R, v, rfl, x1, x2, x3, x4⟩; have HM4 : Hid (HM w2 w4 b g.F s.cs) := hdn (HM.base ⟨R, v, x1, x2, x3, x4⟩ HB3.out); clear x1 x2 x3 x4)
  clear c9 s3
  obtain ⟨_, ⟨_, _, _, s3⟩⟩ := HX.out.cells HM4.out.bl
  go_wp2_with fail
  clear s3
  go_loopw [25] (fun i wr => ∃ k : Nat, i = .int .i64 k ∧ k ≤ s.rs.length ∧ Hid (HM w2 wr b g.F s.cs)) (fun i _ => s.rs.length - (intOf i).toNat)
  case atStart => exact ⟨0, rfl, Nat.zero_le _, HM4⟩
  case round =>
    obtain ⟨k, rfl, hk, HMk⟩ := hrel
    by_cases hkl : k < s.rs.length
    · generalize wr = wO at *
      obtain ⟨r, hr⟩ : ∃ r, s.rs[k]? = some r := ⟨_, List.getElem?_eq_getElem hkl⟩
      have hmem : r ∈ s.rs := List.mem_of_getElem? hr
      obtain ⟨cb, co, hcp, hit, hrl⟩ := (HL.out.c.below HMk.out.bl (fun x h => RC.lies_below' h HMk.out.bl)).at_ hr
      have d0 : wO.cell? ⟨cb, co + k * 3, none⟩ = some (.int .i64 r.c.ty) := hit 0 _ rfl
      have d1 : wO.cell? ⟨cb, co + k * 3 + 1, none⟩ = some (.bool r.c.fr) := hit 1 _ rfl
      have d2 : wO.cell? ⟨cb, co + k * 3 + 2, none⟩ = some (.slice r.q g.F r.k) := by
        have := hit 2 _ rfl
        rw [HRt.out.len hmem] at this; exact this
      have HTO : Hid (∀ w' j, RowKit.Below wO.heap.size wO w' → j < g.F → ∃ qb qo, r.q = some ⟨qb, qo, none⟩ ∧ w'.cell? ⟨qb, qo + j, none⟩ = some (.int .i64 (r.c.at j))) := hdn (fun w' j hb hj => rc_at hrl hb (by rw [HRt.out.len hmem]; exact hj))
      have HGET : Hid (∀ w' j, HM w2 w' b g.F s.cs → j < g.F → Calls Tryd.prog 56 #[.pointer (some ⟨b, 0, none⟩), .int .i64 ((k : Int) + 1), .int .i64 (j : Int)] w' fun e w'' => ∃ n, e = .returned (two (r.c.at j) n) ∧ w' = w'') := hdn (fun w' j hm hj => (hm.get ((k : Int) + 1) j hF (by unfold maxLen; simp [SV.cs]; omega)).mono (fun e w'' he => ⟨faultC s.cs ((k : Int) + 1), by have := he.1; rwa [get_right (SV.cs_get hr) (fun hf => HRt.out.zero hmem hf j) hj] at this, he.2⟩))
      have hk0 : (0 : Int) ≤ (k : Int) := Int.natCast_nonneg _
      have hk1 : (k : Int) < (s.rs.length : Int) := by omega
      have hkB : (k : Int) ≤ 2000000 := by omega
      have HMA : Hid (HM w2 (wO.alloc (.cells #[.int .i64 r.c.ty, .bool r.c.fr, .slice r.q g.F r.k] 85)) b g.F s.cs) := hdn (HMk.out.below (alloc_below _ _))
      have HKA : Hid (Bk (wO.alloc (.cells #[.int .i64 r.c.ty, .bool r.c.fr, .slice r.q g.F r.k] 85)) wO.heap.size 85 #[.int .i64 r.c.ty, .bool r.c.fr, .slice r.q g.F r.k]) := hdn (MapKept.heap_alloc wO _).1
      have HBA : Hid (RowKit.Below wO.heap.size wO (wO.alloc (.cells #[.int .i64 r.c.ty, .bool r.c.fr, .slice r.q g.F r.k] 85))) := hdn (alloc_below _ _)
      clear hit hrl hr hmem
      rw [hcp]
      go_upto_region 7 with fail
      generalize wO.alloc (.cells #[.int .i64 r.c.ty, .bool r.c.fr, .slice r.q g.F r.k] 85) = wA at HMA HKA HBA ⊢
      clear d0 d1 d2
      have z2 : wA.cell? ⟨wO.heap.size, 2, none⟩ = some (.slice r.q g.F r.k) := HKA.out.cell 2
      go_wp2_with fail
      clear z2
      go_loopw [33] (fun i wz => ∃ j : Nat, i = .int .i64 j ∧ j ≤ g.F ∧ Hid (HM w2 wz b g.F s.cs) ∧ Hid (RowKit.Below wO.heap.size wO wz)) (fun i _ => g.F - (intOf i).toNat)
      case atStart => exact ⟨0, rfl, Nat.zero_le _, HMA, HBA⟩
      case round =>
        obtain ⟨j, rfl, hj, HMj, HBj⟩ := hrel
        by_cases hjF : j < g.F
        · obtain ⟨qb, qo, eq, hto⟩ := HTO.out wr j HBj.out hjF
          have CG := hdn (HGET.out wr j HMj.out hjF)
          have hj0 : (0 : Int) ≤ (j : Int) := Int.natCast_nonneg _
          have hj1 : (j : Int) < (g.F : Int) := by omega
          have hjB : (j : Int) ≤ 2000000 := by omega
          generalize r.c.at j = y at hto CG
          rw [eq]
          unfold two at CG
          go_wp2_with (go_at_call 56; refine CG.out.mono ?_; rintro e w' ⟨n, rfl, rfl⟩)
          go_roundw
          case rel => exact ⟨j + 1, by go_num, by omega, HMj, HBj⟩
          case measure => simp [intOf]; omega
        · go_wp2_with fail
          go_roundw
          case rel => exact ⟨k + 1, by go_num, by omega, HMj⟩
          case measure => simp [intOf]; omega
    · have HE := hdn (HMk.out.base HX.out.below)
      go_wp2_with fail
      refine bodyPost_ret (results_tmp2 rfl _ _ _) rfl ⟨b, rfl, HE.out⟩
end Go.Proofs.YtebmhadpkncgfaaDoor
namespace Go.Proofs.YtebmhadpkncgfaaDoor
open Go.RowKit Go.Maps Go.Sort
open Aw.Ac (Acn Opd)
theorem right12_any (g : GR) (s : SV) (w : World) (hg : Gok g) (hs : Rt g s) (hl : s.lies w) : Calls Tryd.prog 12 #[.agg g.cs, .agg s.A] w (RetV w (.bool true)) := by
  obtain ⟨w2, hw2⟩ : ∃ w2, (w.alloc (.cells g.cs 30)).alloc (.cells s.A 33) = w2 := ⟨_, rfl⟩
  have HX : Hid (Bx w w2 g s) := hdn (by rw [← hw2]; exact Bx.start w g s)
  have HW := hdn hw2
  have HLO := hdn (load33_any g s w2 hg hs (hl.below HX.out.below))
  have HG1 := hdn HX.out.gr
  have HS1 := hdn HX.out.st
  clear hw2 hl hs hg
  go_enter Tryd.func12, Tryd.ntmps12
  go_upto_region 1 with fail
  rw [HW.out]
  go_wp2_with (first
    | ((with_reducible show wpList _ _ _ (Oper.mk _ (Op.load 30 _) _ _ _ _ :: _) _ _); refine wpList_load_bk rfl 30 _ rfl w.heap.size 30 g.cs rfl _ HG1.out Tryd.underlying30 rfl size30 ?_)
    | ((with_reducible show wpList _ _ _ (Oper.mk _ (Op.load 33 _) _ _ _ _ :: _) _ _); refine wpList_load_bk rfl 33 _ rfl (w.heap.size + 1) 33 s.A rfl _ HS1.out Tryd.underlying33 rfl size33 ?_)
    | (go_at_call 35; refine HLO.out.mono ?_; rintro e w3 ⟨b, rfl, hm⟩; have HB3 : Hid (RowKit.Below w.heap.size w w3) := hdn (HX.out.below.trans (hm.bl.mono HX.out.below.size)); clear hm))
  go_ret
  exact ⟨rfl, HB3.out⟩
/-- Whether a run goes on. -/
def holdsB (s : SV) (a : Acn) (inp : Int) : Bool :=
  if a.kind = 8 then ((atL s.vs a.x == atL s.vs a.y) == a.sense) else if a.kind = 9 then ((inp != 0) == a.sense) else if a.kind = 12 then (cmpB a.op (numL s.is a.l) (numL s.is a.r) == a.sense) else true
theorem holds_any (s : SV) (a : Acn) (inp : Int) (w : World) (hl : s.lies w) : Calls Tryd.prog 10 #[.agg s.A, .agg a.cs, .int .i64 inp] w (RetV w (.bool (holdsB s a inp))) := by
  obtain ⟨w2, hw2⟩ : ∃ w2, (w.alloc (.cells s.A 33)).alloc (.cells a.cs 43) = w2 := ⟨_, rfl⟩
  have HW := hdn hw2
  have HB : Hid (RowKit.Below w.heap.size w w2) := hdn (by rw [← hw2]; exact alloc2_below _ _ _)
  have HS : Hid (Bk w2 w.heap.size 33 s.A) := hdn (by rw [← hw2]; exact alloc2_old _ _ _ _)
  have HA : Hid (Bk w2 (w.heap.size + 1) 43 a.cs) := hdn (by rw [← hw2]; exact alloc2_new _ _ _ _)
  have HL : Hid (s.lies w2) := hdn (hl.below HB.out)
  have CV := fun x => qb_call (wB := w2) (F := 39) (ar := #[.slice s.vp s.vs.length s.vc, .int .i64 x]) (v := .int .i64 (atL s.vs x)) (fun wr hb' => (value_any s.vp s.vs s.vc x wr (HL.out.v.below hb')).mono (fun e w' he => ⟨he.1, same_below he.2⟩))
  have CN := fun o : Opd => qb_call (wB := w2) (F := 41) (ar := #[.slice s.ip s.is.length s.ic, .agg #[.int .i64 o.v, .int .i64 o.n]]) (v := .int .i64 (numL s.is o)) (fun wr hb' => number_any s.ip s.is s.ic o wr (HL.out.i.below hb'))
  have CC := fun x y z => qb_call (wB := w2) (F := 40) (ar := #[.int .i64 x, .int .i64 y, .int .i64 z]) (v := .bool (cmpB x y z)) (fun wr hb' => (compared_any x y z wr).mono (fun e w' he => ⟨he.1, same_below he.2⟩))
  have HX := hdn (CV a.x)
  have HY := hdn (CV a.y)
  have HLL := hdn (CN a.l)
  have HRR := hdn (CN a.r)
  have HCC := hdn (CC a.op (numL s.is a.l) (numL s.is a.r))
  have HR : Hid (holdsB s a inp = if a.kind = 8 then ((atL s.vs a.x == atL s.vs a.y) == a.sense) else if a.kind = 9 then ((inp != 0) == a.sense) else if a.kind = 12 then (cmpB a.op (numL s.is a.l) (numL s.is a.r) == a.sense) else true) := hdn rfl
  have q0 : w2.cell? ⟨w.heap.size + 1, 0, none⟩ = some (.int .i64 a.kind) := HA.out.cell 0
  have q1 : w2.cell? ⟨w.heap.size + 1, 1, none⟩ = some (.int .i64 a.x) := HA.out.cell 1
  have q2 : w2.cell? ⟨w.heap.size + 1, 2, none⟩ = some (.int .i64 a.y) := HA.out.cell 2
  have q6 : w2.cell? ⟨w.heap.size + 1, 6, none⟩ = some (.int .i64 a.op) := HA.out.cell 6
  have q7 : w2.cell? ⟨w.heap.size + 1, 7, none⟩ = some (.int .i64 a.l.v) := HA.out.cell 7
  have q8 : w2.cell? ⟨w.heap.size + 1, 8, none⟩ = some (.int .i64 a.l.n) := HA.out.cell 8
  have q9 : w2.cell? ⟨w.heap.size + 1, 9, none⟩ = some (.int .i64 a.r.v) := HA.out.cell 9
  have q10 : w2.cell? ⟨w.heap.size + 1, 10, none⟩ = some (.int .i64 a.r.n) := HA.out.cell 10
  have q11 : w2.cell? ⟨w.heap.size + 1, 11, none⟩ = some (.bool a.sense) := HA.out.cell 11
  have s1 : w2.cell? ⟨w.heap.size, 1, none⟩ = some (.slice s.vp s.vs.length s.vc) := HS.out.cell 1
  have s2 : w2.cell? ⟨w.heap.size, 2, none⟩ = some (.slice s.ip s.is.length s.ic) := HS.out.cell 2
  generalize holdsB s a inp = RR at *
  generalize cmpB a.op (numL s.is a.l) (numL s.is a.r) = cm at *
  generalize numL s.is a.l = nl at *
  generalize numL s.is a.r = nr at *
  generalize atL s.vs a.x = vx at *
  generalize atL s.vs a.y = vy at *
  clear CV CN CC hl hw2 HS HA
  by_cases h8 : a.kind = 8
  · have HV0 : Hid (RR = ((vx == vy) == a.sense)) := hdn (by rw [HR.out, if_pos h8])
    have e8 : (a.kind == 8) = true := by simpa using h8
    clear h8
    go_enter Tryd.func10, Tryd.ntmps10
    go_upto_region 1 with fail
    rw [HW.out]
    go_wp2_with fail
    have cX := HX.out
    have cY := HY.out
    have p1 := cell_regrown q1; have p2 := cell_regrown q2; have p11 := cell_regrown q11; have p12 := cell_regrown s1
    refine wp_region_quiet_below (by kernel_rfl) (by kernel_rfl) ?_
    repeat (go_big_quiet_step (first | (with_reducible exact cX _ _) | (with_reducible exact cY _ _)))
    refine wpQuiet_nil ?_
    intro _ hw'
    obtain ⟨⟨dz, osz⟩, hw''⟩ := hw'
    subst hw''
    have HB5 : Hid (RowKit.Below w.heap.size w (grow (redrawn w2 dz) osz)) := hdn (HB.out.trans ((below_regrown w2 dz osz).mono HB.out.size))
    generalize grow (redrawn w2 dz) osz = w5 at HB5 ⊢
    clear cX cY p1 p2 p11 p12
    go_wp2_with fail
    go_ret
    exact ⟨ret_bool HV0.out.symm, HB5.out⟩
  have e8 : (a.kind == 8) = false := by simpa using h8
  by_cases h9 : a.kind = 9
  · have HV0 : Hid (RR = ((inp != 0) == a.sense)) := hdn (by rw [HR.out, if_neg h8, if_pos h9])
    have e9 : (a.kind == 9) = true := by simpa using h9
    clear h8 h9
    go_enter Tryd.func10, Tryd.ntmps10
    go_upto_region 1 with fail
    rw [HW.out]
    go_wp2_with fail
    go_ret
    exact ⟨ret_bool HV0.out.symm, HB.out⟩
  have e9 : (a.kind == 9) = false := by simpa using h9
  by_cases h12 : a.kind = 12
  · have HV0 : Hid (RR = (cm == a.sense)) := hdn (by rw [HR.out, if_neg h8, if_neg h9, if_pos h12])
    have e12 : (a.kind == 12) = true := by simpa using h12
    clear h8 h9 h12
    go_enter Tryd.func10, Tryd.ntmps10
    go_upto_region 1 with fail
    rw [HW.out]
    go_wp2_with fail
    have cX := HLL.out
    have cY := HRR.out
    have cZ := HCC.out
    have p1 := cell_regrown q6; have p2 := cell_regrown q7; have p3 := cell_regrown q8; have p4 := cell_regrown q9; have p5 := cell_regrown q10; have p11 := cell_regrown q11; have p12 := cell_regrown s2
    refine wp_region_quiet_below (by kernel_rfl) (by kernel_rfl) ?_
    repeat (go_big_quiet_step (first | (with_reducible exact cX _ _) | (with_reducible exact cY _ _) | (with_reducible exact cZ _ _)))
    refine wpQuiet_nil ?_
    intro _ hw'
    obtain ⟨⟨dz, osz⟩, hw''⟩ := hw'
    subst hw''
    have HB5 : Hid (RowKit.Below w.heap.size w (grow (redrawn w2 dz) osz)) := hdn (HB.out.trans ((below_regrown w2 dz osz).mono HB.out.size))
    generalize grow (redrawn w2 dz) osz = w5 at HB5 ⊢
    clear cX cY cZ p1 p2 p3 p4 p5 p11 p12
    go_wp2_with fail
    go_ret
    exact ⟨ret_bool HV0.out.symm, HB5.out⟩
  · have HV0 : Hid (RR = true) := hdn (by rw [HR.out, if_neg h8, if_neg h9, if_neg h12])
    have e12 : (a.kind == 12) = false := by simpa using h12
    clear h8 h9 h12
    go_enter Tryd.func10, Tryd.ntmps10
    go_upto_region 1 with fail
    rw [HW.out]
    go_wp2_with fail
    go_ret
    exact ⟨ret_bool HV0.out.symm, HB.out⟩
end Go.Proofs.YtebmhadpkncgfaaDoor
namespace Go.Proofs.YtebmhadpkncgfaaDoor
open Go.RowKit Go.Maps Go.Sort
open Aw.Ac (Acn Opd)
theorem equal43_any (p q : Option Addr) (l : List Int) (c d : Nat) (w : World) (h1 : IR w p l) (h2 : IR w q l) (hn : l.length ≤ 2000000) : Calls Tryd.prog 44 #[.slice p l.length c, .slice q l.length d] w (RetV w (.bool true)) := by
  have H1 := hdn h1
  have H2 := hdn h2
  have HB0 : Hid (RowKit.Below w.heap.size w w) := hdn (Below.refl _ _)
  clear h1 h2
  go_enter Tryd.func44, Tryd.ntmps44
  go_wp2_with fail
  go_loopw [13] (fun i wr => ∃ k : Nat, i = .int .i64 k ∧ k ≤ l.length ∧ Hid (RowKit.Below w.heap.size w wr)) (fun i _ => l.length - (intOf i).toNat)
  case atStart => exact ⟨0, rfl, Nat.zero_le _, HB0⟩
  case round =>
    obtain ⟨k, rfl, hk, HB⟩ := hrel
    by_cases hkl : k < l.length
    · obtain ⟨v, hv⟩ : ∃ v, l[k]? = some v := ⟨_, List.getElem?_eq_getElem hkl⟩
      obtain ⟨b, o, hp, hcv⟩ := (H1.out.below HB.out).at_ hv
      obtain ⟨b2, o2, hp2, hcv2⟩ := (H2.out.below HB.out).at_ hv
      have hk0 : (0 : Int) ≤ (k : Int) := Int.natCast_nonneg _
      have hk1 : (k : Int) < (l.length : Int) := by omega
      clear hv
      rw [hp, hp2]
      go_wp2_with fail
      go_quiet (fail)
      go_wp2_with fail
      go_roundw
      case rel => exact ⟨k + 1, by go_num, by omega, hdn (below_drewN_ HB.out _)⟩
      case measure => simp [intOf]; omega
    · go_wp2_with fail
      go_ret
      exact ⟨rfl, HB.out⟩
def rcA (r : RC) (n : Nat) : Array Value := #[.int .i64 r.c.ty, .bool r.c.fr, .slice r.q n r.k]
theorem IR.of_lies {w : World} {r : RC} (h : r.lies w) : IR w r.q r.c.to := h.1
theorem sameCell_any (r r2 : RC) (he : r.c = r2.c) (w : World) (h1 : r.lies w) (h2 : r2.lies w) (hn : r.c.to.length ≤ 2000000) : Calls Tryd.prog 46 #[.agg (rcA r r.c.to.length), .agg (rcA r2 r.c.to.length)] w (RetV w (.bool true)) := by
  obtain ⟨w2, hw2⟩ : ∃ w2, (w.alloc (.cells (rcA r r.c.to.length) 85)).alloc (.cells (rcA r2 r.c.to.length) 85) = w2 := ⟨_, rfl⟩
  have HW := hdn hw2
  have HB : Hid (RowKit.Below w.heap.size w w2) := hdn (by rw [← hw2]; exact alloc2_below _ _ _)
  have K1 : Bk w2 w.heap.size 85 (rcA r r.c.to.length) := by rw [← hw2]; exact alloc2_old _ _ _ _
  have K2 : Bk w2 (w.heap.size + 1) 85 (rcA r2 r.c.to.length) := by rw [← hw2]; exact alloc2_new _ _ _ _
  have HC := hdn (equal43_any r.q r2.q r.c.to r.k r2.k w2 ((IR.of_lies h1).below HB.out) (by rw [he]; exact (IR.of_lies h2).below HB.out) hn)
  have q0 : w2.cell? ⟨w.heap.size, 0, none⟩ = some (.int .i64 r.c.ty) := K1.cell 0
  have q1 : w2.cell? ⟨w.heap.size, 1, none⟩ = some (.bool r.c.fr) := K1.cell 1
  have q2 : w2.cell? ⟨w.heap.size, 2, none⟩ = some (.slice r.q r.c.to.length r.k) := K1.cell 2
  have z0 : w2.cell? ⟨w.heap.size + 1, 0, none⟩ = some (.int .i64 r.c.ty) := by rw [he]; exact K2.cell 0
  have z1 : w2.cell? ⟨w.heap.size + 1, 1, none⟩ = some (.bool r.c.fr) := by rw [he]; exact K2.cell 1
  have z2 : w2.cell? ⟨w.heap.size + 1, 2, none⟩ = some (.slice r2.q r.c.to.length r2.k) := K2.cell 2
  clear hw2 h1 h2 K1 K2 he
  go_enter Tryd.func46, Tryd.ntmps46
  go_upto_region 1 with fail
  rw [HW.out]
  go_wp2_with (go_at_call 44; refine HC.out.mono ?_; rintro e w3 ⟨rfl, hb3⟩; have HB3 : Hid (RowKit.Below w.heap.size w w3) := hdn (HB.out.trans (hb3.mono HB.out.size)); clear hb3)
  go_ret
  exact ⟨rfl, HB3.out⟩
/-- Two lists of cells that are alike. -/
structure Cal (w : World) (p q : Option Addr) (l m : List RC) : Prop where
  one : LayR 3 RC.cells RC.lies w p l
  two : LayR 3 RC.cells RC.lies w q m
  same : l.map RC.c = m.map RC.c
theorem Cal.below {w w' : World} {p q : Option Addr} {l m : List RC} (h : Cal w p q l m) (hb : RowKit.Below w.heap.size w w') : Cal w' p q l m :=
  ⟨h.one.below hb fun _ h => RC.lies_below' h hb, h.two.below hb fun _ h => RC.lies_below' h hb, h.same⟩
theorem Cal.len {w : World} {p q : Option Addr} {l m : List RC} (h : Cal w p q l m) : m.length = l.length := by
  have := congrArg List.length h.same; simpa using this.symm
theorem Cal.at_ {w : World} {p q : Option Addr} {l m : List RC} (h : Cal w p q l m) {k : Nat} {r : RC} (hr : l[k]? = some r) : ∃ r2, m[k]? = some r2 ∧ r.c = r2.c := by
  have h1 : (l.map RC.c)[k]? = some r.c := by rw [List.getElem?_map, hr]; rfl
  rw [h.same, List.getElem?_map] at h1
  cases hm : m[k]? with
  | none => rw [hm] at h1; cases h1
  | some r2 => rw [hm] at h1; exact ⟨r2, rfl, by injection h1 with h1; exact h1.symm⟩
theorem equalFunc_any (p q : Option Addr) (l m : List RC) (c d : Nat) (w : World) (h : Cal w p q l m) (hn : l.length ≤ 2000000) (hF : ∀ r ∈ l, r.c.to.length ≤ 2000000) : Calls Tryd.prog 45 #[.slice p l.length c, .slice q l.length d, .func (.func 46) #[] #[]] w (RetV w (.bool true)) := by
  have HC := hdn h
  have HFF := hdn hF
  have HB0 : Hid (RowKit.Below w.heap.size w w) := hdn (Below.refl _ _)
  clear h hF
  go_enter Tryd.func45, Tryd.ntmps45
  go_wp2_with fail
  go_loopw [17] (fun i wr => ∃ k : Nat, i = .int .i64 k ∧ k ≤ l.length ∧ Hid (RowKit.Below w.heap.size w wr)) (fun i _ => l.length - (intOf i).toNat)
  case atStart => exact ⟨0, rfl, Nat.zero_le _, HB0⟩
  case round =>
    obtain ⟨k, rfl, hk, HB⟩ := hrel
    by_cases hkl : k < l.length
    · obtain ⟨r, hr⟩ : ∃ r, l[k]? = some r := ⟨_, List.getElem?_eq_getElem hkl⟩
      have HCr := HC.out.below HB.out
      obtain ⟨r2, hr2, he⟩ := HCr.at_ hr
      obtain ⟨b, o, hp, hit, hl1⟩ := HCr.one.at_ hr
      obtain ⟨b2, o2, hp2, hit2, hl2⟩ := HCr.two.at_ hr2
      have d0 : wr.cell? ⟨b, o + k * 3, none⟩ = some (.int .i64 r.c.ty) := hit 0 _ rfl
      have d1 : wr.cell? ⟨b, o + k * 3 + 1, none⟩ = some (.bool r.c.fr) := hit 1 _ rfl
      have d2 : wr.cell? ⟨b, o + k * 3 + 2, none⟩ = some (.slice r.q r.c.to.length r.k) := hit 2 _ rfl
      have e0 : wr.cell? ⟨b2, o2 + k * 3, none⟩ = some (.int .i64 r2.c.ty) := hit2 0 _ rfl
      have e1 : wr.cell? ⟨b2, o2 + k * 3 + 1, none⟩ = some (.bool r2.c.fr) := hit2 1 _ rfl
      have e2 : wr.cell? ⟨b2, o2 + k * 3 + 2, none⟩ = some (.slice r2.q r.c.to.length r2.k) := by have := hit2 2 _ rfl; rw [← he] at this; exact this
      have hbk : b < wr.heap.size := World.block_lt_of_cell? _ _ d0
      have hbk2 : b2 < wr.heap.size := World.block_lt_of_cell? _ _ e0
      have HSC := hdn (fun wz (hz : RowKit.Below wr.heap.size wr wz) => sameCell_any r r2 he wz (RC.lies_below' hl1 hz) (RC.lies_below' hl2 hz) (HFF.out r (List.mem_of_getElem? hr)))
      have hk0 : (0 : Int) ≤ (k : Int) := Int.natCast_nonneg _
      have hk1 : (k : Int) < (l.length : Int) := by omega
      clear hit hit2 hl1 hl2 hr hr2 HCr he
      rw [hp, hp2]
      go_wp2_with (go_at_call 46; refine (HSC.out _ (alloc2_below _ _ _)).mono ?_; rintro e w2 ⟨rfl, hb2⟩; have HB2 : Hid (RowKit.Below w.heap.size w w2) := hdn (HB.out.trans (((alloc2_below wr _ _).trans (hb2.mono (alloc2_below wr _ _).size)).mono HB.out.size)); clear hb2)
      go_roundw
      case rel => exact ⟨k + 1, by go_num, by omega, HB2⟩
      case measure => simp [intOf]; omega
    · go_wp2_with fail
      go_ret
      exact ⟨rfl, HB.out⟩
/-- Two states that are alike. -/
structure Sal (s t : SV) : Prop where
  pt : s.pt = t.pt
  vs : s.vs = t.vs
  is : s.is = t.is
  cs : s.cs = t.cs
theorem SV.len {s t : SV} (h : s.cs = t.cs) : t.rs.length = s.rs.length := by
  have := congrArg List.length h
  unfold SV.cs at this
  simpa using this.symm
theorem same16_any (s t : SV) (h : Sal s t) (w : World) (hl : s.lies w) (ht : t.lies w) (hv : s.vs.length ≤ 2000000) (hi : s.is.length ≤ 2000000) (hn : s.rs.length ≤ 2000000) (hF : ∀ r ∈ s.rs, r.c.to.length ≤ 2000000) : Calls Tryd.prog 16 #[.agg s.A, .agg t.A] w (RetV w (.bool true)) := by
  obtain ⟨w2, hw2⟩ : ∃ w2, (w.alloc (.cells s.A 33)).alloc (.cells t.A 33) = w2 := ⟨_, rfl⟩
  have HW := hdn hw2
  have HB : Hid (RowKit.Below w.heap.size w w2) := hdn (by rw [← hw2]; exact alloc2_below _ _ _)
  obtain ⟨p0, p1, p2, p3⟩ : Z33 s w.heap.size w2 := Z33.of (by rw [← hw2]; exact alloc2_old _ _ _ _)
  obtain ⟨q0, q1, q2, q3⟩ : Z33 t (w.heap.size + 1) w2 := Z33.of (by rw [← hw2]; exact alloc2_new _ _ _ _)
  have l1 := hl.below HB.out
  have l2 := ht.below HB.out
  have E1 := hdn (fun wz (hz : RowKit.Below w2.heap.size w2 wz) => equal43_any s.vp t.vp s.vs s.vc t.vc wz (l1.v.below hz) (by rw [h.vs]; exact l2.v.below hz) hv)
  have E2 := hdn (fun wz (hz : RowKit.Below w2.heap.size w2 wz) => equal43_any s.ip t.ip s.is s.ic t.ic wz (l1.i.below hz) (by rw [h.is]; exact l2.i.below hz) hi)
  have E3 := hdn (fun wz (hz : RowKit.Below w2.heap.size w2 wz) => equalFunc_any s.cp t.cp s.rs t.rs s.cc t.cc wz (Cal.below ⟨l1.c, l2.c, h.cs⟩ hz) hn hF)
  rw [← h.pt] at q0
  rw [← h.vs] at q1
  rw [← h.is] at q2
  rw [SV.len h.cs] at q3
  have HP : Hid (∀ wz, RowKit.Below w2.heap.size w2 wz → (wz.cell? ⟨w.heap.size, 2, none⟩ = some (.slice s.ip s.is.length s.ic) ∧ wz.cell? ⟨w.heap.size + 1, 2, none⟩ = some (.slice t.ip s.is.length t.ic)) ∧ wz.cell? ⟨w.heap.size, 3, none⟩ = some (.slice s.cp s.rs.length s.cc) ∧ wz.cell? ⟨w.heap.size + 1, 3, none⟩ = some (.slice t.cp s.rs.length t.cc)) :=
    hdn (fun wz hz => ⟨⟨at_below hz p2, at_below hz q2⟩, at_below hz p3, at_below hz q3⟩)
  clear hw2 hl ht l1 l2 h hv hi hn hF p2 q2 p3 q3
  go_enter Tryd.func16, Tryd.ntmps16
  go_upto_region 1 with fail
  rw [HW.out]
  go_wp2_with fail
  refine (E1.out _ (Below.refl _ _)).mono ?_; rintro e w3 ⟨rfl, hb3⟩
  have HB3 : Hid (RowKit.Below w2.heap.size w2 w3) := hdn hb3
  obtain ⟨⟨p2, q2⟩, _⟩ := HP.out w3 HB3.out
  clear hb3 p0 q0 p1 q1
  go_wp2_with fail
  clear p2 q2
  refine (E2.out _ HB3.out).mono ?_; rintro e w4 ⟨rfl, hb4⟩
  have HB4 : Hid (RowKit.Below w2.heap.size w2 w4) := hdn (HB3.out.trans (hb4.mono HB3.out.size))
  obtain ⟨_, p3, q3⟩ := HP.out w4 HB4.out
  clear hb4
  go_wp2_with fail
  clear p3 q3
  refine (E3.out _ HB4.out).mono ?_; rintro e w5 ⟨rfl, hb5⟩
  have HB5 : Hid (RowKit.Below w.heap.size w w5) := hdn (HB.out.trans ((HB4.out.trans (hb5.mono HB4.out.size)).mono HB.out.size))
  clear hb5
  go_wp2_with fail
  go_ret
  exact ⟨rfl, HB5.out⟩
end Go.Proofs.YtebmhadpkncgfaaDoor
namespace Go.Proofs.YtebmhadpkncgfaaDoor
namespace Sr
/-- One comes tt a cell. -/
inductive Rch (vs : List Int) (tt : Nat → List Int) : Nat → Prop
  | base (v : Int) (h : v ∈ vs) (h0 : v.toNat ≠ 0) : Rch vs tt v.toNat
  | step (c : Nat) (d : Int) (h : Rch vs tt c) (hd : d ∈ tt c) (h0 : d.toNat ≠ 0) : Rch vs tt d.toNat
theorem Rch.ne {vs : List Int} {tt : Nat → List Int} {c : Nat} (h : Rch vs tt c) : c ≠ 0 := by
  induction h with
  | base v h h0 => exact h0
  | step c d h hd h0 => exact h0
def mk (M : List Bool) (c : Nat) : Prop := M[c]? = some true
def meet1 (st : List Bool × List Int) (c : Int) : List Bool × List Int := if st.1.getD c.toNat false = true then st else (st.1.set c.toNat true, st.2 ++ [c])
def meets (st : List Bool × List Int) (l : List Int) : List Bool × List Int := l.foldl meet1 st
def unm (M : List Bool) : Nat := M.count false
def meas (st : List Bool × List Int) : Nat := 2 * unm st.1 + st.2.length
structure Inv (n : Nat) (vs : List Int) (tt : Nat → List Int) (E : Nat → Prop) (st : List Bool × List Int) : Prop where
  len : st.1.length = n + 1
  zero : mk st.1 0
  snd : ∀ c, mk st.1 c → c = 0 ∨ Rch vs tt c
  inq : ∀ x ∈ st.2, 1 ≤ x ∧ x ≤ n ∧ mk st.1 x.toNat
  clo : ∀ c : Nat, 1 ≤ c → mk st.1 c → (c : Int) ∉ st.2 → ¬ E c → ∀ d ∈ tt c, mk st.1 d.toNat
theorem getD_mk (M : List Bool) (c : Nat) : M.getD c false = true ↔ mk M c := by
  unfold mk
  rw [List.getD_eq_getElem?_getD]
  cases M[c]? with
  | none => simp
  | some b => cases b <;> simp
theorem set_mono {M : List Bool} {c : Nat} (k : Nat) (h : mk M c) : mk (M.set k true) c := by
  unfold mk at h ⊢
  rw [List.getElem?_set]
  by_cases e : k = c
  · subst e; rw [if_pos rfl, if_pos (List.getElem?_eq_some_iff.1 h).1]
  · rw [if_neg e]; exact h
theorem set_old {M : List Bool} {c k : Nat} (h : mk (M.set k true) c) : c = k ∨ mk M c := by
  unfold mk at h ⊢
  rw [List.getElem?_set] at h
  by_cases e : k = c
  · exact .inl e.symm
  · rw [if_neg e] at h; exact .inr h
theorem unm_set {M : List Bool} {k : Nat} (hk : k < M.length) (h : ¬ mk M k) : unm (M.set k true) + 1 = unm M := by
  unfold unm
  have hf : M[k] = false := by
    cases e : M[k] with
    | false => rfl
    | true => exact absurd (by unfold mk; rw [List.getElem?_eq_getElem hk, e]) h
  rw [List.count_set hk, hf]
  have hpos : 1 ≤ M.count false := by
    have : false ∈ M := by rw [← hf]; exact List.getElem_mem hk
    exact List.count_pos_iff.2 this
  simp
  omega
theorem meet1_mono {st : List Bool × List Int} {c : Int} {k : Nat} (h : mk st.1 k) : mk (meet1 st c).1 k := by
  unfold meet1; split
  · exact h
  · exact set_mono _ h
theorem meet1_inv {n : Nat} {vs : List Int} {tt : Nat → List Int} {E : Nat → Prop} {st : List Bool × List Int} (h : Inv n vs tt E st) {x : Int} (h0 : 0 ≤ x) (hn : x ≤ n) (hr : x.toNat ≠ 0 → Rch vs tt x.toNat) :
    Inv n vs tt E (meet1 st x) ∧ mk (meet1 st x).1 x.toNat ∧ meas (meet1 st x) ≤ meas st := by
  unfold meet1
  split
  · rename_i hm
    exact ⟨h, (getD_mk _ _).1 hm, Nat.le_refl _⟩
  · rename_i hm
    have hnm : ¬ mk st.1 x.toNat := fun e => hm ((getD_mk _ _).2 e)
    have hx0 : x.toNat ≠ 0 := fun e => hnm (by rw [e]; exact h.zero)
    have hl : x.toNat < st.1.length := by rw [h.len]; omega
    have hself : mk (st.1.set x.toNat true) x.toNat := by unfold mk; rw [List.getElem?_set_self hl]
    refine ⟨⟨by rw [List.length_set]; exact h.len, set_mono _ h.zero, fun c hc => ?_, fun y hy => ?_, fun c h1 hc hnq hE d hd => ?_⟩, hself, ?_⟩
    · rcases set_old hc with e | e
      · subst e; exact .inr (hr hx0)
      · exact h.snd c e
    · rcases List.mem_append.1 hy with hy | hy
      · obtain ⟨a, b, e⟩ := h.inq y hy; exact ⟨a, b, set_mono _ e⟩
      · rw [List.mem_singleton] at hy; subst hy; exact ⟨by omega, hn, hself⟩
    · have hne : c ≠ x.toNat := fun e => hnq (List.mem_append_right _ (by rw [List.mem_singleton]; omega))
      rcases set_old hc with e | e
      · exact absurd e hne
      · exact set_mono _ (h.clo c h1 e (fun hq => hnq (List.mem_append_left _ hq)) hE d hd)
    · unfold meas
      have := unm_set hl hnm
      simp only [List.length_append, List.length_singleton]
      omega
theorem meets_mono {l : List Int} : ∀ {st : List Bool × List Int} {k : Nat}, mk st.1 k → mk (meets st l).1 k := by
  induction l with
  | nil => intro st k h; exact h
  | cons x l ih => intro st k h; exact ih (st := meet1 st x) (meet1_mono h)
theorem meets_inv {n : Nat} {vs : List Int} {tt : Nat → List Int} {E : Nat → Prop} : ∀ (l : List Int) {st : List Bool × List Int}, Inv n vs tt E st → (∀ x ∈ l, 0 ≤ x ∧ x ≤ n ∧ (x.toNat ≠ 0 → Rch vs tt x.toNat)) →
    Inv n vs tt E (meets st l) ∧ (∀ x ∈ l, mk (meets st l).1 x.toNat) ∧ meas (meets st l) ≤ meas st
  | [], st, h, _ => ⟨h, fun _ h => (by simp at h), Nat.le_refl _⟩
  | x :: l, st, h, hl => by
    obtain ⟨a, b, c⟩ := hl x List.mem_cons_self
    obtain ⟨h1, h2, h3⟩ := meet1_inv h a b c
    obtain ⟨g1, g2, g3⟩ := meets_inv l h1 (fun y hy => hl y (List.mem_cons_of_mem _ hy))
    refine ⟨g1, fun y hy => ?_, Nat.le_trans g3 h3⟩
    rcases List.mem_cons.1 hy with e | e
    · subst e; show mk (meets (meet1 st y) l).1 _; exact meets_mono h2
    · exact g2 y e
/-- The last open one is taken. -/
theorem pop_inv {n : Nat} {vs : List Int} {tt : Nat → List Int} {M : List Bool} {q : List Int} {x : Int} (h : Inv n vs tt (fun _ => False) (M, q ++ [x])) : Inv n vs tt (fun c => (c : Int) = x) (M, q) where
  len := h.len
  zero := h.zero
  snd := h.snd
  inq y hy := h.inq y (List.mem_append_left _ hy)
  clo c h1 hc hq hE d hd := h.clo c h1 hc (fun e => by
    rcases List.mem_append.1 e with e | e
    · exact hq e
    · rw [List.mem_singleton] at e; exact hE e) (fun h => h) d hd
/-- All that it leads tt is met. -/
theorem turn_inv {n : Nat} {vs : List Int} {tt : Nat → List Int} {M : List Bool} {q : List Int} {x : Int} (h : Inv n vs tt (fun _ => False) (M, q ++ [x])) (ht : ∀ d ∈ tt x.toNat, 0 ≤ d ∧ d ≤ n) :
    Inv n vs tt (fun _ => False) (meets (M, q) (tt x.toNat)) ∧ meas (meets (M, q) (tt x.toNat)) < meas (M, q ++ [x]) := by
  obtain ⟨x1, x2, x3⟩ := h.inq x (by simp)
  have hr : Rch vs tt x.toNat := by
    rcases h.snd _ x3 with e | e
    · omega
    · exact e
  obtain ⟨h1, h2, h3⟩ := meets_inv (tt x.toNat) (pop_inv h) (fun d hd => ⟨(ht d hd).1, (ht d hd).2, fun h0 => Rch.step _ d hr hd h0⟩)
  refine ⟨⟨h1.len, h1.zero, h1.snd, h1.inq, fun c hc1 hc hq _ d hd => ?_⟩, ?_⟩
  · by_cases e : (c : Int) = x
    · have : x.toNat = c := by omega
      rw [this] at h2
      have h4 := h2 d hd
      rw [this]; exact h4
    · exact h1.clo c hc1 hc hq e d hd
  · have : meas (M, q ++ [x]) = meas (M, q) + 1 := by unfold meas; simp; omega
    omega
theorem start_inv (n : Nat) (vs : List Int) (tt : Nat → List Int) : Inv n vs tt (fun _ => False) ((List.replicate (n + 1) false).set 0 true, []) where
  len := by simp
  zero := by unfold mk; simp
  snd c hc := by
    rcases set_old hc with e | e
    · exact .inl e
    · unfold mk at e; rw [List.getElem?_replicate] at e; split at e <;> simp at e
  inq x hx := by simp at hx
  clo c h1 hc := by
    rcases set_old hc with e | e
    · omega
    · unfold mk at e; rw [List.getElem?_replicate] at e; split at e <;> simp at e
/-- What the search ends with. -/
theorem end_inv {n : Nat} {vs : List Int} {tt : Nat → List Int} {M : List Bool} (h : Inv n vs tt (fun _ => False) (M, [])) (hv : ∀ v ∈ vs, mk M v.toNat) (c : Nat) (h0 : c ≠ 0) : mk M c ↔ Rch vs tt c := by
  constructor
  · intro hc
    rcases h.snd c hc with e | e
    · exact absurd e h0
    · exact e
  · intro hr
    induction hr with
    | base v hv' _ => exact hv v hv'
    | step c d hr hd hd0 ih =>
      have hc := hr.ne
      exact h.clo c (by omega) (ih hc) (by simp) (fun h => h) d hd
/-- The document's search: a queue, told off as it is taken. -/
structure Jnv (n F : Nat) (vs : List Int) (tt : Nat → List Int) (S : List Bool) (q : List Int) : Prop where
  len : S.length = n
  snd : ∀ c, mk S c → Rch vs tt (c + 1)
  inq : ∀ x ∈ q, 1 ≤ x → Rch vs tt x.toNat
  bas : ∀ v ∈ vs, 1 ≤ v → v ≤ n → mk S (v.toNat - 1) ∨ v ∈ q
  clo : ∀ c, mk S c → ∀ d ∈ tt (c + 1), 1 ≤ d → d ≤ n → mk S (d.toNat - 1) ∨ d ∈ q
def jmeas (F : Nat) (S : List Bool) (q : List Int) : Nat := (F + 1) * unm S + q.length
theorem jstart (n F : Nat) (vs : List Int) (tt : Nat → List Int) : Jnv n F vs tt (List.replicate n false) vs where
  len := by simp
  snd c hc := by unfold mk at hc; rw [List.getElem?_replicate] at hc; split at hc <;> simp at hc
  inq x hx h1 := Rch.base x hx (by omega)
  bas v hv _ _ := .inr hv
  clo c hc := by unfold mk at hc; rw [List.getElem?_replicate] at hc; split at hc <;> simp at hc
theorem jskip {n F : Nat} {vs : List Int} {tt : Nat → List Int} {S : List Bool} {x : Int} {q : List Int} (h : Jnv n F vs tt S (x :: q)) (hx : x < 1 ∨ (n : Int) < x ∨ mk S (x.toNat - 1)) : Jnv n F vs tt S q ∧ jmeas F S q < jmeas F S (x :: q) := by
  refine ⟨⟨h.len, h.snd, fun y hy => h.inq y (List.mem_cons_of_mem _ hy), fun v hv h1 h2 => ?_, fun c hc d hd h1 h2 => ?_⟩, by unfold jmeas; simp⟩
  · rcases h.bas v hv h1 h2 with e | e
    · exact .inl e
    · rcases List.mem_cons.1 e with e | e
      · subst e
        rcases hx with hx | hx | hx
        · omega
        · omega
        · exact .inl hx
      · exact .inr e
  · rcases h.clo c hc d hd h1 h2 with e | e
    · exact .inl e
    · rcases List.mem_cons.1 e with e | e
      · subst e
        rcases hx with hx | hx | hx
        · omega
        · omega
        · exact .inl hx
      · exact .inr e
theorem jturn {n F : Nat} {vs : List Int} {tt : Nat → List Int} {S : List Bool} {x : Int} {q : List Int} (h : Jnv n F vs tt S (x :: q)) (h1 : 1 ≤ x) (hn : x ≤ n) (hx : ¬ mk S (x.toNat - 1)) (hF : (tt x.toNat).length = F) :
    Jnv n F vs tt (S.set (x.toNat - 1) true) (q ++ tt x.toNat) ∧ jmeas F (S.set (x.toNat - 1) true) (q ++ tt x.toNat) < jmeas F S (x :: q) := by
  have hl : x.toNat - 1 < S.length := by rw [h.len]; omega
  have hxe : x.toNat - 1 + 1 = x.toNat := by omega
  have hr : Rch vs tt x.toNat := h.inq x List.mem_cons_self h1
  have hself : mk (S.set (x.toNat - 1) true) (x.toNat - 1) := by unfold mk; rw [List.getElem?_set_self hl]
  refine ⟨⟨by rw [List.length_set]; exact h.len, fun c hc => ?_, fun y hy hy1 => ?_, fun v hv v1 v2 => ?_, fun c hc d hd d1 d2 => ?_⟩, ?_⟩
  · rcases set_old hc with e | e
    · subst e; rw [hxe]; exact hr
    · exact h.snd c e
  · rcases List.mem_append.1 hy with e | e
    · exact h.inq y (List.mem_cons_of_mem _ e) hy1
    · exact Rch.step _ y hr e (by omega)
  · rcases h.bas v hv v1 v2 with e | e
    · exact .inl (set_mono _ e)
    · rcases List.mem_cons.1 e with e | e
      · subst e; exact .inl hself
      · exact .inr (List.mem_append_left _ e)
  · rcases set_old hc with e | e
    · subst e; rw [hxe] at hd; exact .inr (List.mem_append_right _ hd)
    · rcases h.clo c e d hd d1 d2 with e | e
      · exact .inl (set_mono _ e)
      · rcases List.mem_cons.1 e with e | e
        · subst e; exact .inl hself
        · exact .inr (List.mem_append_left _ e)
  · unfold jmeas
    have := unm_set hl hx
    rw [List.length_append, hF, List.length_cons, ← this, Nat.mul_add]
    omega
theorem jend {n F : Nat} {vs : List Int} {tt : Nat → List Int} {S : List Bool} (h : Jnv n F vs tt S []) (hv : ∀ v ∈ vs, v ≤ n) (ht : ∀ c, ∀ d ∈ tt c, d ≤ n) (c : Nat) : mk S c ↔ Rch vs tt (c + 1) := by
  constructor
  · exact h.snd c
  · intro hr
    have key : ∀ k, Rch vs tt k → k ≠ 0 → mk S (k - 1) := by
      intro k hk
      induction hk with
      | base v hv' h0 =>
        intro _
        rcases h.bas v hv' (by omega) (hv v hv') with e | e
        · exact e
        · simp at e
      | step c d hr hd h0 ih =>
        intro _
        have hc : c ≠ 0 := hr.ne
        have h2 := ih hc
        rcases h.clo (c - 1) h2 d (by rw [show c - 1 + 1 = c by omega]; exact hd) (by omega) (ht c d hd) with e | e
        · exact e
        · simp at e
    have := key (c + 1) hr (by omega)
    rwa [show c + 1 - 1 = c by omega] at this
end Sr
end Go.Proofs.YtebmhadpkncgfaaDoor
namespace Go.Proofs.YtebmhadpkncgfaaDoor
open Go.RowKit Go.Maps Go.Sort
open Sr
def bools (M : List Bool) : List Value := M.map Value.bool
/-- A search under way. -/
structure SrI (w0 w : World) (L O lr : Nat) (v : Value) (M : List Bool) (op : List Int) : Prop where
  lb : Bk w L 82 #[.slice (some ⟨lr, 0, none⟩) M.length M.length]
  row : Bk w lr 4 (bools M).toArray
  ob : Bk w O 28 #[v]
  own : w.ownsRow (O + 1) 3 1 v op.length (ints op)
  below : RowKit.Below w0.heap.size w0 w
  lo : w0.heap.size ≤ L ∧ w0.heap.size ≤ lr ∧ w0.heap.size ≤ O
  lt : L < O ∧ lr < O ∧ L ≠ lr
  few : meas (M, op) ≤ 8000000
theorem own_lo {w : World} {B : Nat} {v : Value} {n m : Nat} {xs : List Value} (h : w.ownsRow B 3 1 v n xs) (hv : v.ownBlock = some m) : B ≤ m ∧ m < w.heap.size := by
  rcases h.2 with ⟨e1, _⟩ | ⟨g, cap, cur, rfl, hb, hg, _⟩
  · subst e1; cases hv
  · simp only [Value.ownBlock] at hv; injection hv with hv; subst hv
    exact ⟨hb, (Array.getElem?_eq_some_iff.1 hg).1⟩
theorem own_shape {w : World} {B : Nat} {v : Value} {n : Nat} {xs : List Value} (h : w.ownsRow B 3 1 v n xs) : ∃ p c, v = .slice p n c := by
  rcases h.2 with ⟨e1, e2⟩ | ⟨g, cap, cur, rfl, _⟩
  · subst e2; exact ⟨_, _, e1⟩
  · exact ⟨_, _, rfl⟩
namespace SrI
variable {w0 w w' : World} {L O lr : Nat} {v : Value} {M : List Bool} {op : List Int}
theorem bl (h : SrI w0 w L O lr v M op) (hb : RowKit.Below w.heap.size w w') : SrI w0 w' L O lr v M op :=
  { h with lb := h.lb.below hb h.lb.lt, row := h.row.below hb h.row.lt, ob := h.ob.below hb h.ob.lt, own := ownsRow_keep h.own (fun m hm => hb.block m (own_lo h.own hm).2), below := h.below.trans (hb.mono h.below.size) }
theorem cell (h : SrI w0 w L O lr v M op) (k : Nat) (hk : k < M.length) : w.cell? ⟨lr, k, none⟩ = some (.bool (M.getD k false)) := by
  rw [h.row.cell, List.getElem?_toArray]
  unfold bools
  rw [List.getElem?_map, List.getElem?_eq_getElem hk, List.getD_eq_getElem?_getD, List.getElem?_eq_getElem hk]; rfl
/-- One is marked. -/
theorem mark (h : SrI w0 w L O lr v M op) (k : Nat) (hm : meas (M.set k true, op) ≤ 8000000) : SrI w0 (w.setCell ⟨lr, k, none⟩ (.bool true)) L O lr v (M.set k true) op :=
  { h with
    lb := by rw [List.length_set]; exact h.lb.far (p := ⟨lr, k, none⟩) h.lt.2.2 _
    row := by
      have := h.row.set_ k (.bool true)
      unfold bools at this ⊢
      rwa [List.setIfInBounds_toArray, ← List.map_set] at this
    ob := h.ob.far (p := ⟨lr, k, none⟩) (by have := h.lt; show O ≠ lr; omega) _
    own := ownsRow_keep h.own (fun m hm => Below.heap_setCell w _ _ m (by have := (own_lo h.own hm).1; have := h.lt; show m ≠ lr; omega))
    below := h.below.setCell h.lo.2.1 _
    few := hm }
/-- One is put down to be looked at. -/
theorem push (h : SrI w0 w L O lr v M op) {wB : World} {g cap : Nat} {x : Int} {o : Obj} (hg : (w.alloc o).grownBy wB v.ownBlock) (hown : wB.ownsRow (O + 1) 3 1 (.slice (some ⟨g, 0, none⟩) (op.length + 1) cap) (op.length + 1) (ints op ++ [.int .i64 x])) (hm : meas (M, op ++ [x]) ≤ 8000000) :
    Bk wB O 28 #[v] ∧ SrI w0 (wB.setCell ⟨O, 0, none⟩ (.slice (some ⟨g, 0, none⟩) (op.length + 1) cap)) L O lr (.slice (some ⟨g, 0, none⟩) (op.length + 1) cap) M (op ++ [x]) := by
  have h1 := h.bl (alloc_below w o)
  have hne : ∀ k, k ≤ O → some k ≠ v.ownBlock := fun k hk e => by have := (own_lo h.own e.symm).1; omega
  have hk : ∀ k t cs, k ≤ O → Bk (w.alloc o) k t cs → Bk wB k t cs := fun k t cs hle hb => (hg.block k hb.lt (hne k hle)).trans hb
  have hlt := h.lt
  have hO := hk O _ _ (Nat.le_refl _) h1.ob
  have hgo := (own_lo hown (m := g) rfl).1
  refine ⟨hO, ⟨(hk L _ _ (by omega) h1.lb).far (p := ⟨O, 0, none⟩) (by show L ≠ O; omega) _, (hk lr _ _ (by omega) h1.row).far (p := ⟨O, 0, none⟩) (by show lr ≠ O; omega) _, ?_, ?_, ?_, h.lo, h.lt, hm⟩⟩
  · have := hO.set_ 0 (.slice (some ⟨g, 0, none⟩) (op.length + 1) cap)
    simpa using this
  · have e : ints (op ++ [x]) = ints op ++ [.int .i64 x] := by simp [ints]
    rw [e, List.length_append, List.length_singleton]
    exact ownsRow_keep hown (fun m hm => Below.heap_setCell wB _ _ m (by have := (own_lo hown hm).1; show m ≠ O; omega))
  · exact (h1.below.grown hg h1.below.size (fun j hj => by have := (own_lo h.own hj).1; have := h.lo.2.2; omega)).setCell h.lo.2.2 _
end SrI
def MeetP (w0 : World) (L O lr : Nat) (st : List Bool × List Int) (e : Ending) (w' : World) : Prop := e = .returned (.tuple #[]) ∧ ∃ v', SrI w0 w' L O lr v' st.1 st.2
theorem meets_snoc (st : List Bool × List Int) (l : List Int) (x : Int) : meets st (l ++ [x]) = meet1 (meets st l) x := by unfold meets; rw [List.foldl_append]; rfl
theorem meet_any (w0 w : World) (L O lr n : Nat) (v : Value) (M : List Bool) (op l : List Int) (p : Option Addr) (c : Nat) (h : SrI w0 w L O lr v M op) (hl : IR w0 p l) (hln : l.length ≤ 2000000) (hx : ∀ x ∈ l, 0 ≤ x ∧ x ≤ n)
    (hm : ∀ k, (meets (M, op) (l.take k)).1.length = n + 1 ∧ meas (meets (M, op) (l.take k)) ≤ 8000000) :
    Calls Tryd.prog 69 #[.slice p l.length c, .pointer (some ⟨L, 0, none⟩), .pointer (some ⟨O, 0, none⟩)] w (MeetP w0 L O lr (meets (M, op) l)) := by
  have HL := hdn hl
  have HX := hdn hx
  have HM := hdn hm
  have HS0 : Hid (SrI w0 w L O lr v (meets (M, op) (l.take 0)).1 (meets (M, op) (l.take 0)).2) := hdn h
  clear h hl hx hm
  go_enter Tryd.func69, Tryd.ntmps69
  go_wp2_with fail
  go_loopw [8] (fun i wr => ∃ (k : Nat) (v : Value), i = .int .i64 k ∧ k ≤ l.length ∧ Hid (SrI w0 wr L O lr v (meets (M, op) (l.take k)).1 (meets (M, op) (l.take k)).2)) (fun i _ => l.length - (intOf i).toNat)
  case atStart => exact ⟨0, v, rfl, Nat.zero_le _, HS0⟩
  case round =>
    obtain ⟨k, v2, rfl, hk, HS⟩ := hrel
    by_cases hkl : k < l.length
    · obtain ⟨x, hx⟩ : ∃ x, l[k]? = some x := ⟨_, List.getElem?_eq_getElem hkl⟩
      obtain ⟨b, o, hp, hcv⟩ := (HL.out.below HS.out.below).at_ hx
      have ht : l.take (k + 1) = l.take k ++ [x] := by rw [List.take_add_one, hx]; rfl
      have HT : Hid (meets (M, op) (l.take (k + 1)) = meet1 (meets (M, op) (l.take k)) x) := hdn (by rw [ht, meets_snoc])
      obtain ⟨x0, x1⟩ := HX.out x (List.mem_of_getElem? hx)
      obtain ⟨y, rfl⟩ : ∃ y : Nat, x = (y : Int) := ⟨x.toNat, by omega⟩
      obtain ⟨m1, m2⟩ := HM.out k
      obtain ⟨m3, m4⟩ := HM.out (k + 1)
      have HM4 := hdn m4
      have HM1 := hdn m1
      have yl : y < (meets (M, op) (l.take k)).1.length := by rw [m1]; omega
      have c0 := HS.out.lb.cell 0
      have cc := HS.out.cell y yl
      have ff : wr.frozen? ⟨lr, y, none⟩ = false := HS.out.row.frozen y
      have hk0 : (0 : Int) ≤ (k : Int) := Int.natCast_nonneg _
      have hk1 : (k : Int) < (l.length : Int) := by omega
      have hy0 : (0 : Int) ≤ (y : Int) := Int.natCast_nonneg _
      rw [m1] at c0
      have c0' : wr.cell? ⟨L, 0, none⟩ = some (.slice (some ⟨lr, 0, none⟩) (n + 1) (n + 1)) := c0
      have hy1 : (y : Int) < ((n + 1 : Nat) : Int) := by omega
      clear m1 m2 m3 m4 hx ht c0 yl x0 x1
      rw [hp]
      generalize hst : meets (M, op) (l.take k) = st at *
      obtain ⟨M2, op2⟩ := st
      simp only at cc HS HM1
      cases hb : M2.getD y false with
      | true =>
        rw [hb] at cc
        have HT2 : Hid (meets (M, op) (l.take (k + 1)) = (M2, op2)) := hdn (by rw [HT.out]; unfold meet1; rw [if_pos (by simpa using hb)])
        clear hb hst HT
        go_wp2_with fail
        go_roundw
        case rel => exact ⟨k + 1, v2, by go_num, by omega, hdn (by rw [HT2.out]; exact HS.out)⟩
        case measure => simp [intOf]; omega
      | false =>
        rw [hb] at cc
        have HT2 : Hid (meets (M, op) (l.take (k + 1)) = (M2.set y true, op2 ++ [(y : Int)])) := hdn (by rw [HT.out]; unfold meet1; rw [if_neg (by simpa using hb)]; rfl)
        have HM5 : Hid (meas (M2.set y true, op2 ++ [(y : Int)]) ≤ 8000000) := hdn (by rw [← HT2.out]; exact HM4.out)
        have HS3 := hdn (HS.out.mark y (by have := HM5.out; unfold meas at this ⊢; simp at this ⊢; omega))
        have hol : op2.length + 1 ≤ 8000000 := by have := HM5.out; unfold meas at this; simp at this; omega
        obtain ⟨vp, vc, rfl⟩ := own_shape HS3.out.own
        have o0 : (wr.setCell ⟨lr, y, none⟩ (.bool true)).cell? ⟨O, 0, none⟩ = some (.slice vp op2.length vc) := HS3.out.ob.cell 0
        have l0 : (wr.setCell ⟨lr, y, none⟩ (.bool true)).cell? ⟨L, 0, none⟩ = some (.slice (some ⟨lr, 0, none⟩) (n + 1) (n + 1)) := by
          have := HS3.out.lb.cell 0
          rw [List.length_set, HM1.out] at this; exact this
        obtain ⟨i3, hi3, hz3, hs3, hb3⟩ := i3
        have HI3 := hdn hi3
        have HZ3 := hdn hz3
        have HS3' := hdn hs3
        have HB3' := hdn hb3
        have HOWN : Hid (((wr.setCell ⟨lr, y, none⟩ (.bool true)).alloc (.cells #[.int .i64 (y : Int)] 3)).ownsRow (O + 1) 3 1 (.slice vp op2.length vc) op2.length (ints op2)) := hdn (HS3.out.bl (alloc_below _ _)).own
        have HNW : Hid (∀ j u, ([.int .i64 (y : Int)] : List Value)[j]? = some u → ((wr.setCell ⟨lr, y, none⟩ (.bool true)).alloc (.cells #[.int .i64 (y : Int)] 3)).cell? ((⟨wr.heap.size, 0, none⟩ : Addr).add j) = some u) := hdn (fun j u hu => by
          have e : ((⟨wr.heap.size, 0, none⟩ : Addr).add j) = ⟨wr.heap.size, j, none⟩ := by rw [Addr.add_mid]; simp
          rw [e]
          exact (World.cell?_alloc_at _ _ _ _ (by simp [World.setCell])).trans (by simpa using hu))
        have H1 : Hid (∀ u ∈ ([.int .i64 (y : Int)] : List Value), u.oneCell' = true) := hdn (by intro u hu; simp at hu; subst hu; rfl)
        have hb0 : O + 1 ≤ ((wr.setCell ⟨lr, y, none⟩ (.bool true)).alloc (.cells #[.int .i64 (y : Int)] 3)).heap.size := by have := HS3.out.ob.lt; simp at this ⊢; omega
        have HBB := hdn hb0
        have hm1 : op2.length + 1 ≤ maxLen := by unfold maxLen; omega
        have hm2 : (op2.length + 1) * 8 ≤ 140737488355328 := by omega
        clear hb hst HT hi3 hz3 hs3 hb3 hb0
        go_wp2_with (first
          | (at_builtin; refine wpList_append_lies _ rfl (.tmp 20) (.tmp 22) 28 rfl (O + 1) 3 i3 _ 1 8 Tryd.underlying28 HI3.out HZ3.out HS3'.out HB3'.out rfl (by decide) (.slice vp op2.length vc) op2.length (ints op2) rfl HOWN.out _ 1 1 [.int .i64 (y : Int)] rfl rfl HNW.out H1.out (by decide) hm1 hm2 HBB.out _ rfl ?_; intro g7 cap7 w6 t1 t2 t3 t4; obtain ⟨z1, z2⟩ := HS3.out.push t2 t1 HM5.out; have f6 : w6.frozen? ⟨O, 0, none⟩ = false := z1.frozen 0; have g6 : w6.cell? ⟨O, 0, none⟩ = some (.slice vp op2.length vc) := z1.cell 0; have HZ := hdn z2; clear t1 t2 t3 t4 z1 z2))
        go_roundw
        case rel => exact ⟨k + 1, _, by go_num, by omega, hdn (by rw [HT2.out]; exact HZ.out)⟩
        case measure => simp [intOf]; omega
    · have HE : Hid (MeetP w0 L O lr (meets (M, op) l) (.returned (.tuple #[])) wr) := hdn ⟨rfl, v2, by have := HS.out; rwa [List.take_of_length_le (by omega)] at this⟩
      go_wp2_with fail
      go_end0
      exact HE.out
end Go.Proofs.YtebmhadpkncgfaaDoor
namespace Go.Proofs.YtebmhadpkncgfaaDoor
open Go.RowKit Go.Maps Go.Sort
open Sr
def ttOf (s : SV) (c : Nat) : List Int := if c = 0 then [] else ((s.rs[c - 1]?).map (fun r => r.c.to)).getD []
theorem tt_at {s : SV} {i : Nat} {r : RC} (h : s.rs[i]? = some r) : ttOf s (i + 1) = r.c.to := by unfold ttOf; rw [if_neg (by omega), show i + 1 - 1 = i by omega, h]; rfl
theorem okTo_in (n : Nat) (x : Int) : 0 ≤ okTo n x ∧ okTo n x ≤ n := by
  unfold okTo isCell
  split
  · rename_i h; simp at h; omega
  · omega
theorem Rt.tos {g : GR} {s : SV} (h : Rt g s) {r : RC} (hr : r ∈ s.rs) : ∀ d ∈ r.c.to, 0 ≤ d ∧ d ≤ (s.rs.length : Int) := by
  intro d hd
  have h1 := h.ld r hr
  rw [← h1] at hd
  unfold loadC at hd
  obtain ⟨f, _, rfl⟩ := List.mem_map.1 hd
  split
  · omega
  · exact okTo_in _ _
theorem Rt.tt {g : GR} {s : SV} (h : Rt g s) (c : Nat) : ∀ d ∈ ttOf s c, 0 ≤ d ∧ d ≤ (s.rs.length : Int) := by
  intro d hd
  unfold ttOf at hd
  split at hd
  · simp at hd
  · cases hc : s.rs[c - 1]? with
    | none => rw [hc] at hd; simp at hd
    | some r => rw [hc] at hd; exact h.tos (List.mem_of_getElem? hc) d hd
theorem i4 : ∃ i : TypeInfo, Tryd.prog.info? 4 = some i ∧ i.zero = some (.bool false) ∧ i.size = 1 ∧ i.bytes = 1 := by
  have h : (Tryd.prog.info? 4).map (fun i => (i.zero, i.size, i.bytes)) = some (some (.bool false), 1, 1) := by kernel_rfl
  obtain ⟨i, hi, hz⟩ := Option.map_eq_some_iff.1 h
  simp only [Prod.mk.injEq] at hz
  exact ⟨i, hi, hz.1, hz.2.1, hz.2.2⟩
theorem made_bools (F : Nat) : madeCells #[.bool false] F = (bools (List.replicate F false)).toArray := by
  refine Array.ext' ?_
  rw [toList_madeCells_one]
  simp [bools]
theorem make84 (m : Nat) (w : World) (h : m ≤ 4000000) : (Instr.makeSlice 82 (.int .i64 m) (.int .i64 m)).run Tryd.prog w = .ok (.slice (some ⟨w.heap.size, 0, none⟩) m m) (w.alloc (.cells (bools (List.replicate m false)).toArray 4)) := by
  obtain ⟨i, hi, hz, hs, hb⟩ := i4
  rw [← made_bools]
  exact run_make_row (P := Tryd.prog) 82 4 i (.bool false) Tryd.underlying82 hi hz hs rfl .i64 .i64 m (by rw [hb]; omega) (by omega) w
theorem own_cut {w : World} {B g cap : Nat} {q : List Int} {x : Int} (h : w.ownsRow B 3 1 (.slice (some ⟨g, 0, none⟩) (q.length + 1) cap) (q.length + 1) (ints (q ++ [x]))) :
    w.ownsRow B 3 1 (.slice (some ⟨g, 0, none⟩) q.length cap) q.length (ints q) ∧ w.cell? ⟨g, q.length, none⟩ = some (.int .i64 x) := by
  rcases h.2 with ⟨e, _⟩ | ⟨g', cap', cur, e, h1, h2, h3, h4, h5, h6⟩
  · cases e
  · injection e with e1 e2 e3
    injection e1 with e1
    injection e1 with e1
    subst e1; subst e3
    have hi : ints (q ++ [x]) = ints q ++ [.int .i64 x] := by simp [ints]
    rw [hi] at h6
    refine ⟨⟨by simp [ints], .inr ⟨g, cap, cur, rfl, h1, h2, by omega, h4, h5, ?_⟩⟩, ?_⟩
    · have h7 := congrArg (List.take q.length) h6
      rw [List.take_take, List.take_append_of_le_length (by simp [ints]), List.take_of_length_le (l := ints q) (by simp [ints])] at h7
      rw [← h7]; congr 1; omega
    · have hb : Bk w g 3 cur := h2
      rw [hb.cell]
      have h7 := congrArg (fun l => l[q.length]?) h6
      rw [List.getElem?_take, if_pos (by omega), List.getElem?_append_right (by simp [ints])] at h7
      simpa [ints] using h7
theorem SrI.cut {w0 w : World} {L O lr g cap : Nat} {M : List Bool} {q : List Int} {x : Int} (h : SrI w0 w L O lr (.slice (some ⟨g, 0, none⟩) (q.length + 1) cap) M (q ++ [x])) :
    SrI w0 (w.setCell ⟨O, 0, none⟩ (.slice (some ⟨g, 0, none⟩) q.length cap)) L O lr (.slice (some ⟨g, 0, none⟩) q.length cap) M q := by
  have hlt := h.lt
  have hown := h.own
  rw [List.length_append, List.length_singleton] at hown
  have ho := (own_cut hown).1
  refine ⟨h.lb.far (p := ⟨O, 0, none⟩) (by show L ≠ O; omega) _, h.row.far (p := ⟨O, 0, none⟩) (by show lr ≠ O; omega) _, ?_, ?_, h.below.setCell h.lo.2.2 _, h.lo, h.lt, ?_⟩
  · have := h.ob.set_ 0 (.slice (some ⟨g, 0, none⟩) q.length cap)
    simpa using this
  · exact ownsRow_keep ho (fun m hm => Below.heap_setCell w _ _ m (by have := (own_lo ho hm).1; show m ≠ O; omega))
  · have := h.few
    unfold meas at this ⊢
    simp at this ⊢; omega
def isF : Value → Bool
  | .bool false => true
  | _ => false
def mz (lr O : Nat) (w : World) : Nat :=
  2 * (match w.heap[lr]? with | some (.cells cs _ _) => (cs.toList.filter isF).length | _ => 0) + (match w.cell? ⟨O, 0, none⟩ with | some (.slice _ n _) => n | _ => 0)
theorem filter_bools (M : List Bool) : ((bools M).filter isF).length = unm M := by
  induction M with
  | nil => rfl
  | cons b M ih =>
    unfold bools unm at *
    cases b
    · rw [List.map_cons, List.filter_cons_of_pos (by rfl), List.length_cons, ih]; simp
    · rw [List.map_cons, List.filter_cons_of_neg (by simp [isF]), ih]; simp
theorem SrI.mz {w0 w : World} {L O lr : Nat} {v : Value} {M : List Bool} {op : List Int} (h : SrI w0 w L O lr v M op) : mz lr O w = meas (M, op) := by
  obtain ⟨p, c, rfl⟩ := own_shape h.own
  have h1 : w.heap[lr]? = some (.cells (bools M).toArray 4 (0, 0)) := h.row
  have h2 : w.cell? ⟨O, 0, none⟩ = some (.slice p op.length c) := h.ob.cell 0
  unfold Go.Proofs.YtebmhadpkncgfaaDoor.mz meas
  rw [h1, h2]
  simp only [filter_bools]
theorem some_of_pos {w : World} {B : Nat} {v : Value} {q : List Int} {x : Int} (h : w.ownsRow B 3 1 v (q ++ [x]).length (ints (q ++ [x]))) : ∃ g cap, v = .slice (some ⟨g, 0, none⟩) (q.length + 1) cap := by
  rcases h.2 with ⟨_, e⟩ | ⟨g, cap, cur, rfl, _⟩
  · simp at e
  · exact ⟨g, cap, by simp⟩
/-- What ledTo tells. -/
def LedP (w : World) (s : SV) (e : Ending) (w' : World) : Prop :=
  ∃ lr M, e = .returned (.slice (some ⟨lr, 0, none⟩) (s.rs.length + 1) (s.rs.length + 1)) ∧ Bk w' lr 4 (bools M).toArray ∧ M.length = s.rs.length + 1 ∧ (∀ c, c ≠ 0 → (mk M c ↔ Rch s.vs (ttOf s) c)) ∧ RowKit.Below w.heap.size w w' ∧ w.heap.size ≤ lr
theorem ledTo_any (g : GR) (s : SV) (w : World) (hg : Gok g) (hs : Rt g s) (hl : s.lies w) : Calls Tryd.prog 42 #[.agg s.A] w (LedP w s) := by
  obtain ⟨w1, hw1⟩ : ∃ w1, w.alloc (.cells s.A 33) = w1 := ⟨_, rfl⟩
  have HW := hdn hw1
  have HB1 : Hid (RowKit.Below w.heap.size w w1) := hdn (by rw [← hw1]; exact alloc_below _ _)
  have HS1 : Hid (Bk w1 w.heap.size 33 s.A) := hdn (by rw [← hw1]; exact (MapKept.heap_alloc w _).1)
  have hz1 : w1.heap.size = w.heap.size + 1 := by rw [← hw1]; simp
  have HL : Hid (s.lies w1) := hdn (hl.below HB1.out)
  have HRt := hdn hs
  have hn := hs.n
  have hF := hg.F
  have HVV := hdn hg.V
  have c3 : w1.cell? ⟨w.heap.size, 3, none⟩ = some (.slice s.cp s.rs.length s.cc) := HS1.out.cell 3
  have hnI : (s.rs.length : Int) ≤ 2000000 := by omega
  have hmk := make84 (s.rs.length + 1) w1 (by omega)
  have e1 : ((s.rs.length + 1 : Nat) : Int) = (s.rs.length : Int) + 1 := by omega
  rw [e1] at hmk
  clear hw1 hl hs hg e1
  go_enter Tryd.func42, Tryd.ntmps42
  go_upto_region 1 with fail
  rw [HW.out]
  go_upto_region 5 with fail
  have hst : SrI w1 (((w1.alloc (.cells ((bools (List.replicate (s.rs.length + 1) false)).set 0 (.bool true)).toArray 4)).alloc (.cells #[.slice (some ⟨w.heap.size + 1, 0, none⟩) (s.rs.length + 1) (s.rs.length + 1)] 82)).alloc (.cells #[.slice none 0 0] 28))
      (w.heap.size + 1 + 1) (w.heap.size + 1 + 1 + 1) (w.heap.size + 1) (.slice none 0 0) ((List.replicate (s.rs.length + 1) false).set 0 true) [] := by
    refine ⟨?_, ?_, Bk.new' (by simp [hz1]), ⟨rfl, .inl ⟨rfl, rfl⟩⟩, Below.al (Below.al (alloc_below _ _) _) _, by omega, by omega, ?_⟩
    · have : ((List.replicate (s.rs.length + 1) false).set 0 true).length = s.rs.length + 1 := by simp
      rw [this]
      exact Bk.al (Bk.new' (by simp [hz1])) _
    · have : (bools (List.replicate (s.rs.length + 1) false)).set 0 (.bool true) = bools ((List.replicate (s.rs.length + 1) false).set 0 true) := by unfold bools; rw [List.map_set]
      rw [this]
      exact Bk.al (Bk.al (Bk.new' hz1) _) _
    · unfold meas unm
      have := List.count_le_length (a := false) (l := (List.replicate (s.rs.length + 1) false).set 0 true)
      simp at this ⊢; omega
  have HST := hdn hst
  have hI0 := start_inv s.rs.length s.vs (ttOf s)
  have hvs : ∀ x ∈ s.vs, 0 ≤ x ∧ x ≤ (s.rs.length : Int) ∧ (x.toNat ≠ 0 → Rch s.vs (ttOf s) x.toNat) := fun x hx => ⟨(HRt.out.vs x hx).1, (HRt.out.vs x hx).2, fun h0 => Rch.base x hx h0⟩
  obtain ⟨g1, g2, g3⟩ := meets_inv s.vs hI0 hvs
  have hall : ∀ k, (meets ((List.replicate (s.rs.length + 1) false).set 0 true, []) (s.vs.take k)).1.length = s.rs.length + 1 ∧ meas (meets ((List.replicate (s.rs.length + 1) false).set 0 true, []) (s.vs.take k)) ≤ 8000000 := fun k => by
    obtain ⟨f1, _, f3⟩ := meets_inv (s.vs.take k) hI0 (fun x hx => hvs x (List.mem_of_mem_take hx))
    exact ⟨f1.len, Nat.le_trans f3 hst.few⟩
  have CM := hdn (meet_any w1 _ (w.heap.size + 1 + 1) (w.heap.size + 1 + 1 + 1) (w.heap.size + 1) s.rs.length _ _ [] s.vs s.vp s.vc hst HL.out.v (by rw [HRt.out.vl]; have := HVV.out; omega) (fun x hx => HRt.out.vs x hx) hall)
  have s1 : (((w1.alloc (.cells ((bools (List.replicate (s.rs.length + 1) false)).set 0 (.bool true)).toArray 4)).alloc (.cells #[.slice (some ⟨w.heap.size + 1, 0, none⟩) (s.rs.length + 1) (s.rs.length + 1)] 82)).alloc (.cells #[.slice none 0 0] 28)).cell? ⟨w.heap.size, 1, none⟩ = some (.slice s.vp s.vs.length s.vc) :=
    (hst.below.cell (p := ⟨w.heap.size, 1, none⟩) (by rw [hz1]; show w.heap.size < w.heap.size + 1; omega)).trans (HS1.out.cell 1)
  have HI1 := hdn g1
  have HI2 := hdn g2
  clear hst hI0 hvs g1 g2 g3 hall hmk c3
  change Code.wp _ _ _ _ (((w1.alloc (.cells ((bools (List.replicate (s.rs.length + 1) false)).set 0 (.bool true)).toArray 4)).alloc (.cells #[.slice (some ⟨w.heap.size + 1, 0, none⟩) (s.rs.length + 1) (s.rs.length + 1)] 82)).alloc (.cells #[.slice none 0 0] 28))
  generalize (((w1.alloc (.cells ((bools (List.replicate (s.rs.length + 1) false)).set 0 (.bool true)).toArray 4)).alloc (.cells #[.slice (some ⟨w.heap.size + 1, 0, none⟩) (s.rs.length + 1) (s.rs.length + 1)] 82)).alloc (.cells #[.slice none 0 0] 28)) = w4 at CM s1 HST ⊢
  go_wp2_with (go_at_call 69; refine CM.out.mono ?_; rintro e w5 ⟨rfl, v5, hs5⟩; have HS5 := hdn hs5; clear hs5)
  clear s1
  generalize meets ((List.replicate (s.rs.length + 1) false).set 0 true, []) s.vs = st5 at HS5 HI1 HI2 ⊢
  obtain ⟨M5, op5⟩ := st5
  go_loopw [6] (fun _ wr => ∃ (v : Value) (M : List Bool) (op : List Int), Hid (SrI w1 wr (w.heap.size + 1 + 1) (w.heap.size + 1 + 1 + 1) (w.heap.size + 1) v M op) ∧ Hid (Inv s.rs.length s.vs (ttOf s) (fun _ => False) (M, op)) ∧ Hid (∀ x ∈ s.vs, mk M x.toNat)) (fun _ wr => mz (w.heap.size + 1) (w.heap.size + 1 + 1 + 1) wr)
  case atStart => exact ⟨v5, M5, op5, HS5, HI1, HI2⟩
  case round =>
    obtain ⟨v, M, op, HS, HI, HV⟩ := hrel
    by_cases hop : op = []
    · subst hop
      obtain ⟨vp, vc, rfl⟩ := own_shape HS.out.own
      have o0 : wr.cell? ⟨w.heap.size + 1 + 1 + 1, 0, none⟩ = some (.slice vp 0 vc) := HS.out.ob.cell 0
      have l0 : wr.cell? ⟨w.heap.size + 1 + 1, 0, none⟩ = some (.slice (some ⟨w.heap.size + 1, 0, none⟩) (s.rs.length + 1) (s.rs.length + 1)) := by
        have h1 := HI.out.len
        simp only at h1
        have := HS.out.lb.cell 0
        rw [h1] at this; exact this
      have HE : Hid (LedP w s (.returned (.slice (some ⟨w.heap.size + 1, 0, none⟩) (s.rs.length + 1) (s.rs.length + 1))) wr) := hdn ⟨_, M, rfl, HS.out.row, HI.out.len, fun c hc => end_inv HI.out HV.out c hc, HB1.out.trans (HS.out.below.mono HB1.out.size), by omega⟩
      go_wp2_with fail
      go_ret
      exact HE.out
    · obtain ⟨q, x, rfl⟩ : ∃ q x, op = q ++ [x] := by
        rcases List.eq_nil_or_concat op with h | ⟨q, x, h⟩
        · exact absurd h hop
        · exact ⟨q, x, by simpa using h⟩
      clear hop
      obtain ⟨gq, cap, rfl⟩ := some_of_pos HS.out.own
      have hown := HS.out.own
      rw [List.length_append, List.length_singleton] at hown
      have cx : wr.cell? ⟨gq, q.length, none⟩ = some (.int .i64 x) := (own_cut hown).2
      have o0 : wr.cell? ⟨w.heap.size + 1 + 1 + 1, 0, none⟩ = some (.slice (some ⟨gq, 0, none⟩) (q.length + 1) cap) := HS.out.ob.cell 0
      have f0 : wr.frozen? ⟨w.heap.size + 1 + 1 + 1, 0, none⟩ = false := HS.out.ob.frozen 0
      obtain ⟨x1, x2, x3⟩ := HI.out.inq x (by simp)
      obtain ⟨y, rfl⟩ : ∃ y : Nat, x = (y : Int) + 1 := ⟨(x - 1).toNat, by omega⟩
      have hyl : y < s.rs.length := by omega
      obtain ⟨r, hr⟩ : ∃ r, s.rs[y]? = some r := ⟨_, List.getElem?_eq_getElem hyl⟩
      have hmem : r ∈ s.rs := List.mem_of_getElem? hr
      have HCUT := hdn HS.out.cut
      have hyt : ((y : Int) + 1).toNat = y + 1 := by omega
      have hturn := turn_inv HI.out (fun d hd => HRt.out.tt _ d hd)
      rw [hyt, tt_at hr] at hturn
      have HTN := hdn hturn
      have hpop := pop_inv HI.out
      have hreach : Rch s.vs (ttOf s) (y + 1) := by
        rcases HI.out.snd _ x3 with e | e
        · omega
        · rwa [hyt] at e
      have hds : ∀ d ∈ r.c.to, 0 ≤ d ∧ d ≤ (s.rs.length : Int) ∧ (d.toNat ≠ 0 → Rch s.vs (ttOf s) d.toNat) := fun d hd => ⟨(HRt.out.tos hmem d hd).1, (HRt.out.tos hmem d hd).2, fun h0 => Rch.step (y + 1) d hreach (by rw [tt_at hr]; exact hd) h0⟩
      have hall : ∀ k, (meets (M, q) (r.c.to.take k)).1.length = s.rs.length + 1 ∧ meas (meets (M, q) (r.c.to.take k)) ≤ 8000000 := fun k => by
        obtain ⟨f1, _, f3⟩ := meets_inv (r.c.to.take k) hpop (fun d hd => hds d (List.mem_of_mem_take hd))
        exact ⟨f1.len, Nat.le_trans f3 HCUT.out.few⟩
      have hrl : r.c.to.length = g.F := HRt.out.len hmem
      obtain ⟨cb, co, hcp, hit, hrli⟩ := HL.out.c.at_ hr
      have HIR : Hid (IR w1 r.q r.c.to) := hdn hrli.1
      have CM2 := hdn (meet_any w1 _ (w.heap.size + 1 + 1) (w.heap.size + 1 + 1 + 1) (w.heap.size + 1) s.rs.length _ M q r.c.to r.q r.k HCUT.out HIR.out (by omega) (fun d hd => HRt.out.tos hmem d hd) hall)
      have d2 : (wr.setCell ⟨w.heap.size + 1 + 1 + 1, 0, none⟩ (.slice (some ⟨gq, 0, none⟩) q.length cap)).cell? ⟨cb, co + y * 3 + 2, none⟩ = some (.slice r.q r.c.to.length r.k) := by
        have h1 := hit 2 _ rfl
        exact (HCUT.out.below.cell (World.block_lt_of_cell? _ _ h1)).trans h1
      have s3 : (wr.setCell ⟨w.heap.size + 1 + 1 + 1, 0, none⟩ (.slice (some ⟨gq, 0, none⟩) q.length cap)).cell? ⟨w.heap.size, 3, none⟩ = some (.slice s.cp s.rs.length s.cc) :=
        (HCUT.out.below.cell (p := ⟨w.heap.size, 3, none⟩) (by rw [hz1]; show w.heap.size < w.heap.size + 1; omega)).trans (HS1.out.cell 3)
      have hy0 : (0 : Int) ≤ (y : Int) := Int.natCast_nonneg _
      have hy1 : (y : Int) < (s.rs.length : Int) := by omega
      have hy2 : (y : Int) + 1 - 1 = (y : Int) := by omega
      have hqI : (q.length : Int) ≤ 8000000 := by have := HS.out.few; unfold meas at this; simp at this; omega
      have hq0 : (0 : Int) ≤ (q.length : Int) := Int.natCast_nonneg _
      have hcap : q.length ≤ cap := by
        rcases hown.2 with ⟨e, _⟩ | ⟨g', cap', cur, e, _, _, h3, _⟩
        · cases e
        · injection e with e1 e2 e3; subst e3; omega
      have hcapI : (q.length : Int) ≤ (cap : Int) := by omega
      have HMZ := hdn HS.out.mz
      clear hown x1 x2 x3 hr hmem hturn hpop hreach hds hall hit hrli hyt
      rw [hcp] at s3
      clear hcp
      have HIRL := hdn hrl
      rw [hrl] at CM2 d2
      clear hrl
      go_wp2_with (go_at_call 69; refine CM2.out.mono ?_; rintro e w6 ⟨rfl, v6, hs6⟩; have HS6 := hdn hs6; clear hs6)
      go_roundw
      case rel => exact ⟨v6, _, _, HS6, hdn HTN.out.1, hdn (fun z hz => meets_mono (HV.out z hz))⟩
      case measure => rw [HS6.out.mz, HMZ.out]; exact HTN.out.2
end Go.Proofs.YtebmhadpkncgfaaDoor
