/-
  The page's example. Whatever actions are done, one behind the other, in a graph with any variables and fields, each state, each event, and what is left behind, is what the document says: for every input; the program's two tables are what the program text lays (a pruned copy of it: the packages that the root loads).
-/
import Derived.Test.YtebmhadpkncgfaaDoorM11
import Derived.Test.YtebmhadpkncgfaaDoorM12
set_option maxHeartbeats 40000000
set_option maxRecDepth 100000
namespace Go.Proofs.YtebmhadpkncgfaaDoor
open Go.RowKit Go.Maps Go.Sort
open Aw.Ac (Acn Opd)
open Sr
/-- The page's graph. -/
def exG (b : Nat) : GR := ⟨1, 0, 0, 0, .slice none 0 0, .slice none 0 0, 1, 0, 1, some ⟨b, 0, none⟩, 1, 1⟩
def exA (k : Int) : Acn := ⟨k, 0, 0, 0, 0, 0, 0, ⟨0, 0⟩, ⟨0, 0⟩, false⟩
theorem exG_ok (b : Nat) : Gok (exG b) := ⟨show 1 ≤ 24 by decide, show 0 ≤ 24 by decide, show 1 ≤ 2000000 by decide⟩
theorem exA_r6 : Aw.Ac.rights (exA 6) = true := by kernel_rfl
theorem exA_r1 : Aw.Ac.rights (exA 1) = true := by kernel_rfl
theorem exA_has6 (b : Nat) : hasB (exG b) (exA 6) = true := by
  unfold hasB; rw [exA_r6]; simp [inG, exG, exA]
theorem exA_has1 (b : Nat) : hasB (exG b) (exA 1) = true := by
  unfold hasB; rw [exA_r1]; simp [inG, exG, exA]
theorem leak_one (t : SV) (h1 : t.vs = [0]) (h2 : t.cs = [newC 1 0]) (M : List Bool) (hM : ∀ c, c ≠ 0 → (mk M c ↔ Rch t.vs (ttOf t) c)) : leakL (frOf t) (fun i => M.getD (i + 1) false) t.rs.length = [1] := by
  have hno : ∀ c, ¬ Rch t.vs (ttOf t) c := by
    intro c h
    induction h with
    | base v h h0 => rw [h1] at h; simp at h; subst h; exact h0 rfl
    | step c d h hd h0 ih => exact ih
  obtain ⟨r, hr, hc⟩ := List.map_eq_singleton_iff.1 (show t.rs.map RC.c = [newC 1 0] from h2)
  have hm : M.getD 1 false = false := by
    cases h : M.getD 1 false with
    | false => rfl
    | true => exact absurd ((hM 1 (by omega)).1 ((getD_mk M 1).1 h)) (hno 1)
  have hf : frOf t 0 = false := by unfold frOf; rw [hr]; simp [hc, newC]
  rw [hr]
  show leakL _ _ 1 = [1]
  rw [leakL_succ, if_pos ⟨hf, hm⟩]
  rfl
theorem lives_any (w : World) (hG : Aw.Gl w) : Calls Tryd.prog 4 #[] w (RetV w (.bool true)) := by
  obtain ⟨w2, hw2⟩ : ∃ w2, (w.alloc (.cells #[.int .i64 0, .int .i64 0] 53)).alloc (.cells #[.int .i64 1, .int .i64 0, .int .i64 0, .int .i64 0, .slice none 0 0, .slice none 0 0, .int .i64 1, .int .i64 0, .int .i64 1, .slice (some ⟨w.heap.size, 0, none⟩) 1 1] 30) = w2 := ⟨_, rfl⟩
  have HW := hdn hw2
  have HB2 : Hid (RowKit.Below w.heap.size w w2) := hdn (by rw [← hw2]; exact alloc2_below _ _ _)
  have HGB : Hid (Bk w2 (w.heap.size + 1) 30 (exG w.heap.size).cs) := hdn (by rw [← hw2]; exact alloc2_new _ _ _ _)
  have HS : Hid (∀ w', RowKit.Below w2.heap.size w2 w' → w'.cell? ⟨w.heap.size + 1, 0, none⟩ = some (.int .i64 1) ∧ w'.cell? ⟨w.heap.size + 1, 1, none⟩ = some (.int .i64 0) ∧ w'.cell? ⟨w.heap.size + 1, 2, none⟩ = some (.int .i64 0) ∧ w'.cell? ⟨w.heap.size + 1, 3, none⟩ = some (.int .i64 0) ∧ w'.cell? ⟨w.heap.size + 1, 4, none⟩ = some (.slice none 0 0) ∧ w'.cell? ⟨w.heap.size + 1, 5, none⟩ = some (.slice none 0 0) ∧ w'.cell? ⟨w.heap.size + 1, 6, none⟩ = some (.int .i64 1) ∧ w'.cell? ⟨w.heap.size + 1, 7, none⟩ = some (.int .i64 0) ∧ w'.cell? ⟨w.heap.size + 1, 8, none⟩ = some (.int .i64 1) ∧ w'.cell? ⟨w.heap.size + 1, 9, none⟩ = some (.slice (some ⟨w.heap.size, 0, none⟩) 1 1)) := hdn (fun w' hz => by
    have h1 := HGB.out.below hz HGB.out.lt
    exact ⟨h1.cell 0, h1.cell 1, h1.cell 2, h1.cell 3, h1.cell 4, h1.cell 5, h1.cell 6, h1.cell 7, h1.cell 8, h1.cell 9⟩)
  have K0 : RowKit.Below w2.heap.size w2 w2 := Below.refl _ _
  have K1 : RowKit.Below w2.heap.size w2 w2.drew := below_drew K0
  have HBE := hdn (fun wz => begin_any (exG w.heap.size) wz (exG_ok _))
  have HDO : Hid (∀ vp ip wz, RowKit.Below w2.heap.size w2 wz → IR wz vp (zeros 1) → IR wz ip (zeros 0) → Calls Tryd.prog 9 #[.agg (exG w.heap.size).cs, .agg (stA (exG w.heap.size).st vp (exG w.heap.size).V (exG w.heap.size).V ip (exG w.heap.size).I (exG w.heap.size).I none 0 0), .agg (exA 6).cs, .int .i64 1] wz (DoL wz 0 [1] [] [newC 1 0] 1 0 1)) := hdn (fun vp ip wz hz h1 h2 => by
    have hb := HB2.out.trans (hz.mono HB2.out.size)
    have h := do9_any (exG w.heap.size) (begS (exG w.heap.size) vp ip) (exA 6) 1 wz (exG_ok _) (show (0 : Int) ≤ 1 by decide) (hG.below hb hG.big) (begS_rt ⟨show (0 : Int) ≤ 0 by decide, show (0 : Int) < 1 by decide⟩) (begS_lies h1 h2) (exA_has6 _) (show 0 < 2000000 by decide) (okI_small (by omega)) (okI_small (show 0 ≤ (0 : Int) ∧ (0 : Int) ≤ 2000000 by decide))
    rw [begS_A] at h
    exact h.mono fun e w' hq => by
      have hq' : DoQ wz 0 [1] [] [newC 1 0] (evA 1 0 1) e w' := hq
      exact hq'.l)
  clear hw2
  go_enter Tryd.func4, Tryd.ntmps4
  go_upto_region 2 with fail
  rw [HW.out]
  go_cut [2, 3] from 10 to 17 (fun c d wx => ∃ (A E : Nat) (t : SV), c = .pointer (some ⟨A, 0, none⟩) ∧ d = .pointer (some ⟨E, 0, none⟩) ∧ Hid (Bk wx A 33 t.A) ∧ Hid (Bk wx E 37 (evA 1 0 1)) ∧ Hid (t.pt = 0 ∧ t.vs = [1] ∧ t.is = [] ∧ t.cs = [newC 1 0]) ∧ Hid (t.lies wx) ∧ Hid (RowKit.Below w2.heap.size w2 wx))
  case first =>
    go_region_held3 (fun w' => w'.cell? ⟨w.heap.size + 1, 0, none⟩ = some (.int .i64 1) ∧ w'.cell? ⟨w.heap.size + 1, 1, none⟩ = some (.int .i64 0) ∧ w'.cell? ⟨w.heap.size + 1, 2, none⟩ = some (.int .i64 0) ∧ w'.cell? ⟨w.heap.size + 1, 3, none⟩ = some (.int .i64 0) ∧ w'.cell? ⟨w.heap.size + 1, 4, none⟩ = some (.slice none 0 0) ∧ w'.cell? ⟨w.heap.size + 1, 5, none⟩ = some (.slice none 0 0) ∧ w'.cell? ⟨w.heap.size + 1, 6, none⟩ = some (.int .i64 1) ∧ w'.cell? ⟨w.heap.size + 1, 7, none⟩ = some (.int .i64 0) ∧ w'.cell? ⟨w.heap.size + 1, 8, none⟩ = some (.int .i64 1) ∧ w'.cell? ⟨w.heap.size + 1, 9, none⟩ = some (.slice (some ⟨w.heap.size, 0, none⟩) 1 1))
      (first | with_reducible exact HS.out _ K1 | with_reducible exact HS.out _ K0 | with_reducible exact HS.out _ K4 | with_reducible exact HS.out _ K3 | (refine HS.out _ ?_; ((repeat' (first | (with_reducible exact K4) | (with_reducible exact K3) | (with_reducible exact K1) | (with_reducible exact K0) | (with_reducible apply below_drew) | (with_reducible apply Below.al) | (with_reducible apply Below.set1) | (with_reducible exact Nat.le_refl _) | (show _ ≤ _; simp; done) | (have := K4.size; (try (have := HYA.out.lt)); (try (have := HYE.out.lt)); (first | omega | (simp <;> omega))) | (have := K3.size; (try (have := HYA.out.lt)); (try (have := HYE.out.lt)); (first | omega | (simp <;> omega))) | (have := K1.size; (try (have := HYA.out.lt)); (try (have := HYE.out.lt)); (first | omega | (simp <;> omega))))))) | fail) (first
      | (go_at_call 9; refine (HDO.out vp ip _ (by (repeat' (first | (with_reducible exact K4) | (with_reducible exact K3) | (with_reducible exact K1) | (with_reducible exact K0) | (with_reducible apply below_drew) | (with_reducible apply Below.al) | (with_reducible apply Below.set1) | (with_reducible exact Nat.le_refl _) | (show _ ≤ _; simp; done) | (have := K4.size; (try (have := HYA.out.lt)); (try (have := HYE.out.lt)); (first | omega | (simp <;> omega))) | (have := K3.size; (try (have := HYA.out.lt)); (try (have := HYE.out.lt)); (first | omega | (simp <;> omega))) | (have := K1.size; (try (have := HYA.out.lt)); (try (have := HYE.out.lt)); (first | omega | (simp <;> omega)))))) (HV3.out.below (by (repeat' (first | (with_reducible exact Below.refl _ _) | (with_reducible apply below_drew) | (with_reducible apply Below.al))))) (HI3.out.below (by (repeat' (first | (with_reducible exact Below.refl _ _) | (with_reducible apply below_drew) | (with_reducible apply Below.al)))))).mono ?_; rintro e w4 ⟨t, rfl, HP4, HL4, hb4⟩; have hb4 := hb4.out; have K4 : RowKit.Below w2.heap.size w2 w4 := by { refine RowKit.Below.trans ?_ (hb4.mono ?_); ((repeat' (first | (with_reducible exact K4) | (with_reducible exact K3) | (with_reducible exact K1) | (with_reducible exact K0) | (with_reducible apply below_drew) | (with_reducible apply Below.al) | (with_reducible apply Below.set1) | (with_reducible exact Nat.le_refl _) | (show _ ≤ _; simp; done) | (have := K4.size; (try (have := HYA.out.lt)); (try (have := HYE.out.lt)); (first | omega | (simp <;> omega))) | (have := K3.size; (try (have := HYA.out.lt)); (try (have := HYE.out.lt)); (first | omega | (simp <;> omega))) | (have := K1.size; (try (have := HYA.out.lt)); (try (have := HYE.out.lt)); (first | omega | (simp <;> omega)))))) }; (first | (have HYA := hdn (Bk.via hb4 HZA.out)) | (have HYA := hdn (Bk.via hb4 (HZA.out.al _))) | (have HYA := hdn (Bk.via hb4 ((HZA.out.al _).al _))) | (have HYA : Hid (Bk w4 w3.heap.size 33 stZ) := hdn (Bk.via hb4 ?hzz); case hzz => (repeat' (first | (with_reducible apply Bk.dr) | (with_reducible refine Bk.new' ?_; (simp; done)) | (with_reducible apply Bk.al)))) | (have HYA : Hid (Bk w4 (w3.heap.size + 1) 33 stZ) := hdn (Bk.via hb4 ?hzz); case hzz => (repeat' (first | (with_reducible apply Bk.dr) | (with_reducible refine Bk.new' ?_; (simp; done)) | (with_reducible apply Bk.al)))) | (skip)); (first | (have HYE := hdn (Bk.via hb4 HZE.out)) | (have HYE := hdn (Bk.via hb4 (HZE.out.al _))) | (have HYE := hdn (Bk.via hb4 ((HZE.out.al _).al _))) | (have HYE : Hid (Bk w4 w3.heap.size 37 evZ) := hdn (Bk.via hb4 ?hzz); case hzz => (repeat' (first | (with_reducible apply Bk.dr) | (with_reducible refine Bk.new' ?_; (simp; done)) | (with_reducible apply Bk.al)))) | (have HYE : Hid (Bk w4 (w3.heap.size + 1) 37 evZ) := hdn (Bk.via hb4 ?hzz); case hzz => (repeat' (first | (with_reducible apply Bk.dr) | (with_reducible refine Bk.new' ?_; (simp; done)) | (with_reducible apply Bk.al)))) | (skip)); (try (have hZq := Z4.of' HYA.out; obtain ⟨z0, z1, z2, z3, f0, f1, f2, f3⟩ := hZq)); (try (have hYq := Y3.of HYE.out; obtain ⟨y0, y1, y2, x0, x1, x2⟩ := hYq)); (try (have hZq := Z4.ofA HYA.out; obtain ⟨zz0, zz1, zz2, zz3, ff0, ff1, ff2, ff3⟩ := hZq)); (try (have hYq := Y3.ofA HYE.out; obtain ⟨yy0, yy1, yy2, xx0, xx1, xx2⟩ := hYq)); (try (have hA4 := Nat.ne_of_lt HYA.out.lt; have hA5 := hA4.symm)); (try (have hE4 := Nat.ne_of_lt HYE.out.lt; have hE5 := hE4.symm)); (try (have hAE := Bk.ne3337 HYA.out HYE.out; have hEA := hAE.symm)); clear hb4)
      | (go_at_call 5; refine (HBE.out _).mono ?_; rintro e w3 ⟨vp, ip, rfl, hv3, hi3, hb3⟩; have HV3 := hdn hv3; have HI3 := hdn hi3; have K3 : RowKit.Below w2.heap.size w2 w3 := by { refine RowKit.Below.trans ?_ (hb3.mono ?_); ((repeat' (first | (with_reducible exact K4) | (with_reducible exact K3) | (with_reducible exact K1) | (with_reducible exact K0) | (with_reducible apply below_drew) | (with_reducible apply Below.al) | (with_reducible apply Below.set1) | (with_reducible exact Nat.le_refl _) | (show _ ≤ _; simp; done) | (have := K4.size; (try (have := HYA.out.lt)); (try (have := HYE.out.lt)); (first | omega | (simp <;> omega))) | (have := K3.size; (try (have := HYA.out.lt)); (try (have := HYE.out.lt)); (first | omega | (simp <;> omega))) | (have := K1.size; (try (have := HYA.out.lt)); (try (have := HYE.out.lt)); (first | omega | (simp <;> omega)))))) }; (first | (have HZA : Hid (Bk w3 w2.heap.size 33 stZ) := hdn (Bk.via hb3 ?hzz); case hzz => (repeat' (first | (with_reducible apply Bk.dr) | (with_reducible refine Bk.new' ?_; (simp; done)) | (with_reducible apply Bk.al)))) | (have HZA : Hid (Bk w3 (w2.heap.size + 1) 33 stZ) := hdn (Bk.via hb3 ?hzz); case hzz => (repeat' (first | (with_reducible apply Bk.dr) | (with_reducible refine Bk.new' ?_; (simp; done)) | (with_reducible apply Bk.al)))) | (skip)); (first | (have HZE : Hid (Bk w3 w2.heap.size 37 evZ) := hdn (Bk.via hb3 ?hzz); case hzz => (repeat' (first | (with_reducible apply Bk.dr) | (with_reducible refine Bk.new' ?_; (simp; done)) | (with_reducible apply Bk.al)))) | (have HZE : Hid (Bk w3 (w2.heap.size + 1) 37 evZ) := hdn (Bk.via hb3 ?hzz); case hzz => (repeat' (first | (with_reducible apply Bk.dr) | (with_reducible refine Bk.new' ?_; (simp; done)) | (with_reducible apply Bk.al)))) | (skip)); clear hv3 hi3 hb3)
      | fail)
    --ENDS
    all_goals (go_wp2_with fail; go_meet; refine ⟨_, _, t, rfl, rfl, hdn ?_, hdn ?_, HP4, hdn ?_, hdn ?_⟩)
    all_goals first
      | (show Bk _ _ 33 #[.int .i64 t.pt, .slice t.vp t.vs.length t.vc, .slice t.ip t.is.length t.ic, .slice t.cp t.rs.length t.cc]; (repeat' (first | (with_reducible exact HYA.out) | (with_reducible apply Bk.dr) | (with_reducible apply Bk.s4o _ (by (try (have := HZA.out.lt)); (try (have := HZE.out.lt)); (try (have := HYA.out.lt)); (try (have := HYE.out.lt)); (first | omega | (simp; done) | (simp; omega)))) | (with_reducible apply Bk.s3o _ (by (try (have := HZA.out.lt)); (try (have := HZE.out.lt)); (try (have := HYA.out.lt)); (try (have := HYE.out.lt)); (first | omega | (simp; done) | (simp; omega)))) | (with_reducible apply Bk.s4) | (with_reducible refine Bk.new' ?_; (simp; done)) | (with_reducible apply Bk.al))); done)
      | (show Bk _ _ 37 #[.int .i64 1, .int .i64 0, .int .i64 1]; (repeat' (first | (with_reducible exact HYE.out) | (with_reducible apply Bk.dr) | (with_reducible apply Bk.s4o _ (by (try (have := HZA.out.lt)); (try (have := HZE.out.lt)); (try (have := HYA.out.lt)); (try (have := HYE.out.lt)); (first | omega | (simp; done) | (simp; omega)))) | (with_reducible apply Bk.s3o _ (by (try (have := HZA.out.lt)); (try (have := HZE.out.lt)); (try (have := HYA.out.lt)); (try (have := HYE.out.lt)); (first | omega | (simp; done) | (simp; omega)))) | (with_reducible apply Bk.s3e) | (with_reducible refine Bk.new' ?_; (simp; done)) | (with_reducible apply Bk.al))); done)
      | (refine HL4.out _ ?_; (repeat' (first | (with_reducible exact Gr.refl _ _) | (with_reducible apply Gr.drew) | (with_reducible apply Gr.alloc) | (with_reducible refine Gr.set1 ?_ ?hs; case hs => (show _ < _; (try (have := HZA.out.lt)); (try (have := HZE.out.lt)); (first | omega | (simp; done) | (simp; omega)))) | (with_reducible refine Gr.set1n ?_ ?hs; case hs => (show _ ≤ _; (first | omega | (simp; done) | (simp; omega)))))); done)
      | (show RowKit.Below _ _ _; (repeat' (first | (with_reducible exact K4) | (with_reducible exact K3) | (with_reducible exact K1) | (with_reducible exact K0) | (with_reducible apply below_drew) | (with_reducible apply Below.al) | (with_reducible apply Below.set1) | (with_reducible exact Nat.le_refl _) | (show _ ≤ _; simp; done) | (have := K4.size; (try (have := HYA.out.lt)); (try (have := HYE.out.lt)); (first | omega | (simp <;> omega))) | (have := K3.size; (try (have := HYA.out.lt)); (try (have := HYE.out.lt)); (first | omega | (simp <;> omega))) | (have := K1.size; (try (have := HYA.out.lt)); (try (have := HYE.out.lt)); (first | omega | (simp <;> omega))))); done)
  case rest =>
  obtain ⟨A, E, t, rfl, rfl, HA, HE, HT, HL, HB⟩ := hcut
  obtain ⟨wx, hwx⟩ : ∃ v, v = wc := ⟨_, rfl⟩
  subst hwx
  obtain ⟨pt, vp, vs, vc, ip, is, ic, cp, rs, cc⟩ := t
  obtain ⟨h1, h2, h3, h4⟩ := HT.out
  have h1 : pt = 0 := h1
  have h2 : vs = [1] := h2
  have h3 : is = [] := h3
  have h4 : rs.map RC.c = [newC 1 0] := h4
  obtain ⟨r, hr, hc⟩ := List.map_eq_singleton_iff.1 h4
  obtain ⟨rc, rq, rk⟩ := r
  have hc : rc = newC 1 0 := hc
  subst hr
  subst hc
  subst h1
  subst h2
  subst h3
  have hlv := HL.out.v
  rcases hlv with h | ⟨vb, vo, hvp, hvr⟩
  · cases h
  have hvp : vp = some ⟨vb, vo, none⟩ := hvp
  subst hvp
  obtain ⟨t, ht⟩ : ∃ t, t = (⟨0, some ⟨vb, vo, none⟩, [1], vc, ip, [], ic, cp, [⟨newC 1 0, rq, rk⟩], cc⟩ : SV) := ⟨_, rfl⟩
  have HRt : Rt (exG w.heap.size) t := ((begS_rt ⟨show (0 : Int) ≤ 0 by decide, show (0 : Int) < 1 by decide⟩ : Rt (exG w.heap.size) (begS (exG w.heap.size) none none)).made (exA_has6 _) (show 0 < 2000000 by decide) (okI_small (show 0 ≤ (1 : Int) ∧ (1 : Int) ≤ 2000000 by decide)) (okI_small (show 0 ≤ (0 : Int) ∧ (0 : Int) ≤ 2000000 by decide)) (by subst ht; rfl) (by subst ht; rfl) (by subst ht; rfl) (by subst ht; rfl)).1
  have HRH := hdn HRt
  have HGX : Hid (Bk wx (w.heap.size + 1) 30 (exG w.heap.size).cs) := hdn (HGB.out.below HB.out HGB.out.lt)
  have HBX : Hid (RowKit.Below w.heap.size w wx) := hdn (HB2.out.trans (HB.out.mono HB2.out.size))
  obtain ⟨e0, e1, e2, he⟩ := nxE_evA t (exA 1) 0
  have HD2 : Hid (∀ wz, RowKit.Below wx.heap.size wx wz → Calls Tryd.prog 9 #[.agg (exG w.heap.size).cs, .agg t.A, .agg (exA 1).cs, .int .i64 0] wz (DoL wz 0 [0] [] [newC 1 0] e0 e1 e2)) := hdn (fun wz hz => by
    have hb := HBX.out.trans (hz.mono HBX.out.size)
    have h := do9_any (exG w.heap.size) t (exA 1) 0 wz (exG_ok _) (show (0 : Int) ≤ 1 by decide) (hG.below hb hG.big) HRt ((show t.lies wx by subst ht; exact HL.out).below hz) (exA_has1 _) (by subst ht; show 1 < 2000000; decide) (okI_small (by omega)) (okI_small (show 0 ≤ (0 : Int) ∧ (0 : Int) ≤ 2000000 by decide))
    rw [he] at h
    exact h.mono fun e w' hq => by
      have hq' : DoQ wz 0 [0] [] [newC 1 0] (evA e0 e1 e2) e w' := by subst ht; exact hq
      exact hq'.l)
  have HN2 : Hid (∀ t2 : SV, t2.pt = 0 ∧ t2.vs = [0] ∧ t2.is = [] ∧ t2.cs = [newC 1 0] → Rt (exG w.heap.size) t2) := hdn (fun t2 hh => (HRt.made (a := exA 1) (inp := 0) (exA_has1 _) (by subst ht; show 1 < 2000000; decide) (okI_small (show 0 ≤ (0 : Int) ∧ (0 : Int) ≤ 2000000 by decide)) (okI_small (show 0 ≤ (0 : Int) ∧ (0 : Int) ≤ 2000000 by decide)) (by subst ht; exact hh.1) (by subst ht; exact hh.2.1) (by subst ht; exact hh.2.2.1) (by subst ht; exact hh.2.2.2)).1)
  have HAT : Hid (Bk wx A 33 t.A) := hdn (by subst ht; exact HA.out)
  have c1 : wx.cell? ⟨A, 1, none⟩ = some (.slice (some ⟨vb, vo, none⟩) 1 vc) := HA.out.cell 1
  have c2 : wx.cell? ⟨vb, vo, none⟩ = some (.int .i64 1) := hvr 0 _ rfl
  have c3 : wx.cell? ⟨E, 2, none⟩ = some (.int .i64 1) := HE.out.cell 2
  clear HT h4 HRt hvr HL HA he HS K0 K1 HBE HDO ht
  go_upto_region 5 with fail
  clear c1 c2 c3
  go_upto_region 6 with (first
    | ((with_reducible show wpList _ _ _ (Oper.mk _ (Op.load 30 _) _ _ _ _ :: _) _ _); refine wpList_load_bk rfl 30 _ rfl (w.heap.size + 1) 30 (exG w.heap.size).cs rfl _ HGX.out Tryd.underlying30 rfl size30 ?_)
    | ((with_reducible show wpList _ _ _ (Oper.mk _ (Op.load 33 _) _ _ _ _ :: _) _ _); refine wpList_load_bk rfl 33 _ rfl A 33 t.A rfl _ HAT.out Tryd.underlying33 rfl size33 ?_)
    | (go_at_call 9; refine (HD2.out _ (Below.refl _ _)).mono ?_; rintro e w4 ⟨t2, rfl, HP4, HL4, HB4⟩))
  have HG4 : Hid (Bk w4 (w.heap.size + 1) 30 (exG w.heap.size).cs) := hdn (HGX.out.below HB4.out HGX.out.lt)
  have HK : Hid (∀ wz, RowKit.Below w4.heap.size w4 wz → Calls Tryd.prog 14 #[.agg (exG w.heap.size).cs, .agg t2.A] wz (LkP wz t2)) := hdn (fun wz hz => leaks_any (exG w.heap.size) t2 wz (exG_ok _) (HN2.out t2 HP4.out) (HL4.out wz (Gr.of_below hz)))
  have HBY : Hid (RowKit.Below w.heap.size w w4) := hdn (HBX.out.trans (HB4.out.mono HBX.out.size))
  go_upto_region 7 with (first
    | ((with_reducible show wpList _ _ _ (Oper.mk _ (Op.load 30 _) _ _ _ _ :: _) _ _); refine wpList_load_bk rfl 30 _ rfl (w.heap.size + 1) 30 (exG w.heap.size).cs rfl _ ((HG4.out.al _).al _) Tryd.underlying30 rfl size30 ?_)
    | ((with_reducible show wpList _ _ _ (Oper.mk _ (Op.load 33 _) _ _ _ _ :: _) _ _); refine wpList_load_bk rfl 33 _ rfl w4.heap.size 33 t2.A rfl _ (Bk.al (Bk.new' rfl) _) Tryd.underlying33 rfl size33 ?_)
    | (go_at_call 14; refine (HK.out _ (Below.al (Below.al (Below.refl _ _) _) _)).mono ?_; rintro e w7 ⟨M, p, c, hMl, hM, rfl, hp, hb⟩; have hL := leak_one t2 HP4.out.2.1 HP4.out.2.2.2 M hM; rw [hL] at hp ⊢; have HP7 := hdn hp; have HB7 : Hid (RowKit.Below w.heap.size w w7) := hdn (HBY.out.trans ((RowKit.Below.trans (Below.al (Below.al (Below.refl _ _) _) _) (hb.mono (by simp; omega))).mono HBY.out.size)); clear hMl hM hp hb hL))
  rcases HP7.out with h | ⟨qb, qo, hq, hqr⟩
  · cases h
  subst hq
  have c5 : w7.cell? ⟨qb, qo, none⟩ = some (.int .i64 1) := hqr 0 _ rfl
  clear hqr HP7
  go_wp2_with fail
  go_ret
  exact ⟨rfl, HB7.out⟩
end Go.Proofs.YtebmhadpkncgfaaDoor
namespace Go.Proofs.YtebmhadpkncgfaaDoor
open Go Go.ChangeShapes Go.WideShapes Go.ChangeAt Go.RowKit
theorem door_met (os : Os) (args : Array Value) : laidMetH Tryd.prog Cd.laid2 ((World.doorLaid Tryd.prog 40 os).forCall (fun _ _ => 0) ⟨#[], args, []⟩).memory :=
  laidMetH_of_parts3 (fuel := 8) (laidMet_of_run' 8 (by kernel_rfl) (by kernel_rfl)) (by kernel_rfl) (by kernel_rfl)
theorem statePlays_lifted (os : Os) (started : os.Started) (H : Type) (enc : TypeId × Value → H) :
    ReturnsInHanded {} Tryd.checked os 3 .any (fun w args => (Rows.statePlaysSpec.pre enc Tryd.prog Tryd.f3 [] false w args ∧ laidMetH Tryd.prog Cd.laid2 w) ∧ sizedMet enc Tryd.prog Tryd.f3 (OpenSpec.ofChange Rows.statePlaysSpec) false w args)
      (Rows.statePlaysSpec.post enc Tryd.prog Tryd.f3 false true false false) := by
  refine returnsInHanded_of_change_and (C := Tryd.checked) (X := fun w _ => laidMetH Tryd.prog Cd.laid2 w) (fun _ _ _ hh h => h.of_heap hh) Cd.own started (by kernel_rfl) Tryd.func3
    (ChangeSpec.witness_shaped (enc := enc) (C := Tryd.checked) (os := os) (X := fun w _ => laidMetH Tryd.prog Cd.laid2 w) false (World.doorLaid Tryd.prog 40 os) #[.slice none 0 0, .slice none 0 0, .agg #[.int .u8 0, .int .u8 0]] 8 rfl (World.shaped_of_RefB (by kernel_rfl) (by kernel_rfl)) (by kernel_rfl) (by kernel_rfl) (by kernel_rfl) (door_met os _)) ?_
  intro W base args ds gs before hval0 hW _ _ hL _
  have hval : ∀ (j : Nat) t v, Tryd.f3.params[j]? = some t → args[j]? = some v → Value.okWide Tryd.prog W .any base t v := hval0
  have hW' := hW
  obtain ⟨p, q, hA0, hV, rfl, hfz, hnd⟩ := hW
  have hA : DataW.TrodAll enc Tryd.prog W 0 (fun _ => true) true Tryd.f3.params.toList args.toList ds p := hA0
  rw [Tryd.params3] at hA hval
  obtain ⟨v0, v1, v2, d0, d1, d2, q0, q1, q2, rfl, rfl, rfl, h0, h1, h2⟩ := trodAll_three hA
  obtain ⟨rfl, rfl⟩ := trodVars_none hV
  have h0k := h0
  have h1k := h1
  have h2k := h2
  have hlt : ∀ x ∈ q0 ++ q1 ++ q2, x.block < W.heap.size := fun x hx => hW'.lt x (by simpa using hx)
  obtain ⟨a0, b0, e0, rfl⟩ := okWide_slice Tryd.underlying22 (hval 0 22 v0 rfl rfl)
  obtain ⟨a1, b1, e1, rfl⟩ := okWide_slice Tryd.underlying23 (hval 1 23 v1 rfl rfl)
  obtain ⟨a2, rfl, _⟩ := okWide_struct Tryd.underlying25 (hval 2 25 v2 rfl rfl)
  obtain ⟨f1, h1⟩ := h1
  obtain ⟨f2, h2⟩ := h2
  obtain ⟨pp1, l1, cap1, hx1, lx1⟩ := ops_open h1
  simp [Value.cells] at hx1
  obtain ⟨rfl, rfl, rfl⟩ := hx1
  obtain ⟨x, y, hx2, hx, hy⟩ := sizes_open h2
  obtain rfl : a2 = #[.int .u8 x, .int .u8 y] := by
    have : a2.toList = [.int .u8 x, .int .u8 y] := by rw [← hx2]; simp [Value.cells]
    exact Array.toList_inj.1 this
  clear hA0 hval0
  simp only [List.append_nil] at hW'
  have hG := Cd.gl_of_laid hL
  refine (plays_law _ _ _ _ _ l1 x y W hG lx1 hx hy (fun wz hz => lives_any wz (hG.below hz hG.big))).mono fun e W' ⟨he, hb⟩ => ?_
  subst he
  exact ⟨_, rfl, law_end hW' (by kernel_rfl) Tryd.underlying4 rfl (by
    have := trodAll_mk3 (Below.trod laidOut (by kernel_rfl) (of_decide_eq_true (by kernel_rfl)) h0k hb (fun x hx => hlt x (by simp [hx]))) (Below.trod laidOut (by kernel_rfl) (of_decide_eq_true (by kernel_rfl)) h1k hb (fun x hx => hlt x (by simp [hx]))) (Below.trod laidOut (by kernel_rfl) (of_decide_eq_true (by kernel_rfl)) h2k hb (fun x hx => hlt x (by simp [hx])))
    rw [Tryd.params3, List.append_assoc]
    exact this) rfl hb⟩
theorem statePlays_holds : Rows.StatePlaysSaid :=
  OpenClaim.holds_of_wide 3 Tryd.f3 rfl rfl rfl rfl rfl rfl rfl ⟨rfl, rfl, rfl, rfl, rfl⟩ rfl rfl rfl rfl rfl (by kernel_rfl) Tryd.func3 (by kernel_rfl)
    (of_decide_eq_true (by kernel_rfl)) (by unfold Func.isWrapper; first | (rw [if_pos (by decide +kernel)]; kernel_rfl) | (rw [if_neg (by decide +kernel)]; exact ⟨rfl, rfl⟩))
    (fun os started H enc _ => statePlays_lifted os started H enc)
theorem statePlays_card : Rows.StatePlaysCardSaid :=
  Claim7.holds_tied_plain_at .later [] [.data, .data] true (true, "4b71e6ffacb577dc556ad6f5b2ec30835d797046ee4baa60e928e1890d2b6b15") false
    statePlays_holds (fun _ h => by cases h) (by kernel_rfl) (fun _ h => by cases h) statePlays_row_tie rfl ⟨rfl, rfl⟩ (by kernel_rfl) rfl
    (fun f fn hf hfn => by
      obtain rfl : f = 3 := Option.some.inj ((show Tryd.prog.funcNamed "umbral/umbrallaw15.StatePlays" = some 3 by kernel_rfl).symm.trans hf) |>.symm
      obtain rfl : fn = Tryd.f3 := (Option.some.inj (Tryd.func3.symm.trans hfn)).symm
      exact ⟨by kernel_rfl, fun j t ht => by
        rw [Tryd.params3] at ht
        have hm : t ∈ [22, 23, 25] := by simpa using Array.mem_of_getElem? ht
        have hall : ([22, 23, 25].all fun u => !Tryd.prog.wantsStandIn u) = true := by kernel_rfl
        exact (show Tryd.prog.wantsStandIn t = false by simpa using List.all_eq_true.1 hall t hm)⟩)
    (by kernel_rfl)
end Go.Proofs.YtebmhadpkncgfaaDoor
