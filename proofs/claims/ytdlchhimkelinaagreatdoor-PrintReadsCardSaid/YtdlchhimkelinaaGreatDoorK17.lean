/-
  The document's reader: the walk of a program. Plain: what the program is that is read. Plain: what the document's reader reads is what the parser reads; no part of it is huge. The walk of the document's Program, where a program is right. The law PrintParses, given the page's example. What is read: t
-/
import Derived.Test.YtdlchhimkelinaaGreatDoorK16
import Derived.Test.YtdlchhimkelinaaGreatDoorK07
import Derived.Test.YtdlchhimkelinaaGreatDoorK08
import Derived.Test.YtdlchhimkelinaaGreatDoorK05
import Derived.Test.YtdlchhimkelinaaGreatDoorK11
set_option maxHeartbeats 6400000
set_option maxRecDepth 100000
namespace Go.Proofs.YtdlchhimkelinaaGreatDoor
open Go.RowKit Go.Sort
attribute [local go_sem] field72_0 field72_1 field72_2 field72_3
theorem alls_top (s : ByteArray) (he : (Tx.alls s).2.2 = 0) : RC (Tx.alls s).1 70000 ∧ Tex (Tx.alls s).1 := ⟨(rc_alls s he).1, (alls_good s he).2.1⟩
theorem kPg_one (x : Pg) : (Pg.cells x).toArray.all (·.oneCell') = true := by simp [Value.oneCell']
theorem refProg_any (s : ByteArray) (w : World) (hs : s.size ≤ 5000000) : Calls Tryz.prog 10 #[.string s] w fun en w' => RfPost s w.heap.size w w' en := by
 have CO : ∀ w', Hid (Calls Tryz.prog 20 #[.string s] w' fun en w'' => ∃ rb : Nat, en = .returned (.tuple #[.pointer (some ⟨rb, 0, none⟩), .int .i64 (Tx.alls s).2.1, .int .i64 (Tx.alls s).2.2]) ∧ Below w'.heap.size w' w'' ∧ w'.heap.size ≤ rb ∧
   ((Tx.alls s).2.2 = 0 → ∃ sb cap, w'.heap.size ≤ sb ∧ RM w'' rb sb cap (Tx.alls s).1 0 70000 (.ok ((), ⟨0, 0, 0⟩) : Pr.Res Unit))) := fun w' => hdn (open_any s w' hs)
 have HTOP := hdn (alls_top s)
 unfold RfPost
 clear hs
 generalize Tx.alls s = al at *
 obtain ⟨l, at0, e0⟩ := al
 simp only at CO HTOP ⊢
 have HCO := hdn CO
 clear CO
 obtain ⟨n, hn⟩ : ∃ n, n = l.length + 1 := ⟨_, rfl⟩
 obtain ⟨R, hR⟩ : ∃ R, R = Pa.rprog l n n [] [] [] ⟨0, 0, 0⟩ := ⟨_, rfl⟩
 rw [← hn, ← hR]
 have HNN := hdn hn
 have HR := hdn hR
 clear hn hR
 have hb : Below w.heap.size w (w.alloc (.cells zPg.toArray 26)) := (Below.refl _ _).alloc (Nat.le_refl _) _
 have HBA := hdn hb
 have HKA : Hid (Bk (w.alloc (.cells zPg.toArray 26)) w.heap.size 26 zPg.toArray) := hdn (heap_alloc_new _ _)
 clear hb
 go_enter Tryz.func10, Tryz.ntmps10
 go_upto_region 1 with fail
 change Code.wp _ _ _ _ (w.alloc (.cells zPg.toArray 26))
 obtain ⟨A, hA⟩ : ∃ A, A = w.heap.size := ⟨_, rfl⟩
 have HA := hdn hA
 rw [← hA] at HKA ⊢
 clear hA
 generalize w.alloc (.cells zPg.toArray 26) = wA at HBA HKA ⊢
 go_wp2_with fail
 refine ((HCO.out wA).out).mono ?_
 rintro en w2 ⟨rb, rfl, hb, hrb, hok⟩
 have HB2 : Hid (Below w.heap.size w w2) := hdn (HBA.out.trans (hb.mono HBA.out.size))
 have HK2 : Hid (Bk w2 A 26 zPg.toArray) := hdn (HKA.out.below hb HKA.out.lt)
 have HRB : Hid (A < rb ∧ w.heap.size ≤ rb) := hdn ⟨Nat.lt_of_lt_of_le HKA.out.lt hrb, Nat.le_trans HBA.out.size hrb⟩
 have HOK := hdn hok
 have HAL : Hid (A < wA.heap.size ∧ w.heap.size ≤ wA.heap.size ∧ wA.heap.size ≤ w2.heap.size) := hdn ⟨HKA.out.lt, HBA.out.size, hb.size⟩
 clear hb hrb hok HBA HKA
 by_cases he : e0 = 0
 case neg =>
  have he' : (e0 != 0) = true := by rw [bne_iff_ne]; exact he
  have HE := hdn he
  clear he
  have r0' : w2.cell? ⟨A, 0, none⟩ = some (.slice none 0 0) := HK2.out.cell 0
  have r1' : w2.cell? ⟨A, 1, none⟩ = some (.slice none 0 0) := HK2.out.cell 1
  have r2' : w2.cell? ⟨A, 2, none⟩ = some (.slice none 0 0) := HK2.out.cell 2
  have f0 := HK2.out.frozen 0
  have f1 := HK2.out.frozen 1
  have f2 := HK2.out.frozen 2
  go_wp2_with fail
  clear r0' r1' r2' f0 f1 f2
  have hF : w2.grownBy (((w2.setCell ⟨A, 0, none⟩ (.slice none 0 0)).setCell ⟨A, 1, none⟩ (.slice none 0 0)).setCell ⟨A, 2, none⟩ (.slice none 0 0)) (some A) := grownBy_tr (grownBy_tr (grownBy_setC _ ⟨A, 0, none⟩ _) (grownBy_setC _ ⟨A, 1, none⟩ _)) (grownBy_setC _ ⟨A, 2, none⟩ _)
  have hK : Bk (((w2.setCell ⟨A, 0, none⟩ (.slice none 0 0)).setCell ⟨A, 1, none⟩ (.slice none 0 0)).setCell ⟨A, 2, none⟩ (.slice none 0 0)) A 26 zPg.toArray := ((HK2.out.set_ 0 _).set_ 1 _).set_ 2 _
  generalize ((w2.setCell ⟨A, 0, none⟩ (.slice none 0 0)).setCell ⟨A, 1, none⟩ (.slice none 0 0)).setCell ⟨A, 2, none⟩ (.slice none 0 0) = wZ at hF hK ⊢
  have e0' : wZ.cell? ⟨A, 0, none⟩ = some (.slice none 0 0) := hK.cell 0
  have e1' : wZ.cell? ⟨A, 1, none⟩ = some (.slice none 0 0) := hK.cell 1
  have e2' : wZ.cell? ⟨A, 2, none⟩ = some (.slice none 0 0) := hK.cell 2
  refine bodyPost_ret (v := .tuple #[.agg zPg.toArray, .int .i64 at0, .int .i64 e0]) (by simp [results, Tryz.results10, go_sem, e0', e1', e2', zPg]) rfl ?_
  exact ⟨pg3 [] [] [], at0, e0, rfl, below_by HB2.out hF (by rw [HA.out]; exact Nat.le_refl _), .inr ⟨HE.out, .inl HE.out⟩⟩
 case pos =>
 subst he
 obtain ⟨C, hT⟩ := HTOP.out rfl
 have HC := hdn C
 have HC2 : Hid (RC l 70001) := hdn (C.more (by omega))
 have HT := hdn hT
 obtain ⟨sb, cap, hsb, hm⟩ := HOK.out rfl
 have HSB : Hid (A < sb) := hdn (by have := HAL.out; omega)
 have HM2 := hdn hm
 clear hT hsb hm HOK
 go_upto_region 4 with fail
 go_upto_region 5 with fail
 change Code.wp _ _ _ _ (w2.alloc (.cells zPg.toArray 26))
 have hm : Below w2.heap.size w2 (w2.alloc (.cells zPg.toArray 26)) := (Below.refl _ _).alloc (Nat.le_refl _) _
 have HP1 : Hid (PC w (w2.alloc (.cells zPg.toArray 26)) (w2.alloc (.cells zPg.toArray 26)) rb sb cap A w2.heap.size zPg zPg l 70001 (.ok ((pg3 [] [] []), ⟨0, 0, 0⟩) : Pr.Res Pg)) := hdn (by
  have h0 := HM2.out.below hm
  exact ⟨⟨h0.1, h0.2⟩, HK2.out.below hm HK2.out.lt, heap_alloc_new _ _, HB2.out.trans (hm.mono HB2.out.size), ⟨by rw [HA.out]; exact Nat.le_refl _, by have := HK2.out.lt; simp; omega, by simp, by have := HK2.out.lt; omega, HB2.out.size, Nat.le_refl _, HRB.out.2, by have := HM2.out.rb_lt; simp; omega, by have := HM2.out.sb_lt; simp; omega, by have := HRB.out; omega, by have := HSB.out; omega, by have := HM2.out.rb_lt; omega, by have := HM2.out.sb_lt; omega⟩⟩)
 clear hm HB2 HK2 HM2
 obtain ⟨S, hS⟩ : ∃ S, S = w2.heap.size := ⟨_, rfl⟩
 rw [← hS] at HP1 ⊢
 clear hS
 generalize w2.alloc (.cells zPg.toArray 26) = w1 at HP1 ⊢
 obtain ⟨j1, z1, hJ1⟩ := qinfSr
 obtain ⟨j2, z2, hJ2⟩ := qinfDc2
 obtain ⟨j3, z3, hJ3⟩ := qinfPc
 have HJ1 := hdn hJ1; have HJ2 := hdn hJ2; have HJ3 := hdn hJ3
 clear hJ1 hJ2 hJ3
 have HLL : Hid (l.length ≤ 70000) := hdn C.len
 clear C
 go_loopg [] (l.length + 1) (fun g wr => ∃ (ss : List Sr) (gs : List Dc) (ps : List Pc) (v1 v2 v3 : Value) (rn : Pr.Res Pg), Hid (g + ss.length + gs.length + ps.length ≤ l.length + 1) ∧ Hid (∀ y u, rn = .ok (y, u) → pg3 ss gs ps = y) ∧ Hid ((Pr.th rn fun y u => Pa.progP l n g y u) = R) ∧ Hid (∀ y u, rn = .ok (y, u) → l.length < g + u.i) ∧ Hid (PC w w1 wr rb sb cap A S zPg [v1, v2, v3] l 70001 rn) ∧ Hid (P3q w1.heap.size wr v1 v2 v3 ss gs ps))
 case atStart => exact ⟨[], [], [], _, _, _, .ok (pg3 [] [] [], ⟨0, 0, 0⟩), hdn (by simp), hdn (fun y u hc => by cases hc; rfl), hdn (by rw [HR.out, HNN.out]; rfl), hdn (by intro a u hc; cases hc; simp), HP1, hdn (P3q.nil _ _)⟩
 case round =>
  clear HP1
  obtain ⟨ss, gs, ps, v1, v2, v3, rn, HGA, HAC, HH, HFUE, HP, HGr⟩ := hrel
  obtain ⟨b1, c1, rfl⟩ := HGr.out.a.shape
  obtain ⟨b2, c2, rfl⟩ := HGr.out.b.shape
  obtain ⟨b3, c3, rfl⟩ := HGr.out.c.shape
  rcases rn with n0 | ⟨y1, u1⟩
  ·obtain ⟨k, b, a, e, he, hk, hb0, hb1, h5⟩ := HP.out.m
   have c5 : wr.cell? ⟨rb, 5, none⟩ = some (.int .i64 e) := h5.blk.cell 5
   have c4 : wr.cell? ⟨rb, 4, none⟩ = some (.int .i64 a) := h5.blk.cell 4
   have he1 : (e == 0) = false := by rw [beq_eq_false_iff_ne]; exact he
   have he2 : (e != 0) = true := by rw [bne_iff_ne]; exact he
   have HE := hdn he
   clear he hk hb0 hb1 h5
   have HRE : Hid (∃ m, R = .error m) := hdn ⟨n0, by rw [← HH.out]; rfl⟩
   have r0' : wr.cell? ⟨A, 0, none⟩ = some (.slice none 0 0) := HP.out.a.cell 0
   have r1' : wr.cell? ⟨A, 1, none⟩ = some (.slice none 0 0) := HP.out.a.cell 1
   have r2' : wr.cell? ⟨A, 2, none⟩ = some (.slice none 0 0) := HP.out.a.cell 2
   go_upto_region 13 with fail
   clear he1 he2
   have d4 : wr.drew.cell? ⟨rb, 4, none⟩ = some (.int .i64 a) := c4
   have d5 : wr.drew.cell? ⟨rb, 5, none⟩ = some (.int .i64 e) := c5
   have f0 : wr.frozen? ⟨A, 0, none⟩ = false := HP.out.a.frozen 0
   have f1 : wr.frozen? ⟨A, 1, none⟩ = false := HP.out.a.frozen 1
   have f2 : wr.frozen? ⟨A, 2, none⟩ = false := HP.out.a.frozen 2
   have g0 : wr.drew.frozen? ⟨A, 0, none⟩ = false := HP.out.a.frozen 0
   have g1 : wr.drew.frozen? ⟨A, 1, none⟩ = false := HP.out.a.frozen 1
   have g2 : wr.drew.frozen? ⟨A, 2, none⟩ = false := HP.out.a.frozen 2
   have q0 : wr.drew.cell? ⟨A, 0, none⟩ = some (.slice none 0 0) := HP.out.a.cell 0
   have q1 : wr.drew.cell? ⟨A, 1, none⟩ = some (.slice none 0 0) := HP.out.a.cell 1
   have q2 : wr.drew.cell? ⟨A, 2, none⟩ = some (.slice none 0 0) := HP.out.a.cell 2
   have HNRA : Hid (A ≠ rb) := hdn (by have := HP.out.b; omega)
   have hF : wr.grownBy (((wr.setCell ⟨A, 0, none⟩ (.slice none 0 0)).setCell ⟨A, 1, none⟩ (.slice none 0 0)).setCell ⟨A, 2, none⟩ (.slice none 0 0)) (some A) := grownBy_tr (grownBy_tr (grownBy_setC _ ⟨A, 0, none⟩ _) (grownBy_setC _ ⟨A, 1, none⟩ _)) (grownBy_setC _ ⟨A, 2, none⟩ _)
   have HF := hdn hF
   have HKZ : Hid (Bk (((wr.setCell ⟨A, 0, none⟩ (.slice none 0 0)).setCell ⟨A, 1, none⟩ (.slice none 0 0)).setCell ⟨A, 2, none⟩ (.slice none 0 0)) A 26 zPg.toArray) := hdn (by
    have h9 : Bk wr A 26 zPg.toArray := HP.out.a
    exact ((h9.set_ 0 _).set_ 1 _).set_ 2 _)
   clear hF
   go_region
   all_goals
    generalize ((wr.setCell ⟨A, 0, none⟩ (.slice none 0 0)).setCell ⟨A, 1, none⟩ (.slice none 0 0)).setCell ⟨A, 2, none⟩ (.slice none 0 0) = wZ at HF HKZ ⊢
    clear r0' r1' r2' f0 f1 f2 g0 g1 g2 q0 q1 q2 d4 d5 c4 c5
    have e0' : wZ.drew.cell? ⟨A, 0, none⟩ = some (.slice none 0 0) := HKZ.out.cell 0
    have e1' : wZ.drew.cell? ⟨A, 1, none⟩ = some (.slice none 0 0) := HKZ.out.cell 1
    have e2' : wZ.drew.cell? ⟨A, 2, none⟩ = some (.slice none 0 0) := HKZ.out.cell 2
    go_wp2_with fail
    refine bodyPost_ret (v := .tuple #[.agg zPg.toArray, .int .i64 a, .int .i64 e]) (by simp [results, Tryz.results10, go_sem, e0', e1', e2', zPg]) rfl ?_
    exact ⟨pg3 [] [] [], a, e, rfl, below_drew (below_by HP.out.g HF.out HP.out.b.1), .inr ⟨HE.out, .inr HRE.out⟩⟩
  have c5 : wr.cell? ⟨rb, 5, none⟩ = some (.int .i64 0) := HP.out.m.1.blk.cell 5
  have HUL : Hid (u1.i < l.length) := hdn HP.out.m.2.1
  have HG0 : Hid (0 < gk) := hdn (by have h1 := HFUE.out y1 u1 rfl; have h2 := HUL.out; omega)
  go_wp2_with fail
  refine (now_m wr _ HP.out.m).mono ?_
  rintro en w11 ⟨hb, z, rfl, hz⟩
  obtain rfl := hz _ _ rfl
  have HP11 := hdn ((HP.out.below hb).okN 70000); have HGr11 := hdn (HGr.out.below hb)
  clear hb hz c5 HP HGr
  by_cases hk : (Pa.sg l u1.i).kind = 0
  ·have hk1 : ((Pa.sg l u1.i).kind != 0) = false := by rw [hk]; rfl
   have HK := hdn hk
   clear hk
   have c5 : w11.cell? ⟨rb, 5, none⟩ = some (.int .i64 0) := HP11.out.m.1.blk.cell 5
   obtain ⟨s1, h1, e1, y1'⟩ := HGr11.out.a.fin (by have := HLL.out; have := HGA.out; show ss.length * 48 ≤ _; omega) M3.fresh
   obtain ⟨s2, h2, e2, y2'⟩ := HGr11.out.b.fin (by have := HLL.out; have := HGA.out; show gs.length * 40 ≤ _; omega) M3.fresh
   obtain ⟨s3, h3, e3, y3'⟩ := HGr11.out.c.fin (by have := HLL.out; have := HGA.out; show ps.length * 104 ≤ _; omega) M3.fresh
   have HS5 : Hid (Bk w11 S 26 (Pg.cells ⟨s1, s2, s3⟩).toArray) := hdn (by have := HP11.out.s; rw [h1, h2, h3] at this; exact this)
   have HRR : Hid (R = .ok (pg3 (s1.l.map qSr.er) (s2.l.map qDc.er) (s3.l.map qPc.er), u1)) := hdn (by rw [← HH.out]; obtain ⟨gj, hgj⟩ : ∃ k, gk = k + 1 := ⟨gk - 1, by have := HG0.out; omega⟩; rw [hgj]; simp only [Pr.th_okk]; rw [Pa.progP_end HK.out, ← HAC.out _ _ rfl, e1, e2, e3]; rfl)
   have HLY : Hid (pgLies (fresh w1.heap.size w11) ⟨s1, s2, s3⟩) := hdn ⟨y1', y2', y3'⟩
   clear h1 h2 h3 e1 e2 e3 y1' y2' y3'
   go_wp2_with (first | ((with_reducible show wpList _ _ _ (Oper.mk (some 74) (Op.load 26 _) _ _ _ _ :: _) _ _); refine wpList_load_bk rfl 26 (.tmp 8) rfl S 26 (Pg.cells ⟨s1, s2, s3⟩).toArray rfl _ HS5.out Tryz.underlying26 rfl size33 ?_) | ((with_reducible show wpList _ _ _ (Oper.mk none (Op.store 26 (Operand.tmp 2) (Operand.tmp 74)) _ _ _ _ :: _) _ _); refine wpList_store_bk rfl 26 (.tmp 2) (.tmp 74) rfl A 26 _ (Pg.cells ⟨s1, s2, s3⟩).toArray rfl rfl HP11.out.a size33 rfl (kPg_one _) ?_; intro wZ hB hF; have HB := hdn hB; have HF := hdn hF; clear hB hF))
   have e0' : wZ.cell? ⟨A, 0, none⟩ = some (.slice s1.p s1.l.length s1.cap) := HB.out.cell 0
   have e1' : wZ.cell? ⟨A, 1, none⟩ = some (.slice s2.p s2.l.length s2.cap) := HB.out.cell 1
   have e2' : wZ.cell? ⟨A, 2, none⟩ = some (.slice s3.p s3.l.length s3.cap) := HB.out.cell 2
   refine bodyPost_ret (v := .tuple #[.agg #[.slice s1.p s1.l.length s1.cap, .slice s2.p s2.l.length s2.cap, .slice s3.p s3.l.length s3.cap], .int .i64 0, .int .i64 0]) (by simp [results, Tryz.results10, go_sem, e0', e1', e2']) rfl ?_
   exact ⟨⟨s1, s2, s3⟩, 0, 0, rfl, below_by HP11.out.g HF.out HP11.out.b.1, .inl ⟨rfl, rfl, ⟨u1, HRR.out⟩, pgLies_ext ((fresh_par HF.out HP11.out.b.2.1).trans (fresh_mono (by have h9 := HP11.out.b; omega) _)) HLY.out⟩⟩
  have hk1 : ((Pa.sg l u1.i).kind != 0) = true := by rw [bne_iff_ne]; exact hk
  have HK := hdn hk
  clear hk
  go_wp2_with fail
  clear hk1
  refine (take_m HC.out ⟨#[115, 116, 114, 117, 99, 116]⟩ (by decide) w11 _ HP11.out.m).mono ?_
  rintro en w12 ⟨g, hh⟩
  have HGr12 := hdn (HGr11.out.par g (by have := HP11.out.b; omega))
  rcases hh with ⟨rfl, y0, u0, hr0, hi, hm⟩ | ⟨rfl, hf, hm⟩
  ·cases hr0
   have HI := hdn hi; have HP12 := hdn (HP11.out.call g hm)
   clear hi hm g HP11 HGr11
   go_upto_region 9 with fail
   have HD := hdn (HP12.out.below (below_drew (Below.refl _ w12))); have HGD := hdn (HGr12.out.below (below_drew (Below.refl _ w12)))
   clear HP12 HGr12
   have s26 : w12.drew.cell? ⟨S, 0, none⟩ = some (.slice b1 ss.length c1) := HD.out.s.cell 0
   go_region_law (first
    | (go_simp; go_at_call 23; (with_reducible refine (struct_m HC.out _ _ HD.out.m).mono ?_); rintro en w13 ⟨g, vv, zz, rfl, ⟨y0, hv, hye, hyl⟩, hx, hm⟩; have hvv : vv = .agg (Sr.cells y0).toArray := hv; clear hv; subst hvv; have HX := hdn hx; have HYE := hdn hye; have HS := hdn (HD.out.call g hm); have HG7 := hdn (HGD.out.par g (by have := HD.out.b; omega)); have HZL : Hid (qSr.R (M3 w1.heap.size (.slice b1 ss.length c1 : Value).ownBlock (.slice b2 gs.length c2 : Value).ownBlock (.slice b3 ps.length c3 : Value).ownBlock w13) y0) := hdn (qSr.ext y0 (M3.of_fresh HD.out.b.2.2.2.2.2.1 (fun q hq => (HGD.out.a.lt q hq).2) (fun q hq => (HGD.out.b.lt q hq).2) (fun q hq => (HGD.out.c.lt q hq).2)) hyl); obtain ⟨ys, hy1, hy2, hy3⟩ := HG7.out.a; have HY1 := hdn hy1; have HY2 := hdn hy2; have HY3 := hdn hy3; have s27 : w13.cell? ⟨S, 0, none⟩ = some (.slice b1 ss.length c1) := HS.out.s.cell 0; have s27a : ∀ ob, (w13.alloc ob).cell? ⟨S, 0, none⟩ = some (.slice b1 ss.length c1) := (fun ob => (World.cell?_alloc_lt _ _ _ HS.out.lt).trans s27); clear g hm hx hy1 hy2 hy3 hye hyl; (try dsimp only))
    | (refine Kd.step_pushR qSr rfl 22 j1 _ HJ1.out (.tmp 44) (.tmp 47) rfl w1.heap.size ss.length _ (.slice b1 ss.length c1) rfl HY2.out HS.out.b.2.2.2.2.2.1 y0 rfl (by have := HLL.out; have := HGA.out; unfold maxLen; omega) (by have := HLL.out; have := HGA.out; show (ss.length + 1) * 48 ≤ _; omega) ?_; intro gg cc w14 ho8 hgr8 hat8; have hown8 : ∀ q, (.slice b1 ss.length c1 : Value).ownBlock = some q → w1.heap.size ≤ q := (fun q hq => (HG7.out.a.lt q hq).1); have HG8 := hdn (HG7.out.push1 HY1.out HY3.out HZL.out ho8 hgr8 hat8); have HS8 := hdn (HS.out.grown hgr8 hown8); have s28 : w14.cell? ⟨S, 0, none⟩ = some (.slice b1 ss.length c1) := HS8.out.s.cell 0; have f28 : w14.frozen? ⟨S, 0, none⟩ = false := HS8.out.s.frozen 0; clear ho8 hgr8 hat8 hown8))
   all_goals
    have HN15 : Hid (PC w w1 (w14.setCell ⟨S, 0, none⟩ (.slice (some ⟨gg, 0, none⟩) (ss.length + 1) cc)) rb sb cap A S zPg [.slice (some ⟨gg, 0, none⟩) (ss.length + 1) cc, .slice b2 gs.length c2, .slice b3 ps.length c3] l 70000 (Pr.th (.ok (y1, u1.go) : Pr.Res Pg) fun y u => Pr.th (Pa.strct l u) fun p v => (.ok (Pa.addS y p, v) : Pr.Res Pg))) := hdn ((HS8.out.set 0 (.slice (some ⟨gg, 0, none⟩) (ss.length + 1) cc)).re (fun h => m_call (g := Pa.addS) h))
    have HE15 := hdn (e_pushG (f := Pa.addS) (x := pg3 ss gs ps) (r := (.ok (y1, u1.go) : Pr.Res Pg)) (fun a u hc => by cases hc; exact HAC.out _ _ rfl) HX.out HYE.out)
    have HGN15 := hdn (HG8.out.par (show w14.grownBy (w14.setCell ⟨S, 0, none⟩ (.slice (some ⟨gg, 0, none⟩) (ss.length + 1) cc)) (some S) from grownBy_setC _ ⟨S, 0, none⟩ _) HS8.out.b.2.2.1)
    clear HS HG7 HG8 HS8 s26 s27 s27a s28 f28 HD HGD HX HYE HZL HY1 HY2 HY3
    generalize w14.setCell ⟨S, 0, none⟩ (.slice (some ⟨gg, 0, none⟩) (ss.length + 1) cc) = w15 at HN15 HGN15 ⊢
    have HNN15 := hdn (HN15.out.re (fun h => h.more))
    go_wp2_with fail
    go_roundg (gk - 1)
    case measure => have := HG0.out; omega
    case rel =>
     obtain ⟨gj, hgj⟩ : ∃ k, gk = k + 1 := ⟨gk - 1, by have := HG0.out; omega⟩
     refine ⟨ss ++ [qSr.er y0], gs, ps, _, _, _, _, hdn ?_, HE15, hdn ?_, hdn ?_, HNN15, HGN15⟩
     ·have := HGA.out; have := HG0.out; simp only [List.length_append, List.length_singleton]; omega
     ·rw [← HH.out, hgj, Nat.add_sub_cancel, Pr.th_okk]; exact (Pa.progP_s HK.out HI.out).symm
     ·intro a u hc; obtain ⟨y, v9, h1, h2⟩ := Pr.th_ok hc; obtain ⟨p9, z9, h3, h4⟩ := Pr.th_ok h2; cases h1; cases h4; have h5 := Pa.strct_go h3; have h6 := HFUE.out _ _ rfl; simp only [Pr.St.go] at h5; omega
  have HF1 : Hid (Pr.is (Pa.ts l) u1.i ⟨#[115, 116, 114, 117, 99, 116]⟩ = false) := hdn (hf _ _ rfl); have HP12 := hdn (HP11.out.call g hm)
  clear hf hm g HP11 HGr11
  go_wp2_with fail
  refine (take_m HC.out ⟨#[118, 111, 105, 100]⟩ (by decide) w12 _ HP12.out.m).mono ?_
  rintro en w16 ⟨g, hh⟩
  have HGr16 := hdn (HGr12.out.par g (by have := HP12.out.b; omega))
  rcases hh with ⟨rfl, y0, u0, hr0, hi, hm⟩ | ⟨rfl, hf, hm⟩
  ·cases hr0
   have HI := hdn hi; have HP16 := hdn (HP12.out.call g hm)
   clear hi hm g HP12 HGr12
   go_upto_region 11 with fail
   have HD := hdn (HP16.out.below (below_drew (Below.refl _ w16))); have HGD := hdn (HGr16.out.below (below_drew (Below.refl _ w16)))
   clear HP16 HGr16
   have s26 : w16.drew.cell? ⟨S, 2, none⟩ = some (.slice b3 ps.length c3) := HD.out.s.cell 2
   go_region_law (first
    | (go_simp; go_at_call 24; (with_reducible refine (proc_m HC.out HT.out (by decide) n (by have := HNN.out; omega) (by have := HNN.out; have := HLL.out; omega) _ _ HD.out.m).mono ?_); rintro en w17 ⟨g, vv, zz, rfl, ⟨y0, hv, hye, hyl⟩, hx, hm⟩; have hvv : vv = .agg (Pc.cells y0).toArray := hv; clear hv; subst hvv; have HX := hdn hx; have HYE := hdn hye; have HS := hdn (HD.out.call g hm); have HG7 := hdn (HGD.out.par g (by have := HD.out.b; omega)); have HZL : Hid (qPc.R (M3 w1.heap.size (.slice b1 ss.length c1 : Value).ownBlock (.slice b2 gs.length c2 : Value).ownBlock (.slice b3 ps.length c3 : Value).ownBlock w17) y0) := hdn (qPc.ext y0 (M3.of_fresh HD.out.b.2.2.2.2.2.1 (fun q hq => (HGD.out.a.lt q hq).2) (fun q hq => (HGD.out.b.lt q hq).2) (fun q hq => (HGD.out.c.lt q hq).2)) hyl); obtain ⟨ys, hy1, hy2, hy3⟩ := HG7.out.c; have HY1 := hdn hy1; have HY2 := hdn hy2; have HY3 := hdn hy3; have s27 : w17.cell? ⟨S, 2, none⟩ = some (.slice b3 ps.length c3) := HS.out.s.cell 2; have s27a : ∀ ob, (w17.alloc ob).cell? ⟨S, 2, none⟩ = some (.slice b3 ps.length c3) := (fun ob => (World.cell?_alloc_lt _ _ _ HS.out.lt).trans s27); clear g hm hx hy1 hy2 hy3 hye hyl; (try dsimp only))
    | (refine Kd.step_pushR qPc rfl 24 j3 _ HJ3.out (.tmp 54) (.tmp 57) rfl w1.heap.size ps.length _ (.slice b3 ps.length c3) rfl HY2.out HS.out.b.2.2.2.2.2.1 y0 rfl (by have := HLL.out; have := HGA.out; unfold maxLen; omega) (by have := HLL.out; have := HGA.out; show (ps.length + 1) * 104 ≤ _; omega) ?_; intro gg cc w18 ho8 hgr8 hat8; have hown8 : ∀ q, (.slice b3 ps.length c3 : Value).ownBlock = some q → w1.heap.size ≤ q := (fun q hq => (HG7.out.c.lt q hq).1); have HG8 := hdn (HG7.out.push3 HY1.out HY3.out HZL.out ho8 hgr8 hat8); have HS8 := hdn (HS.out.grown hgr8 hown8); have s28 : w18.cell? ⟨S, 2, none⟩ = some (.slice b3 ps.length c3) := HS8.out.s.cell 2; have f28 : w18.frozen? ⟨S, 2, none⟩ = false := HS8.out.s.frozen 2; clear ho8 hgr8 hat8 hown8))
   all_goals
    have HN19 : Hid (PC w w1 (w18.setCell ⟨S, 2, none⟩ (.slice (some ⟨gg, 0, none⟩) (ps.length + 1) cc)) rb sb cap A S zPg [.slice b1 ss.length c1, .slice b2 gs.length c2, .slice (some ⟨gg, 0, none⟩) (ps.length + 1) cc] l 70001 (Pr.th (.ok (y1, u1.go) : Pr.Res Pg) fun y u => Pr.th (Pa.rproc l n u) fun p v => (.ok (Pa.addQ y p, v) : Pr.Res Pg))) := hdn ((HS8.out.set 2 (.slice (some ⟨gg, 0, none⟩) (ps.length + 1) cc)).re (fun h => m_call (g := Pa.addQ) h))
    have HE19 := hdn (e_pushG (f := Pa.addQ) (x := pg3 ss gs ps) (r := (.ok (y1, u1.go) : Pr.Res Pg)) (fun a u hc => by cases hc; exact HAC.out _ _ rfl) HX.out HYE.out)
    have HGN19 := hdn (HG8.out.par (show w18.grownBy (w18.setCell ⟨S, 2, none⟩ (.slice (some ⟨gg, 0, none⟩) (ps.length + 1) cc)) (some S) from grownBy_setC _ ⟨S, 2, none⟩ _) HS8.out.b.2.2.1)
    clear HS HG7 HG8 HS8 s26 s27 s27a s28 f28 HD HGD HX HYE HZL HY1 HY2 HY3
    generalize w18.setCell ⟨S, 2, none⟩ (.slice (some ⟨gg, 0, none⟩) (ps.length + 1) cc) = w19 at HN19 HGN19 ⊢
    go_wp2_with fail
    go_roundg (gk - 1)
    case measure => have := HG0.out; omega
    case rel =>
     obtain ⟨gj, hgj⟩ : ∃ k, gk = k + 1 := ⟨gk - 1, by have := HG0.out; omega⟩
     refine ⟨ss, gs, ps ++ [qPc.er y0], _, _, _, _, hdn ?_, HE19, hdn ?_, hdn ?_, HN19, HGN19⟩
     ·have := HGA.out; have := HG0.out; simp only [List.length_append, List.length_singleton]; omega
     ·rw [← HH.out, hgj, Nat.add_sub_cancel, Pr.th_okk]; exact (Pa.progP_p HK.out HF1.out HI.out).symm
     ·intro a u hc; obtain ⟨y, v9, h1, h2⟩ := Pr.th_ok hc; obtain ⟨p9, z9, h3, h4⟩ := Pr.th_ok h2; cases h1; cases h4; have h5 := Pa.rproc_go h3; have h6 := HFUE.out _ _ rfl; simp only [Pr.St.go] at h5; omega
  have HF2 : Hid (Pr.is (Pa.ts l) u1.i ⟨#[118, 111, 105, 100]⟩ = false) := hdn (hf _ _ rfl); have HP16 := hdn (HP12.out.call g hm)
  clear hf hm g HP12 HGr12
  go_upto_region 6 with fail
  have HD := hdn (HP16.out.below (below_drew (Below.refl _ w16))); have HGD := hdn (HGr16.out.below (below_drew (Below.refl _ w16)))
  clear HP16 HGr16
  have s26 : w16.drew.cell? ⟨S, 1, none⟩ = some (.slice b2 gs.length c2) := HD.out.s.cell 1
  go_region_law (first
   | (go_simp; go_at_call 25; (with_reducible refine (decl_m HC.out _ _ HD.out.m).mono ?_); rintro en w20 ⟨g, vv, y0, rfl, hv, hx, hm⟩; have hvv : vv = .agg (Dc.cells y0).toArray := hv; clear hv; subst hvv; have HX := hdn hx; have HYE : Hid (qDc.er y0 = y0) := hdn rfl; have HS := hdn (HD.out.call g hm); have HG7 := hdn (HGD.out.par g (by have := HD.out.b; omega)); have HZL : Hid (qDc.R (M3 w1.heap.size (.slice b1 ss.length c1 : Value).ownBlock (.slice b2 gs.length c2 : Value).ownBlock (.slice b3 ps.length c3 : Value).ownBlock w20) y0) := hdn trivial; obtain ⟨ys, hy1, hy2, hy3⟩ := HG7.out.b; have HY1 := hdn hy1; have HY2 := hdn hy2; have HY3 := hdn hy3; have s27 : w20.cell? ⟨S, 1, none⟩ = some (.slice b2 gs.length c2) := HS.out.s.cell 1; have s27a : ∀ ob, (w20.alloc ob).cell? ⟨S, 1, none⟩ = some (.slice b2 gs.length c2) := (fun ob => (World.cell?_alloc_lt _ _ _ HS.out.lt).trans s27); clear g hm hx hy1 hy2 hy3; (try dsimp only))
   | (refine Kd.step_pushR qDc rfl 23 j2 _ HJ2.out (.tmp 32) (.tmp 35) rfl w1.heap.size gs.length _ (.slice b2 gs.length c2) rfl HY2.out HS.out.b.2.2.2.2.2.1 y0 rfl (by have := HLL.out; have := HGA.out; unfold maxLen; omega) (by have := HLL.out; have := HGA.out; show (gs.length + 1) * 40 ≤ _; omega) ?_; intro gg cc w21 ho8 hgr8 hat8; have hown8 : ∀ q, (.slice b2 gs.length c2 : Value).ownBlock = some q → w1.heap.size ≤ q := (fun q hq => (HG7.out.b.lt q hq).1); have HG8 := hdn (HG7.out.push2 HY1.out HY3.out HZL.out ho8 hgr8 hat8); have HS8 := hdn (HS.out.grown hgr8 hown8); have s28 : w21.cell? ⟨S, 1, none⟩ = some (.slice b2 gs.length c2) := HS8.out.s.cell 1; have f28 : w21.frozen? ⟨S, 1, none⟩ = false := HS8.out.s.frozen 1; clear ho8 hgr8 hat8 hown8))
  all_goals
   have HN22 : Hid (PC w w1 (w21.setCell ⟨S, 1, none⟩ (.slice (some ⟨gg, 0, none⟩) (gs.length + 1) cc)) rb sb cap A S zPg [.slice b1 ss.length c1, .slice (some ⟨gg, 0, none⟩) (gs.length + 1) cc, .slice b3 ps.length c3] l 70000 (Pr.th (.ok (y1, u1) : Pr.Res Pg) fun y u => Pr.th (Pa.variable_ l u) fun p v => (.ok (Pa.addG y p, v) : Pr.Res Pg))) := hdn ((HS8.out.set 1 (.slice (some ⟨gg, 0, none⟩) (gs.length + 1) cc)).re (fun h => m_call (g := Pa.addG) h))
   have HE22 := hdn (e_pushG (f := Pa.addG) (x := pg3 ss gs ps) (r := (.ok (y1, u1) : Pr.Res Pg)) (fun a u hc => by cases hc; exact HAC.out _ _ rfl) HX.out HYE.out)
   have HGN22 := hdn (HG8.out.par (show w21.grownBy (w21.setCell ⟨S, 1, none⟩ (.slice (some ⟨gg, 0, none⟩) (gs.length + 1) cc)) (some S) from grownBy_setC _ ⟨S, 1, none⟩ _) HS8.out.b.2.2.1)
   clear HS HG7 HG8 HS8 s26 s27 s27a s28 f28 HD HGD HX HYE HZL HY1 HY2 HY3
   generalize w21.setCell ⟨S, 1, none⟩ (.slice (some ⟨gg, 0, none⟩) (gs.length + 1) cc) = w22 at HN22 HGN22 ⊢
   go_wp2_with fail
   refine (want_m HC.out ⟨#[59]⟩ (by decide) w22 _ HN22.out.m).mono ?_
   rintro en w23 ⟨rfl, g, hm⟩
   have HN23 := hdn ((HN22.out.call (rm' := Pr.th (Pr.th (.ok (y1, u1) : Pr.Res Pg) fun y u => Pr.th (Pa.variable_ l u) fun p v => (.ok (Pa.addG y p, v) : Pr.Res Pg)) fun y u => Pr.th (Pr.must (Pa.ts l) ⟨#[59]⟩ u) fun _ v => (.ok (y, v) : Pr.Res Pg)) g (m_call (g := fun y _ => y) hm)).re (fun h => h.more))
   have HGN23 := hdn (HGN22.out.par g (by have := HN22.out.b; omega))
   have HE23 : Hid (∀ y u, (Pr.th (Pr.th (.ok (y1, u1) : Pr.Res Pg) fun y u => Pr.th (Pa.variable_ l u) fun p v => (.ok (Pa.addG y p, v) : Pr.Res Pg)) fun y u => Pr.th (Pr.must (Pa.ts l) ⟨#[59]⟩ u) fun _ v => (.ok (y, v) : Pr.Res Pg)) = .ok (y, u) → pg3 ss (gs ++ [qDc.er y0]) ps = y) := hdn (by
    intro y u hc
    obtain ⟨y8, v8, h1, h2⟩ := Pr.th_ok hc
    obtain ⟨y9, v9, h3, h4⟩ := Pr.th_ok h2
    cases h4
    exact HE22.out _ _ h1)
   clear g hm HN22 HGN22 HE22
   go_wp2_with fail
   go_roundg (gk - 1)
   case measure => have := HG0.out; omega
   case rel =>
    obtain ⟨gj, hgj⟩ : ∃ k, gk = k + 1 := ⟨gk - 1, by have := HG0.out; omega⟩
    refine ⟨ss, gs ++ [qDc.er y0], ps, _, _, _, _, hdn ?_, HE23, hdn ?_, hdn ?_, HN23, HGN23⟩
    ·have := HGA.out; have := HG0.out; simp only [List.length_append, List.length_singleton]; omega
    ·rw [← HH.out, hgj, Nat.add_sub_cancel, Pr.th_okk]; exact (Pa.progP_g HK.out HF1.out HF2.out).symm
    ·intro a u hc; obtain ⟨y, v9, h1, h2⟩ := Pr.th_ok hc; obtain ⟨p9, z9, h3, h4⟩ := Pr.th_ok h2; obtain ⟨y8, v8, h5, h6⟩ := Pr.th_ok h1; obtain ⟨p7, z7, h7, h8⟩ := Pr.th_ok h6; cases h5; cases h4; cases h8; have h9 := Pa.avar_fwd h7; have h10 := (Pr.must_fwd h3).1; have h11 := HFUE.out _ _ rfl; omega
end Go.Proofs.YtdlchhimkelinaaGreatDoor
namespace Go.Proofs.YtdlchhimkelinaaGreatDoor
open Go.RowKit Go.Sort
namespace Pr
section
variable {t : List Tk}
end
end Pr
end Go.Proofs.YtdlchhimkelinaaGreatDoor
namespace Go.Proofs.YtdlchhimkelinaaGreatDoor
namespace Pn
open Tx (Lx Clear NoPair Any)
end Pn
end Go.Proofs.YtdlchhimkelinaaGreatDoor
namespace Go.Proofs.YtdlchhimkelinaaGreatDoor
namespace Pn
open Pr (th St Res)
section
variable {t : List Pr.Tk}
end
end Pn
end Go.Proofs.YtdlchhimkelinaaGreatDoor
namespace Go.Proofs.YtdlchhimkelinaaGreatDoor
namespace Pn
open Pr (th St Res)
section
variable {t : List Pr.Tk}
end
end Pn
end Go.Proofs.YtdlchhimkelinaaGreatDoor
namespace Go.Proofs.YtdlchhimkelinaaGreatDoor
open Go.RowKit Go.Sort
namespace Pa
open Pr (St Res th noTm noPth noVl noCd noHd th_ok)
section
variable (l : List Tx.Sg)
end
section
variable {l : List Tx.Sg}
section
variable {rec rec' : St → Res SL} (h : ∀ u, Like SL.er (rec u) (rec' u))
include h
end
end
section
variable (l : List Tx.Sg)
end
end Pa
end Go.Proofs.YtdlchhimkelinaaGreatDoor
namespace Go.Proofs.YtdlchhimkelinaaGreatDoor
open Go.RowKit Go.Sort
namespace Pa
open Pr (St Res th noHd)
variable {l : List Tx.Sg}
end Pa
end Go.Proofs.YtdlchhimkelinaaGreatDoor
namespace Go.Proofs.YtdlchhimkelinaaGreatDoor
open Go.RowKit Go.Sort
namespace Pa
open Pr (St Res th noHd)
variable {l : List Tx.Sg}
end Pa
end Go.Proofs.YtdlchhimkelinaaGreatDoor
namespace Go.Proofs.YtdlchhimkelinaaGreatDoor
open Go.RowKit Go.Sort
namespace Pa
open Pr (St Res th noHd)
variable {l : List Tx.Sg}
end Pa
end Go.Proofs.YtdlchhimkelinaaGreatDoor
namespace Go.Proofs.YtdlchhimkelinaaGreatDoor
open Go.RowKit Go.Sort
namespace Pa
end Pa
section
variable {α : Type} {rb sb cap : Nat} {l : List Tx.Sg} {o : Int} {N : Nat}
end
end Go.Proofs.YtdlchhimkelinaaGreatDoor
namespace Go.Proofs.YtdlchhimkelinaaGreatDoor
namespace Pn
open Pr (th St Res th_ok)
section
variable {t : List Pr.Tk}
end
end Pn
end Go.Proofs.YtdlchhimkelinaaGreatDoor
namespace Go.Proofs.YtdlchhimkelinaaGreatDoor
namespace Pn
open Pr (th St Res th_ok)
section
variable {t : List Pr.Tk}
end
end Pn
end Go.Proofs.YtdlchhimkelinaaGreatDoor
namespace Go.Proofs.YtdlchhimkelinaaGreatDoor
open Go.RowKit Go.Sort
namespace Pa
open Pr (St Res th th_ok)
variable {l : List Tx.Sg}
theorem must_yes {s : ByteArray} {u : St} (hv : Pr.is (ts l) u.i s = true) : Pr.must (ts l) s u = .ok (Pr.sg (ts l) u.i, u.go) := by
 unfold Pr.must; rw [if_pos hv]
theorem rproc_eqo {N : Nat} (C : RC l N) {u : St} (hv : Pr.is (ts l) u.i ⟨#[118, 111, 105, 100]⟩ = true) : Eqo (rproc l ((ts l).length + 1) u.go) (proc l u) := by
 unfold proc rproc
 rw [must_yes hv]
 show Eqo _ (th (name l u.go) _)
 refine Eqo.th (Eqo.rfl' _) fun _ u => Eqo.th (Eqo.rfl' _) fun _ u => Eqo.th (Eqo.rfl' _) fun _ u => Eqo.th (Eqo.rfl' _) fun _ u => ?_
 intro x
 rcases q1 : rstmts l (rstmt l) ((ts l).length + 1) u with n | ⟨a, v⟩
 ·rcases q2 : stmts l ((ts l).length + 1) u with m | ⟨b, v⟩
  ·exact ⟨(fun e => by cases e), (fun e => by cases e)⟩
  ·have hn : ¬ fin l v := fun hf => by
    have := (rstmts_iff C _ u (b, v)).2 ⟨q2, hf⟩
    rw [q1] at this; cases this
   have hm : Pr.is (ts l) v.i ⟨#[125]⟩ = false := by
    rcases q : Pr.is (ts l) v.i ⟨#[125]⟩ with _ | _
    ·rfl
    ·exact absurd (.inr q) hn
   constructor
   ·intro e; cases e
   ·intro e
    change Pr.th (Pr.must (ts l) ⟨#[125]⟩ v) _ = _ at e
    unfold Pr.must at e
    rw [if_neg (by rw [hm]; decide)] at e
    cases e
 ·have := ((rstmts_iff C _ u (a, v)).1 q1).1
  rw [this]
theorem rprog_eqo {N : Nat} (C : RC l N) : ∀ (g : Nat) (ss : List Sr) (gs : List Dc) (ps : List Pc) (u : St), Eqo (rprog l ((ts l).length + 1) g ss gs ps u) (program l g ss gs ps u)
 | 0, _, _, _, _ => fun _ => ⟨(fun e => by cases e), (fun e => by cases e)⟩
 | g + 1, ss, gs, ps, u => by
  unfold rprog program
  by_cases h0 : (sg l u.i).kind = 0
  ·rw [if_pos h0, if_pos h0]; exact Eqo.rfl' _
  ·rw [if_neg h0, if_neg h0]
   by_cases h1 : Pr.is (ts l) u.i ⟨#[115, 116, 114, 117, 99, 116]⟩ = true
   ·rw [if_pos h1, if_pos h1]
    have hs : Eqo (strct l u.go) (structure_ l u) := by
     rw [structure_strct, must_yes h1]; exact Eqo.rfl' _
    exact Eqo.th hs fun x v => rprog_eqo C g _ _ _ v
   ·rw [if_neg h1, if_neg h1]
    by_cases h2 : Pr.is (ts l) u.i ⟨#[118, 111, 105, 100]⟩ = true
    ·rw [if_pos h2, if_pos h2]
     exact Eqo.th (rproc_eqo C h2) fun x v => rprog_eqo C g _ _ _ v
    ·rw [if_neg h2, if_neg h2]
     exact Eqo.th (Eqo.rfl' _) fun x v => rprog_eqo C g _ _ _ v
/-- What the document's reader reads is what the parser reads. -/
theorem rprog_pr {N : Nat} (C : RC l N) {P : Pg} {u : St} (h : rprog l (l.length + 1) (l.length + 1) [] [] [] ⟨0, 0, 0⟩ = .ok (P, u)) : Pr.program (ts l) ((ts l).length + 1) [] [] [] ⟨0, 0, 0⟩ = .ok (P.er, u) := by
 have hl : (ts l).length = l.length := by simp [ts]
 have h1 := (rprog_eqo C ((ts l).length + 1) [] [] [] ⟨0, 0, 0⟩ (P, u)).1 (by rw [hl]; exact h)
 have h2 := program_er l ((ts l).length + 1) [] [] [] ⟨0, 0, 0⟩
 rw [h1] at h2
 simp only [List.map_nil] at h2
 rcases q : Pr.program (ts l) ((ts l).length + 1) [] [] [] ⟨0, 0, 0⟩ with n | ⟨a, v⟩
 ·rw [q] at h2; exact h2.elim
 ·rw [q] at h2
  obtain ⟨rfl, rfl⟩ := h2
  rfl
end Pa
end Go.Proofs.YtdlchhimkelinaaGreatDoor
namespace Go.Proofs.YtdlchhimkelinaaGreatDoor
open Go.RowKit Go.Sort
end Go.Proofs.YtdlchhimkelinaaGreatDoor
namespace Go.Proofs.YtdlchhimkelinaaGreatDoor
open Go.RowKit Go.Sort
theorem tight_of_er {M : Nat} : ∀ l : SL, Pn.tight M l.er → Pn.tight M l
 | .nil, _ => trivial
 | .cons h _ _ t _ _ e r, g => by
  refine ⟨?_, tight_of_er t g.2.1, tight_of_er e g.2.2.1, tight_of_er r g.2.2.2⟩
  have := g.1
  rwa [show (h.er).args.l = h.args.l.map Vl.er from rfl, List.length_map] at this
theorem tightP_of_er {M : Nat} {p : Pg} (g : Pn.tightP M p.er) : Pn.tightP M p := by
 obtain ⟨⟨g1, g2⟩, g3, g4, g5⟩ := g
 refine ⟨⟨by rwa [show p.er.structs.l = p.structs.l.map Sr.er from rfl, List.length_map] at g1, fun x hx => ?_⟩, by rwa [show p.er.globals.l = p.globals.l.map Dc.er from rfl, List.length_map] at g3, by rwa [show p.er.procs.l = p.procs.l.map Pc.er from rfl, List.length_map] at g4, fun x hx => ?_⟩
 ·have := g2 x.er (List.mem_map_of_mem hx)
  rwa [show x.er.fields.l = x.fields.l.map Dc.er from rfl, List.length_map] at this
 ·obtain ⟨h1, h2, h3⟩ := g5 x.er (List.mem_map_of_mem hx)
  exact ⟨by rwa [show x.er.params.l = x.params.l.map Dc.er from rfl, List.length_map] at h1, by rwa [show x.er.locals_.l = x.locals_.l.map Dc.er from rfl, List.length_map] at h2, tight_of_er _ h3⟩
end Go.Proofs.YtdlchhimkelinaaGreatDoor
namespace Go.Proofs.YtdlchhimkelinaaGreatDoor
open Go.RowKit Go.Sort
/-- A text is read as this tree. -/
def RdOk (s : ByteArray) (P : Pg) : Prop := (Tx.alls s).2.2 = 0 ∧ ∃ u, Pr.program ((Tx.alls s).1.map Pr.tk) (((Tx.alls s).1.map Pr.tk).length + 1) [] [] [] ⟨0, 0, 0⟩ = .ok (P, u)
theorem RdOk.one {s : ByteArray} {P Q : Pg} (h : RdOk s P) (k : RdOk s Q) : P = Q := by
 obtain ⟨_, u, h⟩ := h
 obtain ⟨_, v, k⟩ := k
 rw [h] at k
 injection k with k; injection k
theorem RdOk.right {s : ByteArray} {P : Pg} (h : RdOk s P) : Pn.right P = true := by
 obtain ⟨h0, u, h⟩ := h
 exact Pn.program_gt (Pn.alls_gt s h0) _ _ _ _ _ h (by simp) (by simp) (by simp) rfl rfl (by show (0 : Int) ≤ 400; decide)
theorem RdOk.tight {s : ByteArray} {P : Pg} (h : RdOk s P) (hs : s.size ≤ 8000) : Pn.tightP 8010 P := by
 obtain ⟨h0, u, h⟩ := h
 have hal := alls_len s
 refine Pn.tightP_mono ?_ (Pn.program_tight _ _ _ _ _ h (by simp) (by simp) (by simp) (by simp) (by simp))
 rw [List.length_map]; omega
theorem RdOk.cs {s : ByteArray} {P : Pg} (h : RdOk s P) : Pn.cs (Pn.progK P) ≤ 10 * s.size := by
 obtain ⟨h0, u, h⟩ := h
 have k := Pn.program_wt (Pn.alls_gt s h0) (Pn.alls_z s h0) _ _ _ _ _ h
 have k1 := Pn.wt_le (Tx.alls s).1 u.i
 have k2 := Pn.chain_sz _ s 0 (Nat.zero_le _) (Tx.alls_chain s h0)
 have k' : Pn.cs (Pn.progK P) + 0 ≤ Pn.wt ((Tx.alls s).1.map Pr.tk) u.i + 0 := k
 omega
theorem RdOk.print {p : Pg} (h : Pn.right p = true) {s : ByteArray} (hs : s.data.toList = Pn.progT p) (hz : s.size ≤ 65536) : RdOk s p.er := by
 simp only [Pn.right, Bool.and_eq_true, decide_eq_true_eq, List.all_eq_true] at h
 obtain ⟨⟨h1, h2⟩, h3⟩ := h
 obtain ⟨e1, e2⟩ := Pn.alls_prog h1 hs hz
 simp only [Pn.okProg, Bool.and_eq_true] at h1
 have ht : (Tx.alls s).1.map Pr.tk = (Pn.progK p ++ Pn.endK).map Pn.toTk := by
  have : (Tx.alls s).1.map Pr.tk = ((Tx.alls s).1.map Tx.key).map Pn.toTk := by rw [List.map_map]; rfl
  rw [this, e2]; rfl
 have hl : p.structs.l.length + p.globals.l.length + p.procs.l.length ≤ (Pn.progK p).length := by
  have a := Pn.structs_len p.structs.l (Pn.fieldsK p.globals.l (Pn.procsK p.procs.l))
  have b := Pn.fieldsK_len p.globals.l (Pn.procsK p.procs.l)
  have c := Pn.procsK_len p.procs.l
  unfold Pn.progK; omega
 obtain ⟨i, q1, q2⟩ := Pn.prog_structs (t := (Pn.progK p ++ Pn.endK).map Pn.toTk) h1.1.2 h1.2 h2 h3 p.structs.l (((Pn.progK p ++ Pn.endK).map Pn.toTk).length + 1) [] 0 h1.1.1 (by rw [List.length_map, List.length_append]; omega)
  (by unfold Pn.Rs; rw [List.drop_zero]; unfold Pn.progK; rw [Pn.structsK_app, Pn.fieldsK_app])
 refine ⟨e1, ⟨i, 0, Pn.cntP p.procs.l⟩, ?_⟩
 rw [ht, q1]
 rfl
/- Addresses are of no weight. -/
theorem args_pl (l : List Vl) : (l.map Vl.pl).map Vl.er = l.map Vl.er := by rw [List.map_map]; rfl
theorem hd_pl (h : Hd) : h.pl.er = h.er := by
 show (⟨h.kind, 0, h.place.er, h.value.er, h.cond.er, h.name, ⟨none, 0, (h.args.l.map Vl.pl).map Vl.er⟩, h.both⟩ : Hd) = _
 rw [args_pl]; rfl
theorem sl_pl : ∀ l : SL, l.pl.er = l.er
 | .nil => rfl
 | .cons h _ _ t _ _ e r => by simp only [SL.pl, SL.er, hd_pl, sl_pl t, sl_pl e, sl_pl r]
theorem pc_pl (x : Pc) : x.pl.er = x.er := by
 show (⟨x.name, 0, 0, ⟨none, 0, x.params.l.map Dc.er⟩, ⟨none, 0, x.locals_.l.map Dc.er⟩, none, 0, x.body.pl.er⟩ : Pc) = _
 rw [sl_pl]; rfl
theorem pg_pl (p : Pg) : (pg3 (p.structs.l.map qSr.er) (p.globals.l.map qDc.er) (p.procs.l.map qPc.er)).er = p.er := by
 show (⟨⟨none, 0, (p.structs.l.map qSr.er).map Sr.er⟩, ⟨none, 0, (p.globals.l.map qDc.er).map Dc.er⟩, ⟨none, 0, (p.procs.l.map qPc.er).map Pc.er⟩⟩ : Pg) = _
 rw [List.map_map, List.map_map, List.map_map]
 have e1 : Sr.er ∘ qSr.er = Sr.er := rfl
 have e2 : Dc.er ∘ qDc.er = Dc.er := rfl
 have e3 : Pc.er ∘ qPc.er = Pc.er := by funext x; exact pc_pl x
 rw [e1, e2, e3]; rfl
theorem progK_er (p : Pg) (h : Pn.right p = true) (n : Nat) (hc : Pn.cs (Pn.progK p.er) ≤ n) : Pn.cs (Pn.progK p) ≤ n := by
 have e : Pn.progK p = Pn.progK p.er := by
  have ho : Pn.okProg p = true := by unfold Pn.right at h; simp only [Bool.and_eq_true] at h; exact h.1.1
  have ho2 : Pn.okProg p.er = true := by
   have h2 := h
   rw [← Pn.right_er] at h2
   unfold Pn.right at h2; simp only [Bool.and_eq_true] at h2; exact h2.1.1
  obtain ⟨m, c1, k1⟩ := Pn.prog_chain ho (t := bt (Pn.progT p)) rfl
  obtain ⟨m2, c2, k2⟩ := Pn.prog_chain ho2 (t := bt (Pn.progT p)) (by rw [Pn.progT_er]; rfl)
  have hm : m = m2 := by
   have key : ∀ (a b : List Tx.Sg) (s : ByteArray) (i : Nat), Tx.Chain s i a → Tx.Chain s i b → a = b := by
    intro a
    induction a with
    | nil => intro b s i h; exact h.elim
    | cons x a ih =>
     intro b s i h k
     cases b with
     | nil => exact k.elim
     | cons y b =>
      obtain ⟨_, rfl, h1⟩ := h
      obtain ⟨_, rfl, k1⟩ := k
      rcases h1 with ⟨z, rfl⟩ | ⟨z, h1⟩
      ·rcases k1 with ⟨_, rfl⟩ | ⟨z2, _⟩
       ·rfl
       ·exact absurd z z2
      ·rcases k1 with ⟨z2, _⟩ | ⟨_, k1⟩
       ·exact absurd z2 z
       ·rw [ih b s _ h1 k1]
   exact key _ _ _ _ c1 c2
  rw [hm, k2] at k1
  exact (List.append_cancel_right k1).symm
 rw [e]; exact hc
/-- The document's reader: the tree, if it is one; else an error. -/
theorem refP_any (s : ByteArray) (w : World) (hs : s.size ≤ 5000000) : Calls Tryz.prog 10 #[.string s] w fun en w' => ∃ (y : Pg) (at_ e : Int), en = .returned (.tuple #[.agg (Pg.cells y).toArray, .int .i64 at_, .int .i64 e]) ∧ Below w.heap.size w w' ∧
  ((e = 0 ∧ RdOk s y.er ∧ pgLies w' y) ∨ (e ≠ 0 ∧ ∀ P, ¬ RdOk s P)) := by
 refine (refProg_any s w hs).mono fun en w' h => ?_
 obtain ⟨p, at_, e, he, hb, h⟩ := h
 refine ⟨p, at_, e, he, hb, ?_⟩
 rcases h with ⟨e0, a0, ⟨u, hr⟩, hl⟩ | ⟨e0, h⟩
 ·left
  obtain ⟨C, _, _⟩ := rc_alls s a0
  have h1 := Pa.rprog_pr C hr
  rw [pg_pl] at h1
  exact ⟨e0, ⟨a0, u, h1⟩, pgLies_ext (Ext.mask _ _) hl⟩
 ·right
  refine ⟨e0, fun P hP => ?_⟩
  obtain ⟨a0, u, h1⟩ := hP
  rcases h with h | ⟨n, h⟩
  ·exact h a0
  ·obtain ⟨C, _, _⟩ := rc_alls s a0
   have hl : (Pa.ts (Tx.alls s).1).length = (Tx.alls s).1.length := by simp [Pa.ts]
   have h2 := Pa.program_er (Tx.alls s).1 ((Pa.ts (Tx.alls s).1).length + 1) [] [] [] ⟨0, 0, 0⟩
   simp only [List.map_nil] at h2
   have h3 : Pr.program (Pa.ts (Tx.alls s).1) ((Pa.ts (Tx.alls s).1).length + 1) [] [] [] ⟨0, 0, 0⟩ = .ok (P, u) := h1
   rcases q : Pa.program (Tx.alls s).1 ((Pa.ts (Tx.alls s).1).length + 1) [] [] [] ⟨0, 0, 0⟩ with k | ⟨a, v⟩
   ·rw [q, h3] at h2; exact h2.elim
   ·have h4 := (Pa.rprog_eqo C ((Pa.ts (Tx.alls s).1).length + 1) [] [] [] ⟨0, 0, 0⟩ (a, v)).2 q
    rw [hl, h] at h4
    cases h4
end Go.Proofs.YtdlchhimkelinaaGreatDoor
namespace Go.Proofs.YtdlchhimkelinaaGreatDoor
open Go.RowKit Go.Sort
def tLine : ByteArray := ⟨#[120, 32, 61, 32, 110, 117, 108, 108, 59, 10]⟩
theorem pcs_built (L : Nat) : Tryz.prog.built 40 [(0, .string nP), (5, .slice (some ⟨L, 0, none⟩) 1 1)] = some (pcs L).toArray := by kernel_rfl
theorem sx_built : Tryz.prog.built 54 [(0, .int .i64 1), (2, .agg #[.string nX, .int .i64 0, .slice none 0 0])] = some sx.cells.toArray := by kernel_rfl
/-- A struct literal of two parts. -/
theorem wpList_build2 {P : Program} {ops : Array Oper} {rest : List Oper} {op : Oper} {a : Act} {w : World} {Q : Exit → Act → World → Prop} (hg : op.guard = none) (t : TypeId) (i j : Nat) (x y : Operand) (u v : Value) (ho : op.op = .build t #[(i, x), (j, y)])
  (hx : a.eval x = u) (hy : a.eval y = v) (cells : Array Value) (hf : P.built t [(i, u), (j, v)] = some cells)
  (h : wpList P ops Q rest (a.put op.dst (.agg cells)) w) : wpList P ops Q (op :: rest) a w :=
 wpList_plain hg fun K hK => by
  unfold Oper.wp execOp
  have hr := run_build (P := P) w t #[(i, u), (j, v)] cells (by simpa using hf)
  simp only [ho, Sem.run_bind, List.map_toArray, List.map_cons, List.map_nil, hx, hy, hr, Result.andThen_ok]
  exact hK _ _ (by simpa using h)
theorem stmts_sx (L : Nat) (w : World) (hg : Gl w) (hL : L < w.heap.size) (hr : w.rangeAt L 0 sx.cells) :
  Calls Tryz.prog 15 #[.slice (some ⟨L, 0, none⟩) 1 1] w fun e w' => e = .returned (.tuple #[.string tLine, .int .i64 0]) ∧ Below w.heap.size w w' := by
 obtain ⟨i1, z1, q1, q2, q3⟩ := infoParts info40
 have HI := hdn q1; have HI2 := hdn q2; have HI3 := hdn q3
 have HG := hdn hg; have HR := hdn hr; have HL := hdn hL
 obtain ⟨cs, hcs⟩ : ∃ cs, cs = (pcs L).toArray := ⟨_, rfl⟩
 have HBL : Hid (Tryz.prog.built 40 [(0, .string nP), (5, .slice (some ⟨L, 0, none⟩) 1 1)] = some cs) := hdn (by rw [hcs]; exact pcs_built L)
 have HZ : Hid (6 = cs.size) := hdn (by rw [hcs]; rfl)
 obtain ⟨wA, hwA⟩ : ∃ wA : World, wA = w.alloc (.cells cs 40) := ⟨_, rfl⟩
 have HBA : Hid (Below w.heap.size w wA) := hdn (by rw [hwA]; exact (Below.refl _ _).alloc (Nat.le_refl _) _)
 have HKA : Hid (Bk wA w.heap.size 40 cs) := hdn (by rw [hwA]; exact heap_alloc_new _ _)
 have HW := hdn hwA
 have CR := rightP_sx w.heap.size L wA (hg.below HBA.out hg.two) (Nat.lt_of_lt_of_le hL HBA.out.size) HKA.out.lt (rangeAt_below hr HBA.out) (by have := HKA.out.range; rw [hcs] at this; exact this)
 clear hg hr hL hcs hwA q1 q2 q3
 go_enter Tryz.func15, Tryz.ntmps15
 go_upto_region 3 with (first | ((with_reducible show wpList _ _ _ (Oper.mk (some 6) _ _ _ _ _ :: _) _ _); refine wpList_build2 rfl 40 0 5 _ (.tmp 5) (.string nP) (.slice (some ⟨L, 0, none⟩) 1 1) rfl rfl rfl cs HBL.out ?_) | ((with_reducible show wpList _ _ _ (Oper.mk (some 7) _ _ _ _ _ :: _) _ _); refine wpList_one rfl 24 40 (.tmp 6) rfl cs rfl Tryz.underlying24 i1 z1 6 HI.out HI2.out HI3.out (by omega) (by omega) HZ.out ?_; rw [← HW.out]) | (go_at_call 9; refine CR.mono ?_; rintro e w1 ⟨rfl, hb⟩; have HB1 := hdn (HBA.out.trans (hb.mono HBA.out.size)); clear hb))
 clear CR
 obtain ⟨wB, hwB⟩ : ∃ wB : World, wB = w1.alloc (.cells #[.pointer none, .slice none 0 0, .int .i64 0] 61) := ⟨_, rfl⟩
 have HP0 : Hid (Pb w1.heap.size w1.heap.size [] ((0 : Nat) : Int) wB) := hdn (by rw [hwB]; exact Pb.new w1)
 have HBB : Hid (Below w1.heap.size w1 wB) := hdn (by rw [hwB]; exact (Below.refl _ _).alloc (Nat.le_refl _) _)
 have HBX : Hid (Below w.heap.size w wB) := hdn (HB1.out.trans (HBB.out.mono HB1.out.size))
 go_upto_region 4 with fail
 rw [← hwB]
 clear hwB
 obtain ⟨b, hb0⟩ : ∃ b, b = w1.heap.size := ⟨_, rfl⟩
 have CE := eachSt_sx w1.heap.size w1.heap.size [] 0 L 0 1 wB HP0.out (by decide) (by decide) HBB.out.size (rangeAt_below HR.out HBX.out)
 have HSZ := hdn HB1.out.size
 have HS : Hid (∀ w', Pb w1.heap.size w1.heap.size ([] ++ Pn.pad 0 ++ tSx ++ [10]) ((0 : Nat) : Int) w' → Calls Tryz.prog 18 #[.pointer (some ⟨w1.heap.size, 0, none⟩)] w' fun e w'' => e = .returned (.string tLine) ∧ Below w1.heap.size w' w'') := hdn (fun w' h => string_any _ _ _ _ w' h (by decide))
 rw [← hb0] at CE HS HSZ ⊢
 clear hb0
 go_wp2_with (first | (go_at_call 34; refine CE.mono ?_; rintro e w2 ⟨rfl, h2, hb⟩; have HP2 := hdn h2; have HB2 := hdn (Below.mono hb HSZ.out); clear h2 hb) | (go_at_call 18; refine (HS.out _ HP2.out).mono ?_; rintro e w3 ⟨rfl, hb⟩; have HB3 := hdn (HB2.out.trans (hb.mono HSZ.out)); clear hb))
 refine bodyPost_ret (results_tmp2 rfl _ _ _) rfl ?_
 exact ⟨rfl, HBX.out.trans HB3.out⟩
/-- The page's example. -/
theorem lives_any (w : World) (hg : Gl w) : Calls Tryz.prog 7 #[] w fun e w' => e = .returned (.bool true) ∧ Below w.heap.size w w' := by
 obtain ⟨i1, z1, q1, q2, q3⟩ := infoParts info54
 have HI := hdn q1; have HI2 := hdn q2; have HI3 := hdn q3
 obtain ⟨cs, hcs⟩ : ∃ cs, cs = sx.cells.toArray := ⟨_, rfl⟩
 have HBL : Hid (Tryz.prog.built 54 [(0, .int .i64 1), (2, .agg #[.string nX, .int .i64 0, .slice none 0 0])] = some cs) := hdn (by rw [hcs]; exact sx_built)
 have HZ : Hid (48 = cs.size) := hdn (by rw [hcs]; rfl)
 obtain ⟨wA, hwA⟩ : ∃ wA : World, wA = w.alloc (.cells cs 54) := ⟨_, rfl⟩
 have HBA : Hid (Below w.heap.size w wA) := hdn (by rw [hwA]; exact (Below.refl _ _).alloc (Nat.le_refl _) _)
 have HKA : Hid (Bk wA w.heap.size 54 cs) := hdn (by rw [hwA]; exact heap_alloc_new _ _)
 have HW := hdn hwA
 have CR := stmts_sx w.heap.size wA (hg.below HBA.out hg.two) HKA.out.lt (by have := HKA.out.range; rw [hcs] at this; exact this)
 clear hg hcs hwA q1 q2 q3
 have HT : Hid ((tLine.toList == (⟨#[120, 32, 61, 32, 110, 117, 108, 108, 59, 10]⟩ : ByteArray).toList) = true) := hdn (by rw [beq_iff_eq]; rfl)
 go_enter Tryz.func7, Tryz.ntmps7
 go_wp2_with (first | ((with_reducible show wpList _ _ _ (Oper.mk (some 5) _ _ _ _ _ :: _) _ _); refine wpList_build2 rfl 54 0 2 _ (.tmp 4) (.int .i64 1) (.agg #[.string nX, .int .i64 0, .slice none 0 0]) rfl rfl rfl cs HBL.out ?_) | ((with_reducible show wpList _ _ _ (Oper.mk (some 6) _ _ _ _ _ :: _) _ _); refine wpList_one rfl 38 54 (.tmp 5) rfl cs rfl Tryz.underlying38 i1 z1 48 HI.out HI2.out HI3.out (by omega) (by omega) HZ.out ?_; rw [← HW.out]) | (go_at_call 15; refine CR.mono ?_; rintro e w1 ⟨rfl, hb⟩; have HB1 := hdn (HBA.out.trans (hb.mono HBA.out.size)); clear hb))
 go_ret
 exact ⟨by first | rfl | (simp [tLine]), HB1.out⟩
end Go.Proofs.YtdlchhimkelinaaGreatDoor
namespace Go.Proofs.YtdlchhimkelinaaGreatDoor
open Go.RowKit Go.Sort
/-- What print.Program wants of a tree. -/
def Fit (y : Pg) : Prop := Pn.right y = true ∧ Pn.tightP 8010 y ∧ Pn.cs (Pn.progK y) ≤ 65000
theorem Fit.of {s : ByteArray} {y : Pg} (h : RdOk s y.er) (hs : s.size ≤ 6000) : Fit y := by
 have h1 : Pn.right y = true := by rw [← Pn.right_er]; exact h.right
 exact ⟨h1, tightP_of_er (h.tight (by omega)), progK_er y h1 65000 (by have := h.cs; omega)⟩
theorem Fit.er {s : ByteArray} {y z : Pg} (h : RdOk s y.er) (hs : s.size ≤ 6000) (e : z.er = y.er) : Fit z := Fit.of (s := s) (by rw [e]; exact h) hs
/-- The law PrintReads. -/
theorem reads_any (s : ByteArray) (w : World) (hG : Gp w) : Calls Tryz.prog 4 #[.string s] w fun e w' => e = .returned (.bool true) ∧ Below w.heap.size w w' := by
 have HG := hdn hG
 have HLV : Hid (∀ w', Below w.heap.size w w' → Calls Tryz.prog 7 #[] w' fun e w'' => e = .returned (.bool true) ∧ Below w'.heap.size w' w'') := hdn (fun w' hb => lives_any w' (HG.out.gl.below hb HG.out.gl.two))
 clear hG
 by_cases hl : 6000 < s.size
 ·have hl' : (6000 : Int) < (s.size : Int) := by omega
  have CL := hdn (HLV.out w (Below.refl _ _))
  go_enter Tryz.func4, Tryz.ntmps4
  go_wp2_with (go_at_call 7; refine CL.out.mono ?_; rintro e w' ⟨rfl, hb⟩; have HB1 := hdn hb; clear hb)
  go_ret
  exact ⟨rfl, HB1.out⟩
 ·have h6 : s.size ≤ 6000 := by omega
  have hl' : ¬ (6000 : Int) < (s.size : Int) := by omega
  have HR1 := hdn (refP_any s w (by omega))
  clear hl
  go_enter Tryz.func4, Tryz.ntmps4
  go_wp2_with fail
  refine (HR1.out).mono ?_
  rintro en w2 ⟨y1, p1, e1, rfl, hb1, hor⟩
  have HB1 := hdn hb1
  obtain ⟨c1, hc1⟩ : ∃ c1, c1 = (Pg.cells y1).toArray := ⟨_, rfl⟩
  have HSI : Hid ((Tryz.prog.info? 26).map (·.size) = some c1.size) := hdn (by rw [hc1]; exact size26)
  have HZ : Hid (3 = c1.size) := hdn (by rw [hc1]; rfl)
  have HON : Hid (c1.all (·.oneCell') = true) := hdn (by rw [hc1]; simp [Pg.cells, Value.oneCell'])
  rw [← hc1]
  obtain ⟨wA, hwA⟩ : ∃ wA : World, wA = w2.alloc (.cells c1 26) := ⟨_, rfl⟩
  have HBA : Hid (Below w2.heap.size w2 wA) := hdn (by rw [hwA]; exact (Below.refl _ _).alloc (Nat.le_refl _) _)
  have HKA : Hid (Bk wA w2.heap.size 26 c1) := hdn (by rw [hwA]; exact heap_alloc_new _ _)
  have HWA := hdn hwA
  have HB2 : Hid (Below w.heap.size w wA) := hdn (HB1.out.trans (HBA.out.mono HB1.out.size))
  clear hb1 hwA HR1
  rcases hor with ⟨rfl, hok, hly⟩ | ⟨hne, _⟩
  ·have HOK := hdn hok
   have HLA : Hid (pgLies wA y1) := hdn (pgLies_below hly HBA.out)
   have HF1 := hdn (Fit.of hok h6)
   have HC1 := hdn hc1
   clear hok hly hc1
   go_upto_region 6 with ((with_reducible show wpList _ _ _ (Oper.mk none (Op.store 26 _ _) _ _ _ _ :: _) _ _); refine wpList_store_new rfl 26 (.tmp 3) (.tmp 20) rfl _ c1 rfl rfl HSI.out HZ.out HON.out ?_; rw [← HWA.out])
   obtain ⟨A, hA⟩ : ∃ A, A = w2.heap.size := ⟨_, rfl⟩
   rw [← hA] at HKA ⊢
   clear hA
   obtain ⟨tx, htx⟩ : ∃ tx, tx = bt (Pn.progT y1) := ⟨_, rfl⟩
   have HTX := hdn htx
   have htz : tx.size ≤ 5000000 := by
    have := Pn.ln_prog HF1.out.1
    have := HF1.out.2.2
    rw [htx, bt_size]; omega
   have CP : Hid (∀ w', Below wA.heap.size wA w' → Calls Tryz.prog 8 #[.agg c1] w' fun e w'' => e = .returned (.tuple #[.string tx, .int .i64 0]) ∧ Below w'.heap.size w' w'') := hdn (fun w' hb => by
    rw [HC1.out, HTX.out]
    exact printP_any y1 w' (HG.out.go (HB2.out.trans (hb.mono HB2.out.size))) (pgLies_below HLA.out hb) HF1.out.1 HF1.out.2.1 HF1.out.2.2)
   have CR : Hid (∀ w', Below wA.heap.size wA w' → Calls Tryz.prog 9 #[.agg c1] w' fun e w'' => e = .returned (.bool true) ∧ Below w'.heap.size w' w'') := hdn (fun w' hb => by
    rw [HC1.out]
    exact rightX_any y1 w' (HG.out.go (HB2.out.trans (hb.mono HB2.out.size))) (pgLies_below HLA.out hb) HF1.out.1 HF1.out.2.1 HF1.out.2.2)
   clear htx
   go_upto_region 9 with (first | ((with_reducible show wpList _ _ _ (Oper.mk (some 27) _ _ _ _ _ :: _) _ _); refine wpList_load_bk rfl 26 (.tmp 3) rfl A 26 c1 rfl _ HKA.out Tryz.underlying26 rfl HSI.out ?_) | (go_at_call 8; refine (CP.out _ (Below.refl _ _)).mono ?_; rintro e w3 ⟨rfl, hb⟩; have HB3 := hdn hb; have HK3 := hdn (HKA.out.below hb HKA.out.lt); clear hb) | ((with_reducible show wpList _ _ _ (Oper.mk (some 34) _ _ _ _ _ :: _) _ _); refine wpList_load_arr_g 26 (.tmp 3) rfl rfl A 0 rfl c1 _ HK3.out.range Tryz.underlying26 rfl HSI.out ?_) | (go_at_call 9; refine (CR.out _ HB3.out).mono ?_; rintro e w4 ⟨rfl, hb⟩; have HB4 := hdn (HB3.out.trans (hb.mono HB3.out.size)); clear hb))
   have HB5 : Hid (Below w.heap.size w w4) := hdn (HB2.out.trans (HB4.out.mono HB2.out.size))
   by_cases hz : 65536 < tx.size
   ·have hz' : (65536 : Int) < (tx.size : Int) := by omega
    have CL := hdn (HLV.out w4 HB5.out)
    go_wp2_with (go_at_call 7; refine CL.out.mono ?_; rintro e w5 ⟨rfl, hb⟩; have HB6 := hdn (HB5.out.trans (hb.mono HB5.out.size)); clear hb)
    go_ret
    exact ⟨rfl, HB6.out⟩
   ·have hz' : ¬ (65536 : Int) < (tx.size : Int) := by omega
    have HR2 := hdn (refP_any tx w4 htz)
    go_wp2_with fail
    refine (HR2.out).mono ?_
    rintro en w5 ⟨y2, p2, e2, rfl, hb2, hor⟩
    have hok1 : RdOk tx y1.er := RdOk.print HF1.out.1 (by rw [HTX.out]; rfl) (by omega)
    rcases hor with ⟨rfl, hok2, hly2⟩ | ⟨_, hno⟩
    ·have hyy : y2.er = y1.er := hok2.one hok1
     have HF2 := hdn (Fit.er HOK.out h6 hyy)
     have HT2 : Hid (tx = bt (Pn.progT y2)) := hdn (by rw [HTX.out, ← Pn.progT_er y1, ← hyy, Pn.progT_er])
     have HB6 : Hid (Below w.heap.size w w5) := hdn (HB5.out.trans (hb2.mono HB5.out.size))
     obtain ⟨c2, hc2⟩ : ∃ c2, c2 = (Pg.cells y2).toArray := ⟨_, rfl⟩
     have HSJ : Hid ((Tryz.prog.info? 26).map (·.size) = some c2.size) := hdn (by rw [hc2]; exact size26)
     have HZ2 : Hid (3 = c2.size) := hdn (by rw [hc2]; rfl)
     have HON2 : Hid (c2.all (·.oneCell') = true) := hdn (by rw [hc2]; simp [Pg.cells, Value.oneCell'])
     rw [← hc2]
     obtain ⟨wC, hwC⟩ : ∃ wC : World, wC = w5.alloc (.cells c2 26) := ⟨_, rfl⟩
     have HBC : Hid (Below w5.heap.size w5 wC) := hdn (by rw [hwC]; exact (Below.refl _ _).alloc (Nat.le_refl _) _)
     have HKC : Hid (Bk wC w5.heap.size 26 c2) := hdn (by rw [hwC]; exact heap_alloc_new _ _)
     have HB7 : Hid (Below w.heap.size w wC) := hdn (HB6.out.trans (HBC.out.mono HB6.out.size))
     have HLC : Hid (pgLies wC y2) := hdn (pgLies_below hly2 HBC.out)
     have HWC := hdn hwC
     have CP2 : Hid (Calls Tryz.prog 8 #[.agg c2] wC fun e w'' => e = .returned (.tuple #[.string tx, .int .i64 0]) ∧ Below wC.heap.size wC w'') := hdn (by
      rw [hc2, HT2.out]
      exact printP_any y2 wC (HG.out.go HB7.out) HLC.out HF2.out.1 HF2.out.2.1 HF2.out.2.2)
     have CL : Hid (∀ w', Below wC.heap.size wC w' → Calls Tryz.prog 7 #[] w' fun e w'' => e = .returned (.bool true) ∧ Below w'.heap.size w' w'') := hdn (fun w' hb => HLV.out w' (HB7.out.trans (hb.mono HB7.out.size)))
     clear hb2 hok1 hok2 hly2 hyy hc2 hwC CP CR HR2
     go_upto_region 12 with ((with_reducible show wpList _ _ _ (Oper.mk none (Op.store 26 _ _) _ _ _ _ :: _) _ _); refine wpList_store_new rfl 26 (.tmp 8) (.tmp 45) rfl _ c2 rfl rfl HSJ.out HZ2.out HON2.out ?_; rw [← HWC.out])
     obtain ⟨C, hC⟩ : ∃ C, C = w5.heap.size := ⟨_, rfl⟩
     rw [← hC] at HKC ⊢
     clear hC
     go_wp2_with (first | ((with_reducible show wpList _ _ _ (Oper.mk (some 49) _ _ _ _ _ :: _) _ _); refine wpList_load_bk rfl 26 (.tmp 8) rfl C 26 c2 rfl _ HKC.out Tryz.underlying26 rfl HSJ.out ?_) | (go_at_call 8; refine CP2.out.mono ?_; rintro e w6 ⟨rfl, hb⟩; have HB8 := hdn hb; clear hb) | (go_at_call 7; refine (CL.out _ HB8.out).mono ?_; rintro e w7 ⟨rfl, hb⟩; have HB9 := hdn (HB8.out.trans (hb.mono HB8.out.size)); clear hb))
     go_ret
     exact ⟨rfl, HB7.out.trans (HB9.out.mono HB7.out.size)⟩
    ·exact absurd hok1 (hno _)
  ·have he2 : (e1 != 0) = true := by rw [bne_iff_ne]; exact hne
   have CL := hdn (HLV.out wA HB2.out)
   clear hc1
   go_upto_region 4 with ((with_reducible show wpList _ _ _ (Oper.mk none (Op.store 26 _ _) _ _ _ _ :: _) _ _); refine wpList_store_new rfl 26 (.tmp 3) (.tmp 20) rfl _ c1 rfl rfl HSI.out HZ.out HON.out ?_; rw [← HWA.out])
   go_wp2_with (go_at_call 7; refine CL.out.mono ?_; rintro e w5 ⟨rfl, hb⟩; have HB6 := hdn (HB2.out.trans (hb.mono HB2.out.size)); clear hb)
   go_ret
   exact ⟨rfl, HB6.out⟩
end Go.Proofs.YtdlchhimkelinaaGreatDoor
