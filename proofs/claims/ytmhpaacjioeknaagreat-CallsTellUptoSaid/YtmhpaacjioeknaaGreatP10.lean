/-
  The document's reader: the walk of a program. Both sides together. Plain: heaps of numbers; rows of numbers with two places changed. The walks of the queue's methods: Len, Less, Swap. The walks of the queue's Push and Pop. A number more in a row of one's own; the walk of the queue's Push. The walk o
-/
import Derived.Test.YtmhpaacjioeknaaGreatP09
import Derived.Test.YtmhpaacjioeknaaGreatP02
import Derived.Lib.Hide
import Derived.Deep.QuietTactic
import Derived.RegionTactic
import Derived.Maps.OwnSet
import Derived.Maps.Views
import Derived.DeepKeys4
import Derived.StringKeys
set_option maxHeartbeats 6400000
set_option maxRecDepth 100000
namespace Go.Proofs.YtmhpaacjioeknaaGreat
open Go.RowKit Go.Sort
attribute [local go_sem] field72_0 field72_1 field72_2 field72_3
theorem alls_top (s : ByteArray) (he : (Tx.alls s).2.2 = 0) : RC (Tx.alls s).1 70000 ∧ Tex (Tx.alls s).1 := ⟨(rc_alls s he).1, (alls_good s he).2.1⟩
theorem kPg_one (x : Pg) : (Pg.cells x).toArray.all (·.oneCell') = true := by simp [Value.oneCell']
theorem refProg_any (s : ByteArray) (w : World) (hs : s.size ≤ 5000000) : Calls Tryz.prog 14 #[.string s] w fun en w' => RfPost s w.heap.size w w' en := by
 have CO : ∀ w', Hid (Calls Tryz.prog 25 #[.string s] w' fun en w'' => ∃ rb : Nat, en = .returned (.tuple #[.pointer (some ⟨rb, 0, none⟩), .int .i64 (Tx.alls s).2.1, .int .i64 (Tx.alls s).2.2]) ∧ Below w'.heap.size w' w'' ∧ w'.heap.size ≤ rb ∧
   ((Tx.alls s).2.2 = 0 → ∃ sb cap, w'.heap.size ≤ sb ∧ RM w'' rb sb cap (Tx.alls s).1 0 70000 (.ok ((), ⟨0, 0, 0⟩) : Pr.Res Unit))) := fun w' => hdn (open_any s w' hs)
 have HTOP := hdn (alls_top s)
 unfold RfPost
 clear hs
 generalize Tx.alls s = al at *
 obtain ⟨l, at0, e0⟩ := al
 simp only at CO HTOP ⊢
 have HCO := hdn CO
 clear CO
 obtain ⟨n, hn⟩ : ∃ n, n = l.length + 1 := ⟨_, rfl⟩
 obtain ⟨R, hR⟩ : ∃ R, R = Pa.rprog l n n [] [] [] ⟨0, 0, 0⟩ := ⟨_, rfl⟩
 rw [← hn, ← hR]
 have HNN := hdn hn
 have HR := hdn hR
 clear hn hR
 have hb : Below w.heap.size w (w.alloc (.cells zPg.toArray 26)) := (Below.refl _ _).alloc (Nat.le_refl _) _
 have HBA := hdn hb
 have HKA : Hid (Bk (w.alloc (.cells zPg.toArray 26)) w.heap.size 26 zPg.toArray) := hdn (heap_alloc_new _ _)
 clear hb
 go_enter Tryz.func14, Tryz.ntmps14
 go_upto_region 1 with fail
 change Code.wp _ _ _ _ (w.alloc (.cells zPg.toArray 26))
 obtain ⟨A, hA⟩ : ∃ A, A = w.heap.size := ⟨_, rfl⟩
 have HA := hdn hA
 rw [← hA] at HKA ⊢
 clear hA
 generalize w.alloc (.cells zPg.toArray 26) = wA at HBA HKA ⊢
 go_wp2_with fail
 refine ((HCO.out wA).out).mono ?_
 rintro en w2 ⟨rb, rfl, hb, hrb, hok⟩
 have HB2 : Hid (Below w.heap.size w w2) := hdn (HBA.out.trans (hb.mono HBA.out.size))
 have HK2 : Hid (Bk w2 A 26 zPg.toArray) := hdn (HKA.out.below hb HKA.out.lt)
 have HRB : Hid (A < rb ∧ w.heap.size ≤ rb) := hdn ⟨Nat.lt_of_lt_of_le HKA.out.lt hrb, Nat.le_trans HBA.out.size hrb⟩
 have HOK := hdn hok
 have HAL : Hid (A < wA.heap.size ∧ w.heap.size ≤ wA.heap.size ∧ wA.heap.size ≤ w2.heap.size) := hdn ⟨HKA.out.lt, HBA.out.size, hb.size⟩
 clear hb hrb hok HBA HKA
 by_cases he : e0 = 0
 case neg =>
  have he' : (e0 != 0) = true := by rw [bne_iff_ne]; exact he
  have HE := hdn he
  clear he
  have r0' : w2.cell? ⟨A, 0, none⟩ = some (.slice none 0 0) := HK2.out.cell 0
  have r1' : w2.cell? ⟨A, 1, none⟩ = some (.slice none 0 0) := HK2.out.cell 1
  have r2' : w2.cell? ⟨A, 2, none⟩ = some (.slice none 0 0) := HK2.out.cell 2
  have f0 := HK2.out.frozen 0
  have f1 := HK2.out.frozen 1
  have f2 := HK2.out.frozen 2
  go_wp2_with fail
  clear r0' r1' r2' f0 f1 f2
  have hF : w2.grownBy (((w2.setCell ⟨A, 0, none⟩ (.slice none 0 0)).setCell ⟨A, 1, none⟩ (.slice none 0 0)).setCell ⟨A, 2, none⟩ (.slice none 0 0)) (some A) := grownBy_tr (grownBy_tr (grownBy_setC _ ⟨A, 0, none⟩ _) (grownBy_setC _ ⟨A, 1, none⟩ _)) (grownBy_setC _ ⟨A, 2, none⟩ _)
  have hK : Bk (((w2.setCell ⟨A, 0, none⟩ (.slice none 0 0)).setCell ⟨A, 1, none⟩ (.slice none 0 0)).setCell ⟨A, 2, none⟩ (.slice none 0 0)) A 26 zPg.toArray := ((HK2.out.set_ 0 _).set_ 1 _).set_ 2 _
  generalize ((w2.setCell ⟨A, 0, none⟩ (.slice none 0 0)).setCell ⟨A, 1, none⟩ (.slice none 0 0)).setCell ⟨A, 2, none⟩ (.slice none 0 0) = wZ at hF hK ⊢
  have e0' : wZ.cell? ⟨A, 0, none⟩ = some (.slice none 0 0) := hK.cell 0
  have e1' : wZ.cell? ⟨A, 1, none⟩ = some (.slice none 0 0) := hK.cell 1
  have e2' : wZ.cell? ⟨A, 2, none⟩ = some (.slice none 0 0) := hK.cell 2
  refine bodyPost_ret (v := .tuple #[.agg zPg.toArray, .int .i64 at0, .int .i64 e0]) (by simp [results, Tryz.results14, go_sem, e0', e1', e2', zPg]) rfl ?_
  exact ⟨pg3 [] [] [], at0, e0, rfl, below_by HB2.out hF (by rw [HA.out]; exact Nat.le_refl _), .inr ⟨HE.out, .inl HE.out⟩⟩
 case pos =>
 subst he
 obtain ⟨C, hT⟩ := HTOP.out rfl
 have HC := hdn C
 have HC2 : Hid (RC l 70001) := hdn (C.more (by omega))
 have HT := hdn hT
 obtain ⟨sb, cap, hsb, hm⟩ := HOK.out rfl
 have HSB : Hid (A < sb) := hdn (by have := HAL.out; omega)
 have HM2 := hdn hm
 clear hT hsb hm HOK
 go_upto_region 4 with fail
 go_upto_region 5 with fail
 change Code.wp _ _ _ _ (w2.alloc (.cells zPg.toArray 26))
 have hm : Below w2.heap.size w2 (w2.alloc (.cells zPg.toArray 26)) := (Below.refl _ _).alloc (Nat.le_refl _) _
 have HP1 : Hid (PC w (w2.alloc (.cells zPg.toArray 26)) (w2.alloc (.cells zPg.toArray 26)) rb sb cap A w2.heap.size zPg zPg l 70001 (.ok ((pg3 [] [] []), ⟨0, 0, 0⟩) : Pr.Res Pg)) := hdn (by
  have h0 := HM2.out.below hm
  exact ⟨⟨h0.1, h0.2⟩, HK2.out.below hm HK2.out.lt, heap_alloc_new _ _, HB2.out.trans (hm.mono HB2.out.size), ⟨by rw [HA.out]; exact Nat.le_refl _, by have := HK2.out.lt; simp; omega, by simp, by have := HK2.out.lt; omega, HB2.out.size, Nat.le_refl _, HRB.out.2, by have := HM2.out.rb_lt; simp; omega, by have := HM2.out.sb_lt; simp; omega, by have := HRB.out; omega, by have := HSB.out; omega, by have := HM2.out.rb_lt; omega, by have := HM2.out.sb_lt; omega⟩⟩)
 clear hm HB2 HK2 HM2
 obtain ⟨S, hS⟩ : ∃ S, S = w2.heap.size := ⟨_, rfl⟩
 rw [← hS] at HP1 ⊢
 clear hS
 generalize w2.alloc (.cells zPg.toArray 26) = w1 at HP1 ⊢
 obtain ⟨j1, z1, hJ1⟩ := qinfSr
 obtain ⟨j2, z2, hJ2⟩ := qinfDc2
 obtain ⟨j3, z3, hJ3⟩ := qinfPc
 have HJ1 := hdn hJ1; have HJ2 := hdn hJ2; have HJ3 := hdn hJ3
 clear hJ1 hJ2 hJ3
 have HLL : Hid (l.length ≤ 70000) := hdn C.len
 clear C
 go_loopg [] (l.length + 1) (fun g wr => ∃ (ss : List Sr) (gs : List Dc) (ps : List Pc) (v1 v2 v3 : Value) (rn : Pr.Res Pg), Hid (g + ss.length + gs.length + ps.length ≤ l.length + 1) ∧ Hid (∀ y u, rn = .ok (y, u) → pg3 ss gs ps = y) ∧ Hid ((Pr.th rn fun y u => Pa.progP l n g y u) = R) ∧ Hid (∀ y u, rn = .ok (y, u) → l.length < g + u.i) ∧ Hid (PC w w1 wr rb sb cap A S zPg [v1, v2, v3] l 70001 rn) ∧ Hid (P3 w1.heap.size wr v1 v2 v3 ss gs ps))
 case atStart => exact ⟨[], [], [], _, _, _, .ok (pg3 [] [] [], ⟨0, 0, 0⟩), hdn (by simp), hdn (fun y u hc => by cases hc; rfl), hdn (by rw [HR.out, HNN.out]; rfl), hdn (by intro a u hc; cases hc; simp), HP1, hdn (P3.nil _ _)⟩
 case round =>
  clear HP1
  obtain ⟨ss, gs, ps, v1, v2, v3, rn, HGA, HAC, HH, HFUE, HP, HGr⟩ := hrel
  obtain ⟨b1, c1, rfl⟩ := HGr.out.a.shape
  obtain ⟨b2, c2, rfl⟩ := HGr.out.b.shape
  obtain ⟨b3, c3, rfl⟩ := HGr.out.c.shape
  rcases rn with n0 | ⟨y1, u1⟩
  ·obtain ⟨k, b, a, e, he, hk, hb0, hb1, h5⟩ := HP.out.m
   have c5 : wr.cell? ⟨rb, 5, none⟩ = some (.int .i64 e) := h5.blk.cell 5
   have c4 : wr.cell? ⟨rb, 4, none⟩ = some (.int .i64 a) := h5.blk.cell 4
   have he1 : (e == 0) = false := by rw [beq_eq_false_iff_ne]; exact he
   have he2 : (e != 0) = true := by rw [bne_iff_ne]; exact he
   have HE := hdn he
   clear he hk hb0 hb1 h5
   have HRE : Hid (∃ m, R = .error m) := hdn ⟨n0, by rw [← HH.out]; rfl⟩
   have r0' : wr.cell? ⟨A, 0, none⟩ = some (.slice none 0 0) := HP.out.a.cell 0
   have r1' : wr.cell? ⟨A, 1, none⟩ = some (.slice none 0 0) := HP.out.a.cell 1
   have r2' : wr.cell? ⟨A, 2, none⟩ = some (.slice none 0 0) := HP.out.a.cell 2
   go_upto_region 13 with fail
   clear he1 he2
   have d4 : wr.drew.cell? ⟨rb, 4, none⟩ = some (.int .i64 a) := c4
   have d5 : wr.drew.cell? ⟨rb, 5, none⟩ = some (.int .i64 e) := c5
   have f0 : wr.frozen? ⟨A, 0, none⟩ = false := HP.out.a.frozen 0
   have f1 : wr.frozen? ⟨A, 1, none⟩ = false := HP.out.a.frozen 1
   have f2 : wr.frozen? ⟨A, 2, none⟩ = false := HP.out.a.frozen 2
   have g0 : wr.drew.frozen? ⟨A, 0, none⟩ = false := HP.out.a.frozen 0
   have g1 : wr.drew.frozen? ⟨A, 1, none⟩ = false := HP.out.a.frozen 1
   have g2 : wr.drew.frozen? ⟨A, 2, none⟩ = false := HP.out.a.frozen 2
   have q0 : wr.drew.cell? ⟨A, 0, none⟩ = some (.slice none 0 0) := HP.out.a.cell 0
   have q1 : wr.drew.cell? ⟨A, 1, none⟩ = some (.slice none 0 0) := HP.out.a.cell 1
   have q2 : wr.drew.cell? ⟨A, 2, none⟩ = some (.slice none 0 0) := HP.out.a.cell 2
   have HNRA : Hid (A ≠ rb) := hdn (by have := HP.out.b; omega)
   have hF : wr.grownBy (((wr.setCell ⟨A, 0, none⟩ (.slice none 0 0)).setCell ⟨A, 1, none⟩ (.slice none 0 0)).setCell ⟨A, 2, none⟩ (.slice none 0 0)) (some A) := grownBy_tr (grownBy_tr (grownBy_setC _ ⟨A, 0, none⟩ _) (grownBy_setC _ ⟨A, 1, none⟩ _)) (grownBy_setC _ ⟨A, 2, none⟩ _)
   have HF := hdn hF
   have HKZ : Hid (Bk (((wr.setCell ⟨A, 0, none⟩ (.slice none 0 0)).setCell ⟨A, 1, none⟩ (.slice none 0 0)).setCell ⟨A, 2, none⟩ (.slice none 0 0)) A 26 zPg.toArray) := hdn (by
    have h9 : Bk wr A 26 zPg.toArray := HP.out.a
    exact ((h9.set_ 0 _).set_ 1 _).set_ 2 _)
   clear hF
   go_region
   all_goals
    generalize ((wr.setCell ⟨A, 0, none⟩ (.slice none 0 0)).setCell ⟨A, 1, none⟩ (.slice none 0 0)).setCell ⟨A, 2, none⟩ (.slice none 0 0) = wZ at HF HKZ ⊢
    clear r0' r1' r2' f0 f1 f2 g0 g1 g2 q0 q1 q2 d4 d5 c4 c5
    have e0' : wZ.drew.cell? ⟨A, 0, none⟩ = some (.slice none 0 0) := HKZ.out.cell 0
    have e1' : wZ.drew.cell? ⟨A, 1, none⟩ = some (.slice none 0 0) := HKZ.out.cell 1
    have e2' : wZ.drew.cell? ⟨A, 2, none⟩ = some (.slice none 0 0) := HKZ.out.cell 2
    go_wp2_with fail
    refine bodyPost_ret (v := .tuple #[.agg zPg.toArray, .int .i64 a, .int .i64 e]) (by simp [results, Tryz.results14, go_sem, e0', e1', e2', zPg]) rfl ?_
    exact ⟨pg3 [] [] [], a, e, rfl, below_drew (below_by HP.out.g HF.out HP.out.b.1), .inr ⟨HE.out, .inr HRE.out⟩⟩
  have c5 : wr.cell? ⟨rb, 5, none⟩ = some (.int .i64 0) := HP.out.m.1.blk.cell 5
  have HUL : Hid (u1.i < l.length) := hdn HP.out.m.2.1
  have HG0 : Hid (0 < gk) := hdn (by have h1 := HFUE.out y1 u1 rfl; have h2 := HUL.out; omega)
  go_wp2_with fail
  refine (now_m wr _ HP.out.m).mono ?_
  rintro en w11 ⟨hb, z, rfl, hz⟩
  obtain rfl := hz _ _ rfl
  have HP11 := hdn ((HP.out.below hb).okN 70000); have HGr11 := hdn (HGr.out.below hb)
  clear hb hz c5 HP HGr
  by_cases hk : (Pa.sg l u1.i).kind = 0
  ·have hk1 : ((Pa.sg l u1.i).kind != 0) = false := by rw [hk]; rfl
   have HK := hdn hk
   clear hk
   have c5 : w11.cell? ⟨rb, 5, none⟩ = some (.int .i64 0) := HP11.out.m.1.blk.cell 5
   obtain ⟨s1, h1, e1, y1'⟩ := HGr11.out.a.fin (by have := HLL.out; have := HGA.out; show ss.length * 48 ≤ _; omega) M3.fresh
   obtain ⟨s2, h2, e2, y2'⟩ := HGr11.out.b.fin (by have := HLL.out; have := HGA.out; show gs.length * 40 ≤ _; omega) M3.fresh
   obtain ⟨s3, h3, e3, y3'⟩ := HGr11.out.c.fin (by have := HLL.out; have := HGA.out; show ps.length * 104 ≤ _; omega) M3.fresh
   have HS5 : Hid (Bk w11 S 26 (Pg.cells ⟨s1, s2, s3⟩).toArray) := hdn (by have := HP11.out.s; rw [h1, h2, h3] at this; exact this)
   have HRR : Hid (R = .ok (pg3 (s1.l.map qSr.er) (s2.l.map qDc.er) (s3.l.map qPc.er), u1)) := hdn (by rw [← HH.out]; obtain ⟨gj, hgj⟩ : ∃ k, gk = k + 1 := ⟨gk - 1, by have := HG0.out; omega⟩; rw [hgj]; simp only [Pr.th_okk]; rw [Pa.progP_end HK.out, ← HAC.out _ _ rfl, e1, e2, e3]; rfl)
   have HLY : Hid (pgLies (fresh w1.heap.size w11) ⟨s1, s2, s3⟩) := hdn ⟨y1', y2', y3'⟩
   clear h1 h2 h3 e1 e2 e3 y1' y2' y3'
   go_wp2_with (first | ((with_reducible show wpList _ _ _ (Oper.mk (some 74) (Op.load 26 _) _ _ _ _ :: _) _ _); refine wpList_load_bk rfl 26 (.tmp 8) rfl S 26 (Pg.cells ⟨s1, s2, s3⟩).toArray rfl _ HS5.out Tryz.underlying26 rfl size33 ?_) | ((with_reducible show wpList _ _ _ (Oper.mk none (Op.store 26 (Operand.tmp 2) (Operand.tmp 74)) _ _ _ _ :: _) _ _); refine wpList_store_bk rfl 26 (.tmp 2) (.tmp 74) rfl A 26 _ (Pg.cells ⟨s1, s2, s3⟩).toArray rfl rfl HP11.out.a size33 rfl (kPg_one _) ?_; intro wZ hB hF; have HB := hdn hB; have HF := hdn hF; clear hB hF))
   have e0' : wZ.cell? ⟨A, 0, none⟩ = some (.slice s1.p s1.l.length s1.cap) := HB.out.cell 0
   have e1' : wZ.cell? ⟨A, 1, none⟩ = some (.slice s2.p s2.l.length s2.cap) := HB.out.cell 1
   have e2' : wZ.cell? ⟨A, 2, none⟩ = some (.slice s3.p s3.l.length s3.cap) := HB.out.cell 2
   refine bodyPost_ret (v := .tuple #[.agg #[.slice s1.p s1.l.length s1.cap, .slice s2.p s2.l.length s2.cap, .slice s3.p s3.l.length s3.cap], .int .i64 0, .int .i64 0]) (by simp [results, Tryz.results14, go_sem, e0', e1', e2']) rfl ?_
   exact ⟨⟨s1, s2, s3⟩, 0, 0, rfl, below_by HP11.out.g HF.out HP11.out.b.1, .inl ⟨rfl, rfl, ⟨u1, HRR.out⟩, pgLies_ext ((fresh_par HF.out HP11.out.b.2.1).trans (fresh_mono (by have h9 := HP11.out.b; omega) _)) HLY.out⟩⟩
  have hk1 : ((Pa.sg l u1.i).kind != 0) = true := by rw [bne_iff_ne]; exact hk
  have HK := hdn hk
  clear hk
  go_wp2_with fail
  clear hk1
  refine (take_m HC.out ⟨#[115, 116, 114, 117, 99, 116]⟩ (by decide) w11 _ HP11.out.m).mono ?_
  rintro en w12 ⟨g, hh⟩
  have HGr12 := hdn (HGr11.out.par g (by have := HP11.out.b; omega))
  rcases hh with ⟨rfl, y0, u0, hr0, hi, hm⟩ | ⟨rfl, hf, hm⟩
  ·cases hr0
   have HI := hdn hi; have HP12 := hdn (HP11.out.call g hm)
   clear hi hm g HP11 HGr11
   go_upto_region 9 with fail
   have HD := hdn (HP12.out.below (below_drew (Below.refl _ w12))); have HGD := hdn (HGr12.out.below (below_drew (Below.refl _ w12)))
   clear HP12 HGr12
   have s26 : w12.drew.cell? ⟨S, 0, none⟩ = some (.slice b1 ss.length c1) := HD.out.s.cell 0
   go_region_law (first
    | (go_simp; go_at_call 28; (with_reducible refine (struct_m HC.out _ _ HD.out.m).mono ?_); rintro en w13 ⟨g, vv, zz, rfl, ⟨y0, hv, hye, hyl⟩, hx, hm⟩; have hvv : vv = .agg (Sr.cells y0).toArray := hv; clear hv; subst hvv; have HX := hdn hx; have HYE := hdn hye; have HS := hdn (HD.out.call g hm); have HG7 := hdn (HGD.out.par g (by have := HD.out.b; omega)); have HZL : Hid (qSr.R (M3 w1.heap.size (.slice b1 ss.length c1 : Value).ownBlock (.slice b2 gs.length c2 : Value).ownBlock (.slice b3 ps.length c3 : Value).ownBlock w13) y0) := hdn (qSr.ext y0 (M3.of_fresh HD.out.b.2.2.2.2.2.1 (fun q hq => (HGD.out.a.lt q hq).2) (fun q hq => (HGD.out.b.lt q hq).2) (fun q hq => (HGD.out.c.lt q hq).2)) hyl); obtain ⟨ys, hy1, hy2, hy3⟩ := HG7.out.a; have HY1 := hdn hy1; have HY2 := hdn hy2; have HY3 := hdn hy3; have s27 : w13.cell? ⟨S, 0, none⟩ = some (.slice b1 ss.length c1) := HS.out.s.cell 0; have s27a : ∀ ob, (w13.alloc ob).cell? ⟨S, 0, none⟩ = some (.slice b1 ss.length c1) := (fun ob => (World.cell?_alloc_lt _ _ _ HS.out.lt).trans s27); clear g hm hx hy1 hy2 hy3 hye hyl; (try dsimp only))
    | (refine Kd.step_pushR qSr rfl 22 j1 _ HJ1.out (.tmp 44) (.tmp 47) rfl w1.heap.size ss.length _ (.slice b1 ss.length c1) rfl HY2.out HS.out.b.2.2.2.2.2.1 y0 rfl (by have := HLL.out; have := HGA.out; unfold maxLen; omega) (by have := HLL.out; have := HGA.out; show (ss.length + 1) * 48 ≤ _; omega) ?_; intro gg cc w14 ho8 hgr8 hat8; have hown8 : ∀ q, (.slice b1 ss.length c1 : Value).ownBlock = some q → w1.heap.size ≤ q := (fun q hq => (HG7.out.a.lt q hq).1); have HG8 := hdn (HG7.out.push1 HY1.out HY3.out HZL.out ho8 hgr8 hat8); have HS8 := hdn (HS.out.grown hgr8 hown8); have s28 : w14.cell? ⟨S, 0, none⟩ = some (.slice b1 ss.length c1) := HS8.out.s.cell 0; have f28 : w14.frozen? ⟨S, 0, none⟩ = false := HS8.out.s.frozen 0; clear ho8 hgr8 hat8 hown8))
   all_goals
    have HN15 : Hid (PC w w1 (w14.setCell ⟨S, 0, none⟩ (.slice (some ⟨gg, 0, none⟩) (ss.length + 1) cc)) rb sb cap A S zPg [.slice (some ⟨gg, 0, none⟩) (ss.length + 1) cc, .slice b2 gs.length c2, .slice b3 ps.length c3] l 70000 (Pr.th (.ok (y1, u1.go) : Pr.Res Pg) fun y u => Pr.th (Pa.strct l u) fun p v => (.ok (Pa.addS y p, v) : Pr.Res Pg))) := hdn ((HS8.out.set 0 (.slice (some ⟨gg, 0, none⟩) (ss.length + 1) cc)).re (fun h => m_call (g := Pa.addS) h))
    have HE15 := hdn (e_pushG (f := Pa.addS) (x := pg3 ss gs ps) (r := (.ok (y1, u1.go) : Pr.Res Pg)) (fun a u hc => by cases hc; exact HAC.out _ _ rfl) HX.out HYE.out)
    have HGN15 := hdn (HG8.out.par (show w14.grownBy (w14.setCell ⟨S, 0, none⟩ (.slice (some ⟨gg, 0, none⟩) (ss.length + 1) cc)) (some S) from grownBy_setC _ ⟨S, 0, none⟩ _) HS8.out.b.2.2.1)
    clear HS HG7 HG8 HS8 s26 s27 s27a s28 f28 HD HGD HX HYE HZL HY1 HY2 HY3
    generalize w14.setCell ⟨S, 0, none⟩ (.slice (some ⟨gg, 0, none⟩) (ss.length + 1) cc) = w15 at HN15 HGN15 ⊢
    have HNN15 := hdn (HN15.out.re (fun h => h.more))
    go_wp2_with fail
    go_roundg (gk - 1)
    case measure => have := HG0.out; omega
    case rel =>
     obtain ⟨gj, hgj⟩ : ∃ k, gk = k + 1 := ⟨gk - 1, by have := HG0.out; omega⟩
     refine ⟨ss ++ [qSr.er y0], gs, ps, _, _, _, _, hdn ?_, HE15, hdn ?_, hdn ?_, HNN15, HGN15⟩
     ·have := HGA.out; have := HG0.out; simp only [List.length_append, List.length_singleton]; omega
     ·rw [← HH.out, hgj, Nat.add_sub_cancel, Pr.th_okk]; exact (Pa.progP_s HK.out HI.out).symm
     ·intro a u hc; obtain ⟨y, v9, h1, h2⟩ := Pr.th_ok hc; obtain ⟨p9, z9, h3, h4⟩ := Pr.th_ok h2; cases h1; cases h4; have h5 := Pa.strct_go h3; have h6 := HFUE.out _ _ rfl; simp only [Pr.St.go] at h5; omega
  have HF1 : Hid (Pr.is (Pa.ts l) u1.i ⟨#[115, 116, 114, 117, 99, 116]⟩ = false) := hdn (hf _ _ rfl); have HP12 := hdn (HP11.out.call g hm)
  clear hf hm g HP11 HGr11
  go_wp2_with fail
  refine (take_m HC.out ⟨#[118, 111, 105, 100]⟩ (by decide) w12 _ HP12.out.m).mono ?_
  rintro en w16 ⟨g, hh⟩
  have HGr16 := hdn (HGr12.out.par g (by have := HP12.out.b; omega))
  rcases hh with ⟨rfl, y0, u0, hr0, hi, hm⟩ | ⟨rfl, hf, hm⟩
  ·cases hr0
   have HI := hdn hi; have HP16 := hdn (HP12.out.call g hm)
   clear hi hm g HP12 HGr12
   go_upto_region 11 with fail
   have HD := hdn (HP16.out.below (below_drew (Below.refl _ w16))); have HGD := hdn (HGr16.out.below (below_drew (Below.refl _ w16)))
   clear HP16 HGr16
   have s26 : w16.drew.cell? ⟨S, 2, none⟩ = some (.slice b3 ps.length c3) := HD.out.s.cell 2
   go_region_law (first
    | (go_simp; go_at_call 29; (with_reducible refine (proc_m HC.out HT.out (by decide) n (by have := HNN.out; omega) (by have := HNN.out; have := HLL.out; omega) _ _ HD.out.m).mono ?_); rintro en w17 ⟨g, vv, zz, rfl, ⟨y0, hv, hye, hyl⟩, hx, hm⟩; have hvv : vv = .agg (Pc.cells y0).toArray := hv; clear hv; subst hvv; have HX := hdn hx; have HYE := hdn hye; have HS := hdn (HD.out.call g hm); have HG7 := hdn (HGD.out.par g (by have := HD.out.b; omega)); have HZL : Hid (qPc.R (M3 w1.heap.size (.slice b1 ss.length c1 : Value).ownBlock (.slice b2 gs.length c2 : Value).ownBlock (.slice b3 ps.length c3 : Value).ownBlock w17) y0) := hdn (qPc.ext y0 (M3.of_fresh HD.out.b.2.2.2.2.2.1 (fun q hq => (HGD.out.a.lt q hq).2) (fun q hq => (HGD.out.b.lt q hq).2) (fun q hq => (HGD.out.c.lt q hq).2)) hyl); obtain ⟨ys, hy1, hy2, hy3⟩ := HG7.out.c; have HY1 := hdn hy1; have HY2 := hdn hy2; have HY3 := hdn hy3; have s27 : w17.cell? ⟨S, 2, none⟩ = some (.slice b3 ps.length c3) := HS.out.s.cell 2; have s27a : ∀ ob, (w17.alloc ob).cell? ⟨S, 2, none⟩ = some (.slice b3 ps.length c3) := (fun ob => (World.cell?_alloc_lt _ _ _ HS.out.lt).trans s27); clear g hm hx hy1 hy2 hy3 hye hyl; (try dsimp only))
    | (refine Kd.step_pushR qPc rfl 24 j3 _ HJ3.out (.tmp 54) (.tmp 57) rfl w1.heap.size ps.length _ (.slice b3 ps.length c3) rfl HY2.out HS.out.b.2.2.2.2.2.1 y0 rfl (by have := HLL.out; have := HGA.out; unfold maxLen; omega) (by have := HLL.out; have := HGA.out; show (ps.length + 1) * 104 ≤ _; omega) ?_; intro gg cc w18 ho8 hgr8 hat8; have hown8 : ∀ q, (.slice b3 ps.length c3 : Value).ownBlock = some q → w1.heap.size ≤ q := (fun q hq => (HG7.out.c.lt q hq).1); have HG8 := hdn (HG7.out.push3 HY1.out HY3.out HZL.out ho8 hgr8 hat8); have HS8 := hdn (HS.out.grown hgr8 hown8); have s28 : w18.cell? ⟨S, 2, none⟩ = some (.slice b3 ps.length c3) := HS8.out.s.cell 2; have f28 : w18.frozen? ⟨S, 2, none⟩ = false := HS8.out.s.frozen 2; clear ho8 hgr8 hat8 hown8))
   all_goals
    have HN19 : Hid (PC w w1 (w18.setCell ⟨S, 2, none⟩ (.slice (some ⟨gg, 0, none⟩) (ps.length + 1) cc)) rb sb cap A S zPg [.slice b1 ss.length c1, .slice b2 gs.length c2, .slice (some ⟨gg, 0, none⟩) (ps.length + 1) cc] l 70001 (Pr.th (.ok (y1, u1.go) : Pr.Res Pg) fun y u => Pr.th (Pa.rproc l n u) fun p v => (.ok (Pa.addQ y p, v) : Pr.Res Pg))) := hdn ((HS8.out.set 2 (.slice (some ⟨gg, 0, none⟩) (ps.length + 1) cc)).re (fun h => m_call (g := Pa.addQ) h))
    have HE19 := hdn (e_pushG (f := Pa.addQ) (x := pg3 ss gs ps) (r := (.ok (y1, u1.go) : Pr.Res Pg)) (fun a u hc => by cases hc; exact HAC.out _ _ rfl) HX.out HYE.out)
    have HGN19 := hdn (HG8.out.par (show w18.grownBy (w18.setCell ⟨S, 2, none⟩ (.slice (some ⟨gg, 0, none⟩) (ps.length + 1) cc)) (some S) from grownBy_setC _ ⟨S, 2, none⟩ _) HS8.out.b.2.2.1)
    clear HS HG7 HG8 HS8 s26 s27 s27a s28 f28 HD HGD HX HYE HZL HY1 HY2 HY3
    generalize w18.setCell ⟨S, 2, none⟩ (.slice (some ⟨gg, 0, none⟩) (ps.length + 1) cc) = w19 at HN19 HGN19 ⊢
    go_wp2_with fail
    go_roundg (gk - 1)
    case measure => have := HG0.out; omega
    case rel =>
     obtain ⟨gj, hgj⟩ : ∃ k, gk = k + 1 := ⟨gk - 1, by have := HG0.out; omega⟩
     refine ⟨ss, gs, ps ++ [qPc.er y0], _, _, _, _, hdn ?_, HE19, hdn ?_, hdn ?_, HN19, HGN19⟩
     ·have := HGA.out; have := HG0.out; simp only [List.length_append, List.length_singleton]; omega
     ·rw [← HH.out, hgj, Nat.add_sub_cancel, Pr.th_okk]; exact (Pa.progP_p HK.out HF1.out HI.out).symm
     ·intro a u hc; obtain ⟨y, v9, h1, h2⟩ := Pr.th_ok hc; obtain ⟨p9, z9, h3, h4⟩ := Pr.th_ok h2; cases h1; cases h4; have h5 := Pa.rproc_go h3; have h6 := HFUE.out _ _ rfl; simp only [Pr.St.go] at h5; omega
  have HF2 : Hid (Pr.is (Pa.ts l) u1.i ⟨#[118, 111, 105, 100]⟩ = false) := hdn (hf _ _ rfl); have HP16 := hdn (HP12.out.call g hm)
  clear hf hm g HP12 HGr12
  go_upto_region 6 with fail
  have HD := hdn (HP16.out.below (below_drew (Below.refl _ w16))); have HGD := hdn (HGr16.out.below (below_drew (Below.refl _ w16)))
  clear HP16 HGr16
  have s26 : w16.drew.cell? ⟨S, 1, none⟩ = some (.slice b2 gs.length c2) := HD.out.s.cell 1
  go_region_law (first
   | (go_simp; go_at_call 30; (with_reducible refine (decl_m HC.out _ _ HD.out.m).mono ?_); rintro en w20 ⟨g, vv, y0, rfl, hv, hx, hm⟩; have hvv : vv = .agg (Dc.cells y0).toArray := hv; clear hv; subst hvv; have HX := hdn hx; have HYE : Hid (qDc.er y0 = y0) := hdn rfl; have HS := hdn (HD.out.call g hm); have HG7 := hdn (HGD.out.par g (by have := HD.out.b; omega)); have HZL : Hid (qDc.R (M3 w1.heap.size (.slice b1 ss.length c1 : Value).ownBlock (.slice b2 gs.length c2 : Value).ownBlock (.slice b3 ps.length c3 : Value).ownBlock w20) y0) := hdn trivial; obtain ⟨ys, hy1, hy2, hy3⟩ := HG7.out.b; have HY1 := hdn hy1; have HY2 := hdn hy2; have HY3 := hdn hy3; have s27 : w20.cell? ⟨S, 1, none⟩ = some (.slice b2 gs.length c2) := HS.out.s.cell 1; have s27a : ∀ ob, (w20.alloc ob).cell? ⟨S, 1, none⟩ = some (.slice b2 gs.length c2) := (fun ob => (World.cell?_alloc_lt _ _ _ HS.out.lt).trans s27); clear g hm hx hy1 hy2 hy3; (try dsimp only))
   | (refine Kd.step_pushR qDc rfl 23 j2 _ HJ2.out (.tmp 32) (.tmp 35) rfl w1.heap.size gs.length _ (.slice b2 gs.length c2) rfl HY2.out HS.out.b.2.2.2.2.2.1 y0 rfl (by have := HLL.out; have := HGA.out; unfold maxLen; omega) (by have := HLL.out; have := HGA.out; show (gs.length + 1) * 40 ≤ _; omega) ?_; intro gg cc w21 ho8 hgr8 hat8; have hown8 : ∀ q, (.slice b2 gs.length c2 : Value).ownBlock = some q → w1.heap.size ≤ q := (fun q hq => (HG7.out.b.lt q hq).1); have HG8 := hdn (HG7.out.push2 HY1.out HY3.out HZL.out ho8 hgr8 hat8); have HS8 := hdn (HS.out.grown hgr8 hown8); have s28 : w21.cell? ⟨S, 1, none⟩ = some (.slice b2 gs.length c2) := HS8.out.s.cell 1; have f28 : w21.frozen? ⟨S, 1, none⟩ = false := HS8.out.s.frozen 1; clear ho8 hgr8 hat8 hown8))
  all_goals
   have HN22 : Hid (PC w w1 (w21.setCell ⟨S, 1, none⟩ (.slice (some ⟨gg, 0, none⟩) (gs.length + 1) cc)) rb sb cap A S zPg [.slice b1 ss.length c1, .slice (some ⟨gg, 0, none⟩) (gs.length + 1) cc, .slice b3 ps.length c3] l 70000 (Pr.th (.ok (y1, u1) : Pr.Res Pg) fun y u => Pr.th (Pa.variable_ l u) fun p v => (.ok (Pa.addG y p, v) : Pr.Res Pg))) := hdn ((HS8.out.set 1 (.slice (some ⟨gg, 0, none⟩) (gs.length + 1) cc)).re (fun h => m_call (g := Pa.addG) h))
   have HE22 := hdn (e_pushG (f := Pa.addG) (x := pg3 ss gs ps) (r := (.ok (y1, u1) : Pr.Res Pg)) (fun a u hc => by cases hc; exact HAC.out _ _ rfl) HX.out HYE.out)
   have HGN22 := hdn (HG8.out.par (show w21.grownBy (w21.setCell ⟨S, 1, none⟩ (.slice (some ⟨gg, 0, none⟩) (gs.length + 1) cc)) (some S) from grownBy_setC _ ⟨S, 1, none⟩ _) HS8.out.b.2.2.1)
   clear HS HG7 HG8 HS8 s26 s27 s27a s28 f28 HD HGD HX HYE HZL HY1 HY2 HY3
   generalize w21.setCell ⟨S, 1, none⟩ (.slice (some ⟨gg, 0, none⟩) (gs.length + 1) cc) = w22 at HN22 HGN22 ⊢
   go_wp2_with fail
   refine (want_m HC.out ⟨#[59]⟩ (by decide) w22 _ HN22.out.m).mono ?_
   rintro en w23 ⟨rfl, g, hm⟩
   have HN23 := hdn ((HN22.out.call (rm' := Pr.th (Pr.th (.ok (y1, u1) : Pr.Res Pg) fun y u => Pr.th (Pa.variable_ l u) fun p v => (.ok (Pa.addG y p, v) : Pr.Res Pg)) fun y u => Pr.th (Pr.must (Pa.ts l) ⟨#[59]⟩ u) fun _ v => (.ok (y, v) : Pr.Res Pg)) g (m_call (g := fun y _ => y) hm)).re (fun h => h.more))
   have HGN23 := hdn (HGN22.out.par g (by have := HN22.out.b; omega))
   have HE23 : Hid (∀ y u, (Pr.th (Pr.th (.ok (y1, u1) : Pr.Res Pg) fun y u => Pr.th (Pa.variable_ l u) fun p v => (.ok (Pa.addG y p, v) : Pr.Res Pg)) fun y u => Pr.th (Pr.must (Pa.ts l) ⟨#[59]⟩ u) fun _ v => (.ok (y, v) : Pr.Res Pg)) = .ok (y, u) → pg3 ss (gs ++ [qDc.er y0]) ps = y) := hdn (by
    intro y u hc
    obtain ⟨y8, v8, h1, h2⟩ := Pr.th_ok hc
    obtain ⟨y9, v9, h3, h4⟩ := Pr.th_ok h2
    cases h4
    exact HE22.out _ _ h1)
   clear g hm HN22 HGN22 HE22
   go_wp2_with fail
   go_roundg (gk - 1)
   case measure => have := HG0.out; omega
   case rel =>
    obtain ⟨gj, hgj⟩ : ∃ k, gk = k + 1 := ⟨gk - 1, by have := HG0.out; omega⟩
    refine ⟨ss, gs ++ [qDc.er y0], ps, _, _, _, _, hdn ?_, HE23, hdn ?_, hdn ?_, HN23, HGN23⟩
    ·have := HGA.out; have := HG0.out; simp only [List.length_append, List.length_singleton]; omega
    ·rw [← HH.out, hgj, Nat.add_sub_cancel, Pr.th_okk]; exact (Pa.progP_g HK.out HF1.out HF2.out).symm
    ·intro a u hc; obtain ⟨y, v9, h1, h2⟩ := Pr.th_ok hc; obtain ⟨p9, z9, h3, h4⟩ := Pr.th_ok h2; obtain ⟨y8, v8, h5, h6⟩ := Pr.th_ok h1; obtain ⟨p7, z7, h7, h8⟩ := Pr.th_ok h6; cases h5; cases h4; cases h8; have h9 := Pa.avar_fwd h7; have h10 := (Pr.must_fwd h3).1; have h11 := HFUE.out _ _ rfl; omega
end Go.Proofs.YtmhpaacjioeknaaGreat
namespace Go.Proofs.YtmhpaacjioeknaaGreat
end Go.Proofs.YtmhpaacjioeknaaGreat
namespace Go.Proofs.YtmhpaacjioeknaaGreat
/-- Each behind its parent. -/
def HpA (f : Nat → Int) (n : Nat) : Prop := ∀ i, 0 < i → i < n → f ((i - 1) / 2) ≤ f i
/-- All but k, which may be less than its parent. -/
def HpUp (f : Nat → Int) (n k : Nat) : Prop := (∀ i, 0 < i → i < n → i ≠ k → f ((i - 1) / 2) ≤ f i) ∧ (∀ i, 0 < i → i < n → (i - 1) / 2 = k → 0 < k → f ((k - 1) / 2) ≤ f i)
/-- All but k's children. -/
def HpDn (f : Nat → Int) (n k : Nat) : Prop := (∀ i, 0 < i → i < n → (i - 1) / 2 ≠ k → f ((i - 1) / 2) ≤ f i) ∧ (∀ i, 0 < i → i < n → (i - 1) / 2 = k → 0 < k → f ((k - 1) / 2) ≤ f i)
def sw (f : Nat → Int) (a b : Nat) : Nat → Int := fun i => if i = a then f b else if i = b then f a else f i
theorem sw_a (f : Nat → Int) (a b : Nat) : sw f a b a = f b := by simp [sw]
theorem sw_b (f : Nat → Int) (a b : Nat) : sw f a b b = f a := by unfold sw; split <;> simp_all
theorem sw_o (f : Nat → Int) {a b i : Nat} (h1 : i ≠ a) (h2 : i ≠ b) : sw f a b i = f i := by simp [sw, h1, h2]
theorem up_done {f : Nat → Int} {n k : Nat} (h : HpUp f n k) (hd : k = 0 ∨ ¬ f k < f ((k - 1) / 2)) : HpA f n := by
 intro i h0 hn
 by_cases hk : i = k
 ·subst hk
  rcases hd with hd | hd <;> omega
 ·exact h.1 i h0 hn hk
theorem up_step {f : Nat → Int} {n k : Nat} (h : HpUp f n k) (hk : 0 < k) (hn : k < n) (hlt : f k < f ((k - 1) / 2)) : HpUp (sw f ((k - 1) / 2) k) n ((k - 1) / 2) := by
 obtain ⟨p, hp⟩ : ∃ p, p = (k - 1) / 2 := ⟨_, rfl⟩
 rw [← hp] at hlt ⊢
 have hpk : p < k := by omega
 constructor
 ·intro i h0 hi hne
  by_cases hik : i = k
  ·subst hik
   rw [← hp, sw_a, sw_b]; omega
  ·rw [sw_o f hne hik]
   by_cases hq : (i - 1) / 2 = k
   ·rw [hq, sw_b]
    have := h.2 i h0 hi hq hk
    rw [← hp] at this; exact this
   ·by_cases hr : (i - 1) / 2 = p
    ·rw [hr, sw_a]
     have := h.1 i h0 hi hik
     rw [hr] at this; omega
    ·rw [sw_o f hr hq]; exact h.1 i h0 hi hik
 ·intro i h0 hi hq hp0
  have hpp : (p - 1) / 2 ≠ p := by omega
  have hppk : (p - 1) / 2 ≠ k := by omega
  rw [sw_o f hpp hppk]
  have h1 := h.1 p hp0 (by omega) (by omega)
  by_cases hik : i = k
  ·subst hik; rw [sw_b]; exact h1
  ·by_cases hip : i = p
   ·omega
   ·rw [sw_o f hip hik]
    have := h.1 i h0 hi hik
    rw [hq] at this; omega
theorem dn_done {f : Nat → Int} {n k : Nat} (h : HpDn f n k) (hd : ∀ i, 0 < i → i < n → (i - 1) / 2 = k → f k ≤ f i) : HpA f n := by
 intro i h0 hn
 by_cases hk : (i - 1) / 2 = k
 ·rw [hk]; exact hd i h0 hn hk
 ·exact h.1 i h0 hn hk
theorem dn_step {f : Nat → Int} {n k j : Nat} (h : HpDn f n k) (hj : 0 < j) (hjn : j < n) (hjk : (j - 1) / 2 = k) (hm : ∀ i, 0 < i → i < n → (i - 1) / 2 = k → f j ≤ f i) (hlt : f j < f k) : HpDn (sw f k j) n j := by
 have hkj : k < j := by omega
 constructor
 ·intro i h0 hi hne
  by_cases hik : (i - 1) / 2 = k
  ·rw [hik, sw_a]
   by_cases hij : i = j
   ·subst hij; rw [sw_b]; omega
   ·by_cases hik2 : i = k
    ·omega
    ·rw [sw_o f hik2 hij]; exact hm i h0 hi hik
  ·rw [sw_o f hik hne]
   by_cases hik2 : i = k
   ·subst hik2
    rw [sw_a]
    have := h.2 j hj hjn hjk h0
    exact this
   ·by_cases hij : i = j
    ·subst hij; omega
    ·rw [sw_o f hik2 hij]; exact h.1 i h0 hi hik
 ·intro i h0 hi hq _
  rw [hjk, sw_a]
  have h1 := h.1 i h0 hi (by omega)
  rw [hq] at h1
  have hik : i ≠ k := by omega
  have hij : i ≠ j := by omega
  rw [sw_o f hik hij]; exact h1
theorem hp_min {f : Nat → Int} {n : Nat} (h : HpA f n) : ∀ i, i < n → f 0 ≤ f i := by
 intro i
 induction i using Nat.strongRecOn with
 | ind i ih =>
  intro hi
  by_cases h0 : i = 0
  ·subst h0; exact Int.le_refl _
  ·have h1 := h i (by omega) hi
   have h2 := ih ((i - 1) / 2) (by omega) (by omega)
   omega
/-- A row as a function. -/
def fn (xs : List Int) : Nat → Int := fun i => xs.getD i 0
/-- Two places of a row change. -/
def swl (xs : List Int) (a b : Nat) : List Int := (xs.set a (fn xs b)).set b (fn xs a)
theorem swl_len (xs : List Int) (a b : Nat) : (swl xs a b).length = xs.length := by simp [swl]
theorem fn_get (xs : List Int) (i : Nat) (h : i < xs.length) : fn xs i = xs[i] := by simp [fn, List.getD_eq_getElem?_getD, List.getElem?_eq_getElem h]
theorem fn_swl (xs : List Int) {a b : Nat} (ha : a < xs.length) (hb : b < xs.length) : fn (swl xs a b) = sw (fn xs) a b := by
 funext i
 unfold swl sw
 simp only [fn, List.getD_eq_getElem?_getD, List.getElem?_set, List.length_set]
 by_cases h1 : b = i
 ·subst h1
  by_cases h2 : b = a
  ·subst h2; simp [ha]
  ·simp [hb, h2]
 ·by_cases h2 : a = i
  ·subst h2; simp [h1, ha]
  ·have h3 : i ≠ a := fun e => h2 e.symm
   have h4 : i ≠ b := fun e => h1 e.symm
   simp [h1, h2, h3, h4]
theorem swl_perm (xs : List Int) {a b : Nat} (ha : a < xs.length) (hb : b < xs.length) : (swl xs a b).Perm xs := by
 unfold swl
 rw [fn_get xs a ha, fn_get xs b hb]
 exact List.set_set_perm ha hb
end Go.Proofs.YtmhpaacjioeknaaGreat
namespace Go.Proofs.YtmhpaacjioeknaaGreat
open Go.RowKit Go.Sort
/-- A row of numbers of one's own. -/
def OR (w : World) (B : Nat) (v : Value) (xs : List Int) : Prop := w.ownsRow B 3 1 v xs.length (xs.map iv)
theorem OR.shape {w : World} {B : Nat} {v : Value} {xs : List Int} (h : OR w B v xs) : ∃ a c, v = .slice a xs.length c := own_shape h
theorem OR.block {w : World} {B : Nat} {v : Value} {xs : List Int} (h : OR w B v xs) (hn : 0 < xs.length) : ∃ g c, v = .slice (some ⟨g, 0, none⟩) xs.length c ∧ B ≤ g ∧ g < w.heap.size := by
 have hl := h.lt
 rcases h.2 with ⟨rfl, h0⟩ | ⟨g, cap, cur, rfl, hg, _⟩
 ·omega
 ·exact ⟨g, cap, rfl, hg, (hl g rfl).2⟩
theorem OR.cell {w : World} {B g c : Nat} {xs : List Int} (h : OR w B (.slice (some ⟨g, 0, none⟩) xs.length c) xs) (j : Nat) (hj : j < xs.length) : w.cell? ⟨g, j, none⟩ = some (.int .i64 (fn xs j)) := by
 rw [World.ownsRow.cellAt h j (by omega), List.getElem?_map, List.getElem?_eq_getElem hj, fn_get xs j hj]; rfl
theorem OR.froz {w : World} {B g c : Nat} {xs : List Int} (h : OR w B (.slice (some ⟨g, 0, none⟩) xs.length c) xs) (j : Nat) : w.frozen? ⟨g, j, none⟩ = false := World.ownsRow.frozenAt h j
theorem OR.put {w : World} {B g c : Nat} {xs : List Int} (h : OR w B (.slice (some ⟨g, 0, none⟩) xs.length c) xs) (j : Nat) (u : Int) : OR (w.setCell ⟨g, j, none⟩ (.int .i64 u)) B (.slice (some ⟨g, 0, none⟩) xs.length c) (xs.set j u) := by
 have h1 := World.ownsRow.stored h j (.int .i64 u)
 unfold OR
 rw [List.length_set, List.map_set]
 exact h1.1
theorem OR.drew {w : World} {B : Nat} {v : Value} {xs : List Int} (h : OR w B v xs) : OR w.drew B v xs := h
theorem len_m (p : Option Addr) (n c : Nat) (w : World) : Calls Tryz.prog 38 #[.slice p n c] w fun e w' => e = .returned (.int .i64 n) ∧ w = w' := by
 go_enter Tryz.func38, Tryz.ntmps38
 go_wp2
 go_ret
 exact ⟨rfl, rfl⟩
theorem less_m {B : Nat} {v : Value} {xs : List Int} (i j : Nat) (w : World) (h : OR w B v xs) (hi : i < xs.length) (hj : j < xs.length) (hl : xs.length ≤ 1000000) :
  Calls Tryz.prog 115 #[v, .int .i64 i, .int .i64 j] w fun e w' => e = .returned (.bool (decide (fn xs i < fn xs j))) ∧ ∃ n, w' = w.drewN n := by
 obtain ⟨g, c, rfl, hB, hg⟩ := h.block (by omega)
 have ci := h.cell i hi
 have cj := h.cell j hj
 have hi' : (i : Int) < (xs.length : Int) := by omega
 have hj' : (j : Int) < (xs.length : Int) := by omega
 have hl' : (xs.length : Int) ≤ 1000000 := by omega
 generalize fn xs i = x at *
 generalize fn xs j = y at *
 clear h
 generalize xs.length = n at *
 go_enter Tryz.func115, Tryz.ntmps115
 go_wp2_with fail
 go_quiet (fail)
 go_wp2_with fail
 go_ret
 exact ⟨rfl, _, rfl⟩
theorem swap_m {B : Nat} {v : Value} {xs : List Int} (i j : Nat) (w : World) (h : OR w B v xs) (hi : i < xs.length) (hj : j < xs.length) (hl : xs.length ≤ 1000000) :
  Calls Tryz.prog 119 #[v, .int .i64 i, .int .i64 j] w fun e w' => e = .returned (.tuple #[]) ∧ OR w' B v (swl xs i j) ∧ w.grownBy w' v.ownBlock := by
 obtain ⟨g, c, rfl, hB, hg⟩ := h.block (by omega)
 have HO := hdn h
 have ci : w.drew.cell? ⟨g, i, none⟩ = some (.int .i64 (fn xs i)) := h.cell i hi
 have cj : w.drew.cell? ⟨g, j, none⟩ = some (.int .i64 (fn xs j)) := h.cell j hj
 have fi : w.drew.frozen? ⟨g, i, none⟩ = false := h.froz i
 have fj : w.drew.frozen? ⟨g, j, none⟩ = false := h.froz j
 have hi' : (i : Int) < (xs.length : Int) := by omega
 have hj' : (j : Int) < (xs.length : Int) := by omega
 have hl' : (xs.length : Int) ≤ 1000000 := by omega
 have h1 := World.ownsRow.stored h i (.int .i64 (fn xs j))
 have cj2 : (w.setCell ⟨g, i, none⟩ (.int .i64 (fn xs j))).drew.cell? ⟨g, j, none⟩ = some (.int .i64 (fn (xs.set i (fn xs j)) j)) := by
  have := h1.1.cellAt j (by omega)
  rw [show (xs.map iv).set i (.int .i64 (fn xs j)) = (xs.set i (fn xs j)).map iv by rw [List.map_set]; rfl] at this
  have hjl : j < (xs.set i (fn xs j)).length := by rw [List.length_set]; exact hj
  rw [List.getElem?_map, List.getElem?_eq_getElem hjl, Option.map_some, ← fn_get _ j hjl] at this
  exact this
 have fj2 : (w.setCell ⟨g, i, none⟩ (.int .i64 (fn xs j))).drew.frozen? ⟨g, j, none⟩ = false := h1.1.frozenAt j
 have HZ : Hid (OR ((w.setCell ⟨g, i, none⟩ (.int .i64 (fn xs j))).setCell ⟨g, j, none⟩ (.int .i64 (fn xs i))) B (.slice (some ⟨g, 0, none⟩) xs.length c) (swl xs i j) ∧ w.grownBy ((w.setCell ⟨g, i, none⟩ (.int .i64 (fn xs j))).setCell ⟨g, j, none⟩ (.int .i64 (fn xs i))) (some g)) := hdn (by
  have h2 := World.ownsRow.stored h1.1 j (.int .i64 (fn xs i))
  refine ⟨?_, grownBy_tr h1.2 h2.2⟩
  unfold OR swl
  rw [List.length_set, List.length_set, List.map_set, List.map_set]
  exact h2.1)
 generalize fn (xs.set i (fn xs j)) j = u9 at *
 clear h h1
 go_enter Tryz.func119, Tryz.ntmps119
 go_wp2_with fail
 go_region
 all_goals
  go_wp2_with fail
  go_end0
  exact ⟨rfl, HZ.out.1, grownBy_drew HZ.out.2⟩
end Go.Proofs.YtmhpaacjioeknaaGreat
namespace Go.Proofs.YtmhpaacjioeknaaGreat
open Go.RowKit Go.Sort
/-- The queue in block q holds the numbers xs. -/
structure QS (w : World) (q B : Nat) (v : Value) (xs : List Int) : Prop where
 blk : Bk w q 89 #[v]
 row : OR w B v xs
 lt : q < B
theorem QS.shape {w : World} {q B : Nat} {v : Value} {xs : List Int} (h : QS w q B v xs) : ∃ a c, v = .slice a xs.length c := h.row.shape
theorem QS.below {w w' : World} {q B : Nat} {v : Value} {xs : List Int} (h : QS w q B v xs) (hb : Below w.heap.size w w') : QS w' q B v xs := ⟨h.blk.below hb h.blk.lt, own_below h.row hb, h.lt⟩
theorem info3 : (Tryz.prog.info? 3).map (fun i => (i.zero, i.size, i.bytes)) = some (some (.int .i64 0), 1, 8) := by kernel_rfl
/-- The row of the first n numbers. -/
theorem OR.take {w : World} {B g c : Nat} {xs : List Int} (h : OR w B (.slice (some ⟨g, 0, none⟩) xs.length c) xs) (n : Nat) (hn : n ≤ xs.length) : OR w B (.slice (some ⟨g, 0, none⟩) n c) (xs.take n) := by
 rcases h.2 with ⟨h', _⟩ | ⟨g', cap', cur, h', hb, hg, hnc, hcm, hcs, htake⟩
 ·simp at h'
 ·simp only [Value.slice.injEq, Option.some.injEq, Addr.mk.injEq, and_true, true_and] at h'
  obtain ⟨rfl, rfl⟩ := h'
  have hl : (xs.take n).length = n := by rw [List.length_take]; omega
  refine ⟨by simp, .inr ⟨g, c, cur, by rw [hl], hb, hg, by omega, hcm, hcs, ?_⟩⟩
  rw [hl, Nat.mul_one, List.map_take, ← htake, List.take_take, Nat.mul_one, Nat.min_eq_left hn]
theorem pop_m {q B : Nat} {v : Value} {xs : List Int} (w : World) (h : QS w q B v xs) (hn : 0 < xs.length) (hl : xs.length ≤ 1000000) :
  Calls Tryz.prog 116 #[.pointer (some ⟨q, 0, none⟩)] w fun e w' => e = .returned (.iface 3 (.int .i64 (fn xs (xs.length - 1)))) ∧ (∃ v', QS w' q B v' (xs.take (xs.length - 1)) ∧ v'.ownBlock = v.ownBlock) ∧ w.grownBy w' (some q) := by
 obtain ⟨g, c, rfl, hB, hg⟩ := h.row.block hn
 have c0 : w.cell? ⟨q, 0, none⟩ = some (.slice (some ⟨g, 0, none⟩) xs.length c) := h.blk.cell 0
 have f0 := h.blk.frozen 0
 have cl := h.row.cell (xs.length - 1) (by omega)
 have HZ : Hid (QS (w.setCell ⟨q, 0, none⟩ (.slice (some ⟨g, 0, none⟩) (xs.length - 1) c)) q B (.slice (some ⟨g, 0, none⟩) (xs.length - 1) c) (xs.take (xs.length - 1)) ∧ w.grownBy (w.setCell ⟨q, 0, none⟩ (.slice (some ⟨g, 0, none⟩) (xs.length - 1) c)) (some q)) := hdn
  ⟨⟨h.blk.set_ 0 _, own_par (h.row.take (xs.length - 1) (by omega)) (grownBy_setC w ⟨q, 0, none⟩ _) h.lt, h.lt⟩, grownBy_setC w ⟨q, 0, none⟩ _⟩
 obtain ⟨m, hm⟩ : ∃ m, m = xs.length - 1 := ⟨_, rfl⟩
 rw [← hm] at HZ cl ⊢
 generalize fn xs m = x at *
 have hxl : xs.length = m + 1 := by omega
 rw [hxl] at c0
 have hm' : (m : Int) ≤ 1000000 := by omega
 have hm0 : (0 : Int) ≤ (m : Int) := Int.natCast_nonneg _
 have HOC : Hid (m + 1 ≤ c) := hdn (by
  rcases h.row.2 with ⟨h', _⟩ | ⟨g', cap', cur, h', _, _, hnc, _⟩
  ·simp at h'
  ·simp only [Value.slice.injEq, Option.some.injEq, Addr.mk.injEq, and_true, true_and] at h'; obtain ⟨rfl, rfl⟩ := h'; omega)
 have hc1 : (m : Int) ≤ (c : Int) := by have := HOC.out; omega
 clear h hn hl hxl hm
 go_enter Tryz.func116, Tryz.ntmps116
 go_wp2_with fail
 go_ret
 exact ⟨rfl, ⟨_, HZ.out.1, rfl⟩, HZ.out.2⟩
end Go.Proofs.YtmhpaacjioeknaaGreat
namespace Go.Proofs.YtmhpaacjioeknaaGreat
open Go.RowKit Go.Sort
theorem und33 : Tryz.prog.underlying 33 = some (.slice 3) := Tryz.underlying33
theorem und99 : Tryz.prog.underlying 87 = some (.slice 3) := Tryz.underlying87
/-- The row of which v is the value becomes v'. -/
def RowTo (w : World) (v v' : Value) : Prop := v'.ownBlock = v.ownBlock ∨ ∃ k, w.heap.size ≤ k ∧ v'.ownBlock = some k
/-- 'append(s, i)': the numbers are a row of one's own. -/
theorem wpList_app_int {ops : Array Oper} {rest : List Oper} {o : Oper} {a : Act} {w : World} {Q : Exit → Act → World → Prop} (hgd : o.guard = none) (t : TypeId) (hu : Tryz.prog.underlying t = some (.slice 3)) (s x : Operand)
  (ho : o.op = .call { callee := .builtin .append, args := #[s, x], argTypes := #[t, t] })
  (B : Nat) (xs : List Int) (v : Value) (hs : a.eval s = v) (hG : OR w B v xs) (hB : B ≤ w.heap.size) (y : Int) (hx : a.eval x = .slice (some ⟨w.heap.size, 0, none⟩) 1 1) (hb : xs.length ≤ 100000000)
  (h : ∀ v' w', OR w' B v' (xs ++ [y]) → (∃ g cap, v' = .slice (some ⟨g, 0, none⟩) (xs.length + 1) cap) → w.grownBy w' v.ownBlock → RowTo w v v' → wpList Tryz.prog ops Q rest (a.put o.dst v') w') : wpList Tryz.prog ops Q (o :: rest) a (w.alloc (.cells #[.int .i64 y] 3)) := by
 obtain ⟨i0, hi0, hz0, hz1, hz2⟩ := info_parts info3
 have hm : Below w.heap.size w (w.alloc (.cells #[.int .i64 y] 3)) := (Below.refl _ _).alloc (Nat.le_refl _) _
 refine wpList_plain hgd fun _ hK => ?_
 refine wp_append_lies _ s x t ho B 3 i0 (.int .i64 0) 1 8 hu hi0 hz0 hz1 hz2 rfl (by decide) v xs.length _ hs (hG.alloc _) ⟨w.heap.size, 0, none⟩ 1 1 [.int .i64 y] hx rfl ?_ (by intro u hu2; simp at hu2; subst hu2; rfl) (by decide) (by unfold maxLen; omega) (by omega) (Nat.le_trans hB hm.size) _ rfl ?_
 ·have := World.news_of_block (heap_alloc_new w (.cells #[.int .i64 y] 3))
  simpa using this
 ·intro g cap w' ho2 hg2 hat hlt
  refine hK _ _ (h _ w' ?_ ⟨g, cap, rfl⟩ (below_grown hm hg2) ?_)
  ·unfold OR
   rw [List.length_append, List.length_singleton, List.map_append]
   exact ho2
  ·rcases hat with hat | hat
   ·exact .inl hat.symm
   ·exact .inr ⟨g, by rw [hat]; simp, rfl⟩
theorem assert3 (i : Int) (w : World) : (Instr.typeAssert (.iface 3 (.int .i64 i)) 20 3 true).run Tryz.prog w = .ok (.tuple #[.int .i64 i, .bool true]) w := by
 simp [Instr.typeAssert, go_sem]
theorem push_m {q B : Nat} {v : Value} {xs : List Int} (i : Int) (w : World) (h : QS w q B v xs) (hB : B ≤ w.heap.size) (hl : xs.length ≤ 1000000) :
  Calls Tryz.prog 117 #[.pointer (some ⟨q, 0, none⟩), .iface 3 (.int .i64 i)] w fun e w' => e = .returned (.tuple #[]) ∧ ∃ v', QS w' q B v' (xs ++ [i]) ∧ Kp q v.ownBlock w w' ∧ Nx w v.ownBlock v'.ownBlock := by
 obtain ⟨a0, c0, rfl⟩ := h.shape
 have hA := assert3 i
 have HQ := hdn h
 have c0' : w.cell? ⟨q, 0, none⟩ = some (.slice a0 xs.length c0) := h.blk.cell 0
 have HB := hdn hB
 have HL := hdn hl
 clear h hB hl
 go_enter Tryz.func117, Tryz.ntmps117
 go_wp2_with (first | ((with_reducible show wpList _ _ _ (Oper.mk (some 19) _ _ _ _ _ :: _) _ _); refine wpList_app_int rfl 87 und99 (.tmp 16) (.tmp 18) rfl B xs (.slice a0 xs.length c0) rfl HQ.out.row HB.out i rfl (by have := HL.out; omega) ?_; intro v' w2 hO hsh hg hto; obtain ⟨g', c', rfl⟩ := hsh; have HO := hdn hO; have HG := hdn hg; have HTO := hdn hto; have HBK : Hid (Bk w2 q 89 #[.slice a0 xs.length c0]) := hdn (HQ.out.blk.grown hg (fun q' hq' => by have := (HQ.out.row.lt q' hq').1; have := HQ.out.lt; omega)); have c02 : w2.cell? ⟨q, 0, none⟩ = some (.slice a0 xs.length c0) := HBK.out.cell 0; have f02 := HBK.out.frozen 0; clear hO hg hto))
 go_end0
 have gq := grownBy_setC w2 ⟨q, 0, none⟩ (.slice (some ⟨g', 0, none⟩) (xs.length + 1) c')
 refine ⟨rfl, _, ⟨HBK.out.set_ 0 _, own_par HO.out gq HQ.out.lt, HQ.out.lt⟩, ?_, ?_⟩
 ·exact (Kp.of_row HG.out).trans (Nx.refl _ _) (Kp.of_map gq)
 ·rcases HTO.out with h1 | ⟨k, h1, h2⟩
  ·exact .inl h1
  ·exact .inr ⟨k, h1, h2⟩
end Go.Proofs.YtmhpaacjioeknaaGreat
namespace Go.Proofs.YtmhpaacjioeknaaGreat
open Go.RowKit Go.Sort
theorem mPush (q : Nat) (w : World) : Sem.run Tryz.prog (method 284 86 (.pointer (some ⟨q, 0, none⟩)) "Push") w = .ok (117, .pointer (some ⟨q, 0, none⟩)) w := by kernel_rfl
theorem mPop (q : Nat) (w : World) : Sem.run Tryz.prog (method 284 86 (.pointer (some ⟨q, 0, none⟩)) "Pop") w = .ok (116, .pointer (some ⟨q, 0, none⟩)) w := by kernel_rfl
theorem mLen (q : Nat) (w : World) (v : Value) (h : w.cell? ⟨q, 0, none⟩ = some v) : Sem.run Tryz.prog (method 284 86 (.pointer (some ⟨q, 0, none⟩)) "Len") w = .ok (38, v) w := by
 have h1 : Sem.run Tryz.prog (method 284 86 (.pointer (some ⟨q, 0, none⟩)) "Len") w = Sem.run Tryz.prog (do let r ← loadVar 87 ⟨q, 0, none⟩; pure (38, r)) w := by kernel_rfl
 rw [h1]
 simp [go_sem, h]
theorem mLess (q : Nat) (w : World) (v : Value) (h : w.cell? ⟨q, 0, none⟩ = some v) : Sem.run Tryz.prog (method 284 86 (.pointer (some ⟨q, 0, none⟩)) "Less") w = .ok (115, v) w := by
 have h1 : Sem.run Tryz.prog (method 284 86 (.pointer (some ⟨q, 0, none⟩)) "Less") w = Sem.run Tryz.prog (do let r ← loadVar 87 ⟨q, 0, none⟩; pure (115, r)) w := by kernel_rfl
 rw [h1]
 simp [go_sem, h]
theorem mSwap (q : Nat) (w : World) (v : Value) (h : w.cell? ⟨q, 0, none⟩ = some v) : Sem.run Tryz.prog (method 284 86 (.pointer (some ⟨q, 0, none⟩)) "Swap") w = .ok (119, v) w := by
 have h1 : Sem.run Tryz.prog (method 284 86 (.pointer (some ⟨q, 0, none⟩)) "Swap") w = Sem.run Tryz.prog (do let r ← loadVar 87 ⟨q, 0, none⟩; pure (119, r)) w := by kernel_rfl
 rw [h1]
 simp [go_sem, h]
theorem ent46 : ∀ args w, (callFunc 38 args).run Tryz.prog w = .ok (.enter 38 args) w := enters Tryz.func38 (by kernel_rfl) rfl
theorem ent117 : ∀ args w, (callFunc 115 args).run Tryz.prog w = .ok (.enter 115 args) w := enters Tryz.func115 (by kernel_rfl) rfl
theorem ent118 : ∀ args w, (callFunc 116 args).run Tryz.prog w = .ok (.enter 116 args) w := enters Tryz.func116 (by kernel_rfl) rfl
theorem ent119 : ∀ args w, (callFunc 117 args).run Tryz.prog w = .ok (.enter 117 args) w := enters Tryz.func117 (by kernel_rfl) rfl
theorem ent121 : ∀ args w, (callFunc 119 args).run Tryz.prog w = .ok (.enter 119 args) w := enters Tryz.func119 (by kernel_rfl) rfl
theorem QS.drewN {w : World} {q B : Nat} {v : Value} {xs : List Int} (h : QS w q B v xs) (n : Nat) : QS (w.drewN n) q B v xs := h.below (below_drewN (Below.refl _ _) n)
theorem grownBy_drewN {w w' : World} {r : Option Nat} (h : w.grownBy w' r) (n : Nat) : w.grownBy (w'.drewN n) r := ⟨h.os, h.tape, h.output, h.size, h.block⟩
theorem QS.swap {w w' : World} {q B : Nat} {v : Value} {xs ys : List Int} (h : QS w q B v xs) (ho : OR w' B v ys) (hg : w.grownBy w' v.ownBlock) : QS w' q B v ys :=
 ⟨h.blk.grown hg (fun q' hq' => by have := (h.row.lt q' hq').1; have := h.lt; omega), ho, h.lt⟩
theorem up_m {q B : Nat} {v : Value} {xs : List Int} (j0 : Nat) (w : World) (h : QS w q B v xs) (hj : j0 < xs.length) (hl : xs.length ≤ 1000000) (hh : HpUp (fn xs) xs.length j0) :
  Calls Tryz.prog 54 #[.iface 86 (.pointer (some ⟨q, 0, none⟩)), .int .i64 j0] w fun e w' => e = .returned (.tuple #[]) ∧ ∃ ys, QS w' q B v ys ∧ ys.Perm xs ∧ HpA (fn ys) ys.length ∧ w.grownBy w' v.ownBlock := by
 have e117 := ent117; have e121 := ent121
 have HL := hdn hl
 have HQ0 := hdn h
 have HH0 := hdn hh
 have HJ0 := hdn hj
 clear h hh hj hl
 go_enter Tryz.func54, Tryz.ntmps54
 go_wp2_with fail
 go_loopw [1] (fun sj wr => ∃ (j : Nat) (ys : List Int), sj = .int .i64 j ∧ Hid (j < ys.length) ∧ Hid (QS wr q B v ys) ∧ Hid (ys.Perm xs) ∧ Hid (HpUp (fn ys) ys.length j) ∧ Hid (w.grownBy wr v.ownBlock)) (fun sj _ => (Lib.intOf sj).toNat)
 case atStart => exact ⟨j0, xs, rfl, HJ0, HQ0, hdn (List.Perm.refl _), HH0, hdn (grownBy_of (Below.refl _ _) _)⟩
 case round =>
  obtain ⟨j, ys, rfl, HJ, HQ, HP, HH, HG⟩ := hrel
  have HLY : Hid (ys.length ≤ 1000000) := hdn (by rw [HP.out.length_eq]; exact HL.out)
  by_cases hj0 : j = 0
  ·subst hj0
   go_wp2_with fail
   go_end0
   exact ⟨rfl, ys, HQ.out, HP.out, up_done HH.out (.inl rfl), HG.out⟩
  ·obtain ⟨p, hp⟩ : ∃ p, p = (j - 1) / 2 := ⟨_, rfl⟩
   have hpj : p < j := by omega
   have hj1 : (1 : Int) ≤ (j : Int) := by omega
   have hj2 : (j : Int) ≤ 1000000 := by have := HJ.out; have := HLY.out; omega
   have hdiv : ((j : Int) - 1) / 2 = (p : Int) := by omega
   have hne : (((j : Int) - 1) / 2 == (j : Int)) = false := by rw [beq_eq_false_iff_ne]; omega
   have HPP := hdn hp
   have HPJ := hdn hpj
   have hcl : ∀ w', w'.cell? ⟨q, 0, none⟩ = some v → Sem.run Tryz.prog (method 284 86 (.pointer (some ⟨q, 0, none⟩)) "Less") w' = .ok (115, v) w' := fun w' hc => mLess q w' v hc
   have hm1 := hcl wr (HQ.out.blk.cell 0)
   have HDV := hdn hdiv
   have HLE : Hid (Calls Tryz.prog 115 #[v, .int .i64 j, .int .i64 (((j : Int) - 1) / 2)] wr fun e w' => e = .returned (.bool (decide (fn ys j < fn ys p))) ∧ ∃ n, w' = wr.drewN n) := hdn (by rw [hdiv]; exact less_m j p wr HQ.out.row HJ.out (by have := HJ.out; omega) HLY.out)
   clear hp hpj hj0 hcl hdiv
   rcases hlt : decide (fn ys j < fn ys p) with _ | _
   ·have HLT : Hid (fn ys p ≤ fn ys j) := hdn (by simpa using hlt)
    have HLD := hdn hlt
    clear hlt
    go_wp2_with (go_at_call 115; refine (HLE.out).mono ?_; rintro en w' ⟨rfl, n, rfl⟩; rw [HLD.out])
    go_end0
    exact ⟨rfl, ys, HQ.out.drewN n, HP.out, up_done HH.out (.inr (by rw [← HPP.out]; have := HLT.out; omega)), grownBy_drewN HG.out n⟩
   ·have HLT : Hid (fn ys j < fn ys p) := hdn (by simpa using hlt)
    have HLD := hdn hlt
    clear hlt
    have hm2 : ∀ n, Sem.run Tryz.prog (method 284 86 (.pointer (some ⟨q, 0, none⟩)) "Swap") (wr.drewN n) = .ok (119, v) (wr.drewN n) := fun n => mSwap q _ v (HQ.out.blk.cell 0)
    have HSW : Hid (∀ n, Calls Tryz.prog 119 #[v, .int .i64 (((j : Int) - 1) / 2), .int .i64 j] (wr.drewN n) fun e w' => e = .returned (.tuple #[]) ∧ OR w' B v (swl ys p j) ∧ (wr.drewN n).grownBy w' v.ownBlock) := hdn (fun n => by rw [HDV.out]; exact swap_m p j _ (HQ.out.drewN n).row (by have := HJ.out; have := HPJ.out; omega) HJ.out HLY.out)
    go_wp2_with (first | (go_at_call 115; refine (HLE.out).mono ?_; rintro en w' ⟨rfl, n, rfl⟩; rw [HLD.out]) | (go_at_call 119; refine (HSW.out n).mono ?_; rintro en w2 ⟨rfl, ho, hg⟩; have HO := hdn ho; have HG2 := hdn hg; clear ho hg))
    go_roundw
    case rel => exact ⟨p, swl ys p j, by rw [HDV.out], hdn (by rw [swl_len]; have := HJ.out; have := HPJ.out; omega), hdn ((HQ.out.drewN n).swap HO.out HG2.out), hdn ((swl_perm ys (by have := HJ.out; have := HPJ.out; omega) HJ.out).trans HP.out), hdn (by rw [swl_len, fn_swl ys (by have := HJ.out; have := HPJ.out; omega) HJ.out, HPP.out]; exact up_step HH.out (by have := HPJ.out; omega) HJ.out (by rw [← HPP.out]; exact HLT.out)), hdn (grownBy_tr (grownBy_drewN HG.out n) HG2.out)⟩
    case measure => have := HPJ.out; simp [Lib.intOf]; omega
end Go.Proofs.YtmhpaacjioeknaaGreat
namespace Go.Proofs.YtmhpaacjioeknaaGreat
open Go.RowKit Go.Sort
theorem fn_app (xs : List Int) (i : Int) (k : Nat) (h : k < xs.length) : fn (xs ++ [i]) k = fn xs k := by
 rw [fn_get _ k (by simp; omega), fn_get _ k h, List.getElem_append_left h]
theorem up_of {xs : List Int} (i : Int) (h : HpA (fn xs) xs.length) : HpUp (fn (xs ++ [i])) (xs ++ [i]).length xs.length := by
 rw [List.length_append, List.length_singleton]
 constructor
 ·intro k h0 hk hne
  rw [fn_app xs i k (by omega), fn_app xs i _ (by omega)]
  exact h k h0 (by omega)
 ·intro k h0 hk hq hp
  omega
theorem hpush_m {q B : Nat} {v : Value} {xs : List Int} (i : Int) (w : World) (h : QS w q B v xs) (hh : HpA (fn xs) xs.length) (hB : B ≤ w.heap.size) (hl : xs.length ≤ 900000) :
  Calls Tryz.prog 37 #[.iface 86 (.pointer (some ⟨q, 0, none⟩)), .iface 3 (.int .i64 i)] w fun e w' => e = .returned (.tuple #[]) ∧ ∃ v' ys, QS w' q B v' ys ∧ ys.Perm (xs ++ [i]) ∧ HpA (fn ys) ys.length ∧ Kp q v.ownBlock w w' ∧ Nx w v.ownBlock v'.ownBlock := by
 have e119 := ent119; have e46 := ent46
 have m1 : Sem.run Tryz.prog (method 284 86 (.pointer (some ⟨q, 0, none⟩)) "Push") w = .ok (117, .pointer (some ⟨q, 0, none⟩)) w := mPush q w
 have HP := hdn (push_m i w h hB (by omega))
 have HU := hdn (up_of i hh)
 have HL : Hid ((xs ++ [i]).length = xs.length + 1 ∧ xs.length ≤ 900000) := hdn ⟨by simp, hl⟩
 obtain ⟨zs, hzs⟩ : ∃ zs, zs = xs ++ [i] := ⟨_, rfl⟩
 rw [← hzs] at HP HU HL ⊢
 clear hzs h hh hB hl
 go_enter Tryz.func37, Tryz.ntmps37
 go_wp2_with fail
 go_wp2_with (go_at_call 117; refine (HP.out).mono ?_; rintro en w1 ⟨rfl, v1, hq1, hk1, hn1⟩; have HQ1 := hdn hq1; have HK1 := hdn hk1; have HN1 := hdn hn1; clear hq1 hk1 hn1; have m2 : Sem.run Tryz.prog (method 284 86 (.pointer (some ⟨q, 0, none⟩)) "Len") w1 = .ok (38, v1) w1 := mLen q w1 v1 (HQ1.out.blk.cell 0))
 obtain ⟨a0, c0, rfl⟩ := HQ1.out.shape
 have hz1 : (1 : Int) ≤ (zs.length : Int) := by have := HL.out; omega
 have hz2 : (zs.length : Int) ≤ 1000000 := by have := HL.out; omega
 have HUP : Hid (Calls Tryz.prog 54 #[.iface 86 (.pointer (some ⟨q, 0, none⟩)), .int .i64 ((zs.length : Int) - 1)] w1 fun e w' => e = .returned (.tuple #[]) ∧ ∃ ys, QS w' q B (.slice a0 zs.length c0) ys ∧ ys.Perm zs ∧ HpA (fn ys) ys.length ∧ w1.grownBy w' (Value.slice a0 zs.length c0).ownBlock) := hdn (by
  rw [show ((zs.length : Int) - 1) = ((xs.length : Nat) : Int) by have := HL.out; omega]
  exact up_m xs.length w1 HQ1.out (by have := HL.out; omega) (by have := HL.out; omega) HU.out)
 go_wp2_with (first | (go_at_call 38; refine (len_m _ _ _ _).mono ?_; rintro en w2 ⟨rfl, rfl⟩) | (go_at_call 54; refine (HUP.out).mono ?_; rintro en w3 ⟨rfl, ys, hq, hp, hh, hg⟩; have HQ := hdn hq; have HPm := hdn hp; have HHp := hdn hh; have HGr := hdn hg; clear hq hp hh hg))
 go_end0
 exact ⟨rfl, _, ys, HQ.out, HPm.out, HHp.out, HK1.out.trans HN1.out (Kp.of_row HGr.out), HN1.out⟩
theorem down_m {q B : Nat} {v : Value} {xs : List Int} (n : Nat) (w : World) (h : QS w q B v xs) (hn : n ≤ xs.length) (hl : xs.length ≤ 1000000) (hh : HpDn (fn xs) n 0) :
  Calls Tryz.prog 76 #[.iface 86 (.pointer (some ⟨q, 0, none⟩)), .int .i64 0, .int .i64 n] w fun e w' => ∃ b ys, e = .returned (.bool b) ∧ QS w' q B v ys ∧ ys.Perm xs ∧ HpA (fn ys) n ∧ (∀ k, n ≤ k → fn ys k = fn xs k) ∧ w.grownBy w' v.ownBlock := by
 have e117 := ent117; have e121 := ent121
 have HL : Hid (n ≤ xs.length ∧ xs.length ≤ 1000000) := hdn ⟨hn, hl⟩
 have HQ0 := hdn h
 have HH0 := hdn hh
 have hn2 : (n : Int) ≤ 1000000 := by omega
 clear h hh hn hl
 go_enter Tryz.func76, Tryz.ntmps76
 go_wp2_with fail
 go_loopw [7] (fun si wr => ∃ (i : Nat) (ys : List Int), si = .int .i64 i ∧ Hid (i ≤ n) ∧ Hid (QS wr q B v ys) ∧ Hid (ys.Perm xs) ∧ Hid (HpDn (fn ys) n i) ∧ Hid (∀ k, n ≤ k → fn ys k = fn xs k) ∧ Hid (w.grownBy wr v.ownBlock)) (fun si _ => n - (Lib.intOf si).toNat)
 case atStart => exact ⟨0, xs, rfl, hdn (Nat.zero_le _), HQ0, hdn (List.Perm.refl _), HH0, hdn (fun _ _ => rfl), hdn (grownBy_of (Below.refl _ _) _)⟩
 case round =>
  obtain ⟨i, ys, rfl, HI, HQ, HP, HH, HF, HG⟩ := hrel
  have HLY : Hid (n ≤ ys.length ∧ ys.length ≤ 1000000) := hdn (by rw [HP.out.length_eq]; exact HL.out)
  have hi0 : (0 : Int) ≤ (i : Int) := Int.natCast_nonneg _
  have hi1 : (i : Int) ≤ 1000000 := by have := HI.out; omega
  by_cases hj1 : 2 * i + 1 < n
  ·have hd1 : decide ((n : Int) ≤ 2 * (i : Int) + 1) = false := by simp; omega
   have hd2 : decide (2 * (i : Int) + 1 < 0) = false := by simp; omega
   have HJ1 := hdn hj1
   -- the lesser child
   have HLS : Hid (∀ (a b : Nat) (x y : Int), (x = (a : Int)) → (y = (b : Int)) → a < ys.length → b < ys.length → ∀ w', QS w' q B v ys → Calls Tryz.prog 115 #[v, .int .i64 x, .int .i64 y] w' fun e w'' => e = .returned (.bool (decide (fn ys a < fn ys b))) ∧ ∃ n, w'' = w'.drewN n) := hdn (by
    intro a b x y hx hy ha hb w' hw
    subst hx; subst hy
    exact less_m a b w' hw.row ha hb HLY.out.2)
   have HSW : Hid (∀ (b : Nat) (y : Int), (y = (b : Int)) → b < ys.length → ∀ w', QS w' q B v ys → Calls Tryz.prog 119 #[v, .int .i64 i, .int .i64 y] w' fun e w'' => e = .returned (.tuple #[]) ∧ OR w'' B v (swl ys i b) ∧ w'.grownBy w'' v.ownBlock) := hdn (by
    intro b y hy hb w' hw
    subst hy
    exact swap_m i b w' hw.row (by have := HJ1.out; have := HLY.out; omega) hb HLY.out.2)
   have hml : ∀ w', w'.cell? ⟨q, 0, none⟩ = some v → Sem.run Tryz.prog (method 284 86 (.pointer (some ⟨q, 0, none⟩)) "Less") w' = .ok (115, v) w' := fun w' hc => mLess q w' v hc
   have HML := hdn hml
   clear hj1 hml
   -- what is left, once the child is j
   have HREST : ∀ (j : Nat), Hid (j < n ∧ (j = 2 * i + 1 ∨ j = 2 * i + 2) ∧ (∀ c, 0 < c → c < n → (c - 1) / 2 = i → fn ys j ≤ fn ys c)) → Hid (fn ys i ≤ fn ys j → HpA (fn ys) n) ∧ Hid (fn ys j < fn ys i → HpDn (fn (swl ys i j)) n j ∧ (∀ k, n ≤ k → fn (swl ys i j) k = fn xs k)) := fun j hj => ⟨hdn (fun hle => dn_done HH.out (fun c h0 h1 h2 => by have := hj.out.2.2 c h0 h1 h2; omega)), hdn (fun hlt => by
    have h1 := hj.out
    have hil : i < ys.length := by have := HJ1.out; have := HLY.out; omega
    have hjl : j < ys.length := by have := HLY.out; omega
    rw [fn_swl ys hil hjl]
    refine ⟨dn_step HH.out (by omega) h1.1 (by omega) h1.2.2 hlt, fun k hk => ?_⟩
    rw [sw_o _ (by have := HJ1.out; omega) (by omega)]
    exact HF.out k hk)⟩
   by_cases hj2 : 2 * i + 2 < n
   ·have hd3 : decide (2 * (i : Int) + 1 + 1 < (n : Int)) = true := by simp; omega
    have HJ2 := hdn hj2
    clear hj2
    have m1 := HML.out wr (HQ.out.blk.cell 0)
    have HL1 := hdn (HLS.out (2 * i + 2) (2 * i + 1) (2 * (i : Int) + 1 + 1) (2 * (i : Int) + 1) (by omega) (by omega) (by have := HJ2.out; have := HLY.out; omega) (by have := HJ1.out; have := HLY.out; omega) wr HQ.out)
    rcases hl1 : decide (fn ys (2 * i + 2) < fn ys (2 * i + 1)) with _ | _
    ·have HLA : Hid (fn ys (2 * i + 1) ≤ fn ys (2 * i + 2)) := hdn (by simpa using hl1)
     have HLD1 := hdn hl1
     clear hl1
     go_upto_region 8 with (go_at_call 115; refine (HL1.out).mono ?_; rintro en w7 ⟨rfl, n7, hw7⟩; rw [HLD1.out]; have HQ7 : Hid (QS w7 q B v ys) := hdn (by rw [hw7]; exact HQ.out.drewN n7); have HG7 : Hid (w.grownBy w7 v.ownBlock) := hdn (by rw [hw7]; exact grownBy_drewN HG.out n7); clear hw7)
     have HJR := HREST (2 * i + 1) (hdn ⟨HJ1.out, .inl rfl, fun c h0 h1 h2 => by have h3 : c = 2 * i + 1 ∨ c = 2 * i + 2 := (by omega); rcases h3 with rfl | rfl; (· omega); (· exact HLA.out)⟩)
     have HA := HJR.1
     have HB := HJR.2
     have HJN : Hid (2 * i + 1 < n ∧ 2 * i + 1 < ys.length) := hdn (by have := HJ1.out; have := HLY.out;  omega)
     have m2 := HML.out w7 (HQ7.out.blk.cell 0)
     have HL2 := hdn (HLS.out (2 * i + 1) i (2 * (i : Int) + 1) (i : Int) (by omega) rfl HJN.out.2 (by have := HJ1.out; have := HLY.out; omega) w7 HQ7.out)
     clear HJR HREST
     rcases hl2 : decide (fn ys (2 * i + 1) < fn ys i) with _ | _
     ·have HLE : Hid (fn ys i ≤ fn ys (2 * i + 1)) := hdn (by simpa using hl2)
      have HLD2 := hdn hl2
      clear hl2
      go_wp2_with (go_at_call 115; refine (HL2.out).mono ?_; rintro en w8 ⟨rfl, n8, hw8⟩; rw [HLD2.out]; have HQ8 : Hid (QS w8 q B v ys) := hdn (by rw [hw8]; exact HQ7.out.drewN n8); have HG8 : Hid (w.grownBy w8 v.ownBlock) := hdn (by rw [hw8]; exact grownBy_drewN HG7.out n8); clear hw8)
      go_ret
      exact ⟨_, ys, rfl, HQ8.out, HP.out, HA.out HLE.out, HF.out, HG8.out⟩
     ·have HLT : Hid (fn ys (2 * i + 1) < fn ys i) := hdn (by simpa using hl2)
      have HLD2 := hdn hl2
      clear hl2
      go_wp2_with (first | (go_at_call 115; refine (HL2.out).mono ?_; rintro en w8 ⟨rfl, n8, hw8⟩; rw [HLD2.out]; have HQ8 : Hid (QS w8 q B v ys) := hdn (by rw [hw8]; exact HQ7.out.drewN n8); have HG8 : Hid (w.grownBy w8 v.ownBlock) := hdn (by rw [hw8]; exact grownBy_drewN HG7.out n8); clear hw8; have m3 := mSwap q w8 v (HQ8.out.blk.cell 0)) | (go_at_call 119; refine (HSW.out (2 * i + 1) (2 * (i : Int) + 1) (by omega) HJN.out.2 _ HQ8.out).mono ?_; rintro en w9 ⟨rfl, ho, hg⟩; have HO := hdn ho; have HG9 := hdn hg; clear ho hg))
      go_roundw
      case rel => exact ⟨2 * i + 1, swl ys i (2 * i + 1), by congr 1, hdn (by have := HJN.out; omega), hdn (HQ8.out.swap HO.out HG9.out), hdn ((swl_perm ys (by have := HJ1.out; have := HLY.out; omega) HJN.out.2).trans HP.out), hdn (HB.out HLT.out).1, hdn (HB.out HLT.out).2, hdn (grownBy_tr HG8.out HG9.out)⟩
      case measure => have := HJN.out; simp [Lib.intOf]; omega
    ·have HLA : Hid (fn ys (2 * i + 2) ≤ fn ys (2 * i + 1)) := hdn (by have h9 : fn ys (2 * i + 2) < fn ys (2 * i + 1) := (by simpa using hl1); omega)
     have HLD1 := hdn hl1
     clear hl1
     go_upto_region 8 with (go_at_call 115; refine (HL1.out).mono ?_; rintro en w7 ⟨rfl, n7, hw7⟩; rw [HLD1.out]; have HQ7 : Hid (QS w7 q B v ys) := hdn (by rw [hw7]; exact HQ.out.drewN n7); have HG7 : Hid (w.grownBy w7 v.ownBlock) := hdn (by rw [hw7]; exact grownBy_drewN HG.out n7); clear hw7)
     have HJR := HREST (2 * i + 2) (hdn ⟨HJ2.out, .inr rfl, fun c h0 h1 h2 => by have h3 : c = 2 * i + 1 ∨ c = 2 * i + 2 := (by omega); rcases h3 with rfl | rfl; (· exact HLA.out); (· omega)⟩)
     have HA := HJR.1
     have HB := HJR.2
     have HJN : Hid (2 * i + 2 < n ∧ 2 * i + 2 < ys.length) := hdn (by have := HJ1.out; have := HLY.out; have := HJ2.out; omega)
     have m2 := HML.out w7 (HQ7.out.blk.cell 0)
     have HL2 := hdn (HLS.out (2 * i + 2) i (2 * (i : Int) + 1 + 1) (i : Int) (by omega) rfl HJN.out.2 (by have := HJ1.out; have := HLY.out; omega) w7 HQ7.out)
     clear HJR HREST
     rcases hl2 : decide (fn ys (2 * i + 2) < fn ys i) with _ | _
     ·have HLE : Hid (fn ys i ≤ fn ys (2 * i + 2)) := hdn (by simpa using hl2)
      have HLD2 := hdn hl2
      clear hl2
      go_wp2_with (go_at_call 115; refine (HL2.out).mono ?_; rintro en w8 ⟨rfl, n8, hw8⟩; rw [HLD2.out]; have HQ8 : Hid (QS w8 q B v ys) := hdn (by rw [hw8]; exact HQ7.out.drewN n8); have HG8 : Hid (w.grownBy w8 v.ownBlock) := hdn (by rw [hw8]; exact grownBy_drewN HG7.out n8); clear hw8)
      go_ret
      exact ⟨_, ys, rfl, HQ8.out, HP.out, HA.out HLE.out, HF.out, HG8.out⟩
     ·have HLT : Hid (fn ys (2 * i + 2) < fn ys i) := hdn (by simpa using hl2)
      have HLD2 := hdn hl2
      clear hl2
      go_wp2_with (first | (go_at_call 115; refine (HL2.out).mono ?_; rintro en w8 ⟨rfl, n8, hw8⟩; rw [HLD2.out]; have HQ8 : Hid (QS w8 q B v ys) := hdn (by rw [hw8]; exact HQ7.out.drewN n8); have HG8 : Hid (w.grownBy w8 v.ownBlock) := hdn (by rw [hw8]; exact grownBy_drewN HG7.out n8); clear hw8; have m3 := mSwap q w8 v (HQ8.out.blk.cell 0)) | (go_at_call 119; refine (HSW.out (2 * i + 2) (2 * (i : Int) + 1 + 1) (by omega) HJN.out.2 _ HQ8.out).mono ?_; rintro en w9 ⟨rfl, ho, hg⟩; have HO := hdn ho; have HG9 := hdn hg; clear ho hg))
      go_roundw
      case rel => exact ⟨2 * i + 2, swl ys i (2 * i + 2), by congr 1, hdn (by have := HJN.out; omega), hdn (HQ8.out.swap HO.out HG9.out), hdn ((swl_perm ys (by have := HJ1.out; have := HLY.out; omega) HJN.out.2).trans HP.out), hdn (HB.out HLT.out).1, hdn (HB.out HLT.out).2, hdn (grownBy_tr HG8.out HG9.out)⟩
      case measure => have := HJN.out; simp [Lib.intOf]; omega
   ·have hd3 : decide (2 * (i : Int) + 1 + 1 < (n : Int)) = false := by simp; omega
    have HJ2 := hdn hj2
    clear hj2
    go_upto_region 8 with fail
    have HJR := HREST (2 * i + 1) (hdn ⟨HJ1.out, .inl rfl, fun c h0 h1 h2 => by have h3 : c = 2 * i + 1 ∨ c = 2 * i + 2 := (by omega); rcases h3 with rfl | rfl; (· omega); (· exact (HJ2.out h1).elim)⟩)
    have HA := HJR.1
    have HB := HJR.2
    have HJN : Hid (2 * i + 1 < n ∧ 2 * i + 1 < ys.length) := hdn (by have := HJ1.out; have := HLY.out;  omega)
    have m2 := HML.out wr (HQ.out.blk.cell 0)
    have HL2 := hdn (HLS.out (2 * i + 1) i (2 * (i : Int) + 1) (i : Int) (by omega) rfl HJN.out.2 (by have := HJ1.out; have := HLY.out; omega) wr HQ.out)
    clear HJR HREST
    rcases hl2 : decide (fn ys (2 * i + 1) < fn ys i) with _ | _
    ·have HLE : Hid (fn ys i ≤ fn ys (2 * i + 1)) := hdn (by simpa using hl2)
     have HLD2 := hdn hl2
     clear hl2
     go_wp2_with (go_at_call 115; refine (HL2.out).mono ?_; rintro en w8 ⟨rfl, n8, hw8⟩; rw [HLD2.out]; have HQ8 : Hid (QS w8 q B v ys) := hdn (by rw [hw8]; exact HQ.out.drewN n8); have HG8 : Hid (w.grownBy w8 v.ownBlock) := hdn (by rw [hw8]; exact grownBy_drewN HG.out n8); clear hw8)
     go_ret
     exact ⟨_, ys, rfl, HQ8.out, HP.out, HA.out HLE.out, HF.out, HG8.out⟩
    ·have HLT : Hid (fn ys (2 * i + 1) < fn ys i) := hdn (by simpa using hl2)
     have HLD2 := hdn hl2
     clear hl2
     go_wp2_with (first | (go_at_call 115; refine (HL2.out).mono ?_; rintro en w8 ⟨rfl, n8, hw8⟩; rw [HLD2.out]; have HQ8 : Hid (QS w8 q B v ys) := hdn (by rw [hw8]; exact HQ.out.drewN n8); have HG8 : Hid (w.grownBy w8 v.ownBlock) := hdn (by rw [hw8]; exact grownBy_drewN HG.out n8); clear hw8; have m3 := mSwap q w8 v (HQ8.out.blk.cell 0)) | (go_at_call 119; refine (HSW.out (2 * i + 1) (2 * (i : Int) + 1) (by omega) HJN.out.2 _ HQ8.out).mono ?_; rintro en w9 ⟨rfl, ho, hg⟩; have HO := hdn ho; have HG9 := hdn hg; clear ho hg))
     go_roundw
     case rel => exact ⟨2 * i + 1, swl ys i (2 * i + 1), by congr 1, hdn (by have := HJN.out; omega), hdn (HQ8.out.swap HO.out HG9.out), hdn ((swl_perm ys (by have := HJ1.out; have := HLY.out; omega) HJN.out.2).trans HP.out), hdn (HB.out HLT.out).1, hdn (HB.out HLT.out).2, hdn (grownBy_tr HG8.out HG9.out)⟩
     case measure => have := HJN.out; simp [Lib.intOf]; omega
  ·have hd1 : decide ((n : Int) ≤ 2 * (i : Int) + 1) = true := by simp; omega
   have HJ1 := hdn hj1
   clear hj1
   go_wp2_with fail
   go_ret
   exact ⟨_, ys, rfl, HQ.out, HP.out, dn_done HH.out (fun c h0 h1 h2 => by have := HJ1.out; omega), HF.out, HG.out⟩
end Go.Proofs.YtmhpaacjioeknaaGreat
namespace Go.Proofs.YtmhpaacjioeknaaGreat
open Go.RowKit Go.Sort
theorem dn_of {xs : List Int} {m : Nat} (hm : m < xs.length) (h : HpA (fn xs) xs.length) (hl : xs.length = m + 1) : HpDn (fn (swl xs 0 m)) m 0 := by
 rw [fn_swl xs (by omega) hm]
 constructor
 ·intro i h0 hi hne
  have h1 : (i - 1) / 2 ≠ m := by omega
  rw [sw_o (fn xs) (show i ≠ 0 by omega) (show i ≠ m by omega), sw_o (fn xs) hne h1]
  exact h i h0 (by omega)
 ·intro i h0 hi hq hp; omega
theorem fn_swl_end {xs : List Int} {m : Nat} (hm : m < xs.length) : fn (swl xs 0 m) m = fn xs 0 := by
 rw [fn_swl xs (by omega) hm, sw_b]
theorem fn_take {xs : List Int} {n k : Nat} (hk : k < n) (hn : n ≤ xs.length) : fn (xs.take n) k = fn xs k := by
 rw [fn_get _ k (by rw [List.length_take]; omega), fn_get _ k (by omega), List.getElem_take]
theorem take_last {xs : List Int} {m : Nat} (h : xs.length = m + 1) : xs.take m ++ [fn xs m] = xs := by
 rw [fn_get xs m (by omega)]
 have h1 : xs.take (m + 1) = xs := List.take_of_length_le (by omega)
 rw [List.take_succ_eq_append_getElem (by omega)] at h1
 exact h1
theorem hpop_m {q B : Nat} {v : Value} {xs : List Int} (w : World) (h : QS w q B v xs) (hh : HpA (fn xs) xs.length) (hn : 0 < xs.length) (hl : xs.length ≤ 1000000) :
  Calls Tryz.prog 55 #[.iface 86 (.pointer (some ⟨q, 0, none⟩))] w fun e w' => (∃ x, e = .returned (.iface 3 (.int .i64 x))) ∧ ∃ v' ys, QS w' q B v' ys ∧ (ys ++ [fn xs 0]).Perm xs ∧ HpA (fn ys) ys.length ∧ Kp q v.ownBlock w w' ∧ v'.ownBlock = v.ownBlock := by
 have e46 := ent46; have e121 := ent121; have e118 := ent118
 have m1 : Sem.run Tryz.prog (method 284 86 (.pointer (some ⟨q, 0, none⟩)) "Len") w = .ok (38, v) w := mLen q w v (h.blk.cell 0)
 have m2 : Sem.run Tryz.prog (method 284 86 (.pointer (some ⟨q, 0, none⟩)) "Swap") w = .ok (119, v) w := mSwap q w v (h.blk.cell 0)
 obtain ⟨a0, c0, rfl⟩ := h.shape
 obtain ⟨m, hm⟩ : ∃ m, xs.length = m + 1 := ⟨xs.length - 1, by omega⟩
 have HM : Hid (xs.length = m + 1) := hdn hm
 have HQ := hdn h
 have hx1 : (1 : Int) ≤ (xs.length : Int) := by omega
 have hx2 : (xs.length : Int) ≤ 1000000 := by omega
 have HSW : Hid (Calls Tryz.prog 119 #[.slice a0 xs.length c0, .int .i64 0, .int .i64 ((xs.length : Int) - 1)] w fun e w' => e = .returned (.tuple #[]) ∧ OR w' B (.slice a0 xs.length c0) (swl xs 0 m) ∧ w.grownBy w' (Value.slice a0 xs.length c0).ownBlock) := hdn (by
  rw [show ((xs.length : Int) - 1) = (m : Int) by omega]
  exact swap_m 0 m w h.row hn (by omega) hl)
 have HDN : Hid (∀ w', QS w' q B (.slice a0 xs.length c0) (swl xs 0 m) → Calls Tryz.prog 76 #[.iface 86 (.pointer (some ⟨q, 0, none⟩)), .int .i64 0, .int .i64 ((xs.length : Int) - 1)] w' fun e w'' => ∃ b ys, e = .returned (.bool b) ∧ QS w'' q B (.slice a0 xs.length c0) ys ∧ ys.Perm (swl xs 0 m) ∧ HpA (fn ys) m ∧ (∀ k, m ≤ k → fn ys k = fn (swl xs 0 m) k) ∧ w'.grownBy w'' (Value.slice a0 xs.length c0).ownBlock) := hdn (by
  intro w' hq
  rw [show ((xs.length : Int) - 1) = (m : Int) by omega]
  exact down_m m w' hq (by rw [swl_len]; omega) (by rw [swl_len]; omega) (dn_of (by omega) hh hm))
 have HPM : Hid ((swl xs 0 m).Perm xs ∧ fn (swl xs 0 m) m = fn xs 0) := hdn ⟨swl_perm xs (by omega) (by omega), fn_swl_end (by omega)⟩
 clear h hh hn hl hm
 go_enter Tryz.func55, Tryz.ntmps55
 go_wp2_with (first | (go_at_call 38; refine (len_m _ _ _ _).mono ?_; rintro en w2 ⟨rfl, rfl⟩) | (go_at_call 119; refine (HSW.out).mono ?_; rintro en w3 ⟨rfl, ho, hg⟩; have HQ3 := hdn (HQ.out.swap ho hg); have HG3 := hdn hg; clear ho hg) | (go_at_call 76; refine (HDN.out _ HQ3.out).mono ?_; rintro en w4 ⟨b, ys, rfl, hq, hp, hh, hf, hg⟩; have HQ4 := hdn hq; have HP4 := hdn hp; have HH4 := hdn hh; have HF4 := hdn hf; have HG4 := hdn (grownBy_tr HG3.out hg); clear hq hp hh hf hg; have m3 := mPop q w4) | (go_at_call 116; refine (pop_m _ HQ4.out (by have h1 := HP4.out.length_eq; rw [swl_len] at h1; have := HM.out; omega) (by have h1 := HP4.out.length_eq; rw [swl_len] at h1; omega)).mono ?_; rintro en w5 ⟨rfl, ⟨v', hq5, ho5⟩, hg5⟩; have HQ5 := hdn hq5; have HO5 := hdn ho5; have HG5 := hdn hg5; clear hq5 ho5 hg5))
 go_ret
 have hyl : ys.length = m + 1 := by have h1 := HP4.out.length_eq; rw [swl_len] at h1; have := HM.out; omega
 refine ⟨⟨_, rfl⟩, v', ys.take m, ?_, ?_, ?_, (Kp.of_row HG4.out).trans (Nx.refl _ _) (Kp.of_map HG5.out), HO5.out⟩
 ·have := HQ5.out; rwa [hyl, Nat.add_sub_cancel] at this
 ·rw [← HPM.out.2, ← HF4.out m (Nat.le_refl _), take_last hyl]
  exact HP4.out.trans HPM.out.1
 ·intro i h0 hi
  rw [List.length_take, hyl] at hi
  have h1 : i < m := by omega
  rw [fn_take h1 (by omega), fn_take (by omega : (i - 1) / 2 < m) (by omega)]
  exact HH4.out i h0 h1
theorem next_m {q B : Nat} {v : Value} {xs : List Int} (w : World) (h : QS w q B v xs) (hh : HpA (fn xs) xs.length) (hn : 0 < xs.length) (hl : xs.length ≤ 1000000) :
  Calls Tryz.prog 39 #[.pointer (some ⟨q, 0, none⟩)] w fun e w' => e = .returned (.int .i64 (fn xs 0)) ∧ ∃ v' ys, QS w' q B v' ys ∧ (ys ++ [fn xs 0]).Perm xs ∧ HpA (fn ys) ys.length ∧ Kp q v.ownBlock w w' ∧ v'.ownBlock = v.ownBlock := by
 obtain ⟨g, c, rfl, hB, hg⟩ := h.row.block hn
 have c0 : w.cell? ⟨q, 0, none⟩ = some (.slice (some ⟨g, 0, none⟩) xs.length c) := h.blk.cell 0
 have c1 := h.row.cell 0 hn
 have HPO := hdn (hpop_m w h hh hn hl)
 have hx1 : (0 : Int) < (xs.length : Int) := by omega
 have hx3 : 0 < xs.length := hn
 clear h hh hn hl
 generalize fn xs 0 = x at *
 generalize hxl : xs.length = n at *
 clear hxl
 go_enter Tryz.func39, Tryz.ntmps39
 go_wp2_with (go_at_call 55; refine (HPO.out).mono ?_; rintro en w5 ⟨⟨y, rfl⟩, v', ys, hq, hp, hh, hk, ho⟩; have HQ5 := hdn hq; have HP5 := hdn hp; have HH5 := hdn hh; have HK5 := hdn hk; have HO5 := hdn ho; clear hq hp hh hk ho)
 go_ret
 exact ⟨rfl, v', ys, HQ5.out, HP5.out, HH5.out, HK5.out, HO5.out⟩
end Go.Proofs.YtmhpaacjioeknaaGreat
namespace Go.Proofs.YtmhpaacjioeknaaGreat
open Go.RowKit Go.Maps Go.WideMaps
theorem name_ext {a b : ByteArray} (h : a.data.toList = b.data.toList) : a = b := by
 cases a with | mk a => cases b with | mk b =>
  simp only at h
  rw [Array.toList_inj.1 h]
instance : DecidableEq ByteArray := fun a b => if h : a.data.toList = b.data.toList then .isTrue (name_ext h) else .isFalse (fun e => h (by rw [e]))
/-- How names are keys: their value, and what it reads as. -/
structure Keying (K : TypeId) (κ : Type) where
 val : κ → Value
 lit : κ → Lit
 ok : κ → Prop
 key : ∀ x, ok x → keyOf Tryz.prog K (val x) = some (lit x)
 law : Keyed Tryz.prog K
 inj : ∀ x y, val x = val y → x = y
 isKey : ∀ x, WideAt.IsKeyLit (lit x)
theorem Keying.ne {K : TypeId} {κ : Type} (g : Keying K κ) {x y : κ} (hx : g.ok x) (hy : g.ok y) (h : x ≠ y) : g.lit x ≠ g.lit y := fun e => by
 have h1 := g.key x hx
 have h2 := g.key y hy
 rw [← e] at h2
 exact h (g.inj _ _ (g.law.inj h1 h2))
structure IsRoll {K : TypeId} {κ : Type} (g : Keying K κ) (l : List κ) (D : DataW Unit) : Prop where
 tidy : Tidy D
 size : Maps.size D = l.length
 okay : ∀ x ∈ l, g.ok x
 has : ∀ x, g.ok x → (Maps.has D (g.lit x) = true ↔ x ∈ l)
 at_ : ∀ (i : Nat) (x : κ), l[i]? = some x → ∀ z, D.atKey (g.lit x) z = .lit (.int .i64 i)
theorem IsRoll.add {K : TypeId} {κ : Type} {g : Keying K κ} {l : List κ} {D : DataW Unit} (h : IsRoll g l D) {x : κ} (hx : g.ok x) (hn : x ∉ l) : IsRoll g (l ++ [x]) (D.put (g.lit x) (.lit (.int .i64 l.length))) where
 tidy := h.tidy.put (g.isKey x) _
 size := by
  have : Maps.has D (g.lit x) = false := by
   rw [← Bool.not_eq_true]; exact fun e => hn ((h.has x hx).1 e)
  rw [size_put h.tidy, this, h.size]; simp
 okay := fun y hy => by
  rcases List.mem_append.1 hy with hy | hy
  ·exact h.okay y hy
  ·simp only [List.mem_singleton] at hy; subst hy; exact hx
 has := fun y hy => by
  classical
  by_cases e : y = x
  ·subst e; simp [has_put_same h.tidy.isMap (g.isKey y)]
  ·rw [has_put_other (g.ne hy hx e), h.has y hy]; simp [e]
 at_ := fun i y hy z => by
  by_cases hi : i < l.length
  ·rw [List.getElem?_append_left hi] at hy
   have hm : y ∈ l := List.mem_of_getElem? hy
   have hne : y ≠ x := fun e => hn (e ▸ hm)
   rw [atKey_put_other (g.ne (h.okay y hm) hx hne)]
   exact h.at_ i y hy z
  ·have hlt := (List.getElem?_eq_some_iff.1 hy).1
   simp only [List.length_append, List.length_singleton] at hlt
   obtain rfl : i = l.length := by omega
   simp at hy
   subst hy
   exact atKey_put_same h.tidy.isMap (g.isKey x) _ _
/-- Is it there? -/
def isIn {κ : Type} [DecidableEq κ] (l : List κ) (x : κ) : Bool := decide (x ∈ l)
theorem isIn_iff {κ : Type} [DecidableEq κ] {l : List κ} {x : κ} : isIn l x = true ↔ x ∈ l := by simp [isIn]
theorem isIn_not {κ : Type} [DecidableEq κ] {l : List κ} {x : κ} : isIn l x = false ↔ x ∉ l := by simp [isIn]
/-- A number, or 0 where there is none. -/
def numOf {κ : Type} [DecidableEq κ] (l : List κ) (x : κ) : Int := if isIn l x = true then (l.idxOf x : Int) else 0
theorem IsRoll.num {K : TypeId} {κ : Type} [DecidableEq κ] {g : Keying K κ} {l : List κ} {D : DataW Unit} (h : IsRoll g l D) {x : κ} (hx : g.ok x) : D.atKey (g.lit x) (.lit (.int .i64 0)) = .lit (.int .i64 (numOf l x)) := by
 unfold numOf
 by_cases hm : x ∈ l
 ·rw [if_pos (isIn_iff.2 hm)]
  exact h.at_ _ x (by rw [List.getElem?_eq_getElem (List.idxOf_lt_length_of_mem hm), List.getElem_idxOf]) _
 ·rw [if_neg (by rw [isIn_not.2 hm]; decide)]
  exact atKey_of_not_has (by rw [← Bool.not_eq_true]; exact fun e => hm ((h.has x hx).1 e)) _
theorem IsRoll.hasB {K : TypeId} {κ : Type} [DecidableEq κ] {g : Keying K κ} {l : List κ} {D : DataW Unit} (h : IsRoll g l D) {x : κ} (hx : g.ok x) : Maps.has D (g.lit x) = isIn l x := by
 rw [Bool.eq_iff_iff, h.has x hx, isIn_iff]
theorem zero3 (w : World) : (zeroValue 3).run Tryz.prog w = .ok (.int .i64 0) w := by kernel_rfl
/-- Names as keys. -/
def byName : Keying 9 ByteArray where
 val s := .string s
 lit s := .string s.data.toList
 ok s := s.size ≤ maxLen
 key s h := keyOf_string_mk Tryz.underlying9 h
 law := law9
 inj := fun x y h => by injection h
 isKey := fun _ => trivial
/-- The first place of something in a list. -/
def plc {κ : Type} [DecidableEq κ] (l : List κ) (x : κ) : Nat := l.idxOf x
theorem plc_mem {κ : Type} [DecidableEq κ] {l : List κ} {x : κ} (m : List κ) (h : x ∈ l) : plc (l ++ m) x = plc l x := by
 unfold plc; rw [List.idxOf_append, if_pos h]
theorem plc_new {κ : Type} [DecidableEq κ] {l : List κ} {x : κ} (h : x ∉ l) : plc (l ++ [x]) x = l.length := by
 unfold plc; rw [List.idxOf_append, if_neg h]; simp
theorem plc_lt {κ : Type} [DecidableEq κ] {l : List κ} {x : κ} (h : x ∈ l) : plc l x < l.length := List.idxOf_lt_length_of_mem h
theorem num_plc {κ : Type} [DecidableEq κ] {l : List κ} {x : κ} (h : x ∈ l) : numOf l x = (plc l x : Int) := by
 unfold numOf plc; rw [if_pos (isIn_iff.2 h)]
/-- The map tells of each name the first place where it stands. -/
structure IsNum (l : List ByteArray) (D : DataW Unit) : Prop where
 tidy : Tidy D
 has : ∀ x, byName.ok x → (Maps.has D (byName.lit x) = true ↔ x ∈ l)
 at_ : ∀ x, byName.ok x → x ∈ l → ∀ z, D.atKey (byName.lit x) z = .lit (.int .i64 (plc l x))
theorem isNum_nil : IsNum [] (.map []) where
 tidy := tidy_empty
 has := fun x _ => by simp [Maps.has]
 at_ := fun x _ h => by simp at h
theorem IsNum.again {l : List ByteArray} {D : DataW Unit} (h : IsNum l D) {x : ByteArray} (hx : x ∈ l) : IsNum (l ++ [x]) D where
 tidy := h.tidy
 has := fun y hy => by
  rw [h.has y hy, List.mem_append, List.mem_singleton]
  exact ⟨.inl, fun hh => hh.elim id (fun e => e ▸ hx)⟩
 at_ := fun y hy hm z => by
  have hm' : y ∈ l := by
   rcases List.mem_append.1 hm with hm | hm
   ·exact hm
   ·rw [List.mem_singleton.1 hm]; exact hx
  rw [h.at_ y hy hm' z, plc_mem _ hm']
theorem IsNum.add {l : List ByteArray} {D : DataW Unit} (h : IsNum l D) {x : ByteArray} (hx : byName.ok x) (hn : x ∉ l) : IsNum (l ++ [x]) (D.put (byName.lit x) (.lit (.int .i64 l.length))) where
 tidy := h.tidy.put (byName.isKey x) _
 has := fun y hy => by
  by_cases e : y = x
  ·subst e; simp [has_put_same h.tidy.isMap (byName.isKey y)]
  ·rw [has_put_other (byName.ne hy hx e), h.has y hy]; simp [e]
 at_ := fun y hy hm z => by
  by_cases e : y = x
  ·subst e
   rw [atKey_put_same h.tidy.isMap (byName.isKey y), plc_new hn]
  ·have hm' : y ∈ l := by
    rcases List.mem_append.1 hm with hm | hm
    ·exact hm
    ·exact (e (List.mem_singleton.1 hm)).elim
   rw [atKey_put_other (byName.ne hy hx e), h.at_ y hy hm' z, plc_mem _ hm']
/-- The map in block b tells these names' first places. -/
def NM (w : World) (b : Nat) (l : List ByteArray) : Prop :=
 ∃ (n : Nat) (D : DataW Unit), w.ownsMap Tryz.prog 9 (plainElem Tryz.prog 3) b n D ∧ IsNum l D ∧ n ≤ l.length
theorem NM.lt {w : World} {b : Nat} {l : List ByteArray} (h : NM w b l) : b < w.heap.size := by
 obtain ⟨n, D, h1, _⟩ := h; exact h1.lt
theorem NM.same {w w' : World} {b : Nat} {l : List ByteArray} (h : NM w b l) (hb : w'.heap[b]? = w.heap[b]?) : NM w' b l := by
 obtain ⟨n, D, ⟨es, clock, h1, h2⟩, h3⟩ := h
 exact ⟨n, D, ⟨es, clock, hb.trans h1, h2⟩, h3⟩
theorem NM.below {w w' : World} {b : Nat} {l : List ByteArray} (h : NM w b l) (hb : Below w.heap.size w w') : NM w' b l := h.same (hb.block b h.lt)
theorem IsNum.num {l : List ByteArray} {D : DataW Unit} (h : IsNum l D) {x : ByteArray} (hx : byName.ok x) : D.atKey (byName.lit x) (.lit (.int .i64 0)) = .lit (.int .i64 (numOf l x)) := by
 unfold numOf
 by_cases hm : x ∈ l
 ·rw [if_pos (isIn_iff.2 hm)]; exact h.at_ x hx hm _
 ·rw [if_neg (by rw [isIn_not.2 hm]; decide)]
  exact atKey_of_not_has (by rw [← Bool.not_eq_true]; exact fun e => hm ((h.has x hx).1 e)) _
theorem IsNum.hasB {l : List ByteArray} {D : DataW Unit} (h : IsNum l D) {x : ByteArray} (hx : byName.ok x) : Maps.has D (byName.lit x) = isIn l x := by
 rw [Bool.eq_iff_iff, h.has x hx, isIn_iff]
end Go.Proofs.YtmhpaacjioeknaaGreat
namespace Go.Proofs.YtmhpaacjioeknaaGreat
open Go.RowKit Go.Maps Go.Sort Go.WideMaps
/-- The procedures' names. -/
def nms (l : List Pc) : List ByteArray := l.map (·.name)
theorem pc_at {w : World} {s : Sl Pc} (h : pcsLie w s) {k : Nat} {x : Pc} (hk : s.l[k]? = some x) : ∃ b o, s.p = some ⟨b, o, none⟩ ∧ w.rangeAt b (o + k * 6) (Pc.cells x) ∧ pcLies w x := by
 rcases h.2 with h0 | ⟨b, o, hp, hx⟩
 ·rw [h0] at hk; simp at hk
 ·exact ⟨b, o, hp, (hx k x hk).1, (hx k x hk).2⟩
theorem take_nms {l : List Pc} {k : Nat} {x : Pc} (hk : l[k]? = some x) : nms (l.take (k + 1)) = nms (l.take k) ++ [x.name] := by
 have hlt := (List.getElem?_eq_some_iff.1 hk)
 unfold nms
 rw [List.take_succ_eq_append_getElem hlt.1, List.map_append, hlt.2]; rfl
theorem run_makeHint (n : Nat) (w : World) : (Instr.makeMap 50 (some (.int .i64 (n : Int)))).run Tryz.prog w = .ok (.map (some w.heap.size)) (w.alloc (.map #[] 0)) := by
 simp [Instr.makeMap, go_sem]
theorem numbered_any (s : Sl Pc) (w : World) (h : pcsLie w s) (hl : s.l.length ≤ 1000000) (hN : ∀ x ∈ s.l, x.name.size ≤ maxLen) :
  Calls Tryz.prog 19 #[.slice s.p s.l.length s.cap] w fun e w' => ∃ b, e = .returned (.map (some b)) ∧ NM w' b (nms s.l) ∧ Below w.heap.size w w' ∧ w.heap.size ≤ b := by
 have HS := hdn h
 have HN := hdn hN
 have hl' : (s.l.length : Int) ≤ 1000000 := by omega
 have ha : Below w.heap.size w (w.alloc (.map #[] 0)) := (Below.refl _ _).alloc (Nat.le_refl _) _
 have HA := hdn ha
 have HM : Hid (NM (w.alloc (.map #[] 0)) w.heap.size (nms (s.l.take 0))) := hdn ⟨_, _, World.ownsMap_made _ _ _ _, isNum_nil, Nat.zero_le _⟩
 clear h hN ha
 have hmk : ∀ w, (Instr.makeMap 50 (some (.int .i64 (s.l.length : Int)))).run Tryz.prog w = .ok (.map (some w.heap.size)) (w.alloc (.map #[] 0)) := fun w => run_makeHint s.l.length w
 go_enter Tryz.func19, Tryz.ntmps19
 go_wp2_with fail
 clear hmk
 obtain ⟨mb, hmb⟩ : ∃ mb, mb = w.heap.size := ⟨_, rfl⟩
 have HMB : Hid (w.heap.size ≤ mb) := hdn (Nat.le_of_eq hmb.symm)
 rw [← hmb] at HM ⊢
 clear hmb
 generalize w.alloc (.map #[] 0) = w1 at HA HM ⊢
 go_loopw [4, 12] (fun si sk wr => ∃ k : Nat, sk = .int .i64 k ∧ k ≤ s.l.length ∧ Hid (NM wr mb (nms (s.l.take k))) ∧ Hid (Below w.heap.size w wr)) (fun _ sk _ => s.l.length - (Lib.intOf sk).toNat)
 case atStart => exact ⟨0, rfl, Nat.zero_le _, HM, HA⟩
 case round =>
  obtain ⟨k, rfl, hk, HMr, HBr⟩ := hrel
  by_cases hlt : k < s.l.length
  ·obtain ⟨x, hx⟩ : ∃ x, s.l[k]? = some x := ⟨_, List.getElem?_eq_getElem hlt⟩
   obtain ⟨pb, o, hp, hr, _⟩ := pc_at HS.out hx
   have HTK := hdn (take_nms hx)
   have HX := hdn (HN.out x (List.mem_of_getElem? hx))
   have HC : Hid (∀ w', Below w.heap.size w w' → w'.cell? ⟨pb, o + k * 6, none⟩ = some (.string x.name)) := hdn (fun w' hb => by have := cell_at (rangeAt_below hr hb) 0 _ rfl; rwa [Nat.add_zero] at this)
   rw [hp]
   have HSP := hdn hp
   have hc := HC.out wr HBr.out
   obtain ⟨m, D, hown, hnum, hml⟩ := HMr.out
   have HOW := hdn hown
   have HNU := hdn hnum
   have HML : Hid (m ≤ (nms (s.l.take k)).length ∧ m < maxLen ∧ (nms (s.l.take k)).length = k) := hdn (by
    have h9 : (nms (s.l.take k)).length = k := by unfold nms; rw [List.length_map, List.length_take]; omega
    exact ⟨hml, by unfold maxLen; omega, h9⟩)
   have HKEY := hdn (byName.key x.name HX.out)
   have HNUM := hdn (hnum.num HX.out)
   have HHAS := hdn (hnum.hasB HX.out)
   clear hx hr hp hown hnum hml
   generalize x.name = nm at *
   rcases hin : isIn (nms (s.l.take k)) nm with _ | _
   ·have HIN := hdn hin
    have hwf : (Lit.int .i64 (k : Int)).wf = true := by simp [Lit.wf, IntKind.min, IntKind.max, IntKind.bits, IntKind.signed]; omega
    clear hin
    go_wp2_with (first | (at_lookup; refine wpList_lookup_own_ok_int (H := Unit) _ rfl _ _ 50 rfl 9 3 .i64 byName.law Tryz.underlying50 Tryz.underlying3 (zero3 _) mb m D rfl HOW.out _ _ rfl HKEY.out ?_; intro c hat hwc; clear hat hwc; rw [HHAS.out, HIN.out]) | (at_mapUpdate; refine wpList_mapUpdate_own (H := Unit) _ rfl _ _ _ 50 rfl 9 3 byName.law Tryz.underlying50 _ mb m D rfl HOW.out HML.out.2.1 _ _ _ rfl rfl HKEY.out _ [] (plainElem_int Tryz.underlying3 hwf) ?_; intro w2 hown1 hgrow1; have HO1 := hdn hown1; have HG1 := hdn hgrow1; clear hown1 hgrow1))
    go_roundw
    case rel => exact ⟨k + 1, by go_num, by omega, hdn (by rw [HTK.out]; have h1 := HNU.out.add HX.out (isIn_not.1 HIN.out); rw [HML.out.2.2] at h1; exact ⟨m + 1, _, HO1.out, h1, by rw [List.length_append, List.length_singleton]; have := HML.out.1; omega⟩), hdn (below_rp HBr.out HG1.out HMB.out)⟩
    case measure => simp [Lib.intOf]; omega
   ·have HIN := hdn hin
    clear hin
    go_wp2_with (first | (at_lookup; refine wpList_lookup_own_ok_int (H := Unit) _ rfl _ _ 50 rfl 9 3 .i64 byName.law Tryz.underlying50 Tryz.underlying3 (zero3 _) mb m D rfl HOW.out _ _ rfl HKEY.out ?_; intro c hat hwc; clear hat hwc; rw [HHAS.out, HIN.out]))
    go_roundw
    case rel => exact ⟨k + 1, by go_num, by omega, hdn (by rw [HTK.out]; exact ⟨m, D, HOW.out, HNU.out.again (isIn_iff.1 HIN.out), by rw [List.length_append]; have := HML.out.1; omega⟩), HBr⟩
    case measure => simp [Lib.intOf]; omega
  ·have HKE : Hid (s.l.take k = s.l) := hdn (List.take_of_length_le (by omega))
   go_wp2_with fail
   go_ret
   exact ⟨mb, rfl, by have := HMr.out; rwa [HKE.out] at this, HBr.out, HMB.out⟩
end Go.Proofs.YtmhpaacjioeknaaGreat
