/-
  The document's reader: the walk of a program. Plain: what the program is that is read. Plain: what the document's reader reads is what the parser reads; no part of it is huge. What is read: the tree may be, is no longer than it may be, and what is printed of it is read as it was. Plain: what is read
-/
import Derived.Test.YtcehbcnloiooaaaGreatDoorM17
import Derived.Test.YtcehbcnloiooaaaGreatDoorM08
import Derived.Test.YtcehbcnloiooaaaGreatDoorM12
import Derived.Test.YtcehbcnloiooaaaGreatDoorM13
import Derived.Test.YtcehbcnloiooaaaGreatDoorM09
import Derived.Test.YtcehbcnloiooaaaGreatDoorM02
set_option maxHeartbeats 6400000
set_option maxRecDepth 100000
namespace Go.Proofs.YtcehbcnloiooaaaGreatDoor
open Go.RowKit Go.Sort
attribute [local go_sem] field72_0 field72_1 field72_2 field72_3
theorem alls_top (s:ByteArray) (he:(Tx.alls s).2.2=0):RC (Tx.alls s).1 70000∧Tex (Tx.alls s).1:=⟨(rc_alls s he).1,(alls_good s he).2.1⟩
theorem kPg_one (x:Pg):(Pg.cells x).toArray.all (·.oneCell')=true:=by simp[Value.oneCell']
theorem refProg_any (s:ByteArray) (w:World) (hs:s.size≤5000000):Calls Tryz.prog 11 #[.string s] w fun en w'=>RfPost s w.heap.size w w' en:=by
 have CO: ∀w',Hid (Calls Tryz.prog 24 #[.string s] w' fun en w''=> ∃rb:Nat,en= .returned (.tuple #[.pointer (some ⟨rb,0,none⟩),.int .i64 (Tx.alls s).2.1,.int .i64 (Tx.alls s).2.2])∧Below w'.heap.size w' w''∧w'.heap.size≤rb∧
   ((Tx.alls s).2.2=0→∃sb cap,w'.heap.size≤sb∧RM w'' rb sb cap (Tx.alls s).1 0 70000 (.ok ((),⟨0,0,0⟩):Pr.Res Unit))):=fun w'=>hdn (open_any s w' hs)
 have HTOP:=hdn (alls_top s)
 unfold RfPost
 clear hs
 generalize Tx.alls s=al at*
 obtain ⟨l,at0,e0⟩:=al
 simp only at CO HTOP ⊢
 have HCO:=hdn CO
 clear CO
 obtain ⟨n,hn⟩: ∃n,n=l.length+1:=⟨_,rfl⟩
 obtain ⟨R,hR⟩: ∃R,R=Pa.rprog l n n [] [] [] ⟨0,0,0⟩:=⟨_,rfl⟩
 rw[←hn,←hR]
 have HNN:=hdn hn
 have HR:=hdn hR
 clear hn hR
 have hb:Below w.heap.size w (w.alloc (.cells zPg.toArray 26)):=(Below.refl _ _).alloc (Nat.le_refl _) _
 have HBA:=hdn hb
 have HKA:Hid (Bk (w.alloc (.cells zPg.toArray 26)) w.heap.size 26 zPg.toArray):=hdn (heap_alloc_new _ _)
 clear hb
 go_enter Tryz.func11,Tryz.ntmps11
 go_upto_region 1 with fail
 change Code.wp _ _ _ _ (w.alloc (.cells zPg.toArray 26))
 obtain ⟨A,hA⟩: ∃A,A=w.heap.size:=⟨_,rfl⟩
 have HA:=hdn hA
 rw[←hA] at HKA ⊢
 clear hA
 generalize w.alloc (.cells zPg.toArray 26)=wA at HBA HKA ⊢
 go_wp2_with fail
 refine ((HCO.out wA).out).mono ?_
 rintro en w2 ⟨rb,rfl,hb,hrb,hok⟩
 have HB2:Hid (Below w.heap.size w w2):=hdn (HBA.out.trans (hb.mono HBA.out.size))
 have HK2:Hid (Bk w2 A 26 zPg.toArray):=hdn (HKA.out.below hb HKA.out.lt)
 have HRB:Hid (A<rb∧w.heap.size≤rb):=hdn ⟨Nat.lt_of_lt_of_le HKA.out.lt hrb,Nat.le_trans HBA.out.size hrb⟩
 have HOK:=hdn hok
 have HAL:Hid (A<wA.heap.size∧w.heap.size≤wA.heap.size∧wA.heap.size≤w2.heap.size):=hdn ⟨HKA.out.lt,HBA.out.size,hb.size⟩
 clear hb hrb hok HBA HKA
 by_cases he:e0=0
 case neg=>
  have he':(e0 !=0)=true:=by rw[bne_iff_ne];exact he
  have HE:=hdn he
  clear he
  have r0':w2.cell? ⟨A,0,none⟩=some (.slice none 0 0):=HK2.out.cell 0
  have r1':w2.cell? ⟨A,1,none⟩=some (.slice none 0 0):=HK2.out.cell 1
  have r2':w2.cell? ⟨A,2,none⟩=some (.slice none 0 0):=HK2.out.cell 2
  have f0:=HK2.out.frozen 0
  have f1:=HK2.out.frozen 1
  have f2:=HK2.out.frozen 2
  go_wp2_with fail
  clear r0' r1' r2' f0 f1 f2
  have hF:w2.grownBy (((w2.setCell ⟨A,0,none⟩ (.slice none 0 0)).setCell ⟨A,1,none⟩ (.slice none 0 0)).setCell ⟨A,2,none⟩ (.slice none 0 0)) (some A):=grownBy_tr (grownBy_tr (grownBy_setC _ ⟨A,0,none⟩ _) (grownBy_setC _ ⟨A,1,none⟩ _)) (grownBy_setC _ ⟨A,2,none⟩ _)
  have hK:Bk (((w2.setCell ⟨A,0,none⟩ (.slice none 0 0)).setCell ⟨A,1,none⟩ (.slice none 0 0)).setCell ⟨A,2,none⟩ (.slice none 0 0)) A 26 zPg.toArray:=((HK2.out.set_ 0 _).set_ 1 _).set_ 2 _
  generalize ((w2.setCell ⟨A,0,none⟩ (.slice none 0 0)).setCell ⟨A,1,none⟩ (.slice none 0 0)).setCell ⟨A,2,none⟩ (.slice none 0 0)=wZ at hF hK ⊢
  have e0':wZ.cell? ⟨A,0,none⟩=some (.slice none 0 0):=hK.cell 0
  have e1':wZ.cell? ⟨A,1,none⟩=some (.slice none 0 0):=hK.cell 1
  have e2':wZ.cell? ⟨A,2,none⟩=some (.slice none 0 0):=hK.cell 2
  refine bodyPost_ret (v:= .tuple #[.agg zPg.toArray,.int .i64 at0,.int .i64 e0]) (by simp[results,Tryz.results11,go_sem,e0',e1',e2',zPg]) rfl ?_
  exact ⟨pg3 [] [] [],at0,e0,rfl,below_by HB2.out hF (by rw[HA.out];exact Nat.le_refl _),.inr ⟨HE.out,.inl HE.out⟩⟩
 case pos=>
 subst he
 obtain ⟨C,hT⟩:=HTOP.out rfl
 have HC:=hdn C
 have HC2:Hid (RC l 70001):=hdn (C.more (by omega))
 have HT:=hdn hT
 obtain ⟨sb,cap,hsb,hm⟩:=HOK.out rfl
 have HSB:Hid (A<sb):=hdn (by have:=HAL.out;omega)
 have HM2:=hdn hm
 clear hT hsb hm HOK
 go_upto_region 4 with fail
 go_upto_region 5 with fail
 change Code.wp _ _ _ _ (w2.alloc (.cells zPg.toArray 26))
 have hm:Below w2.heap.size w2 (w2.alloc (.cells zPg.toArray 26)):=(Below.refl _ _).alloc (Nat.le_refl _) _
 have HP1:Hid (PC w (w2.alloc (.cells zPg.toArray 26)) (w2.alloc (.cells zPg.toArray 26)) rb sb cap A w2.heap.size zPg zPg l 70001 (.ok ((pg3 [] [] []),⟨0,0,0⟩):Pr.Res Pg)):=hdn (by
  have h0:=HM2.out.below hm
  exact ⟨⟨h0.1,h0.2⟩,HK2.out.below hm HK2.out.lt,heap_alloc_new _ _,HB2.out.trans (hm.mono HB2.out.size),⟨by rw[HA.out];exact Nat.le_refl _,by have:=HK2.out.lt;simp;omega,by simp,by have:=HK2.out.lt;omega,HB2.out.size,Nat.le_refl _,HRB.out.2,by have:=HM2.out.rb_lt;simp;omega,by have:=HM2.out.sb_lt;simp;omega,by have:=HRB.out;omega,by have:=HSB.out;omega,by have:=HM2.out.rb_lt;omega,by have:=HM2.out.sb_lt;omega⟩⟩)
 clear hm HB2 HK2 HM2
 obtain ⟨S,hS⟩: ∃S,S=w2.heap.size:=⟨_,rfl⟩
 rw[←hS] at HP1 ⊢
 clear hS
 generalize w2.alloc (.cells zPg.toArray 26)=w1 at HP1 ⊢
 obtain ⟨j1,z1,hJ1⟩:=qinfSr
 obtain ⟨j2,z2,hJ2⟩:=qinfDc2
 obtain ⟨j3,z3,hJ3⟩:=qinfPc
 have HJ1:=hdn hJ1;have HJ2:=hdn hJ2;have HJ3:=hdn hJ3
 clear hJ1 hJ2 hJ3
 have HLL:Hid (l.length≤70000):=hdn C.len
 clear C
 go_loopg [] (l.length+1) (fun g wr=> ∃(ss:List Sr) (gs:List Dc) (ps:List Pc) (v1 v2 v3:Value) (rn:Pr.Res Pg),Hid (g+ss.length+gs.length+ps.length≤l.length+1)∧Hid (∀y u,rn= .ok (y,u)→pg3 ss gs ps=y)∧Hid ((Pr.th rn fun y u=>Pa.progP l n g y u)=R)∧Hid (∀y u,rn= .ok (y,u)→l.length<g+u.i)∧Hid (PC w w1 wr rb sb cap A S zPg [v1,v2,v3] l 70001 rn)∧Hid (P3q w1.heap.size wr v1 v2 v3 ss gs ps))
 case atStart=>exact ⟨[],[],[],_,_,_,.ok (pg3 [] [] [],⟨0,0,0⟩),hdn (by simp),hdn (fun y u hc=>by cases hc;rfl),hdn (by rw[HR.out,HNN.out];rfl),hdn (by intro a u hc;cases hc;simp),HP1,hdn (P3q.nil _ _)⟩
 case round=>
  clear HP1
  obtain ⟨ss,gs,ps,v1,v2,v3,rn,HGA,HAC,HH,HFUE,HP,HGr⟩:=hrel
  obtain ⟨b1,c1,rfl⟩:=HGr.out.a.shape
  obtain ⟨b2,c2,rfl⟩:=HGr.out.b.shape
  obtain ⟨b3,c3,rfl⟩:=HGr.out.c.shape
  rcases rn with n0 |⟨y1,u1⟩
  ·obtain ⟨k,b,a,e,he,hk,hb0,hb1,h5⟩:=HP.out.m
   have c5:wr.cell? ⟨rb,5,none⟩=some (.int .i64 e):=h5.blk.cell 5
   have c4:wr.cell? ⟨rb,4,none⟩=some (.int .i64 a):=h5.blk.cell 4
   have he1:(e==0)=false:=by rw[beq_eq_false_iff_ne];exact he
   have he2:(e !=0)=true:=by rw[bne_iff_ne];exact he
   have HE:=hdn he
   clear he hk hb0 hb1 h5
   have HRE:Hid (∃m,R= .error m):=hdn ⟨n0,by rw[←HH.out];rfl⟩
   have r0':wr.cell? ⟨A,0,none⟩=some (.slice none 0 0):=HP.out.a.cell 0
   have r1':wr.cell? ⟨A,1,none⟩=some (.slice none 0 0):=HP.out.a.cell 1
   have r2':wr.cell? ⟨A,2,none⟩=some (.slice none 0 0):=HP.out.a.cell 2
   go_upto_region 13 with fail
   clear he1 he2
   have d4:wr.drew.cell? ⟨rb,4,none⟩=some (.int .i64 a):=c4
   have d5:wr.drew.cell? ⟨rb,5,none⟩=some (.int .i64 e):=c5
   have f0:wr.frozen? ⟨A,0,none⟩=false:=HP.out.a.frozen 0
   have f1:wr.frozen? ⟨A,1,none⟩=false:=HP.out.a.frozen 1
   have f2:wr.frozen? ⟨A,2,none⟩=false:=HP.out.a.frozen 2
   have g0:wr.drew.frozen? ⟨A,0,none⟩=false:=HP.out.a.frozen 0
   have g1:wr.drew.frozen? ⟨A,1,none⟩=false:=HP.out.a.frozen 1
   have g2:wr.drew.frozen? ⟨A,2,none⟩=false:=HP.out.a.frozen 2
   have q0:wr.drew.cell? ⟨A,0,none⟩=some (.slice none 0 0):=HP.out.a.cell 0
   have q1:wr.drew.cell? ⟨A,1,none⟩=some (.slice none 0 0):=HP.out.a.cell 1
   have q2:wr.drew.cell? ⟨A,2,none⟩=some (.slice none 0 0):=HP.out.a.cell 2
   have HNRA:Hid (A≠rb):=hdn (by have:=HP.out.b;omega)
   have hF:wr.grownBy (((wr.setCell ⟨A,0,none⟩ (.slice none 0 0)).setCell ⟨A,1,none⟩ (.slice none 0 0)).setCell ⟨A,2,none⟩ (.slice none 0 0)) (some A):=grownBy_tr (grownBy_tr (grownBy_setC _ ⟨A,0,none⟩ _) (grownBy_setC _ ⟨A,1,none⟩ _)) (grownBy_setC _ ⟨A,2,none⟩ _)
   have HF:=hdn hF
   have HKZ:Hid (Bk (((wr.setCell ⟨A,0,none⟩ (.slice none 0 0)).setCell ⟨A,1,none⟩ (.slice none 0 0)).setCell ⟨A,2,none⟩ (.slice none 0 0)) A 26 zPg.toArray):=hdn (by
    have h9:Bk wr A 26 zPg.toArray:=HP.out.a
    exact ((h9.set_ 0 _).set_ 1 _).set_ 2 _)
   clear hF
   go_region
   all_goals
    generalize ((wr.setCell ⟨A,0,none⟩ (.slice none 0 0)).setCell ⟨A,1,none⟩ (.slice none 0 0)).setCell ⟨A,2,none⟩ (.slice none 0 0)=wZ at HF HKZ ⊢
    clear r0' r1' r2' f0 f1 f2 g0 g1 g2 q0 q1 q2 d4 d5 c4 c5
    have e0':wZ.drew.cell? ⟨A,0,none⟩=some (.slice none 0 0):=HKZ.out.cell 0
    have e1':wZ.drew.cell? ⟨A,1,none⟩=some (.slice none 0 0):=HKZ.out.cell 1
    have e2':wZ.drew.cell? ⟨A,2,none⟩=some (.slice none 0 0):=HKZ.out.cell 2
    go_wp2_with fail
    refine bodyPost_ret (v:= .tuple #[.agg zPg.toArray,.int .i64 a,.int .i64 e]) (by simp[results,Tryz.results11,go_sem,e0',e1',e2',zPg]) rfl ?_
    exact ⟨pg3 [] [] [],a,e,rfl,below_drew (below_by HP.out.g HF.out HP.out.b.1),.inr ⟨HE.out,.inr HRE.out⟩⟩
  have c5:wr.cell? ⟨rb,5,none⟩=some (.int .i64 0):=HP.out.m.1.blk.cell 5
  have HUL:Hid (u1.i<l.length):=hdn HP.out.m.2.1
  have HG0:Hid (0<gk):=hdn (by have h1:=HFUE.out y1 u1 rfl;have h2:=HUL.out;omega)
  go_wp2_with fail
  refine (now_m wr _ HP.out.m).mono ?_
  rintro en w11 ⟨hb,z,rfl,hz⟩
  obtain rfl:=hz _ _ rfl
  have HP11:=hdn ((HP.out.below hb).okN 70000);have HGr11:=hdn (HGr.out.below hb)
  clear hb hz c5 HP HGr
  by_cases hk:(Pa.sg l u1.i).kind=0
  ·have hk1:((Pa.sg l u1.i).kind !=0)=false:=by rw[hk];rfl
   have HK:=hdn hk
   clear hk
   have c5:w11.cell? ⟨rb,5,none⟩=some (.int .i64 0):=HP11.out.m.1.blk.cell 5
   obtain ⟨s1,h1,e1,y1'⟩:=HGr11.out.a.fin (by have:=HLL.out;have:=HGA.out;show ss.length*48≤_;omega) M3.fresh
   obtain ⟨s2,h2,e2,y2'⟩:=HGr11.out.b.fin (by have:=HLL.out;have:=HGA.out;show gs.length*40≤_;omega) M3.fresh
   obtain ⟨s3,h3,e3,y3'⟩:=HGr11.out.c.fin (by have:=HLL.out;have:=HGA.out;show ps.length*104≤_;omega) M3.fresh
   have HS5:Hid (Bk w11 S 26 (Pg.cells ⟨s1,s2,s3⟩).toArray):=hdn (by have:=HP11.out.s;rw[h1,h2,h3] at this;exact this)
   have HRR:Hid (R= .ok (pg3 (s1.l.map qSr.er) (s2.l.map qDc.er) (s3.l.map qPc.er),u1)):=hdn (by rw[←HH.out];obtain ⟨gj,hgj⟩: ∃k,gk=k+1:=⟨gk-1,by have:=HG0.out;omega⟩;rw[hgj];simp only[Pr.th_okk];rw[Pa.progP_end HK.out,←HAC.out _ _ rfl,e1,e2,e3];rfl)
   have HLY:Hid (pgLies (fresh w1.heap.size w11) ⟨s1,s2,s3⟩):=hdn ⟨y1',y2',y3'⟩
   clear h1 h2 h3 e1 e2 e3 y1' y2' y3'
   go_wp2_with (first |((with_reducible show wpList _ _ _ (Oper.mk (some 74) (Op.load 26 _) _ _ _ _::_) _ _);refine wpList_load_bk rfl 26 (.tmp 8) rfl S 26 (Pg.cells ⟨s1,s2,s3⟩).toArray rfl _ HS5.out Tryz.underlying26 rfl size33 ?_)|((with_reducible show wpList _ _ _ (Oper.mk none (Op.store 26 (Operand.tmp 2) (Operand.tmp 74)) _ _ _ _::_) _ _);refine wpList_store_bk rfl 26 (.tmp 2) (.tmp 74) rfl A 26 _ (Pg.cells ⟨s1,s2,s3⟩).toArray rfl rfl HP11.out.a size33 rfl (kPg_one _) ?_;intro wZ hB hF;have HB:=hdn hB;have HF:=hdn hF;clear hB hF))
   have e0':wZ.cell? ⟨A,0,none⟩=some (.slice s1.p s1.l.length s1.cap):=HB.out.cell 0
   have e1':wZ.cell? ⟨A,1,none⟩=some (.slice s2.p s2.l.length s2.cap):=HB.out.cell 1
   have e2':wZ.cell? ⟨A,2,none⟩=some (.slice s3.p s3.l.length s3.cap):=HB.out.cell 2
   refine bodyPost_ret (v:= .tuple #[.agg #[.slice s1.p s1.l.length s1.cap,.slice s2.p s2.l.length s2.cap,.slice s3.p s3.l.length s3.cap],.int .i64 0,.int .i64 0]) (by simp[results,Tryz.results11,go_sem,e0',e1',e2']) rfl ?_
   exact ⟨⟨s1,s2,s3⟩,0,0,rfl,below_by HP11.out.g HF.out HP11.out.b.1,.inl ⟨rfl,rfl,⟨u1,HRR.out⟩,pgLies_ext ((fresh_par HF.out HP11.out.b.2.1).trans (fresh_mono (by have h9:=HP11.out.b;omega) _)) HLY.out⟩⟩
  have hk1:((Pa.sg l u1.i).kind !=0)=true:=by rw[bne_iff_ne];exact hk
  have HK:=hdn hk
  clear hk
  go_wp2_with fail
  clear hk1
  refine (take_m HC.out ⟨#[115,116,114,117,99,116]⟩ (by decide) w11 _ HP11.out.m).mono ?_
  rintro en w12 ⟨g,hh⟩
  have HGr12:=hdn (HGr11.out.par g (by have:=HP11.out.b;omega))
  rcases hh with ⟨rfl,y0,u0,hr0,hi,hm⟩|⟨rfl,hf,hm⟩
  ·cases hr0
   have HI:=hdn hi;have HP12:=hdn (HP11.out.call g hm)
   clear hi hm g HP11 HGr11
   go_upto_region 9 with fail
   have HD:=hdn (HP12.out.below (below_drew (Below.refl _ w12)));have HGD:=hdn (HGr12.out.below (below_drew (Below.refl _ w12)))
   clear HP12 HGr12
   have s26:w12.drew.cell? ⟨S,0,none⟩=some (.slice b1 ss.length c1):=HD.out.s.cell 0
   go_region_law (first
    |(go_simp;go_at_call 27;(with_reducible refine (struct_m HC.out _ _ HD.out.m).mono ?_);rintro en w13 ⟨g,vv,zz,rfl,⟨y0,hv,hye,hyl⟩,hx,hm⟩;have hvv:vv= .agg (Sr.cells y0).toArray:=hv;clear hv;subst hvv;have HX:=hdn hx;have HYE:=hdn hye;have HS:=hdn (HD.out.call g hm);have HG7:=hdn (HGD.out.par g (by have:=HD.out.b;omega));have HZL:Hid (qSr.R (M3 w1.heap.size (.slice b1 ss.length c1:Value).ownBlock (.slice b2 gs.length c2:Value).ownBlock (.slice b3 ps.length c3:Value).ownBlock w13) y0):=hdn (qSr.ext y0 (M3.of_fresh HD.out.b.2.2.2.2.2.1 (fun q hq=>(HGD.out.a.lt q hq).2) (fun q hq=>(HGD.out.b.lt q hq).2) (fun q hq=>(HGD.out.c.lt q hq).2)) hyl);obtain ⟨ys,hy1,hy2,hy3⟩:=HG7.out.a;have HY1:=hdn hy1;have HY2:=hdn hy2;have HY3:=hdn hy3;have s27:w13.cell? ⟨S,0,none⟩=some (.slice b1 ss.length c1):=HS.out.s.cell 0;have s27a: ∀ob,(w13.alloc ob).cell? ⟨S,0,none⟩=some (.slice b1 ss.length c1):=(fun ob=>(World.cell?_alloc_lt _ _ _ HS.out.lt).trans s27);clear g hm hx hy1 hy2 hy3 hye hyl;(try dsimp only))
    |(refine Kd.step_pushR qSr rfl 22 j1 _ HJ1.out (.tmp 44) (.tmp 47) rfl w1.heap.size ss.length _ (.slice b1 ss.length c1) rfl HY2.out HS.out.b.2.2.2.2.2.1 y0 rfl (by have:=HLL.out;have:=HGA.out;unfold maxLen;omega) (by have:=HLL.out;have:=HGA.out;show (ss.length+1)*48≤_;omega) ?_;intro gg cc w14 ho8 hgr8 hat8;have hown8: ∀q,(.slice b1 ss.length c1:Value).ownBlock=some q→w1.heap.size≤q:=(fun q hq=>(HG7.out.a.lt q hq).1);have HG8:=hdn (HG7.out.push1 HY1.out HY3.out HZL.out ho8 hgr8 hat8);have HS8:=hdn (HS.out.grown hgr8 hown8);have s28:w14.cell? ⟨S,0,none⟩=some (.slice b1 ss.length c1):=HS8.out.s.cell 0;have f28:w14.frozen? ⟨S,0,none⟩=false:=HS8.out.s.frozen 0;clear ho8 hgr8 hat8 hown8))
   all_goals
    have HN15:Hid (PC w w1 (w14.setCell ⟨S,0,none⟩ (.slice (some ⟨gg,0,none⟩) (ss.length+1) cc)) rb sb cap A S zPg [.slice (some ⟨gg,0,none⟩) (ss.length+1) cc,.slice b2 gs.length c2,.slice b3 ps.length c3] l 70000 (Pr.th (.ok (y1,u1.go):Pr.Res Pg) fun y u=>Pr.th (Pa.strct l u) fun p v=>(.ok (Pa.addS y p,v):Pr.Res Pg))):=hdn ((HS8.out.set 0 (.slice (some ⟨gg,0,none⟩) (ss.length+1) cc)).re (fun h=>m_call (g:=Pa.addS) h))
    have HE15:=hdn (e_pushG (f:=Pa.addS) (x:=pg3 ss gs ps) (r:=(.ok (y1,u1.go):Pr.Res Pg)) (fun a u hc=>by cases hc;exact HAC.out _ _ rfl) HX.out HYE.out)
    have HGN15:=hdn (HG8.out.par (show w14.grownBy (w14.setCell ⟨S,0,none⟩ (.slice (some ⟨gg,0,none⟩) (ss.length+1) cc)) (some S) from grownBy_setC _ ⟨S,0,none⟩ _) HS8.out.b.2.2.1)
    clear HS HG7 HG8 HS8 s26 s27 s27a s28 f28 HD HGD HX HYE HZL HY1 HY2 HY3
    generalize w14.setCell ⟨S,0,none⟩ (.slice (some ⟨gg,0,none⟩) (ss.length+1) cc)=w15 at HN15 HGN15 ⊢
    have HNN15:=hdn (HN15.out.re (fun h=>h.more))
    go_wp2_with fail
    go_roundg (gk-1)
    case measure=>have:=HG0.out;omega
    case rel=>
     obtain ⟨gj,hgj⟩: ∃k,gk=k+1:=⟨gk-1,by have:=HG0.out;omega⟩
     refine ⟨ss++ [qSr.er y0],gs,ps,_,_,_,_,hdn ?_,HE15,hdn ?_,hdn ?_,HNN15,HGN15⟩
     ·have:=HGA.out;have:=HG0.out;simp only[List.length_append,List.length_singleton];omega
     ·rw[←HH.out,hgj,Nat.add_sub_cancel,Pr.th_okk];exact (Pa.progP_s HK.out HI.out).symm
     ·intro a u hc;obtain ⟨y,v9,h1,h2⟩:=Pr.th_ok hc;obtain ⟨p9,z9,h3,h4⟩:=Pr.th_ok h2;cases h1;cases h4;have h5:=Pa.strct_go h3;have h6:=HFUE.out _ _ rfl;simp only[Pr.St.go] at h5;omega
  have HF1:Hid (Pr.is (Pa.ts l) u1.i ⟨#[115,116,114,117,99,116]⟩=false):=hdn (hf _ _ rfl);have HP12:=hdn (HP11.out.call g hm)
  clear hf hm g HP11 HGr11
  go_wp2_with fail
  refine (take_m HC.out ⟨#[118,111,105,100]⟩ (by decide) w12 _ HP12.out.m).mono ?_
  rintro en w16 ⟨g,hh⟩
  have HGr16:=hdn (HGr12.out.par g (by have:=HP12.out.b;omega))
  rcases hh with ⟨rfl,y0,u0,hr0,hi,hm⟩|⟨rfl,hf,hm⟩
  ·cases hr0
   have HI:=hdn hi;have HP16:=hdn (HP12.out.call g hm)
   clear hi hm g HP12 HGr12
   go_upto_region 11 with fail
   have HD:=hdn (HP16.out.below (below_drew (Below.refl _ w16)));have HGD:=hdn (HGr16.out.below (below_drew (Below.refl _ w16)))
   clear HP16 HGr16
   have s26:w16.drew.cell? ⟨S,2,none⟩=some (.slice b3 ps.length c3):=HD.out.s.cell 2
   go_region_law (first
    |(go_simp;go_at_call 28;(with_reducible refine (proc_m HC.out HT.out (by decide) n (by have:=HNN.out;omega) (by have:=HNN.out;have:=HLL.out;omega) _ _ HD.out.m).mono ?_);rintro en w17 ⟨g,vv,zz,rfl,⟨y0,hv,hye,hyl⟩,hx,hm⟩;have hvv:vv= .agg (Pc.cells y0).toArray:=hv;clear hv;subst hvv;have HX:=hdn hx;have HYE:=hdn hye;have HS:=hdn (HD.out.call g hm);have HG7:=hdn (HGD.out.par g (by have:=HD.out.b;omega));have HZL:Hid (qPc.R (M3 w1.heap.size (.slice b1 ss.length c1:Value).ownBlock (.slice b2 gs.length c2:Value).ownBlock (.slice b3 ps.length c3:Value).ownBlock w17) y0):=hdn (qPc.ext y0 (M3.of_fresh HD.out.b.2.2.2.2.2.1 (fun q hq=>(HGD.out.a.lt q hq).2) (fun q hq=>(HGD.out.b.lt q hq).2) (fun q hq=>(HGD.out.c.lt q hq).2)) hyl);obtain ⟨ys,hy1,hy2,hy3⟩:=HG7.out.c;have HY1:=hdn hy1;have HY2:=hdn hy2;have HY3:=hdn hy3;have s27:w17.cell? ⟨S,2,none⟩=some (.slice b3 ps.length c3):=HS.out.s.cell 2;have s27a: ∀ob,(w17.alloc ob).cell? ⟨S,2,none⟩=some (.slice b3 ps.length c3):=(fun ob=>(World.cell?_alloc_lt _ _ _ HS.out.lt).trans s27);clear g hm hx hy1 hy2 hy3 hye hyl;(try dsimp only))
    |(refine Kd.step_pushR qPc rfl 24 j3 _ HJ3.out (.tmp 54) (.tmp 57) rfl w1.heap.size ps.length _ (.slice b3 ps.length c3) rfl HY2.out HS.out.b.2.2.2.2.2.1 y0 rfl (by have:=HLL.out;have:=HGA.out;unfold maxLen;omega) (by have:=HLL.out;have:=HGA.out;show (ps.length+1)*104≤_;omega) ?_;intro gg cc w18 ho8 hgr8 hat8;have hown8: ∀q,(.slice b3 ps.length c3:Value).ownBlock=some q→w1.heap.size≤q:=(fun q hq=>(HG7.out.c.lt q hq).1);have HG8:=hdn (HG7.out.push3 HY1.out HY3.out HZL.out ho8 hgr8 hat8);have HS8:=hdn (HS.out.grown hgr8 hown8);have s28:w18.cell? ⟨S,2,none⟩=some (.slice b3 ps.length c3):=HS8.out.s.cell 2;have f28:w18.frozen? ⟨S,2,none⟩=false:=HS8.out.s.frozen 2;clear ho8 hgr8 hat8 hown8))
   all_goals
    have HN19:Hid (PC w w1 (w18.setCell ⟨S,2,none⟩ (.slice (some ⟨gg,0,none⟩) (ps.length+1) cc)) rb sb cap A S zPg [.slice b1 ss.length c1,.slice b2 gs.length c2,.slice (some ⟨gg,0,none⟩) (ps.length+1) cc] l 70001 (Pr.th (.ok (y1,u1.go):Pr.Res Pg) fun y u=>Pr.th (Pa.rproc l n u) fun p v=>(.ok (Pa.addQ y p,v):Pr.Res Pg))):=hdn ((HS8.out.set 2 (.slice (some ⟨gg,0,none⟩) (ps.length+1) cc)).re (fun h=>m_call (g:=Pa.addQ) h))
    have HE19:=hdn (e_pushG (f:=Pa.addQ) (x:=pg3 ss gs ps) (r:=(.ok (y1,u1.go):Pr.Res Pg)) (fun a u hc=>by cases hc;exact HAC.out _ _ rfl) HX.out HYE.out)
    have HGN19:=hdn (HG8.out.par (show w18.grownBy (w18.setCell ⟨S,2,none⟩ (.slice (some ⟨gg,0,none⟩) (ps.length+1) cc)) (some S) from grownBy_setC _ ⟨S,2,none⟩ _) HS8.out.b.2.2.1)
    clear HS HG7 HG8 HS8 s26 s27 s27a s28 f28 HD HGD HX HYE HZL HY1 HY2 HY3
    generalize w18.setCell ⟨S,2,none⟩ (.slice (some ⟨gg,0,none⟩) (ps.length+1) cc)=w19 at HN19 HGN19 ⊢
    go_wp2_with fail
    go_roundg (gk-1)
    case measure=>have:=HG0.out;omega
    case rel=>
     obtain ⟨gj,hgj⟩: ∃k,gk=k+1:=⟨gk-1,by have:=HG0.out;omega⟩
     refine ⟨ss,gs,ps++ [qPc.er y0],_,_,_,_,hdn ?_,HE19,hdn ?_,hdn ?_,HN19,HGN19⟩
     ·have:=HGA.out;have:=HG0.out;simp only[List.length_append,List.length_singleton];omega
     ·rw[←HH.out,hgj,Nat.add_sub_cancel,Pr.th_okk];exact (Pa.progP_p HK.out HF1.out HI.out).symm
     ·intro a u hc;obtain ⟨y,v9,h1,h2⟩:=Pr.th_ok hc;obtain ⟨p9,z9,h3,h4⟩:=Pr.th_ok h2;cases h1;cases h4;have h5:=Pa.rproc_go h3;have h6:=HFUE.out _ _ rfl;simp only[Pr.St.go] at h5;omega
  have HF2:Hid (Pr.is (Pa.ts l) u1.i ⟨#[118,111,105,100]⟩=false):=hdn (hf _ _ rfl);have HP16:=hdn (HP12.out.call g hm)
  clear hf hm g HP12 HGr12
  go_upto_region 6 with fail
  have HD:=hdn (HP16.out.below (below_drew (Below.refl _ w16)));have HGD:=hdn (HGr16.out.below (below_drew (Below.refl _ w16)))
  clear HP16 HGr16
  have s26:w16.drew.cell? ⟨S,1,none⟩=some (.slice b2 gs.length c2):=HD.out.s.cell 1
  go_region_law (first
   |(go_simp;go_at_call 29;(with_reducible refine (decl_m HC.out _ _ HD.out.m).mono ?_);rintro en w20 ⟨g,vv,y0,rfl,hv,hx,hm⟩;have hvv:vv= .agg (Dc.cells y0).toArray:=hv;clear hv;subst hvv;have HX:=hdn hx;have HYE:Hid (qDc.er y0=y0):=hdn rfl;have HS:=hdn (HD.out.call g hm);have HG7:=hdn (HGD.out.par g (by have:=HD.out.b;omega));have HZL:Hid (qDc.R (M3 w1.heap.size (.slice b1 ss.length c1:Value).ownBlock (.slice b2 gs.length c2:Value).ownBlock (.slice b3 ps.length c3:Value).ownBlock w20) y0):=hdn trivial;obtain ⟨ys,hy1,hy2,hy3⟩:=HG7.out.b;have HY1:=hdn hy1;have HY2:=hdn hy2;have HY3:=hdn hy3;have s27:w20.cell? ⟨S,1,none⟩=some (.slice b2 gs.length c2):=HS.out.s.cell 1;have s27a: ∀ob,(w20.alloc ob).cell? ⟨S,1,none⟩=some (.slice b2 gs.length c2):=(fun ob=>(World.cell?_alloc_lt _ _ _ HS.out.lt).trans s27);clear g hm hx hy1 hy2 hy3;(try dsimp only))
   |(refine Kd.step_pushR qDc rfl 23 j2 _ HJ2.out (.tmp 32) (.tmp 35) rfl w1.heap.size gs.length _ (.slice b2 gs.length c2) rfl HY2.out HS.out.b.2.2.2.2.2.1 y0 rfl (by have:=HLL.out;have:=HGA.out;unfold maxLen;omega) (by have:=HLL.out;have:=HGA.out;show (gs.length+1)*40≤_;omega) ?_;intro gg cc w21 ho8 hgr8 hat8;have hown8: ∀q,(.slice b2 gs.length c2:Value).ownBlock=some q→w1.heap.size≤q:=(fun q hq=>(HG7.out.b.lt q hq).1);have HG8:=hdn (HG7.out.push2 HY1.out HY3.out HZL.out ho8 hgr8 hat8);have HS8:=hdn (HS.out.grown hgr8 hown8);have s28:w21.cell? ⟨S,1,none⟩=some (.slice b2 gs.length c2):=HS8.out.s.cell 1;have f28:w21.frozen? ⟨S,1,none⟩=false:=HS8.out.s.frozen 1;clear ho8 hgr8 hat8 hown8))
  all_goals
   have HN22:Hid (PC w w1 (w21.setCell ⟨S,1,none⟩ (.slice (some ⟨gg,0,none⟩) (gs.length+1) cc)) rb sb cap A S zPg [.slice b1 ss.length c1,.slice (some ⟨gg,0,none⟩) (gs.length+1) cc,.slice b3 ps.length c3] l 70000 (Pr.th (.ok (y1,u1):Pr.Res Pg) fun y u=>Pr.th (Pa.variable_ l u) fun p v=>(.ok (Pa.addG y p,v):Pr.Res Pg))):=hdn ((HS8.out.set 1 (.slice (some ⟨gg,0,none⟩) (gs.length+1) cc)).re (fun h=>m_call (g:=Pa.addG) h))
   have HE22:=hdn (e_pushG (f:=Pa.addG) (x:=pg3 ss gs ps) (r:=(.ok (y1,u1):Pr.Res Pg)) (fun a u hc=>by cases hc;exact HAC.out _ _ rfl) HX.out HYE.out)
   have HGN22:=hdn (HG8.out.par (show w21.grownBy (w21.setCell ⟨S,1,none⟩ (.slice (some ⟨gg,0,none⟩) (gs.length+1) cc)) (some S) from grownBy_setC _ ⟨S,1,none⟩ _) HS8.out.b.2.2.1)
   clear HS HG7 HG8 HS8 s26 s27 s27a s28 f28 HD HGD HX HYE HZL HY1 HY2 HY3
   generalize w21.setCell ⟨S,1,none⟩ (.slice (some ⟨gg,0,none⟩) (gs.length+1) cc)=w22 at HN22 HGN22 ⊢
   go_wp2_with fail
   refine (want_m HC.out ⟨#[59]⟩ (by decide) w22 _ HN22.out.m).mono ?_
   rintro en w23 ⟨rfl,g,hm⟩
   have HN23:=hdn ((HN22.out.call (rm':=Pr.th (Pr.th (.ok (y1,u1):Pr.Res Pg) fun y u=>Pr.th (Pa.variable_ l u) fun p v=>(.ok (Pa.addG y p,v):Pr.Res Pg)) fun y u=>Pr.th (Pr.must (Pa.ts l) ⟨#[59]⟩ u) fun _ v=>(.ok (y,v):Pr.Res Pg)) g (m_call (g:=fun y _=>y) hm)).re (fun h=>h.more))
   have HGN23:=hdn (HGN22.out.par g (by have:=HN22.out.b;omega))
   have HE23:Hid (∀y u,(Pr.th (Pr.th (.ok (y1,u1):Pr.Res Pg) fun y u=>Pr.th (Pa.variable_ l u) fun p v=>(.ok (Pa.addG y p,v):Pr.Res Pg)) fun y u=>Pr.th (Pr.must (Pa.ts l) ⟨#[59]⟩ u) fun _ v=>(.ok (y,v):Pr.Res Pg))= .ok (y,u)→pg3 ss (gs++ [qDc.er y0]) ps=y):=hdn (by
    intro y u hc
    obtain ⟨y8,v8,h1,h2⟩:=Pr.th_ok hc
    obtain ⟨y9,v9,h3,h4⟩:=Pr.th_ok h2
    cases h4
    exact HE22.out _ _ h1)
   clear g hm HN22 HGN22 HE22
   go_wp2_with fail
   go_roundg (gk-1)
   case measure=>have:=HG0.out;omega
   case rel=>
    obtain ⟨gj,hgj⟩: ∃k,gk=k+1:=⟨gk-1,by have:=HG0.out;omega⟩
    refine ⟨ss,gs++ [qDc.er y0],ps,_,_,_,_,hdn ?_,HE23,hdn ?_,hdn ?_,HN23,HGN23⟩
    ·have:=HGA.out;have:=HG0.out;simp only[List.length_append,List.length_singleton];omega
    ·rw[←HH.out,hgj,Nat.add_sub_cancel,Pr.th_okk];exact (Pa.progP_g HK.out HF1.out HF2.out).symm
    ·intro a u hc;obtain ⟨y,v9,h1,h2⟩:=Pr.th_ok hc;obtain ⟨p9,z9,h3,h4⟩:=Pr.th_ok h2;obtain ⟨y8,v8,h5,h6⟩:=Pr.th_ok h1;obtain ⟨p7,z7,h7,h8⟩:=Pr.th_ok h6;cases h5;cases h4;cases h8;have h9:=Pa.avar_fwd h7;have h10:=(Pr.must_fwd h3).1;have h11:=HFUE.out _ _ rfl;omega
end Go.Proofs.YtcehbcnloiooaaaGreatDoor
namespace Go.Proofs.YtcehbcnloiooaaaGreatDoor
open Go.RowKit Go.Sort
namespace Pr
section
variable {t:List Tk}
end
end Pr
end Go.Proofs.YtcehbcnloiooaaaGreatDoor
namespace Go.Proofs.YtcehbcnloiooaaaGreatDoor
namespace Pn
open Tx (Lx Clear NoPair Any)
end Pn
end Go.Proofs.YtcehbcnloiooaaaGreatDoor
namespace Go.Proofs.YtcehbcnloiooaaaGreatDoor
namespace Pn
open Pr (th St Res)
section
variable {t:List Pr.Tk}
end
end Pn
end Go.Proofs.YtcehbcnloiooaaaGreatDoor
namespace Go.Proofs.YtcehbcnloiooaaaGreatDoor
namespace Pn
open Pr (th St Res)
section
variable {t:List Pr.Tk}
end
end Pn
end Go.Proofs.YtcehbcnloiooaaaGreatDoor
namespace Go.Proofs.YtcehbcnloiooaaaGreatDoor
open Go.RowKit Go.Sort
namespace Pa
open Pr (St Res th noTm noPth noVl noCd noHd th_ok)
section
variable (l:List Tx.Sg)
end
section
variable {l:List Tx.Sg}
section
variable {rec rec':St→Res SL} (h: ∀u,Like SL.er (rec u) (rec' u))
include h
end
end
section
variable (l:List Tx.Sg)
end
end Pa
end Go.Proofs.YtcehbcnloiooaaaGreatDoor
namespace Go.Proofs.YtcehbcnloiooaaaGreatDoor
open Go.RowKit Go.Sort
namespace Pa
open Pr (St Res th noHd)
variable {l:List Tx.Sg}
end Pa
end Go.Proofs.YtcehbcnloiooaaaGreatDoor
namespace Go.Proofs.YtcehbcnloiooaaaGreatDoor
open Go.RowKit Go.Sort
namespace Pa
open Pr (St Res th noHd)
variable {l:List Tx.Sg}
end Pa
end Go.Proofs.YtcehbcnloiooaaaGreatDoor
namespace Go.Proofs.YtcehbcnloiooaaaGreatDoor
open Go.RowKit Go.Sort
namespace Pa
open Pr (St Res th noHd)
variable {l:List Tx.Sg}
end Pa
end Go.Proofs.YtcehbcnloiooaaaGreatDoor
namespace Go.Proofs.YtcehbcnloiooaaaGreatDoor
open Go.RowKit Go.Sort
namespace Pa
end Pa
section
variable {α:Type} {rb sb cap:Nat} {l:List Tx.Sg} {o:Int} {N:Nat}
end
end Go.Proofs.YtcehbcnloiooaaaGreatDoor
namespace Go.Proofs.YtcehbcnloiooaaaGreatDoor
namespace Pn
open Pr (th St Res th_ok)
section
variable {t:List Pr.Tk}
end
end Pn
end Go.Proofs.YtcehbcnloiooaaaGreatDoor
namespace Go.Proofs.YtcehbcnloiooaaaGreatDoor
namespace Pn
open Pr (th St Res th_ok)
section
variable {t:List Pr.Tk}
end
end Pn
end Go.Proofs.YtcehbcnloiooaaaGreatDoor
namespace Go.Proofs.YtcehbcnloiooaaaGreatDoor
open Go.RowKit Go.Sort
namespace Pa
open Pr (St Res th th_ok)
variable {l:List Tx.Sg}
theorem must_yes {s:ByteArray} {u:St} (hv:Pr.is (ts l) u.i s=true):Pr.must (ts l) s u= .ok (Pr.sg (ts l) u.i,u.go):=by
 unfold Pr.must;rw[if_pos hv]
theorem rproc_eqo {N:Nat} (C:RC l N) {u:St} (hv:Pr.is (ts l) u.i ⟨#[118,111,105,100]⟩=true):Eqo (rproc l ((ts l).length+1) u.go) (proc l u):=by
 unfold proc rproc
 rw[must_yes hv]
 show Eqo _ (th (name l u.go) _)
 refine Eqo.th (Eqo.rfl' _) fun _ u=>Eqo.th (Eqo.rfl' _) fun _ u=>Eqo.th (Eqo.rfl' _) fun _ u=>Eqo.th (Eqo.rfl' _) fun _ u=> ?_
 intro x
 rcases q1:rstmts l (rstmt l) ((ts l).length+1) u with n |⟨a,v⟩
 ·rcases q2:stmts l ((ts l).length+1) u with m |⟨b,v⟩
  ·exact ⟨(fun e=>by cases e),(fun e=>by cases e)⟩
  ·have hn: ¬fin l v:=fun hf=>by
    have:=(rstmts_iff C _ u (b,v)).2 ⟨q2,hf⟩
    rw[q1] at this;cases this
   have hm:Pr.is (ts l) v.i ⟨#[125]⟩=false:=by
    rcases q:Pr.is (ts l) v.i ⟨#[125]⟩ with _ |_
    ·rfl
    ·exact absurd (.inr q) hn
   constructor
   ·intro e;cases e
   ·intro e
    change Pr.th (Pr.must (ts l) ⟨#[125]⟩ v) _=_ at e
    unfold Pr.must at e
    rw[if_neg (by rw[hm];decide)] at e
    cases e
 ·have:=((rstmts_iff C _ u (a,v)).1 q1).1
  rw[this]
theorem rprog_eqo {N:Nat} (C:RC l N): ∀(g:Nat) (ss:List Sr) (gs:List Dc) (ps:List Pc) (u:St),Eqo (rprog l ((ts l).length+1) g ss gs ps u) (program l g ss gs ps u)
 |0,_,_,_,_=>fun _=>⟨(fun e=>by cases e),(fun e=>by cases e)⟩
 |g+1,ss,gs,ps,u=>by
  unfold rprog program
  by_cases h0:(sg l u.i).kind=0
  ·rw[if_pos h0,if_pos h0];exact Eqo.rfl' _
  ·rw[if_neg h0,if_neg h0]
   by_cases h1:Pr.is (ts l) u.i ⟨#[115,116,114,117,99,116]⟩=true
   ·rw[if_pos h1,if_pos h1]
    have hs:Eqo (strct l u.go) (structure_ l u):=by
     rw[structure_strct,must_yes h1];exact Eqo.rfl' _
    exact Eqo.th hs fun x v=>rprog_eqo C g _ _ _ v
   ·rw[if_neg h1,if_neg h1]
    by_cases h2:Pr.is (ts l) u.i ⟨#[118,111,105,100]⟩=true
    ·rw[if_pos h2,if_pos h2]
     exact Eqo.th (rproc_eqo C h2) fun x v=>rprog_eqo C g _ _ _ v
    ·rw[if_neg h2,if_neg h2]
     exact Eqo.th (Eqo.rfl' _) fun x v=>rprog_eqo C g _ _ _ v
theorem rprog_pr {N:Nat} (C:RC l N) {P:Pg} {u:St} (h:rprog l (l.length+1) (l.length+1) [] [] [] ⟨0,0,0⟩= .ok (P,u)):Pr.program (ts l) ((ts l).length+1) [] [] [] ⟨0,0,0⟩= .ok (P.er,u):=by
 have hl:(ts l).length=l.length:=by simp[ts]
 have h1:=(rprog_eqo C ((ts l).length+1) [] [] [] ⟨0,0,0⟩ (P,u)).1 (by rw[hl];exact h)
 have h2:=program_er l ((ts l).length+1) [] [] [] ⟨0,0,0⟩
 rw[h1] at h2
 simp only[List.map_nil] at h2
 rcases q:Pr.program (ts l) ((ts l).length+1) [] [] [] ⟨0,0,0⟩ with n |⟨a,v⟩
 ·rw[q] at h2;exact h2.elim
 ·rw[q] at h2
  obtain ⟨rfl,rfl⟩:=h2
  rfl
end Pa
end Go.Proofs.YtcehbcnloiooaaaGreatDoor
namespace Go.Proofs.YtcehbcnloiooaaaGreatDoor
open Go.RowKit Go.Sort
def RdOk (s:ByteArray) (P:Pg):Prop:=(Tx.alls s).2.2=0∧∃u,Pr.program ((Tx.alls s).1.map Pr.tk) (((Tx.alls s).1.map Pr.tk).length+1) [] [] [] ⟨0,0,0⟩= .ok (P,u)
theorem RdOk.one {s:ByteArray} {P Q:Pg} (h:RdOk s P) (k:RdOk s Q):P=Q:=by
 obtain ⟨_,u,h⟩:=h
 obtain ⟨_,v,k⟩:=k
 rw[h] at k
 injection k with k;injection k
theorem RdOk.right {s:ByteArray} {P:Pg} (h:RdOk s P):Pn.right P=true:=by
 obtain ⟨h0,u,h⟩:=h
 exact Pn.program_gt (Pn.alls_gt s h0) _ _ _ _ _ h (by simp) (by simp) (by simp) rfl rfl (by show (0:Int)≤400;decide)
theorem RdOk.tight {s:ByteArray} {P:Pg} (h:RdOk s P) (hs:s.size≤8000):Pn.tightP 8010 P:=by
 obtain ⟨h0,u,h⟩:=h
 have hal:=alls_len s
 refine Pn.tightP_mono ?_ (Pn.program_tight _ _ _ _ _ h (by simp) (by simp) (by simp) (by simp) (by simp))
 rw[List.length_map];omega
theorem args_pl (l:List Vl):(l.map Vl.pl).map Vl.er=l.map Vl.er:=by rw[List.map_map];rfl
theorem hd_pl (h:Hd):h.pl.er=h.er:=by
 show (⟨h.kind,0,h.place.er,h.value.er,h.cond.er,h.name,⟨none,0,(h.args.l.map Vl.pl).map Vl.er⟩,h.both⟩:Hd)=_
 rw[args_pl];rfl
theorem sl_pl: ∀l:SL,l.pl.er=l.er
 |.nil=>rfl
 |.cons h _ _ t _ _ e r=>by simp only[SL.pl,SL.er,hd_pl,sl_pl t,sl_pl e,sl_pl r]
theorem pc_pl (x:Pc):x.pl.er=x.er:=by
 show (⟨x.name,0,0,⟨none,0,x.params.l.map Dc.er⟩,⟨none,0,x.locals_.l.map Dc.er⟩,none,0,x.body.pl.er⟩:Pc)=_
 rw[sl_pl];rfl
theorem pg_pl (p:Pg):(pg3 (p.structs.l.map qSr.er) (p.globals.l.map qDc.er) (p.procs.l.map qPc.er)).er=p.er:=by
 show (⟨⟨none,0,(p.structs.l.map qSr.er).map Sr.er⟩,⟨none,0,(p.globals.l.map qDc.er).map Dc.er⟩,⟨none,0,(p.procs.l.map qPc.er).map Pc.er⟩⟩:Pg)=_
 rw[List.map_map,List.map_map,List.map_map]
 have e1:Sr.er∘qSr.er=Sr.er:=rfl
 have e2:Dc.er∘qDc.er=Dc.er:=rfl
 have e3:Pc.er∘qPc.er=Pc.er:=by funext x;exact pc_pl x
 rw[e1,e2,e3];rfl
theorem progK_er (p:Pg) (h:Pn.right p=true) (n:Nat) (hc:Pn.cs (Pn.progK p.er)≤n):Pn.cs (Pn.progK p)≤n:=by
 have e:Pn.progK p=Pn.progK p.er:=by
  have ho:Pn.okProg p=true:=by unfold Pn.right at h;simp only[Bool.and_eq_true] at h;exact h.1.1
  have ho2:Pn.okProg p.er=true:=by
   have h2:=h
   rw[←Pn.right_er] at h2
   unfold Pn.right at h2;simp only[Bool.and_eq_true] at h2;exact h2.1.1
  obtain ⟨m,c1,k1⟩:=Pn.prog_chain ho (t:=bt (Pn.progT p)) rfl
  obtain ⟨m2,c2,k2⟩:=Pn.prog_chain ho2 (t:=bt (Pn.progT p)) (by rw[Pn.progT_er];rfl)
  have hm:m=m2:=by
   have key: ∀(a b:List Tx.Sg) (s:ByteArray) (i:Nat),Tx.Chain s i a→Tx.Chain s i b→a=b:=by
    intro a
    induction a with
    |nil=>intro b s i h;exact h.elim
    |cons x a ih=>
     intro b s i h k
     cases b with
     |nil=>exact k.elim
     |cons y b=>
      obtain ⟨_,rfl,h1⟩:=h
      obtain ⟨_,rfl,k1⟩:=k
      rcases h1 with ⟨z,rfl⟩|⟨z,h1⟩
      ·rcases k1 with ⟨_,rfl⟩|⟨z2,_⟩
       ·rfl
       ·exact absurd z z2
      ·rcases k1 with ⟨z2,_⟩|⟨_,k1⟩
       ·exact absurd z2 z
       ·rw[ih b s _ h1 k1]
   exact key _ _ _ _ c1 c2
  rw[hm,k2] at k1
  exact (List.append_cancel_right k1).symm
 rw[e];exact hc
theorem refP_any (s:ByteArray) (w:World) (hs:s.size≤5000000):Calls Tryz.prog 11 #[.string s] w fun en w'=> ∃(y:Pg) (at_ e:Int),en= .returned (.tuple #[.agg (Pg.cells y).toArray,.int .i64 at_,.int .i64 e])∧Below w.heap.size w w'∧
  ((e=0∧RdOk s y.er∧pgLies w' y)∨(e≠0∧∀P,¬RdOk s P)):=by
 refine (refProg_any s w hs).mono fun en w' h=> ?_
 obtain ⟨p,at_,e,he,hb,h⟩:=h
 refine ⟨p,at_,e,he,hb, ?_⟩
 rcases h with ⟨e0,a0,⟨u,hr⟩,hl⟩|⟨e0,h⟩
 ·left
  obtain ⟨C,_,_⟩:=rc_alls s a0
  have h1:=Pa.rprog_pr C hr
  rw[pg_pl] at h1
  exact ⟨e0,⟨a0,u,h1⟩,pgLies_ext (Ext.mask _ _) hl⟩
 ·right
  refine ⟨e0,fun P hP=> ?_⟩
  obtain ⟨a0,u,h1⟩:=hP
  rcases h with h |⟨n,h⟩
  ·exact h a0
  ·obtain ⟨C,_,_⟩:=rc_alls s a0
   have hl:(Pa.ts (Tx.alls s).1).length=(Tx.alls s).1.length:=by simp[Pa.ts]
   have h2:=Pa.program_er (Tx.alls s).1 ((Pa.ts (Tx.alls s).1).length+1) [] [] [] ⟨0,0,0⟩
   simp only[List.map_nil] at h2
   have h3:Pr.program (Pa.ts (Tx.alls s).1) ((Pa.ts (Tx.alls s).1).length+1) [] [] [] ⟨0,0,0⟩= .ok (P,u):=h1
   rcases q:Pa.program (Tx.alls s).1 ((Pa.ts (Tx.alls s).1).length+1) [] [] [] ⟨0,0,0⟩ with k |⟨a,v⟩
   ·rw[q,h3] at h2;exact h2.elim
   ·have h4:=(Pa.rprog_eqo C ((Pa.ts (Tx.alls s).1).length+1) [] [] [] ⟨0,0,0⟩ (a,v)).2 q
    rw[hl,h] at h4
    cases h4
end Go.Proofs.YtcehbcnloiooaaaGreatDoor
namespace Go.Proofs.YtcehbcnloiooaaaGreatDoor
namespace Pn
namespace E8
open Pr (th St Res th_ok)
def wt (t:List Pr.Tk):Nat→Nat
 |0=>0
 |n+1=>wt t n+8*(Pr.sg t n).text.size
def Gz (t:List Pr.Tk):Prop:= ∀i,(Pr.sg t i).kind=2→(Tx.digits (Pr.sg t i).num.toNat).length≤(Pr.sg t i).text.size∧1≤(Pr.sg t i).text.size
theorem size_is {t:List Pr.Tk} {i:Nat} {s:ByteArray} (h:Pr.is t i s=true):(Pr.sg t i).text.size=s.size:=by
 unfold Pr.is at h
 rw[Lib.toList_data,Lib.toList_data,beq_iff_eq] at h
 rw[←Tx.len_eq,h,Tx.len_eq]
section
variable {t:List Pr.Tk}
theorem go_wt (u:St):wt t u.go.i=wt t u.i+8*(Pr.sg t u.i).text.size:=rfl
theorem must_wt {s:ByteArray} {u v:St} {x:Pr.Tk} (h:Pr.must t s u= .ok (x,v)):wt t v.i=wt t u.i+8*s.size:=by
 obtain ⟨h1,rfl⟩:=Pr.must_is h
 rw[go_wt,size_is h1]
theorem name_wt (g:Gt t) {u v:St} {x:Pr.Tk} (h:Pr.name t u= .ok (x,v)):x.text.size+1+wt t u.i+2≤wt t v.i∧v.i=u.i+1:=by
 have hn:=(name_gt g h)
 unfold Pr.name at h
 split at h
 ·injection h with h;injection h with h h2;subst h;subst h2
  have h1:1≤(Pr.sg t u.i).text.size:=by
   have hne: ¬txt (Pr.sg t u.i).text= []:=fun e=>okN_ne hn (.inr (fun b l e=>by cases e)) e
   have h2:(txt (Pr.sg t u.i).text).length=(Pr.sg t u.i).text.size:=Tx.len_eq _
   cases hq:txt (Pr.sg t u.i).text with
   |nil=>exact absurd hq hne
   |cons a l=>rw[hq] at h2;simp at h2;omega
  rw[go_wt];exact ⟨by omega,rfl⟩
 ·cases h
theorem hopsK_snoc: ∀(l:List Hp) (h:Hp),hopsK (l++ [h])=hopsK l++ [mk [45,62],nm h.name]
 | [],h=>rfl
 |x::l,h=>by simp only[List.cons_append,hopsK,hopsK_snoc l h,List.append_assoc]
theorem hops_wt (g:Gt t): ∀(n:Nat) (acc:List Hp) (u:St) {l:List Hp} {v:St},Pr.hops t n acc u= .ok (l,v)→cs (hopsK l)+wt t u.i≤wt t v.i+cs (hopsK acc)
 |0,acc,u,l,v,h=>by
  unfold Pr.hops at h
  split at h
  ·cases h
  ·injection h with h;injection h with h h2;subst h;subst h2;omega
 |n+1,acc,u,l,v,h=>by
  unfold Pr.hops at h
  split at h
  ·rename_i hi
   obtain ⟨x,w,h1,h2⟩:=th_ok h
   have:=hops_wt g n _ w h2
   have hs:=size_is hi
   have h3:=(name_wt g h1).1
   rw[go_wt,hs,show (⟨#[45,62]⟩:ByteArray).size=2 from rfl] at h3
   rw[hopsK_snoc,cs_app] at this
   simp only[cs,cK_mk,cK_nm,List.length_cons,List.length_nil] at this
   omega
  ·injection h with h;injection h with h h2;subst h;subst h2;omega
theorem path_wt (g:Gt t) {u v:St} {x:Pth} (h:Pr.path t u= .ok (x,v)):cs (pathK x)+wt t u.i+2≤wt t v.i:=by
 obtain ⟨a,u1,h1,h⟩:=th_ok h
 obtain ⟨b,u2,h2,h⟩:=th_ok h
 injection h with h;injection h with h hv;subst h;subst hv
 have k1:=(name_wt g h1).1
 have k2:=hops_wt g _ _ _ h2
 show cs ([nm a.text]++hopsK b)+_+2≤_
 rw[cs_app]
 simp only[cs,cK_nm,hopsK] at k2 ⊢
 omega
theorem term_wt (g:Gt t) (z:Gz t) {u v:St} {x:Tm} (h:Pr.term t u= .ok (x,v)):cs (termK x)+wt t u.i≤wt t v.i∧v.i=u.i+1:=by
 unfold Pr.term at h
 split at h
 ·rename_i hk
  injection h with h;injection h with h hv;subst h;subst hv
  obtain ⟨h1,h2⟩:=z u.i hk
  refine ⟨?_,rfl⟩
  rw[go_wt]
  show cs [dg (Pr.sg t u.i).num]+_≤_
  simp only[cs]
  show (Tx.digits (Pr.sg t u.i).num.toNat).length+1+0+_≤_
  omega
 ·obtain ⟨a,u1,h1,h⟩:=th_ok h
  injection h with h;injection h with h hv;subst h;subst hv
  have k1:=name_wt g h1
  have hn:=name_gt g h1
  refine ⟨?_,k1.2⟩
  unfold termK
  rw[if_neg (fun e=>okN_ne hn (.inr (fun b l e=>by cases e)) e)]
  simp only[cs,cK_nm]
  omega
theorem side_wt (g:Gt t) (z:Gz t) {u v:St} {x:Vl} (h:Pr.side t u= .ok (x,v)):cs (valK x)+wt t u.i≤wt t v.i:=by
 unfold Pr.side at h
 split at h
 ·rename_i hi
  injection h with h;injection h with h hv;subst h;subst hv
  rw[go_wt,size_is hi]
  show 5+0+_≤_+8*4
  omega
 ·split at h
  ·rename_i hk
   obtain ⟨a,u1,h1,h⟩:=th_ok h
   injection h with h;injection h with h hv;subst h;subst hv
   unfold Pr.term at h1
   rw[if_pos hk] at h1
   injection h1 with h1;injection h1 with h1 hv;subst h1;subst hv
   obtain ⟨h1,h2⟩:=z u.i hk
   rw[go_wt]
   show cs [dg (Pr.sg t u.i).num]+_≤_
   simp only[cs]
   show (Tx.digits (Pr.sg t u.i).num.toNat).length+1+0+_≤_
   omega
  ·obtain ⟨a,u1,h1,h⟩:=th_ok h
   injection h with h;injection h with h hv;subst h;subst hv
   have:=path_wt g h1
   show cs (pathK a)+_≤_
   omega
theorem value_wt (g:Gt t) (z:Gz t) {u v:St} {x:Vl} (h:Pr.value t u= .ok (x,v)):cs (valK x)+wt t u.i≤wt t v.i:=by
 unfold Pr.value at h
 split at h
 ·rename_i hi
  obtain ⟨a,u1,h1,h⟩:=th_ok h
  injection h with h;injection h with h hv;subst h;subst hv
  have k1:=(name_wt g h1).1
  rw[go_wt,size_is hi,show (⟨#[110,101,119]⟩:ByteArray).size=3 from rfl] at k1
  show cs [ky tNew,nm a.text]+_≤_
  simp only[cs,cK_nm,cK_ky,tNew,List.length_cons,List.length_nil]
  omega
 ·split at h
  ·rename_i hi
   injection h with h;injection h with h hv;subst h;subst hv
   rw[go_wt,size_is hi]
   show 6+0+_≤_+8*5
   omega
  ·split at h
   ·rename_i hs
    obtain ⟨a,u1,h1,h⟩:=th_ok h
    obtain ⟨b,u2,h2,h⟩:=th_ok h
    injection h with h;injection h with h hv;subst h;subst hv
    have k1:=term_wt g z h1
    have k2:=(term_wt g z h2).1
    have hz:(Pr.sg t u1.i).text.size=1:=by
     unfold Pr.sums at hs
     simp only[Bool.and_eq_true,Bool.or_eq_true] at hs
     rw[k1.2]
     rcases hs.2 with h |h
     ·exact size_is h
     ·exact size_is h
    rw[go_wt,hz] at k2
    have hc:cs (valK {Pr.noVl with kind:=if Pr.is t u1.i ⟨#[45]⟩ then 6 else 5,left:=a,right:=b})=cs (termK a)+2+cs (termK b):=by
     by_cases hq:Pr.is t u1.i ⟨#[45]⟩=true
     ·rw[if_pos hq]
      show cs (termK a++ [mk [45]]++termK b)=_
      rw[cs_app,cs_app];rfl
     ·rw[if_neg hq]
      show cs (termK a++ [mk [43]]++termK b)=_
      rw[cs_app,cs_app];rfl
    rw[hc]
    omega
   ·exact side_wt g z h
theorem relation_wt {u v:St} {k:Int} (h:Pr.relation t u= .ok (k,v)):(relT k).length+1+wt t u.i≤wt t v.i:=by
 unfold Pr.relation at h
 split at h
 ·rename_i hi
  injection h with h;injection h with h hv;subst h;subst hv
  rw[go_wt,size_is hi]
  show 2+1+_≤_+8*2
  omega
 ·split at h
  ·rename_i hi
   injection h with h;injection h with h hv;subst h;subst hv
   rw[go_wt,size_is hi]
   show 2+1+_≤_+8*2
   omega
  ·split at h
   ·rename_i hi
    injection h with h;injection h with h hv;subst h;subst hv
    rw[go_wt,size_is hi]
    show 1+1+_≤_+8*1
    omega
   ·obtain ⟨a,u1,h1,h⟩:=th_ok h
    injection h with h;injection h with h hv;subst h;subst hv
    rw[must_wt h1]
    show 2+1+_≤_+8*2
    omega
theorem cond_wt (g:Gt t) (z:Gz t) {u v:St} {x:Cd} (h:Pr.cond t u= .ok (x,v)):cs (condK x)+wt t u.i≤wt t v.i:=by
 unfold Pr.cond at h
 split at h
 ·rename_i hi
  injection h with h;injection h with h hv;subst h;subst hv
  rw[go_wt,size_is hi]
  show 2+0+_≤_+8*1
  omega
 ·obtain ⟨a,u1,h1,h⟩:=th_ok h
  obtain ⟨b,u2,h2,h⟩:=th_ok h
  obtain ⟨c,u3,h3,h⟩:=th_ok h
  injection h with h;injection h with h hv;subst h;subst hv
  have hr:=relation_gt h2
  have k1:=side_wt g z h1
  have k2:=relation_wt h2
  have k3:=side_wt g z h3
  unfold condK
  rw[if_neg (by show¬b=0;omega)]
  show cs (valK a++ [mk (relT b)]++valK c)+_≤_
  rw[cs_app,cs_app]
  simp only[cs,cK_mk]
  omega
theorem held_wt (g:Gt t) (z:Gz t) {u v:St} {x:Cd} (h:Pr.held t u= .ok (x,v)):cs (condK x)+4+wt t u.i≤wt t v.i:=by
 obtain ⟨a,u1,h1,h⟩:=th_ok h
 obtain ⟨b,u2,h2,h⟩:=th_ok h
 obtain ⟨c,u3,h3,h⟩:=th_ok h
 injection h with h;injection h with h hv;subst h;subst hv
 have k1:=must_wt h1
 have k2:=cond_wt g z h2
 have k3:=must_wt h3
 rw[show (⟨#[40]⟩:ByteArray).size=1 from rfl] at k1
 rw[show (⟨#[41]⟩:ByteArray).size=1 from rfl] at k3
 omega
def cl {α:Type} (f:α→List K):List α→Nat
 | []=>0
 |a::l=>cs (f a)+2+cl f l
theorem cl_snoc {α:Type} (f:α→List K): ∀(l:List α) (a:α),cl f (l++ [a])=cl f l+(cs (f a)+2)
 | [],a=>by simp[cl]
 |x::l,a=>by simp only[List.cons_append,cl,cl_snoc f l a];omega
theorem comma_cl {α:Type} (f:α→List K): ∀l:List α,cs (commaK f l)≤cl f l
 | []=>Nat.le_refl _
 | [a]=>by simp only[commaK,cl];omega
 |a::b::l=>by
  have:=comma_cl f (b::l)
  simp only[commaK,cl] at this ⊢
  rw[cs_app]
  simp only[cs,cK_mk,List.length_cons,List.length_nil]
  omega
theorem more_wt {α:Type} {f:α→List K} {item:St→Res α} (hi: ∀u x v,item u= .ok (x,v)→cs (f x)+wt t u.i≤wt t v.i): ∀(n:Nat) (acc:List α) (u:St) {l:List α} {v:St},Pr.more t item n acc u= .ok (l,v)→cl f l+8+wt t u.i≤wt t v.i+cl f acc
 |0,acc,u,l,v,h=>by cases h
 |n+1,acc,u,l,v,h=>by
  unfold Pr.more at h
  split at h
  ·rename_i hc
   obtain ⟨x,w,h1,h2⟩:=th_ok h
   have:=more_wt hi n _ w h2
   have k1:=hi _ _ _ h1
   rw[go_wt,size_is hc,show (⟨#[44]⟩:ByteArray).size=1 from rfl] at k1
   rw[cl_snoc] at this
   omega
  ·obtain ⟨a,u1,h1,h⟩:=th_ok h
   injection h with h;injection h with h hv;subst h;subst hv
   have:=must_wt h1
   rw[show (⟨#[41]⟩:ByteArray).size=1 from rfl] at this
   omega
theorem listed_wt {α:Type} {f:α→List K} {item:St→Res α} (hi: ∀u x v,item u= .ok (x,v)→cs (f x)+wt t u.i≤wt t v.i) {u v:St} {l:List α} (h:Pr.listed t item u= .ok (l,v)):cs (commaK f l)+4+wt t u.i≤wt t v.i:=by
 obtain ⟨a,u1,h1,h⟩:=th_ok h
 have k1:=must_wt h1
 rw[show (⟨#[40]⟩:ByteArray).size=1 from rfl] at k1
 split at h
 ·injection h with h;injection h with h hv;subst h;subst hv
  show 0+4+_≤_
  rw[go_wt];omega
 ·obtain ⟨b,u2,h2,h⟩:=th_ok h
  have k2:=hi _ _ _ h2
  have k3:=more_wt hi _ _ _ h
  have:=comma_cl f l
  simp only[cl] at k3
  omega
theorem pointer_wt (g:Gt t) {u v:St} {x:Dc} (h:Pr.pointer t u= .ok (x,v)):cs (declK x)+wt t u.i≤wt t v.i:=by
 obtain ⟨a,u1,h1,h⟩:=th_ok h
 obtain ⟨b,u2,h2,h⟩:=th_ok h
 obtain ⟨c,u3,h3,h⟩:=th_ok h
 injection h with h;injection h with h hv;subst h;subst hv
 have ha:=name_gt g h1
 have hn: ¬txt a.text= []:=fun e=>okN_ne ha (.inr (fun b l e=>by cases e)) e
 have k1:=(name_wt g h1).1
 have k2:=must_wt h2
 have k3:=(name_wt g h3).1
 rw[show (⟨#[42]⟩:ByteArray).size=1 from rfl] at k2
 unfold declK
 rw[if_neg hn]
 simp only[cs,cK_mk,cK_nm,List.length_cons,List.length_nil]
 omega
theorem variable_wt (g:Gt t) {u v:St} {x:Dc} (h:Pr.variable_ t u= .ok (x,v)):cs (declK x)+wt t u.i≤wt t v.i:=by
 unfold Pr.variable_ at h
 split at h
 ·rename_i hi
  obtain ⟨a,u1,h1,h⟩:=th_ok h
  injection h with h;injection h with h hv;subst h;subst hv
  have k1:=(name_wt g h1).1
  rw[go_wt,size_is hi,show (⟨#[105,110,116]⟩:ByteArray).size=3 from rfl] at k1
  show cs [ky tInt,nm a.text]+_≤_
  simp only[cs,cK_nm,cK_ky,tInt,List.length_cons,List.length_nil]
  omega
 ·exact pointer_wt g h
theorem decl_wt (g:Gt t) {u v:St} {x:Dc} (h:Pr.decl t u= .ok (x,v)):cs (declK x)+2+wt t u.i≤wt t v.i:=by
 obtain ⟨a,u1,h1,h⟩:=th_ok h
 obtain ⟨b,u2,h2,h⟩:=th_ok h
 injection h with h;injection h with h hv;subst h;subst hv
 have k1:=variable_wt g h1
 have k2:=must_wt h2
 rw[show (⟨#[59]⟩:ByteArray).size=1 from rfl] at k2
 omega
theorem block_wt {rec:St→Res SL} (hr: ∀u l v,rec u= .ok (l,v)→cs (linesK l)+wt t u.i≤wt t v.i) {u v:St} {l:SL} (h:Pr.block t rec u= .ok (l,v)):cs (linesK l)+4+wt t u.i≤wt t v.i:=by
 obtain ⟨a,u1,h1,h⟩:=th_ok h
 obtain ⟨b,u2,h2,h⟩:=th_ok h
 obtain ⟨c,u3,h3,h⟩:=th_ok h
 obtain ⟨d,u4,h4,h⟩:=th_ok h
 injection h with h;injection h with hl h;subst h;subst hl
 obtain ⟨rfl,_⟩:=Pr.mustHold_ok h1
 have k2:=must_wt h2
 have k3:=hr _ _ _ h3
 have k4:=must_wt h4
 rw[show (⟨#[123]⟩:ByteArray).size=1 from rfl] at k2
 rw[show (⟨#[125]⟩:ByteArray).size=1 from rfl] at k4
 show _≤wt t u4.i
 have k3':cs (linesK c)+wt t u2.i≤wt t u3.i:=k3
 omega
theorem free_wt (g:Gt t) {u v:St} {x:Hd} (h:Pr.free t u= .ok (x,v)):cs (stK x [] [] [])+wt t u.i≤wt t v.i∧x.kind=2:=by
 obtain ⟨a,u1,h1,h⟩:=th_ok h
 obtain ⟨b,u2,h2,h⟩:=th_ok h
 obtain ⟨c,u3,h3,h⟩:=th_ok h
 obtain ⟨d,u4,h4,h⟩:=th_ok h
 obtain ⟨e,u5,h5,h⟩:=th_ok h
 injection h with h;injection h with h hv;subst h;subst hv
 have k1:=must_wt h1;have k2:=must_wt h2;have k3:=path_wt g h3;have k4:=must_wt h4;have k5:=must_wt h5
 rw[show (⟨#[102,114,101,101]⟩:ByteArray).size=4 from rfl] at k1
 rw[show (⟨#[40]⟩:ByteArray).size=1 from rfl] at k2
 rw[show (⟨#[41]⟩:ByteArray).size=1 from rfl] at k4
 rw[show (⟨#[59]⟩:ByteArray).size=1 from rfl] at k5
 refine ⟨?_,rfl⟩
 show cs (ky tFree::mk [40]::(pathK c++mk [41]::mk [59]:: []))+_≤_
 simp only[cs,cs_app,cK_mk,cK_ky,tFree,List.length_cons,List.length_nil]
 omega
theorem named_wt (g:Gt t) (z:Gz t) {u v:St} {x:Hd} (h:Pr.named t u= .ok (x,v)):cs (stK x [] [] [])+wt t u.i≤wt t v.i∧(x.kind=1∨x.kind=3):=by
 unfold Pr.named at h
 split at h
 ·obtain ⟨a,u1,h1,h⟩:=th_ok h
  obtain ⟨b,u2,h2,h⟩:=th_ok h
  obtain ⟨c,u3,h3,h⟩:=th_ok h
  injection h with h;injection h with h hv;subst h;subst hv
  have k1:=(name_wt g h1).1
  have k2:=listed_wt (f:=valK) (fun _ _ _ h=>side_wt g z h) h2
  have k3:=must_wt h3
  rw[show (⟨#[59]⟩:ByteArray).size=1 from rfl] at k3
  refine ⟨?_,.inr rfl⟩
  show cs (nm a.text::mk [40]::(commaK valK b++mk [41]::mk [59]:: []))+_≤_
  simp only[cs,cs_app,cK_mk,cK_nm,List.length_cons,List.length_nil]
  omega
 ·obtain ⟨a,u1,h1,h⟩:=th_ok h
  obtain ⟨b,u2,h2,h⟩:=th_ok h
  obtain ⟨c,u3,h3,h⟩:=th_ok h
  obtain ⟨d,u4,h4,h⟩:=th_ok h
  injection h with h;injection h with h hv;subst h;subst hv
  have k1:=path_wt g h1;have k2:=must_wt h2;have k3:=value_wt g z h3;have k4:=must_wt h4
  rw[show (⟨#[61]⟩:ByteArray).size=1 from rfl] at k2
  rw[show (⟨#[59]⟩:ByteArray).size=1 from rfl] at k4
  refine ⟨?_,.inl rfl⟩
  show cs (pathK a++mk [61]::(valK c++mk [59]:: []))+_≤_
  simp only[cs,cs_app,cK_mk,List.length_cons,List.length_nil]
  omega
theorem cs_stK (h:Hd) (a e k:List K):cs (stK h a e k)=cs (stK h a e [])+cs k:=by
 rw[←List.nil_append k,←stK_app,cs_app,List.nil_append]
theorem stmt_wt (g:Gt t) (z:Gz t) {rec:St→Res SL} (hr: ∀u l v,rec u= .ok (l,v)→cs (linesK l)+wt t u.i≤wt t v.i) {u v:St} {h:Hd} {T E:SL} (hs:Pr.stmt t rec u= .ok ((h,T,E),v)):
  cs (stK h (linesK T) (linesK E) [])+wt t u.i≤wt t v.i:=by
 obtain ⟨a,u1,h1,hs⟩:=th_ok hs
 obtain ⟨rfl,_⟩:=Pr.count_ok h1
 split at hs
 ·rename_i hi
  injection hs with hs;injection hs with hx hv;subst hv
  simp only[Prod.mk.injEq] at hx
  obtain ⟨rfl,rfl,rfl⟩:=hx
  rw[go_wt]
  show cs [mk [59]]+wt t u.i≤wt t u.i+8*(Pr.sg t u.i).text.size
  rw[size_is hi]
  show 2+0+wt t u.i≤wt t u.i+8*1
  omega
 ·split at hs
  ·obtain ⟨b,u2,h2,hs⟩:=th_ok hs
   injection hs with hs;injection hs with hx hv;subst hv
   simp only[Prod.mk.injEq] at hx
   obtain ⟨rfl,rfl,rfl⟩:=hx
   have k:=block_wt hr h2
   show cs (mk [123]::(linesK b++mk [125]:: []))+wt t u.i≤_
   simp only[cs,cs_app,cK_mk,List.length_cons,List.length_nil]
   have k':cs (linesK b)+4+wt t u.i≤wt t u2.i:=k
   omega
  ·split at hs
   ·obtain ⟨b,u2,h2,hs⟩:=th_ok hs
    injection hs with hs;injection hs with hx hv;subst hv
    simp only[Prod.mk.injEq] at hx
    obtain ⟨rfl,rfl,rfl⟩:=hx
    exact (free_wt g h2).1
   ·split at hs
    ·obtain ⟨b,u2,h2,hs⟩:=th_ok hs
     obtain ⟨c,u3,h3,hs⟩:=th_ok hs
     obtain ⟨d,u4,h4,hs⟩:=th_ok hs
     have k2:=must_wt h2
     have k3:=held_wt g z h3
     have k4:=block_wt hr h4
     rw[show (⟨#[105,102]⟩:ByteArray).size=2 from rfl] at k2
     have k2':wt t u2.i=wt t u.i+16:=k2
     split at hs
     ·rename_i hi
      obtain ⟨e,u5,h5,hs⟩:=th_ok hs
      injection hs with hs;injection hs with hx hv;subst hv
      simp only[Prod.mk.injEq] at hx
      obtain ⟨rfl,rfl,rfl⟩:=hx
      have k5:=block_wt hr h5
      rw[go_wt,size_is hi,show (⟨#[101,108,115,101]⟩:ByteArray).size=4 from rfl] at k5
      show cs (ky tIf::mk [40]::(condK c++mk [41]::mk [123]::(linesK d++mk [125]::(ky tElse::mk [123]::(linesK e++mk [125]:: [])))))+wt t u.i≤_
      simp only[cs,cs_app,cK_mk,cK_ky,tIf,tElse,List.length_cons,List.length_nil]
      omega
     ·injection hs with hs;injection hs with hx hv;subst hv
      simp only[Prod.mk.injEq] at hx
      obtain ⟨rfl,rfl,rfl⟩:=hx
      show cs (ky tIf::mk [40]::(condK c++mk [41]::mk [123]::(linesK d++mk [125]:: [])))+wt t u.i≤_
      simp only[cs,cs_app,cK_mk,cK_ky,tIf,List.length_cons,List.length_nil]
      omega
    ·split at hs
     ·obtain ⟨b,u2,h2,hs⟩:=th_ok hs
      obtain ⟨c,u3,h3,hs⟩:=th_ok hs
      obtain ⟨d,u4,h4,hs⟩:=th_ok hs
      have k2:=must_wt h2
      have k3:=held_wt g z h3
      have k4:=block_wt hr h4
      rw[show (⟨#[119,104,105,108,101]⟩:ByteArray).size=5 from rfl] at k2
      have k2':wt t u2.i=wt t u.i+40:=k2
      injection hs with hs;injection hs with hx hv;subst hv
      simp only[Prod.mk.injEq] at hx
      obtain ⟨rfl,rfl,rfl⟩:=hx
      show cs (ky tWhile::mk [40]::(condK c++mk [41]::mk [123]::(linesK d++mk [125]:: [])))+wt t u.i≤_
      simp only[cs,cs_app,cK_mk,cK_ky,tWhile,List.length_cons,List.length_nil]
      omega
     ·obtain ⟨b,u2,h2,hs⟩:=th_ok hs
      injection hs with hs;injection hs with hx hv;subst hv
      simp only[Prod.mk.injEq] at hx
      obtain ⟨rfl,rfl,rfl⟩:=hx
      exact (named_wt g z h2).1
theorem stmts_wt (g:Gt t) (z:Gz t): ∀(n:Nat) (u:St) (l:SL) (v:St),Pr.stmts t n u= .ok (l,v)→cs (linesK l)+wt t u.i≤wt t v.i
 |0,u,l,v,h=>by cases h
 |n+1,u,l,v,h=>by
  unfold Pr.stmts at h
  split at h
  ·obtain ⟨⟨hh,a,e⟩,u1,h1,h⟩:=th_ok h
   obtain ⟨r,u2,h2,h⟩:=th_ok h
   injection h with h;injection h with hl h;subst h;subst hl
   have k1:=stmt_wt g z (fun u l v h=>stmts_wt g z n u l v h) h1
   have k2:=stmts_wt g z n _ _ _ h2
   show cs (stK hh (linesK a) (linesK e) (linesK r))+_≤_
   rw[cs_stK]
   omega
  ·injection h with h;injection h with hl h;subst h;subst hl
   show 0+_≤_
   omega
theorem fieldsK_snoc: ∀(l:List Dc) (d:Dc) (k:List K),fieldsK (l++ [d]) k=fieldsK l (declK d++mk [59]::k)
 | [],d,k=>rfl
 |x::l,d,k=>by simp only[List.cons_append,fieldsK,fieldsK_snoc l d k]
theorem cs_fields (l:List Dc) (k:List K):cs (fieldsK l k)=cs (fieldsK l [])+cs k:=by
 rw[←List.nil_append k,←fieldsK_app,cs_app,List.nil_append]
theorem cs_fields_snoc (l:List Dc) (d:Dc):cs (fieldsK (l++ [d]) [])=cs (fieldsK l [])+(cs (declK d)+2):=by
 rw[fieldsK_snoc,cs_fields,cs_app];rfl
theorem fields_wt (g:Gt t): ∀(n:Nat) (acc:List Dc) (u:St) {l:List Dc} {v:St},Pr.fields t n acc u= .ok (l,v)→cs (fieldsK l [])+2+wt t u.i≤wt t v.i+cs (fieldsK acc [])
 |0,acc,u,l,v,h=>by cases h
 |n+1,acc,u,l,v,h=>by
  unfold Pr.fields at h
  split at h
  ·rename_i hi
   injection h with h;injection h with hl h;subst h;subst hl
   rw[go_wt,size_is hi,show (⟨#[125]⟩:ByteArray).size=1 from rfl];omega
  ·obtain ⟨x,u1,h1,h⟩:=th_ok h
   obtain ⟨y,u2,h2,h⟩:=th_ok h
   have k:=fields_wt g n _ u2 h
   have k1:=pointer_wt g h1
   have k2:=must_wt h2
   rw[show (⟨#[59]⟩:ByteArray).size=1 from rfl] at k2
   rw[cs_fields_snoc] at k
   omega
theorem locals_wt (g:Gt t): ∀(n:Nat) (acc:List Dc) (u:St) {l:List Dc} {v:St},Pr.locals t n acc u= .ok (l,v)→cs (fieldsK l [])+wt t u.i≤wt t v.i+cs (fieldsK acc [])
 |0,acc,u,l,v,h=>by cases h
 |n+1,acc,u,l,v,h=>by
  unfold Pr.locals at h
  split at h
  ·obtain ⟨x,u1,h1,h⟩:=th_ok h
   have k:=locals_wt g n _ u1 h
   have k1:=decl_wt g h1
   rw[cs_fields_snoc] at k
   omega
  ·injection h with h;injection h with hl h;subst h;subst hl;omega
theorem cs_structs: ∀(l:List Sr) (k:List K),cs (structsK l k)=cs (structsK l [])+cs k:=fun l k=>by
 rw[←List.nil_append k,←structsK_app,cs_app,List.nil_append]
theorem structsK_snoc: ∀(l:List Sr) (x:Sr) (k:List K),structsK (l++ [x]) k=structsK l (structsK [x] k)
 | [],x,k=>rfl
 |y::l,x,k=>by
  show ky tStruct::nm y.name::mk [123]::fieldsK y.fields.l (mk [125]::structsK (l++ [x]) k)=_
  rw[structsK_snoc l x k];rfl
theorem cs_structs_snoc (l:List Sr) (x:Sr):cs (structsK (l++ [x]) [])=cs (structsK l [])+cs (structsK [x] []):=by
 rw[structsK_snoc,cs_structs]
theorem cs_procs_snoc: ∀(l:List Pc) (x:Pc),cs (procsK (l++ [x]))=cs (procsK l)+cs (procsK [x])
 | [],x=>by show cs (procsK [x])=0+_;omega
 |y::l,x=>by
  have:=cs_procs_snoc l x
  show cs (ky tVoid::nm y.name::mk [40]::(commaK declK y.params.l++mk [41]::mk [123]::fieldsK y.locals_.l (linesK y.body++mk [125]::procsK (l++ [x]))))=cs (ky tVoid::nm y.name::mk [40]::(commaK declK y.params.l++mk [41]::mk [123]::fieldsK y.locals_.l (linesK y.body++mk [125]::procsK l)))+_
  simp only[cs,cs_app]
  rw[cs_fields,cs_fields y.locals_.l (linesK y.body++mk [125]::procsK l)]
  simp only[cs,cs_app]
  omega
theorem struct_wt (g:Gt t) {u v:St} {x:Sr} (h:Pr.structure_ t u= .ok (x,v)):cs (structsK [x] [])+wt t u.i≤wt t v.i:=by
 obtain ⟨a,u1,h1,h⟩:=th_ok h
 obtain ⟨b,u2,h2,h⟩:=th_ok h
 obtain ⟨c,u3,h3,h⟩:=th_ok h
 obtain ⟨d,u4,h4,h⟩:=th_ok h
 injection h with h;injection h with hl h;subst h;subst hl
 have k1:=must_wt h1;have k2:=(name_wt g h2).1;have k3:=must_wt h3;have k4:=fields_wt g _ _ _ h4
 rw[show (⟨#[115,116,114,117,99,116]⟩:ByteArray).size=6 from rfl] at k1
 rw[show (⟨#[123]⟩:ByteArray).size=1 from rfl] at k3
 have k4':cs (fieldsK d [])+2+wt t u3.i≤wt t u4.i+0:=k4
 show cs (ky tStruct::nm b.text::mk [123]::fieldsK d (mk [125]:: []))+_≤_
 simp only[cs,cK_mk,cK_ky,cK_nm,tStruct,List.length_cons,List.length_nil]
 rw[cs_fields]
 simp only[cs,cK_mk,List.length_cons,List.length_nil]
 omega
theorem proc_wt (g:Gt t) (z:Gz t) {u v:St} {x:Pc} (h:Pr.proc t u= .ok (x,v)):cs (procsK [x])+wt t u.i≤wt t v.i:=by
 obtain ⟨a,u1,h1,h⟩:=th_ok h
 obtain ⟨b,u2,h2,h⟩:=th_ok h
 obtain ⟨c,u3,h3,h⟩:=th_ok h
 obtain ⟨d,u4,h4,h⟩:=th_ok h
 obtain ⟨e,u5,h5,h⟩:=th_ok h
 obtain ⟨f,u6,h6,h⟩:=th_ok h
 obtain ⟨k,u7,h7,h⟩:=th_ok h
 injection h with h;injection h with hl h;subst h;subst hl
 have k1:=must_wt h1;have k2:=(name_wt g h2).1
 have k3:=listed_wt (f:=declK) (fun _ _ _ h=>variable_wt g h) h3
 have k4:=must_wt h4;have k5:=locals_wt g _ _ _ h5;have k6:=stmts_wt g z _ _ _ _ h6;have k7:=must_wt h7
 rw[show (⟨#[118,111,105,100]⟩:ByteArray).size=4 from rfl] at k1
 rw[show (⟨#[123]⟩:ByteArray).size=1 from rfl] at k4
 rw[show (⟨#[125]⟩:ByteArray).size=1 from rfl] at k7
 have k5':cs (fieldsK e [])+wt t u4.i≤wt t u5.i+0:=k5
 show cs (ky tVoid::nm b.text::mk [40]::(commaK declK c++mk [41]::mk [123]::fieldsK e (linesK f++mk [125]:: [])))+_≤_
 simp only[cs,cs_app,cK_mk,cK_ky,cK_nm,tVoid,List.length_cons,List.length_nil]
 rw[cs_fields]
 simp only[cs,cs_app,cK_mk,List.length_cons,List.length_nil]
 omega
def cp (ss:List Sr) (gs:List Dc) (ps:List Pc):Nat:=cs (structsK ss [])+cs (fieldsK gs [])+cs (procsK ps)
theorem cs_progK (p:Pg):cs (progK p)=cp p.structs.l p.globals.l p.procs.l:=by
 unfold progK cp
 rw[cs_structs,cs_fields];omega
theorem program_wt (g:Gt t) (z:Gz t): ∀(n:Nat) (ss:List Sr) (gs:List Dc) (ps:List Pc) (u:St) {p:Pg} {v:St},Pr.program t n ss gs ps u= .ok (p,v)→cs (progK p)+wt t u.i≤wt t v.i+cp ss gs ps
 |0,ss,gs,ps,u,p,v,h=>by cases h
 |n+1,ss,gs,ps,u,p,v,h=>by
  unfold Pr.program at h
  split at h
  ·injection h with h;injection h with hl h;subst h;subst hl
   rw[cs_progK]
   show cp ss gs ps+_≤_
   omega
  ·split at h
   ·obtain ⟨x,u1,q1,h⟩:=th_ok h
    have k:=program_wt g z n _ gs ps u1 h
    have k1:=struct_wt g q1
    unfold cp at k ⊢
    rw[cs_structs_snoc] at k
    omega
   ·split at h
    ·obtain ⟨x,u1,q1,h⟩:=th_ok h
     have k:=program_wt g z n ss gs _ u1 h
     have k1:=proc_wt g z q1
     unfold cp at k ⊢
     rw[cs_procs_snoc] at k
     omega
    ·obtain ⟨x,u1,q1,h⟩:=th_ok h
     have k:=program_wt g z n ss _ ps u1 h
     have k1:=decl_wt g q1
     unfold cp at k ⊢
     rw[cs_fields_snoc] at k
     omega
end
def sz:List Tx.Sg→Nat
 | []=>0
 |a::l=>a.text.size+sz l
theorem nx_span (s:ByteArray) (i:Nat):i+(Tx.nx s i).sg.text.size≤(Tx.nx s i).stop:=by
 have h:=Tx.nx_list s i
 have h1:=Tx.skp_ge s i
 rw[h]
 show i+(s.extract (Tx.skp s i) (Tx.skp s i+(Tx.tokL (s.data.toList.drop (Tx.skp s i))).len)).size≤Tx.skp s i+(Tx.tokL (s.data.toList.drop (Tx.skp s i))).len
 rw[ByteArray.size_extract]
 omega
theorem chain_sz: ∀(l:List Tx.Sg) (s:ByteArray) (i:Nat),i≤s.size→Tx.Chain s i l→i+sz l≤s.size
 | [],s,i,hi,h=>h.elim
 |a::l,s,i,hi,h=>by
  obtain ⟨_,rfl,h1⟩:=h
  have k1:=nx_span s i
  have k2:=Tx.nx_stop_le s i hi
  simp only[sz]
  rcases h1 with ⟨_,rfl⟩|⟨_,hc⟩
  ·simp only[sz];omega
  ·have:=chain_sz l s _ k2 hc
   omega
theorem wt_le: ∀(l:List Tx.Sg) (n:Nat),wt (l.map Pr.tk) n≤8*sz l:=by
 have key: ∀(l:List Tx.Sg) (n:Nat),wt (l.map Pr.tk) n=8*sz (l.take n):=by
  intro l n
  induction n with
  |zero=>rfl
  |succ n ih=>
   simp only[wt,ih]
   by_cases hn:n<l.length
   ·rw[←List.take_append_getElem hn,Pr.sg_tk (List.getElem?_eq_getElem hn)]
    have: ∀(a b:List Tx.Sg),sz (a++b)=sz a+sz b:=by
     intro a b
     induction a with
     |nil=>simp[sz]
     |cons x a ih=>simp only[List.cons_append,sz,ih];omega
    rw[this]
    show _+8*l[n].text.size=_
    simp only[sz];omega
   ·rw[List.take_of_length_le (by omega),List.take_of_length_le (by omega)]
    have:(Pr.sg (l.map Pr.tk) n).text.size=0:=by
     unfold Pr.sg
     rw[List.getD_eq_getElem?_getD,List.getElem?_eq_none (by simp;omega)]
     rfl
    rw[this];omega
 have le: ∀(l:List Tx.Sg) (n:Nat),sz (l.take n)≤sz l:=by
  intro l
  induction l with
  |nil=>intro n;simp[sz]
  |cons a l ih=>
   intro n
   cases n with
   |zero=>simp[sz]
   |succ n=>simp only[List.take_succ_cons,sz];have:=ih n;omega
 intro l n
 rw[key]
 have:=le l n
 omega
theorem val_len {l:List UInt8} (hd: ∀b∈l,Tx.dgt (b.toNat:Int)=true) (h0:l≠ []):(Tx.digits (Tx.val l).toNat).length≤l.length:=by
 have hp:0<l.length:=List.length_pos_iff.2 h0
 have h:=fold_bound l 0 0 (by omega) (by decide) hd
 rw[Nat.zero_add] at h
 refine Tx.digits_len l.length _ ?_ hp
 have h1:0≤Tx.val l:=h.1
 have h2:Tx.val l<10 ^ l.length:=h.2
 have h3:((Tx.val l).toNat:Int)<((10 ^ l.length:Nat):Int):=by rw[Int.toNat_of_nonneg h1];push_cast;exact h2
 exact Int.ofNat_lt.1 h3
theorem tokL_z (D:List UInt8) (h:(Tx.tokL D).kind=2):(Tx.digits (Tx.tokL D).num.toNat).length≤(Tx.tokL D).len∧1≤(Tx.tokL D).len∧(Tx.tokL D).len≤D.length:=by
 cases D with
 |nil=>exact absurd h (by show¬(0:Int)=2;decide)
 |cons b l=>
  rw[Tx.tokL_cons] at h ⊢
  by_cases hl:Tx.ltr (b.toNat:Int)=true
  ·rw[if_pos hl] at h
   split at h
   ·exact absurd h (by show¬(0:Int)=2;decide)
   ·split at h
    ·exact absurd h (by show¬(3:Int)=2;decide)
    ·exact absurd h (by show¬(1:Int)=2;decide)
  ·rw[if_neg hl] at h ⊢
   by_cases hg:Tx.dgt (b.toNat:Int)=true
   ·rw[if_pos hg] at h ⊢
    split at h
    ·exact absurd h (by show¬(0:Int)=2;decide)
    ·rename_i h9
     rw[if_neg h9]
     have hr:=Tx.run_le Tx.dgt (b::l)
     have h1:1≤Tx.run Tx.dgt (b::l):=by simp only[Tx.run,hg,if_true];omega
     have hlen:((b::l).take (Tx.run Tx.dgt (b::l))).length=Tx.run Tx.dgt (b::l):=by rw[List.length_take];exact Nat.min_eq_left hr
     have hv:=val_len (l:=(b::l).take (Tx.run Tx.dgt (b::l))) (run_take Tx.dgt (b::l)) (by intro e;rw[e] at hlen;simp at hlen;omega)
     rw[hlen] at hv
     exact ⟨hv,h1,hr⟩
   ·rw[if_neg hg] at h
    split at h
    ·exact absurd h (by show¬(0:Int)=2;decide)
    ·exact absurd h (by show¬(4:Int)=2;decide)
theorem nx_z (s:ByteArray) (i:Nat) (h:(Tx.nx s i).sg.kind=2):(Tx.digits (Tx.nx s i).sg.num.toNat).length≤(Tx.nx s i).sg.text.size∧1≤(Tx.nx s i).sg.text.size:=by
 have e:=Tx.nx_list s i
 rw[e] at h ⊢
 have:=tokL_z _ h
 have hl:(s.data.toList.drop (Tx.skp s i)).length=s.size-Tx.skp s i:=by rw[List.length_drop,Tx.len_eq]
 have hs:(s.extract (Tx.skp s i) (Tx.skp s i+(Tx.tokL (s.data.toList.drop (Tx.skp s i))).len)).size=(Tx.tokL (s.data.toList.drop (Tx.skp s i))).len:=by rw[ByteArray.size_extract];omega
 show (Tx.digits (Tx.tokL (s.data.toList.drop (Tx.skp s i))).num.toNat).length≤(s.extract (Tx.skp s i) (Tx.skp s i+(Tx.tokL (s.data.toList.drop (Tx.skp s i))).len)).size∧1≤(s.extract (Tx.skp s i) (Tx.skp s i+(Tx.tokL (s.data.toList.drop (Tx.skp s i))).len)).size
 rw[hs];exact ⟨this.1,this.2.1⟩
theorem chain_z: ∀(l:List Tx.Sg) (s:ByteArray) (i:Nat),Tx.Chain s i l→∀a∈l,a.kind=2→(Tx.digits a.num.toNat).length≤a.text.size∧1≤a.text.size
 | [],s,i,h=>h.elim
 |b::l,s,i,h=>by
  obtain ⟨_,rfl,h1⟩:=h
  intro a ha
  rcases List.mem_cons.1 ha with rfl |ha
  ·exact nx_z s i
  ·rcases h1 with ⟨_,rfl⟩|⟨_,hc⟩
   ·simp at ha
   ·exact chain_z l s _ hc a ha
theorem alls_z (s:ByteArray) (h:(Tx.alls s).2.2=0):Gz ((Tx.alls s).1.map Pr.tk):=by
 intro i
 unfold Pr.sg
 rw[List.getD_eq_getElem?_getD]
 cases hx:((Tx.alls s).1.map Pr.tk)[i]? with
 |none=>exact fun h=>absurd h (by show¬(0:Int)=2;decide)
 |some y=>
  obtain ⟨a,ha,rfl⟩:=List.mem_map.1 (List.mem_of_getElem? hx)
  exact chain_z _ s 0 (Tx.alls_chain s h) a ha
end E8
end Pn
theorem RdOk.cs8 {s:ByteArray} {P:Pg} (h:RdOk s P):Pn.cs (Pn.progK P)≤8*s.size:=by
 obtain ⟨h0,u,h⟩:=h
 have k:=Pn.E8.program_wt (Pn.alls_gt s h0) (Pn.E8.alls_z s h0) _ _ _ _ _ h
 have k1:=Pn.E8.wt_le (Tx.alls s).1 u.i
 have k2:=Pn.E8.chain_sz _ s 0 (Nat.zero_le _) (Tx.alls_chain s h0)
 have k':Pn.cs (Pn.progK P)+0≤Pn.E8.wt ((Tx.alls s).1.map Pr.tk) u.i+0:=k
 omega
end Go.Proofs.YtcehbcnloiooaaaGreatDoor
namespace Go.Proofs.YtcehbcnloiooaaaGreatDoor
open Go.RowKit Go.Sort
structure Rdy (y:Pg) (w:World):Prop where
 gp:Gp w
 lies:pgLies w y
 ok:Pn.right y=true
 tight:Pn.tightP 8010 y
 cs:Pn.cs (Pn.progK y)≤65000
theorem Rdy.below {y:Pg} {w w':World} (h:Rdy y w) (hb:Below w.heap.size w w'):Rdy y w':=⟨h.gp.go hb,pgLies_below h.lies hb,h.ok,h.tight,h.cs⟩
theorem Rdy.of {s:ByteArray} {y:Pg} {w:World} (hG:Gp w) (hl:pgLies w y) (h:RdOk s y.er) (hs:s.size≤8000):Rdy y w:=by
 have h1:Pn.right y=true:=by rw[←Pn.right_er];exact h.right
 exact ⟨hG,hl,h1,tightP_of_er (h.tight (by omega)),progK_er y h1 65000 (by have:=h.cs8;omega)⟩
theorem check_of {y:Pg} {w:World} (h:Rdy y w):Calls Tryz.prog 9 #[.agg (Sc.pgA y)] w (Sc.PPost (Sc.checkE y) w):=
 Sc.check_any y w (all_ok h.lies h.ok h.tight).1 fun w' hb=>rightX_any y w' (h.gp.go hb) (pgLies_below h.lies hb) h.ok h.tight h.cs
def exT:ByteArray:=⟨#[105,110,116,32,105,59,32,118,111,105,100,32,109,97,105,110,40,41,32,123,32,105,32,61,32,110,117,108,108,59,32,125]⟩
def nI:ByteArray:=⟨#[105]⟩
def exBody:SL→Bool
 |.cons h _ _ t _ _ e r=>decide (h.kind=1) && decide (h.place.name=nI) && decide (h.place.hops.l= []) && decide (h.value.kind=0) && decide (h.value.pos=25) && Pn.isNil t && Pn.isNil e && Pn.isNil r
 |.nil=>false
def exShape (ss:List Sr) (gs:List Dc) (ps:List Pc):Bool:=
 match ss,gs,ps with
 | [],[d],[q]=>decide (d.type=⟨#[]⟩) && decide (d.name=nI) && decide (q.name=Sc.mainN) && decide (q.params.l= []) && decide (q.locals_.l= []) && exBody q.body
 |_,_,_=>false
def exRead:Bool:=match Pa.rprog (Tx.alls exT).1 ((Tx.alls exT).1.length+1) ((Tx.alls exT).1.length+1) [] [] [] ⟨0,0,0⟩ with
 |.ok (p,_)=>exShape p.structs.l p.globals.l p.procs.l
 |.error _=>false
theorem exRead_yes:exRead=true:=by kernel_rfl
theorem exAlls_ok:(Tx.alls exT).2.2=0:=by kernel_rfl
theorem body_pl: ∀l:SL,exBody l.pl=true→∃(h:Hd) (tp:Option Addr) (tc:Nat) (ep:Option Addr) (ec:Nat),l= .cons h tp tc .nil ep ec .nil .nil∧h.kind=1∧h.place.name=nI∧h.place.hops.l= []∧h.value.kind=0∧h.value.pos=25
 |.nil,h=>by cases h
 |.cons h tp tc t ep ec e r,hb=>by
  have nn: ∀l:SL,Pn.isNil l.pl=true→l= .nil:=fun l hl=>by cases l with
   |nil=>rfl
   |cons=>cases hl
  simp only[SL.pl,exBody,Bool.and_eq_true,decide_eq_true_eq] at hb
  obtain ⟨⟨⟨⟨⟨⟨⟨b1,b2⟩,b3⟩,b4⟩,b5⟩,b6⟩,b7⟩,b8⟩:=hb
  rw[nn t b6,nn e b7,nn r b8]
  exact ⟨h,tp,tc,ep,ec,rfl,b1,b2,b3,b4,b5⟩
theorem shape_pl {y:Pg} (h:exShape (y.structs.l.map qSr.er) (y.globals.l.map qDc.er) (y.procs.l.map qPc.er)=true):
  y.structs.l= []∧(∃d:Dc,y.globals.l= [d]∧d.type=⟨#[]⟩∧d.name=nI)∧∃q:Pc,y.procs.l= [q]∧q.name=Sc.mainN∧q.params.l= []∧q.locals_.l= []∧exBody q.body.pl=true:=by
 cases h1:y.structs.l with
 |cons a l=>rw[h1] at h;cases h
 |nil=>
  cases h2:y.globals.l with
  |nil=>rw[h1,h2] at h;cases h
  |cons d l2=>
   cases l2 with
   |cons a l=>rw[h1,h2] at h;cases h
   |nil=>
    cases h3:y.procs.l with
    |nil=>rw[h1,h2,h3] at h;cases h
    |cons q l3=>
     cases l3 with
     |cons a l=>rw[h1,h2,h3] at h;cases h
     |nil=>
      rw[h1,h2,h3] at h
      change (decide (d.type=⟨#[]⟩) && decide (d.name=nI) && decide (q.name=Sc.mainN) && decide (q.params.l= []) && decide (q.locals_.l= []) && exBody q.body.pl)=true at h
      simp only[Bool.and_eq_true,decide_eq_true_eq] at h
      obtain ⟨⟨⟨⟨⟨a1,a2⟩,a3⟩,a4⟩,a5⟩,a6⟩:=h
      exact ⟨rfl,⟨d,rfl,a1,a2⟩,q,rfl,a3,a4,a5,a6⟩
theorem checkE_ex {y:Pg} (h:exShape (y.structs.l.map qSr.er) (y.globals.l.map qDc.er) (y.procs.l.map qPc.er)=true):Sc.checkE y=(25,9):=by
 obtain ⟨h1,⟨d,h2,d1,d2⟩,q,h3,q1,q2,q3,q4⟩:=shape_pl h
 obtain ⟨hd,tp,tc,ep,ec,hb,k1,k2,k3,k4,k5⟩:=body_pl _ q4
 have hn:Sc.sNames y.structs.l= []:=by rw[h1];rfl
 have hty:Sc.tyOk [] d.type=true:=by rw[d1];unfold Sc.tyOk;rw[ByteArray.toList_eq];rfl
 have hkd:Sc.kindOf [] d.type= -1:=by rw[d1];unfold Sc.kindOf;rw[ByteArray.toList_eq];rfl
 have hfr:Sc.frameOf q= []:=by unfold Sc.frameOf;rw[q2,q3];rfl
 have hB:Sc.buildGo y=(0,0):=by
  unfold Sc.buildGo
  rw[hn,h1,h2,h3]
  simp only[Sc.structsGo,Sc.pairsFrom,Sc.fieldsGo,if_true,Sc.declsGo,Sc.procsGo,hfr,hty]
  rfl
 have hp:Sc.pNames y.procs.l= [Sc.mainN]:=by rw[h3];show [q.name]=_;rw[q1]
 have hin:Sc.isIn (Sc.pNames y.procs.l) Sc.mainN=true:=by rw[hp];rfl
 have hnum:Sc.numOf (Sc.pNames y.procs.l) Sc.mainN=0:=by rw[hp];rfl
 have hpar:Sc.paramsOf y Sc.mainN= []:=by unfold Sc.paramsOf;rw[hnum,h3];exact q2
 have hdq:Sc.dNames y.globals.l= [nI]:=by rw[h2];show [d.name]=_;rw[d2]
 have hg:(Sc.globOf y nI).1= -1:=by
  unfold Sc.globOf Sc.varsP
  rw[hdq,hn,h2]
  simp only[Sc.varsGo,hkd]
  rfl
 have hv:Sc.varOf y q nI=some (-1):=by
  unfold Sc.varOf
  rw[hfr,hdq,hg]
  rfl
 have hpt:Sc.pathGo y q hd.place=(-1,0,0):=by unfold Sc.pathGo;rw[k2,hv,k3];rfl
 unfold Sc.checkE
 rw[hB,hin,hpar,h3]
 simp only[Sc.procsE,hb,Sc.listE,Sc.stmtE,k1,hpt,Sc.fitE,k4,k5]
 rfl
end Go.Proofs.YtcehbcnloiooaaaGreatDoor
namespace Go.Proofs.YtcehbcnloiooaaaGreatDoor
namespace Sc
open Go.RowKit
theorem cnt_go: ∀(l:SL) (d n:Int),0≤n→wtGo l d n<2000→Pn.cnt l-l.len+n≤wtGo l d n
 |.nil,d,n,_,_=>by show (0:Int)-((0:Nat):Int)+n≤n;omega
 |.cons h tp tc t ep ec e r,d,n,hn,hlt=>by
  rw[wtGo_cons] at hlt ⊢
  by_cases h2:n<2000
  ·rw[if_pos h2] at hlt ⊢
   have ht:=(wtGo_ge t (d+1) 0).2 (Int.le_refl _)
   have he:=(wtGo_ge e (d+1) 0).2 (Int.le_refl _)
   have hh:=hw_nonneg h
   have hr:=(wtGo_ge r d (n+hw h+wt t (d+1)+wt e (d+1))).1
   have hi:=cnt_go r d _ (by omega) hlt
   have ct:Pn.cnt t≤wt t (d+1):=by
    have h1:wt t (d+1)<2000:=by omega
    unfold wt at h1 ⊢
    by_cases h4:40<d+1
    ·rw[if_pos h4] at h1;omega
    ·rw[if_neg h4] at h1 ⊢
     have:=cnt_go t (d+1) t.len (by omega) (by omega)
     omega
   have ce:Pn.cnt e≤wt e (d+1):=by
    have h1:wt e (d+1)<2000:=by omega
    unfold wt at h1 ⊢
    by_cases h4:40<d+1
    ·rw[if_pos h4] at h1;omega
    ·rw[if_neg h4] at h1 ⊢
     have:=cnt_go e (d+1) e.len (by omega) (by omega)
     omega
   have hl:(SL.len (.cons h tp tc t ep ec e r):Int)=r.len+1:=by simp[SL.len]
   rw[hl]
   unfold Pn.cnt
   omega
  ·rw[if_neg h2] at hlt;exact absurd hlt h2
theorem cnt_wt (l:SL) (h:wt l 0<2000):Pn.cnt l≤wt l 0:=by
 unfold wt at h ⊢
 rw[if_neg (by decide)] at h ⊢
 have:=cnt_go l 0 l.len (by omega) (by omega)
 omega
theorem kind_ok {h:Hd} {a b:Bool} (ho:Pn.okStmt h a b=true) (h4:4≤h.kind):blk h=true:=by
 unfold Pn.okStmt at ho
 rw[if_neg (by omega),if_neg (by omega),if_neg (by omega),if_neg (by omega)] at ho
 unfold blk
 by_cases k4:h.kind=4
 ·rw[k4];rfl
 rw[if_neg k4] at ho
 by_cases k5:h.kind=5
 ·rw[k5];rfl
 rw[if_neg k5] at ho
 by_cases k6:h.kind=6
 ·rw[k6];rfl
 rw[if_neg k6] at ho
 cases ho
theorem dp_go: ∀(l:SL) (n:Int),Pn.okList l=true→Pn.dp l≤max 0 (dpG l n)
 |.nil,n,_=>by show (0:Int)≤_;omega
 |.cons h tp tc t ep ec e r,n,ho=>by
  unfold Pn.okList at ho
  simp only[Bool.and_eq_true] at ho
  obtain ⟨⟨⟨h1,h2⟩,h3⟩,h4⟩:=ho
  unfold Pn.dp dpG
  have hr:=dp_go r (if blk h=true then max (max n (1+dpG t 0)) (1+dpG e 0) else n) h4
  have ht:=dp_go t 0 h2
  have he:=dp_go e 0 h3
  have gt:=(dpG_le t 0).1
  have ge:=(dpG_le e 0).1
  by_cases h5:4≤h.kind
  ·have hb:=kind_ok h1 h5
   rw[if_pos h5]
   rw[if_pos hb] at hr ⊢
   have gr:=(dpG_le r (max (max n (1+dpG t 0)) (1+dpG e 0))).1
   omega
  ·rw[if_neg h5];omega
theorem dp_dpG (l:SL) (h:Pn.okList l=true):Pn.dp l≤dpG l 0:=by
 have:=dp_go l 0 h;have:=(dpG_le l 0).1;omega
def zHd (k:Int):Hd:= {Pr.noHd with kind:=k}
def wrapB (a a2 a3 a4:Option Addr) (c1 c2 c3 c4:Nat) (l:SL):SL:= .cons (zHd 0) a c1 .nil a2 c2 .nil (.cons (zHd 6) a3 c3 l a4 c4 .nil .nil)
theorem wrapB_cnt (a a2 a3 a4:Option Addr) (c1 c2 c3 c4:Nat) (l:SL):Pn.cnt (wrapB a a2 a3 a4 c1 c2 c3 c4 l)=Pn.cnt l+2:=by
 unfold wrapB;simp only[Pn.cnt];omega
theorem wrapB_dp (a a2 a3 a4:Option Addr) (c1 c2 c3 c4:Nat) (l:SL):Pn.dp (wrapB a a2 a3 a4 c1 c2 c3 c4 l)=Pn.dp l+1:=by
 have:=Pn.dp_nn l
 have e0: ¬(4:Int)≤(zHd 0).kind:=by decide
 have e6:(4:Int)≤(zHd 6).kind:=by decide
 unfold wrapB;simp only[Pn.dp]
 rw[if_neg e0,if_pos e6];omega
theorem wrapB_ok (a a2 a3 a4:Option Addr) (c1 c2 c3 c4:Nat) (l:SL) (h:Pn.okList l=true):Pn.okList (wrapB a a2 a3 a4 c1 c2 c3 c4 l)=true:=by
 have s0:Pn.okStmt (zHd 0) true true=true:=by decide+kernel
 have s6: ∀b,Pn.okStmt (zHd 6) b true=true:=fun b=>by cases b<;>decide+kernel
 unfold wrapB
 simp only[Pn.okList,Pn.isNil,s0,s6,h,Bool.and_self]
theorem wrapB_tight (M:Nat) (a a2 a3 a4:Option Addr) (c1 c2 c3 c4:Nat) (l:SL) (h:Pn.tight M l):Pn.tight M (wrapB a a2 a3 a4 c1 c2 c3 c4 l):=by
 unfold wrapB
 exact ⟨Nat.zero_le _,trivial,trivial,Nat.zero_le _,h,trivial,trivial⟩
theorem wrapB_cs (a a2 a3 a4:Option Addr) (c1 c2 c3 c4:Nat) (l:SL):Pn.cs (Pn.linesK (wrapB a a2 a3 a4 c1 c2 c3 c4 l))=Pn.cs (Pn.linesK l)+6:=by
 have e0: ∀t e k:List Pn.K,Pn.stK (zHd 0) t e k=Pn.mk [59]::k:=fun _ _ _=>rfl
 have e6: ∀t e k:List Pn.K,Pn.stK (zHd 6) t e k=Pn.mk [123]::(t++Pn.mk [125]::k):=fun _ _ _=>rfl
 unfold wrapB
 simp only[Pn.linesK,e0,e6,Pn.cs,Pn.cs_app,Pn.cK_mk,List.length_cons,List.length_nil]
 omega
end Sc
end Go.Proofs.YtcehbcnloiooaaaGreatDoor
namespace Go.Proofs.YtcehbcnloiooaaaGreatDoor
namespace Sc
open Go.RowKit
structure WrapZ (q p:Pc):Prop where
 name:p.name=q.name
 params:p.params=q.params
 locs:p.locals_=q.locals_
 body: ∃a a2 a3 a4 c1 c2 c3 c4,p.body=wrapB a a2 a3 a4 c1 c2 c3 c4 q.body
def WrapZL:List Pc→List Pc→Prop
 | [],[]=>True
 |q::l,p::m=>WrapZ q p∧WrapZL l m
 |_,_=>False
theorem WrapZ.wrap {q p:Pc} (h:WrapZ q p):Wrap q p:=by
 obtain ⟨a,a2,a3,a4,c1,c2,c3,c4,hb⟩:=h.body
 exact ⟨h.name,by rw[h.params],by rw[h.locs],_,_,_,_,_,_,_,_,_,_,hb,rfl,rfl⟩
theorem wrapZL_wrap: ∀ {l k:List Pc},WrapZL l k→WrapL l k
 | [],[],_=>trivial
 |_::_,_::_,h=>⟨h.1.wrap,wrapZL_wrap h.2⟩
 | [],_::_,h=>h.elim
 |_::_,[],h=>h.elim
theorem wrapZL_len: ∀ {l k:List Pc},WrapZL l k→k.length=l.length
 | [],[],_=>rfl
 |_::_,_::_,h=>by simp only[List.length_cons,wrapZL_len h.2]
 | [],_::_,h=>h.elim
 |_::_,[],h=>h.elim
def moN:ByteArray:=⟨#[109,111,114,101]⟩
def mnN:ByteArray:=⟨#[110]⟩
def moPc (a:Option Addr) (c:Nat):Pc:=⟨moN,0,0,⟨a,c,[⟨ByteArray.empty,mnN,0⟩]⟩,⟨none,0,[]⟩,none,0,.nil⟩
theorem mo_ok (a:Option Addr) (c:Nat):Pn.okProc (moPc a c)=true:=by
 have h1:Pn.okN moN=true:=by decide+kernel
 have h2:Pn.okDecl ⟨ByteArray.empty,mnN,0⟩=true:=by decide+kernel
 unfold Pn.okProc moPc
 simp only[h1,h2,Pn.okList,List.all_cons,List.all_nil,Bool.and_self]
def wtP:List Pc→Int
 | []=>0
 |x::l=>wt x.body 0+2+wtP l
theorem wtP_nn: ∀l:List Pc,0≤wtP l
 | []=>Int.le_refl _
 |x::l=>by
  have:=(wtGo_ge x.body 0 0).2 (Int.le_refl _)
  have:=wtP_nn l
  unfold wtP;omega
theorem wtP_snoc: ∀(l:List Pc) (q:Pc),wtP (l++ [q])=wtP l+(wt q.body 0+2)
 | [],q=>by simp[wtP]
 |x::l,q=>by rw[List.cons_append];unfold wtP;rw[wtP_snoc l q];omega
theorem cntP_wt {mo:Pc} (hm:mo.body= .nil): ∀ {l k:List Pc},WrapZL l k→wtP l≤400→Pn.cntP (k++ [mo])≤wtP l
 | [],[],_,_=>by show Pn.cnt mo.body+0≤0;rw[hm];decide
 |q::l,p::k,h,hw=>by
  obtain ⟨a,a2,a3,a4,c1,c2,c3,c4,hb⟩:=h.1.body
  unfold wtP at hw
  have h1:=wtP_nn l
  have h2:=(wtGo_ge q.body 0 0).2 (Int.le_refl _)
  have h3:=cnt_wt q.body (by omega)
  have h4:=cntP_wt hm h.2 (by omega)
  rw[List.cons_append]
  unfold Pn.cntP wtP
  rw[hb,wrapB_cnt]
  omega
 | [],_::_,h,_=>h.elim
 |_::_,[],h,_=>h.elim
theorem more_procs {mo:Pc} (hok:Pn.okProc mo=true): ∀ {l k:List Pc},WrapZL l k→l.all Pn.okProc=true→(k++ [mo]).all Pn.okProc=true
 | [],[],_,_=>by simp[hok]
 |q::l,p::k,h,ha=>by
  obtain ⟨a,a2,a3,a4,c1,c2,c3,c4,hb⟩:=h.1.body
  simp only[List.all_cons,Bool.and_eq_true] at ha
  have h1:=more_procs hok h.2 ha.2
  have h2:Pn.okProc p=true:=by
   have h0:=ha.1
   unfold Pn.okProc at h0 ⊢
   simp only[Bool.and_eq_true] at h0 ⊢
   rw[h.1.name,h.1.params,h.1.locs,hb]
   exact ⟨⟨⟨h0.1.1.1,h0.1.1.2⟩,h0.1.2⟩,wrapB_ok _ _ _ _ _ _ _ _ _ h0.2⟩
  rw[List.cons_append,List.all_cons,h2,h1];rfl
 | [],_::_,h,_=>h.elim
 |_::_,[],h,_=>h.elim
theorem more_dp {mo:Pc} (hm:mo.body= .nil): ∀ {l k:List Pc},WrapZL l k→l.all Pn.okProc=true→(∀x∈l,dpG x.body 0<20)→(k++ [mo]).all (fun q=>decide (Pn.dp q.body≤20))=true
 | [],[],_,_,_=>by simp[hm,Pn.dp]
 |q::l,p::k,h,ha,hd=>by
  obtain ⟨a,a2,a3,a4,c1,c2,c3,c4,hb⟩:=h.1.body
  simp only[List.all_cons,Bool.and_eq_true] at ha
  have h0:=ha.1
  unfold Pn.okProc at h0
  simp only[Bool.and_eq_true] at h0
  have h1:=more_dp hm h.2 ha.2 (fun x hx=>hd x (List.mem_cons_of_mem _ hx))
  have h2:=dp_dpG q.body h0.2
  have h3:=hd q List.mem_cons_self
  rw[List.cons_append,List.all_cons,h1,hb,wrapB_dp]
  simp only[Bool.and_true,decide_eq_true_eq];omega
 | [],_::_,h,_,_=>h.elim
 |_::_,[],h,_,_=>h.elim
theorem more_right {x y:Pg} {k:List Pc} {mo:Pc} (h:Like x y) (hp:y.procs.l=k++ [mo]) (hw:WrapZL x.procs.l k) (hb:mo.body= .nil) (hok:Pn.okProc mo=true) (hr:Pn.right x=true) (hd: ∀q∈x.procs.l,dpG q.body 0<20) (hn:wtP x.procs.l≤400):Pn.right y=true:=by
 simp only[Pn.right,Bool.and_eq_true,decide_eq_true_eq] at hr ⊢
 obtain ⟨⟨h1,_⟩,_⟩:=hr
 simp only[Pn.okProg,Bool.and_eq_true] at h1 ⊢
 rw[h.s,h.g,hp]
 refine ⟨⟨⟨h1.1,more_procs hok hw h1.2⟩,more_dp hb hw h1.2 hd⟩, ?_⟩
 have:=cntP_wt hb hw hn;omega
theorem more_tight {x y:Pg} {k:List Pc} {mo:Pc} (h:Like x y) (hp:y.procs.l=k++ [mo]) (hw:WrapZL x.procs.l k) (hb:mo.body= .nil) (hm1:mo.params.l.length≤8010) (hm2:mo.locals_.l.length≤8010) (hl:x.procs.l.length<16) (ht:Pn.tightP 8010 x):Pn.tightP 8010 y:=by
 obtain ⟨t1,t2,_,t3⟩:=ht
 have hall: ∀ {l k:List Pc},WrapZL l k→(∀x∈l,x.params.l.length≤8010∧x.locals_.l.length≤8010∧Pn.tight 8010 x.body)→∀x∈k,x.params.l.length≤8010∧x.locals_.l.length≤8010∧Pn.tight 8010 x.body:=by
  intro l
  induction l with
  |nil=>intro k hk _ x hx;cases k with
   |nil=>cases hx
   |cons=>exact hk.elim
  |cons q l ih=>
   intro k hk hq x hx
   cases k with
   |nil=>exact hk.elim
   |cons p k=>
    rcases List.mem_cons.1 hx with e |e
    ·subst e
     obtain ⟨a,a2,a3,a4,c1,c2,c3,c4,hb⟩:=hk.1.body
     have h0:=hq q List.mem_cons_self
     rw[hk.1.params,hk.1.locs,hb]
     exact ⟨h0.1,h0.2.1,wrapB_tight _ _ _ _ _ _ _ _ _ _ h0.2.2⟩
    ·exact ih hk.2 (fun z hz=>hq z (List.mem_cons_of_mem _ hz)) x e
 refine ⟨by rw[h.s];exact t1,by rw[h.g];exact t2,by rw[hp,List.length_append,wrapZL_len hw];simp;omega,fun z hz=> ?_⟩
 rw[hp] at hz
 rcases List.mem_append.1 hz with e |e
 ·exact hall hw t3 z e
 ·rw[List.mem_singleton] at e
  subst e
  exact ⟨hm1,hm2,by rw[hb];trivial⟩
theorem cs_fields (l:List Dc) (k:List Pn.K):Pn.cs (Pn.fieldsK l k)=Pn.cs (Pn.fieldsK l [])+Pn.cs k:=by
 rw[←Pn.cs_app,Pn.fieldsK_app];rfl
theorem cs_structs (l:List Sr) (k:List Pn.K):Pn.cs (Pn.structsK l k)=Pn.cs (Pn.structsK l [])+Pn.cs k:=by
 rw[←Pn.cs_app,Pn.structsK_app];rfl
theorem cs_procs {mo:Pc}: ∀ {l k:List Pc},WrapZL l k→Pn.cs (Pn.procsK (k++ [mo]))=Pn.cs (Pn.procsK l)+6*l.length+Pn.cs (Pn.procsK [mo])
 | [],[],_=>by simp[Pn.procsK,Pn.cs]
 |q::l,p::k,h=>by
  obtain ⟨a,a2,a3,a4,c1,c2,c3,c4,hb⟩:=h.1.body
  have h1:=cs_procs (mo:=mo) h.2
  rw[List.cons_append]
  generalize hz:Pn.cs (Pn.procsK [mo])=z at h1 ⊢
  unfold Pn.procsK
  rw[h.1.name,h.1.params,h.1.locs,hb]
  simp only[Pn.cs_cons,Pn.cs_app,cs_fields _ (_++_),wrapB_cs,h1,List.length_cons]
  omega
 | [],_::_,h=>h.elim
 |_::_,[],h=>h.elim
theorem more_cs {x y:Pg} {k:List Pc} {mo:Pc} (h:Like x y) (hp:y.procs.l=k++ [mo]) (hw:WrapZL x.procs.l k) (hl:x.procs.l.length<16) (hm:Pn.cs (Pn.procsK [mo])≤100) (hc:Pn.cs (Pn.progK x)≤64000):Pn.cs (Pn.progK y)≤65000:=by
 unfold Pn.progK at hc ⊢
 rw[cs_structs,cs_fields] at hc ⊢
 rw[h.s,h.g,hp,cs_procs hw]
 omega
theorem mo_cs (a:Option Addr) (c:Nat):Pn.cs (Pn.procsK [moPc a c])≤100:=by
 have:Pn.cs (Pn.procsK [moPc a c])=Pn.cs (Pn.procsK [moPc none 0]):=rfl
 rw[this];decide+kernel
theorem mo_frame (sn:List ByteArray) (a:Option Addr) (c:Nat):(declsGo sn [] (frameOf (moPc a c))).2=0:=by
 have hf:frameOf (moPc a c)= [⟨ByteArray.empty,mnN,0⟩]:=rfl
 have ht:tyOk sn ByteArray.empty=true:=by unfold tyOk;rw[ByteArray.toList_eq];rfl
 rw[hf]
 simp only[declsGo,ht]
 rfl
end Sc
end Go.Proofs.YtcehbcnloiooaaaGreatDoor
namespace Go.Proofs.YtcehbcnloiooaaaGreatDoor
open Go.RowKit Go.Sort
theorem refP_ex (w:World):Calls Tryz.prog 11 #[.string exT] w fun en w'=> ∃(y:Pg) (at_:Int),en= .returned (.tuple #[.agg (Pg.cells y).toArray,.int .i64 at_,.int .i64 0])∧Below w.heap.size w w'∧RdOk exT y.er∧pgLies w' y∧Sc.checkE y=(25,9):=by
 refine (refProg_any exT w (by decide)).mono fun en w' h=> ?_
 obtain ⟨p,at_,e,he,hb,h⟩:=h
 have hy:=exRead_yes
 unfold exRead at hy
 rcases h with ⟨e0,a0,⟨u,hr⟩,hl⟩|⟨e0,h⟩
 ·obtain ⟨C,_,_⟩:=rc_alls exT a0
  have h1:=Pa.rprog_pr C hr
  rw[pg_pl] at h1
  rw[hr] at hy
  subst e0
  exact ⟨p,at_,he,hb,⟨a0,u,h1⟩,pgLies_ext (Ext.mask _ _) hl,checkE_ex hy⟩
 ·rcases h with h |⟨n,h⟩
  ·exact absurd exAlls_ok h
  ·rw[h] at hy;cases hy
theorem pgA_cells (y:Pg):(Pg.cells y).toArray=Sc.pgA y:=rfl
theorem lives9_any (w:World) (hG:Gp w):Calls Tryz.prog 8 #[] w fun e w'=>e= .returned (.bool true)∧Below w.heap.size w w':=by
 have HG:=hdn hG
 have HR:=hdn (refP_ex w)
 clear hG
 unfold exT at HR
 go_enter Tryz.func8,Tryz.ntmps8
 go_wp2_with fail
 refine HR.out.mono ?_
 rintro en w2 ⟨y,at_,rfl,hb,hok,hl,hce⟩
 obtain ⟨c1,hc1⟩: ∃c1,c1=(Pg.cells y).toArray:=⟨_,rfl⟩
 have HSI:Hid ((Tryz.prog.info? 26).map (·.size)=some c1.size):=hdn (by rw[hc1];exact size26)
 have HZ:Hid (3=c1.size):=hdn (by rw[hc1];rfl)
 have HON:Hid (c1.all (·.oneCell')=true):=hdn (by rw[hc1];simp[Pg.cells,Value.oneCell'])
 have HBA:Hid (Below w2.heap.size w2 (w2.alloc (.cells c1 26))):=hdn ((Below.refl _ _).alloc (Nat.le_refl _) _)
 have HB2:Hid (Below w.heap.size w (w2.alloc (.cells c1 26))):=hdn (hb.trans (HBA.out.mono hb.size))
 have HKA:Hid (Bk (w2.alloc (.cells c1 26)) w2.heap.size 26 c1):=hdn (heap_alloc_new _ _)
 have hz:exT.size≤8000:=by decide
 have HRD:Hid (Rdy y (w2.alloc (.cells c1 26))):=hdn ((Rdy.of (HG.out.go hb) hl hok hz).below HBA.out)
 have HC:Hid (Calls Tryz.prog 9 #[.agg c1] (w2.alloc (.cells c1 26)) fun en w'=>en= .returned (.tuple #[.int .i64 25,.int .i64 9])∧Below (w2.alloc (.cells c1 26)).heap.size (w2.alloc (.cells c1 26)) w'):=hdn (by
  have e1:c1=Sc.pgA y:=hc1.trans (pgA_cells y)
  refine (show Calls Tryz.prog 9 #[.agg c1] (w2.alloc (.cells c1 26)) _ from e1▸check_of (e1▸HRD.out)).mono fun en w' h=> ?_
  obtain ⟨h1,h2⟩:=h
  rw[hce] at h1
  exact ⟨h1,h2⟩)
 rw[←hc1]
 clear hb hok hl hce hc1 hz HR
 go_wp2_with (first |((with_reducible show wpList _ _ _ (Oper.mk none (Op.store 26 _ _) _ _ _ _::_) _ _);refine wpList_store_new rfl 26 (.tmp 1) (.tmp 8) rfl _ c1 rfl rfl HSI.out HZ.out HON.out ?_)|((with_reducible show wpList _ _ _ (Oper.mk (some 12) _ _ _ _ _::_) _ _);refine wpList_load_bk rfl 26 (.tmp 1) rfl w2.heap.size 26 c1 rfl _ HKA.out Tryz.underlying26 rfl HSI.out ?_)|(go_at_call 9;refine HC.out.mono ?_;rintro en w3 ⟨rfl,hb3⟩;have HB3:=hdn hb3;clear hb3))
 go_ret
 exact ⟨rfl,HB2.out.trans (HB3.out.mono HB2.out.size)⟩
end Go.Proofs.YtcehbcnloiooaaaGreatDoor
namespace Go.Proofs.YtcehbcnloiooaaaGreatDoor
open Go.RowKit Go.Sort
end Go.Proofs.YtcehbcnloiooaaaGreatDoor
namespace Go.Proofs.YtcehbcnloiooaaaGreatDoor
namespace Mo
open Go.RowKit Go.Sort
open Sc (wrapB zHd moPc mnN WrapZ WrapZL)
def moR (w:World) (x:Pc):Prop:=
 (∃(l:SL) (b c:Nat) (p3:Option Addr) (c3:Nat),x.bp=some ⟨b,0,none⟩∧x.bc=c∧x.body=wrapB none none p3 none 0 0 c3 0 l∧w.rangeAt b 0 (scells (zHd 0) none 0 0 none 0 0)∧w.rangeAt b 48 (scells (zHd 6) p3 l.len c3 none 0 0))∨
 (∃b:Nat,x=moPc (some ⟨b,0,none⟩) 1∧w.rangeAt b 0 (Dc.cells ⟨ByteArray.empty,mnN,0⟩))
theorem moR_ext {w w':World} (x:Pc) (h:Ext w w') (k:moR w x):moR w' x:=by
 rcases k with ⟨l,b,c,p3,c3,k1,k2,k3,k4,k5⟩|⟨b,k1,k2⟩
 ·exact .inl ⟨l,b,c,p3,c3,k1,k2,k3,rangeAt_ext h k4,rangeAt_ext h k5⟩
 ·exact .inr ⟨b,k1,rangeAt_ext h k2⟩
def kMo:Kd Pc:=⟨37,6,104,Pc.cells,id,moR,fun _=>rfl,fun _=>by simp[Value.oneCell'],fun x h k=>moR_ext x h k⟩
theorem fresh_all (B:Nat) (w:World):Ext (fresh B w) w:=fun b o v h=>by
 unfold fresh at h
 rw[mask_cell] at h
 split at h
 ·cases h
 ·exact h
theorem zHd_lies (w:World) (k:Int):hdLies w (zHd k):=by
 exact ⟨⟨Nat.zero_le _,.inl rfl⟩,⟨Nat.zero_le _,.inl rfl⟩,⟨Nat.zero_le _,.inl rfl⟩,⟨Nat.zero_le _,.inl rfl⟩,⟨Nat.zero_le _,.inl rfl⟩,Nat.zero_le _⟩
theorem wrapB_lies {w:World} {l:SL} {b:Nat} {p3:Option Addr} {c3:Nat} (h1:w.rangeAt b 0 (scells (zHd 0) none 0 0 none 0 0)) (h2:w.rangeAt b 48 (scells (zHd 6) p3 l.len c3 none 0 0)) (h3:sLies w p3 l):
  sLies w (some ⟨b,0,none⟩) (wrapB none none p3 none 0 0 c3 0 l):=by
 have n0: ∀ {P:Prop},(SL.nil.len*608≤140737488351232∧(SL.nil=SL.nil∨P)):=fun {P}=>⟨Nat.zero_le _,.inl rfl⟩
 refine ⟨by show 2*608≤140737488351232;omega,.inr ⟨b,0,rfl, ?_⟩⟩
 unfold wrapB
 exact ⟨h1,zHd_lies w 0,n0,n0,h2,zHd_lies w 6,h3,n0,trivial⟩
structure MZ (q p:Pc):Prop where
 name:p.name=q.name
 params:p.params=q.params
 locs:p.locals_=q.locals_
 body:p.body=wrapB none none q.bp none 0 0 q.bc 0 q.body
theorem MZ.wrap {q p:Pc} (h:MZ q p):WrapZ q p:=⟨h.name,h.params,h.locs,⟨_,_,_,_,_,_,_,_,h.body⟩⟩
structure MoI (w0 wr:World) (B b:Nat) (y:Pg) (k:Nat) (v:Value) (ks:List Pc):Prop where
 below:Below w0.heap.size w0 wr
 top:Bk wr b 26 #[.slice y.structs.p y.structs.l.length y.structs.cap,.slice y.globals.p y.globals.l.length y.globals.cap,v]
 b0:w0.heap.size≤b
 bB:b<B
 Bw:B≤wr.heap.size
 gr:kMo.Gr B ks v wr
 len:ks.length=k
 wz: ∀i,i<k→∃q p,y.procs.l[i]? =some q∧ks[i]? =some p∧MZ q p
theorem MoI.go {w0 wr wz:World} {B b:Nat} {y:Pg} {k:Nat} {v:Value} {ks:List Pc} (h:MoI w0 wr B b y k v ks) (hb:Below wr.heap.size wr wz):MoI w0 wz B b y k v ks:=
 ⟨h.below.trans (hb.mono h.below.size),h.top.below hb h.top.lt,h.b0,h.bB,Nat.le_trans h.Bw hb.size,h.gr.below hb,h.len,h.wz⟩
theorem wz_list: ∀ {l k:List Pc},k.length=l.length→(∀i,i<k.length→∃q p,l[i]? =some q∧k[i]? =some p∧MZ q p)→WrapZL l k
 | [],[],_,_=>trivial
 |q::l,p::k,hl,h=>by
  obtain ⟨q',p',h1,h2,h3⟩:=h 0 (by simp)
  simp only[List.getElem?_cons_zero,Option.some.injEq] at h1 h2
  subst h1;subst h2
  refine ⟨h3.wrap,wz_list (by simpa using hl) fun i hi=> ?_⟩
  obtain ⟨q',p',h1,h2,h3⟩:=h (i+1) (by simpa using hi)
  exact ⟨q',p',by simpa using h1,by simpa using h2,h3⟩
 | [],_::_,hl,_=>by simp at hl
 |_::_,[],hl,_=>by simp at hl
theorem sLies_nil (w:World) (p:Option Addr):sLies w p .nil:=by unfold sLies;exact ⟨by simp[SL.len],.inl rfl⟩
theorem mo_lies {w0 wr:World} {B:Nat} {y:Pg} {v:Value} {ks:List Pc} {a:Option Addr} (hb:Below w0.heap.size w0 wr) (hy:pgLies w0 y) (hg:kMo.Gr B (ks++ [moPc a 1]) v wr) (hl:y.procs.l.length<16) (hk:ks.length=y.procs.l.length)
  (wz: ∀i,i<ks.length→∃q p,y.procs.l[i]? =some q∧ks[i]? =some p∧MZ q p):
  ∃s:Sl Pc,v= .slice s.p s.l.length s.cap∧s.l=ks++ [moPc a 1]∧pgLies wr ⟨y.structs,y.globals,s⟩:=by
 obtain ⟨s,h1,h2,h3⟩:=Kd.fin kMo (by simp only[List.length_append,List.length_singleton];show (ks.length+1)*104≤_;omega) hg
 have h2:s.l=ks++ [moPc a 1]:=by rw[←h2];show s.l=s.l.map id;rw[List.map_id]
 refine ⟨s,h1,h2,srsLie_below hy.1 hb,declsLie_below hy.2.1 hb, ?_⟩
 obtain ⟨h4,h5⟩:=h3
 refine ⟨h4,h5.imp id ?_⟩
 rintro ⟨b,o,hp,hx⟩
 refine ⟨b,o,hp,fun k x hkx=>⟨rangeAt_ext (fresh_all B wr) (hx k x hkx).1, ?_⟩⟩
 have hR:moR wr x:=moR_ext x (fresh_all B wr) (hx k x hkx).2
 rw[h2] at hkx
 by_cases hlt:k<ks.length
 ·rw[List.getElem?_append_left hlt] at hkx
  obtain ⟨q,p,e1,e2,hz⟩:=wz k hlt
  rw[hkx] at e2
  injection e2 with e2;subst e2
  have hq:pcLies w0 q:=by
   rcases hy.2.2.2 with h |⟨b',o',_,hx'⟩
   ·rw[h] at e1;simp at e1
   ·exact (hx' k q e1).2
  have hq':=pcLies_below hq hb
  refine ⟨by rw[hz.params];exact hq'.1,by rw[hz.locs];exact hq'.2.1, ?_⟩
  rcases hR with ⟨l,b',c,p3,c3,k1,k2,k3,k4,k5⟩|⟨b',k1,_⟩
  ·have e:=k3.symm.trans hz.body
   unfold wrapB at e
   injection e with _ _ _ _ _ _ _ e
   injection e with _ e1 e2 e3
   subst e1;subst e2;subst e3
   rw[k1,k3]
   exact wrapB_lies k4 k5 hq'.2.2
  ·have e:=hz.body
   rw[k1] at e
   cases e
 ·rw[List.getElem?_append_right (by omega)] at hkx
  have hk0:k-ks.length=0:=by
   rcases Nat.eq_zero_or_pos (k-ks.length) with h |h
   ·exact h
   ·rw[List.getElem?_eq_none (by simp;omega)] at hkx;cases hkx
  rw[hk0] at hkx
  simp only[List.getElem?_cons_zero,Option.some.injEq] at hkx
  subst hkx
  rcases hR with ⟨l,b',c,p3,c3,k1,k2,k3,k4,k5⟩|⟨b',k1,k2⟩
  ·cases k1
  ·have ea:a=some ⟨b',0,none⟩:=congrArg (fun x:Pc=>x.params.p) k1
   subst ea
   refine ⟨⟨by show 1*40≤140737488351232;omega,.inr ⟨b',0,rfl,fun i x hi=>⟨?_,trivial⟩⟩⟩,⟨by show 0*40≤140737488351232;omega,.inl rfl⟩,sLies_nil wr none⟩
   cases i with
   |zero=>simp only[moPc,List.getElem?_cons_zero,Option.some.injEq] at hi;subst hi;exact k2
   |succ i=>simp[moPc] at hi
end Mo
end Go.Proofs.YtcehbcnloiooaaaGreatDoor
namespace Go.Proofs.YtcehbcnloiooaaaGreatDoor
namespace Mo
open Go.RowKit Go.Sort
open Sc (wrapB zHd moPc mnN moN WrapZ WrapZL)
structure Known (y:Pg) (w0:World):Prop where
 rdy:Rdy y w0
 few:y.procs.l.length<16
 cs:Pn.cs (Pn.progK y)≤64000
 dp: ∀q∈y.procs.l,Sc.dpG q.body 0<20
 wt:Sc.wtP y.procs.l≤400
 nm: ∀q∈y.procs.l,¬q.name=moN
 ok:(Sc.checkE y).2=0
theorem mo_check {w0 wr:World} {B:Nat} {y:Pg} {v:Value} {ks:List Pc} {a:Option Addr} (hr:Known y w0) (hb:Below w0.heap.size w0 wr) (hg:kMo.Gr B (ks++ [moPc a 1]) v wr) (hk:ks.length=y.procs.l.length)
  (wz: ∀i,i<ks.length→∃q p,y.procs.l[i]? =some q∧ks[i]? =some p∧MZ q p):
  ∃s:Sl Pc,v= .slice s.p s.l.length s.cap∧Calls Tryz.prog 9 #[.agg (Sc.pgA ⟨y.structs,y.globals,s⟩)] wr (Sc.PPost (0,0) wr):=by
 obtain ⟨s,h1,h2,h3⟩:=mo_lies hb hr.rdy.lies hg hr.few hk wz
 have hw:=wz_list hk wz
 have hlk:Sc.Like y ⟨y.structs,y.globals,s⟩:=⟨rfl,rfl⟩
 have hR:Rdy ⟨y.structs,y.globals,s⟩ wr:=⟨hr.rdy.gp.go hb,h3,Sc.more_right hlk h2 hw rfl (Sc.mo_ok _ _) hr.rdy.ok hr.dp hr.wt,
  Sc.more_tight hlk h2 hw rfl (by show 1≤8010;omega) (by show 0≤8010;omega) hr.few hr.rdy.tight,Sc.more_cs hlk h2 hw hr.few (Sc.mo_cs _ _) hr.cs⟩
 have hin:Sc.isIn (Sc.pNames y.procs.l) (moPc a 1).name=false:=by
  rw[Sc.isIn_not]
  intro e
  obtain ⟨q,hq,e⟩:=List.mem_map.1 e
  exact hr.nm q hq e
 have hE:Sc.checkE ⟨y.structs,y.globals,s⟩=(0,0):=Sc.check_more hlk h2 (Sc.wrapZL_wrap hw) hr.few hin rfl (Sc.mo_frame _ _ _) hr.ok
 refine ⟨s,h1, ?_⟩
 have:=check_of hR
 rwa[hE] at this
end Mo
end Go.Proofs.YtcehbcnloiooaaaGreatDoor
namespace Go.Proofs.YtcehbcnloiooaaaGreatDoor
namespace Mo
open Go.RowKit Go.Sort
open Sc (wrapB zHd moPc mnN moN WrapZ WrapZL)
theorem wpList_two {P:Program} {ops:Array Oper} {rest:List Oper} {o:Oper} {a:Act} {w:World} {Q:Exit→Act→World→Prop} (hg:o.guard=none) (t e:TypeId) (x x':Operand) (ho:o.op= .buildSlice t 2 #[(0,x),(1,x')])
  (cs cs':Array Value) (hx:a.eval x= .agg cs) (hx':a.eval x'= .agg cs') (hu:P.underlying t=some (.slice e)) (ie:TypeInfo) (z:Value) (n:Nat) (hie:P.info? e=some ie) (hz:ie.zero=some z) (hn:ie.size=n) (h0:0<n) (h24:2*n≤16777216) (hcs:n=cs.size) (hcs':n=cs'.size)
  (h:wpList P ops Q rest (a.put o.dst (.slice (some ⟨w.heap.size,0,none⟩) 2 2)) (w.alloc (.cells (cs++cs') e))):wpList P ops Q (o::rest) a w:=by
 subst hn
 refine wpList_buildSlice hg t e 2 #[(0,x),(1,x')] ho (cs++cs') ie z hu hie hz (by omega) (by omega) ?_ h
 have hf:=Great.fill_whole h0 [Value.agg cs,Value.agg cs'] ((Array.range (2*ie.size)).map (z.cells[· % z.cells.size]!)) (by intro v hv;simp only[List.mem_cons,List.mem_nil_iff,or_false] at hv;rcases hv with rfl |rfl;exact hcs.symm;exact hcs'.symm) (by simp)
 simp only[List.zipIdx_cons,List.zipIdx_nil,List.map_cons,List.map_nil] at hf
 simp only[List.map_toArray,List.map_cons,List.map_nil,hx,hx']
 rw[hf]
 simp[Value.cells]
theorem mo_start {w0 wr:World} {y:Pg} {c1:Array Value} (hb:Below w0.heap.size w0 wr) (hc:c1=(Pg.cells y).toArray):
  MoI w0 (wr.alloc (.cells (c1.setIfInBounds 2 (.slice none 0 0)) 26)) (wr.heap.size+1) wr.heap.size y 0 (.slice none 0 0) []:=by
 have h1:=hb.size
 refine ⟨hb.trans (((Below.refl _ _).alloc (Nat.le_refl _) _).mono h1), ?_,h1,by omega,by simp,Kd.Gr.nil kMo (World.ownsRow_nil _ _ _ _),rfl,fun i hi=>absurd hi (by omega)⟩
 have:=heap_alloc_new wr (.cells (c1.setIfInBounds 2 (.slice none 0 0)) 26)
 rw[hc] at this ⊢
 exact this
end Mo
end Go.Proofs.YtcehbcnloiooaaaGreatDoor
namespace Go.Proofs.YtcehbcnloiooaaaGreatDoor
namespace Mo
open Go.RowKit Go.Sort
open Sc (wrapB zHd moPc mnN moN WrapZ WrapZL)
def moX (q:Pc) (b:Nat):Pc:=⟨q.name,q.pos,q.fin,q.params,q.locals_,some ⟨b,0,none⟩,2,wrapB none none q.bp none 0 0 q.bc 0 q.body⟩
theorem moX_wrap (q:Pc) (b:Nat):MZ q (moX q b):=⟨rfl,rfl,rfl,rfl⟩
theorem moX_cells (q:Pc) (b:Nat):(Pc.cells q).toArray.setIfInBounds 5 (.slice (some ⟨b,0,none⟩) 2 2)=(Pc.cells (moX q b)).toArray:=rfl
theorem alloc_rest {B:Nat} {r:Option Nat} {w:World} {cs:Array Value} {t:TypeId} (hB:B≤w.heap.size) (hr: ∀g,r=some g→g<w.heap.size) (j:Nat) (u:Value) (hu:cs[j]? =some u):(rest B r (w.alloc (.cells cs t))).cell? ⟨w.heap.size,j,none⟩=some u:=by
 unfold rest
 rw[mask_cell,if_neg]
 ·exact (World.cell?_alloc_at _ _ _ _ rfl).trans hu
 ·simp only[Bool.or_eq_true,decide_eq_true_eq,not_or]
  exact ⟨by omega,fun e=>by have:=hr _ e.symm;omega⟩
theorem Gr_lt {B:Nat} {ks:List Pc} {v:Value} {w:World} (h:kMo.Gr B ks v w): ∀g,v.ownBlock=some g→g<w.heap.size:=by
 obtain ⟨ys,_,h2,_⟩:=h
 exact fun g hg=>(h2.lt g hg).2
theorem mo_R {w0 wr:World} {B b k:Nat} {y:Pg} {v:Value} {ks:List Pc} (h:MoI w0 wr B b y k v ks) (q:Pc) {Z0 Z6:Array Value} (c:Obj) (h0:Z0=(scells (zHd 0) none 0 0 none 0 0).toArray) (h6:Z6=(scells (zHd 6) q.bp q.body.len q.bc none 0 0).toArray):
  kMo.R (rest B v.ownBlock ((wr.alloc c).alloc (.cells (Z0++Z6) 63))) (moX q (wr.heap.size+1)):=by
 have hs:(wr.alloc c).heap.size=wr.heap.size+1:=by simp
 have hr: ∀g,v.ownBlock=some g→g<(wr.alloc c).heap.size:=fun g hg=>by have:=Gr_lt h.gr g hg;omega
 have hB:B≤(wr.alloc c).heap.size:=by have:=h.Bw;omega
 have hc:=fun j u=>alloc_rest (cs:=Z0++Z6) (t:=63) hB hr j u
 rw[hs] at hc
 have z0:Z0.size=48:=by rw[h0];rfl
 refine .inl ⟨q.body,wr.heap.size+1,2,q.bp,q.bc,rfl,rfl,rfl,fun j u hu=> ?_,fun j u hu=> ?_⟩
 ·have hj:j<48:=(List.getElem?_eq_some_iff.1 hu).1
  rw[Nat.zero_add]
  exact hc j u (by rw[Array.getElem?_append_left (by omega),h0,List.getElem?_toArray];exact hu)
 ·exact hc (48+j) u (by rw[Array.getElem?_append_right (by omega),z0,Nat.add_sub_cancel_left,h6,List.getElem?_toArray];exact hu)
theorem MoI.two {w0 wr:World} {B b k:Nat} {y:Pg} {v:Value} {ks:List Pc} (h:MoI w0 wr B b y k v ks) (c c':Obj):MoI w0 ((wr.alloc c).alloc c') B b y k v ks:=
 h.go (((Below.refl _ _).alloc (Nat.le_refl _) _).alloc (by simp) _)
theorem MoI.at2 {w0 wr w':World} {B b k:Nat} {y:Pg} {v:Value} {ks:List Pc} (h:MoI w0 wr B b y k v ks) (hg:wr.grownBy w' v.ownBlock) (hown: ∀q,v.ownBlock=some q→B≤q):Bk w' b 26 #[.slice y.structs.p y.structs.l.length y.structs.cap,.slice y.globals.p y.globals.l.length y.globals.cap,v]:=
 (hg.block b h.top.lt (fun e=>by have:=hown b e.symm;have:=h.bB;omega)).trans h.top
theorem MoI.below2 {w0 wr w':World} {B b k:Nat} {y:Pg} {v:Value} {ks:List Pc} (h:MoI w0 wr B b y k v ks) (hg:wr.grownBy w' v.ownBlock) (hown: ∀q,v.ownBlock=some q→B≤q):Below w0.heap.size w0 w':=
 h.below.grown hg h.below.size (fun j hj=>by have:=hown j hj;have:=h.b0;have:=h.bB;omega)
theorem MoI.push {w0 wr w':World} {B b k:Nat} {y:Pg} {v v':Value} {ks:List Pc} {q x:Pc} (h:MoI w0 wr B b y k v ks) (hq:y.procs.l[k]? =some q) (hz:MZ q x) (hG:kMo.Gr B (ks++ [x]) v' w') (hg:wr.grownBy w' v.ownBlock) (hown: ∀q,v.ownBlock=some q→B≤q):
  MoI w0 (w'.setCell ⟨b,2,none⟩ v') B b y (k+1) v' (ks++ [x]):=by
 have hsc:w'.grownBy (w'.setCell ⟨b,2,none⟩ v') (some b):=grownBy_setC w' ⟨b,2,none⟩ v'
 refine ⟨(h.below2 hg hown).grown hsc (h.below2 hg hown).size (fun j hj=>by injection hj with hj;subst hj;exact h.b0),(h.at2 hg hown).set_ 2 _,h.b0,h.bB,Nat.le_trans h.Bw (Nat.le_trans hg.size hsc.size),hG.par hsc h.bB,by rw[List.length_append,h.len];rfl,fun i hi=> ?_⟩
 by_cases hik:i<k
 ·obtain ⟨q',p',e1,e2,e3⟩:=h.wz i hik
  exact ⟨q',p',e1,by rw[List.getElem?_append_left (by rw[h.len];exact hik)];exact e2,e3⟩
 ·obtain rfl:i=k:=by omega
  exact ⟨q,x,hq,by rw[List.getElem?_append_right (by rw[h.len];exact Nat.le_refl _),h.len,Nat.sub_self];rfl,hz⟩
theorem infMo: ∃i z,kMo.Inf Tryz.prog 24 i z:=by
 obtain ⟨i,h⟩:=infPc
 exact ⟨i,_,⟨h.und,h.info,h.zero,h.size,h.bytes,h.cells,h.pos⟩⟩
end Mo
end Go.Proofs.YtcehbcnloiooaaaGreatDoor
namespace Go.Proofs.YtcehbcnloiooaaaGreatDoor
namespace Sc
open Go.RowKit Go.Sort
end Sc
end Go.Proofs.YtcehbcnloiooaaaGreatDoor
