/-
  The document's reader: the walk of a procedure. Plain: three rows of one's own that grow by turns. The document's reader: a program while it is read.
-/
import Derived.Test.YtcehbcnloiooaaaGreatDoorM16
import Derived.Test.YtcehbcnloiooaaaGreatDoorM06
set_option maxHeartbeats 6400000
set_option maxRecDepth 100000
namespace Go.Proofs.YtcehbcnloiooaaaGreatDoor
open Go.RowKit Go.Sort
attribute [local go_sem] field72_0 field72_1 field72_2 field72_3
def zPcs:List Value:= [.string ByteArray.empty,.int .i64 0,.int .i64 0,.slice none 0 0,.slice none 0 0,.slice none 0 0]
def Pc.pl (x:Pc):Pc:=⟨x.name,x.pos,x.fin,⟨none,0,x.params.l⟩,⟨none,0,x.locals_.l⟩,none,0,x.body.pl⟩
def qPc:Kd Pc:=⟨37,6,104,Pc.cells,Pc.pl,pcLies,fun _=>rfl,fun _=>by simp[Value.oneCell'],fun _ h k=>pcLies_ext h k⟩
def pcA (nm:ByteArray) (ps:Int) (acc ls:List Dc):Pc:=⟨nm,ps,0,⟨none,0,acc⟩,⟨none,0,ls⟩,none,0,.nil⟩
theorem size40p:(Tryz.prog.info? 37).map (·.size)=some 6:=by kernel_rfl
section
variable {α:Type} {rb sb cap:Nat} {l:List Tx.Sg} {N:Nat}
def dB (l:List Tx.Sg) (i:Nat):Bool:=(rsg l i).kind==1 && ((rsg l (i+1)).kind==4 && (rsg l (i+1)).text.toList== [42])
theorem dB_of {i:Nat} {z y:Tx.Sg} (hz:z=rsg l i) (hy:y=rsg l (i+1)):dB l i=(z.kind==1 && (y.kind==4 && y.text.toList== [42])):=by subst hz;subst hy;rfl
theorem dB_no {i:Nat} {z:Tx.Sg} (hz:z=rsg l i) (k:(z.kind==1)=false):dB l i=false:=by subst hz;unfold dB;rw[k];rfl
theorem declares_dB (C:RC l N) {u:Pr.St} (hi:u.i<l.length):Pr.declares (Pa.ts l) u=(Pr.is (Pa.ts l) u.i ⟨#[105,110,116]⟩||dB l u.i):=by
 unfold Pr.declares
 congr 1
 have hk:(Pr.sg (Pa.ts l) u.i).kind=(rsg l u.i).kind:=by rw[rsg_lt hi,←Pa.sg_tk];rfl
 rw[hk]
 unfold dB
 rcases q:((rsg l u.i).kind==1) with _ |_
 ·rfl
 have h4:=more_rsg C hi (by rw[beq_iff_eq] at q;rw[q];decide)
 rw[←isNx_pr h4]
 unfold isNx
 rw[show (⟨#[42]⟩:ByteArray).toList= [42] from Lib.toList_data _]
 rcases q2:((rsg l (u.i+1)).text.toList== [42]) with _ |_
 ·simp
 ·have hK:=rsg_kind C.kinds (u.i+1) (Nat.lt_of_le_of_lt (Nat.zero_le _) hi)
  have q3:=q2
  rw[beq_iff_eq,Lib.toList_data] at q3
  have h5:(rsg l (u.i+1)).kind=4:=Pa.kind_mark hK (by rw[q3];rfl)
  rw[h5];rfl
theorem stp_wantP {r r':Pr.Res Pc} {s:ByteArray} (hr:r'=Pr.th r fun y u=>Pr.th (Pr.must (Pa.ts l) s u) fun _ v=> .ok (y,v)) {x:Pc} (he: ∀y u,r= .ok (y,u)→x=y): ∀y u,r'= .ok (y,u)→x=y:=by
 intro y u hc
 rw[hr] at hc
 obtain ⟨y1,v,h1,h2⟩:=Pr.th_ok hc
 obtain ⟨t,z,h3,h4⟩:=Pr.th_ok h2
 cases h4
 exact he _ _ h1
theorem e_pushP {r:Pr.Res Pc} {x:Pc} {d:Dc} {f:Pc→Dc→Pc} (he: ∀a u,r= .ok (a,u)→x=a) (hx: ∀y u,(Pr.th r fun _ u=>Pa.variable_ l u)= .ok (y,u)→d=y):
  ∀a u,(Pr.th r fun y u=>Pr.th (Pa.variable_ l u) fun p v=>(.ok (f y p,v):Pr.Res Pc))= .ok (a,u)→f x d=a:=by
 intro a u hc
 obtain ⟨y,v,h1,h2⟩:=Pr.th_ok hc
 obtain ⟨p,z,h3,h4⟩:=Pr.th_ok h2
 cases h4
 rw[he y v h1,hx p u (by rw[h1];exact h3)]
theorem qinfDc2: ∃i z,qDc.Inf Tryz.prog 23 i z:=by
 obtain ⟨i,h⟩:=qinfDc
 exact ⟨i,_,h⟩
theorem proc_m (C:RC l N) (hT:Tex l) (hN8:N≤800000) (n:Nat) (hn1:l.length<n) (hn2:n≤1000000) (w:World) (r0:Pr.Res α) (h:RM w rb sb cap l 0 N r0):
  Calls Tryz.prog 28 #[.pointer (some ⟨rb,0,none⟩)] w (RP (qPc.Val w.heap.size) w rb sb cap l 0 (N+1) (Pr.th r0 fun _ u=>Pa.rproc l n u)):=by
 have HC:=hdn C
 have HC2:=hdn (C.more hN8)
 have HN8:=hdn hN8
 have HNF:Hid (l.length<n):=hdn hn1
 have HSTS:Hid (SRq rb sb cap l N n (Pa.rstmts l (Pa.rstmt l) n)):=hdn (stmts_all C hT hN8 n hn2)
 clear hN8 hT hn1 hn2
 obtain ⟨R,hr⟩: ∃R,R=Pr.th r0 fun _ u=>Pa.rproc l n u:=⟨_,rfl⟩
 rw[←hr]
 have HR:Hid (R=Pr.th (Pr.th (Pr.th r0 fun _ u=>Pr.th (Pa.name l u) fun x v=>(.ok (Pa.pcN x,v):Pr.Res Pc)) fun y u=>Pr.th (Pr.must (Pa.ts l) ⟨#[40]⟩ u) fun _ v=>(.ok (y,v):Pr.Res Pc)) fun y u=>Pr.th (Pa.argsP l y u) fun y u=>Pa.tail1 l n y u):=hdn (by
  rw[hr]
  rcases r0 with n0 |⟨x,u⟩
  ·rfl
  ·exact Pa.rproc_steps n u)
 have hn:Below w.heap.size w (w.alloc (.cells zPcs.toArray 37)):=(Below.refl _ _).alloc (Nat.le_refl _) _
 have HM:=hdn (h.below hn)
 have HK:Hid (Bk (w.alloc (.cells zPcs.toArray 37)) w.heap.size 37 zPcs.toArray):=hdn (heap_alloc_new _ _)
 have HG:Hid (w.grownBy (w.alloc (.cells zPcs.toArray 37)) (some rb)):=hdn (grownBy_of hn _)
 have HLT:Hid (rb<w.heap.size∧sb<w.heap.size):=hdn ⟨h.rb_lt,h.sb_lt⟩
 have HSZ0:Hid ((w.alloc (.cells zPcs.toArray 37)).heap.size=w.heap.size+1):=hdn (by simp)
 clear h hr hn
 go_enter Tryz.func28,Tryz.ntmps28
 go_upto_region 1 with fail
 change Code.wp _ _ _ _ (w.alloc (.cells zPcs.toArray 37))
 obtain ⟨A,hA⟩: ∃A,A=w.heap.size:=⟨_,rfl⟩
 have HA:=hdn hA
 rw[←hA] at HK ⊢
 clear hA
 generalize w.alloc (.cells zPcs.toArray 37)=wA at HM HK HG HSZ0 ⊢
 go_upto_region 2 with fail
 change Code.wp _ _ _ _ (wA.alloc (.cells zPcs.toArray 37))
 have hm:Below wA.heap.size wA (wA.alloc (.cells zPcs.toArray 37)):=(Below.refl _ _).alloc (Nat.le_refl _) _
 have HB1:Hid (PB w (wA.alloc (.cells zPcs.toArray 37)) (wA.alloc (.cells zPcs.toArray 37)) rb sb cap A wA.heap.size 37 zPcs zPcs l 0 N r0):=hdn
  ⟨HM.out.below hm,HK.out.below hm HK.out.lt,heap_alloc_new _ _,grownBy_below HG.out hm,⟨by rw[HA.out];exact Nat.le_refl _,by have:=HK.out.lt;simp;omega,by simp,by have:=HK.out.lt;omega,HG.out.size,Nat.le_refl _,HLT.out.1,HLT.out.2⟩⟩
 clear hm HM HK HG HSZ0
 obtain ⟨S,hS⟩: ∃S,S=wA.heap.size:=⟨_,rfl⟩
 rw[←hS] at HB1 ⊢
 clear hS
 generalize wA.alloc (.cells zPcs.toArray 37)=w1 at HB1 ⊢
 go_wp2_with fail
 refine (name_m HC.out w1 r0 HB1.out.m).mono ?_
 rintro en w2 ⟨g,_,x,rfl,rfl,hx,hm⟩
 have HB2:=hdn (HB1.out.call g hm)
 have HX:=hdn hx
 clear g hm hx HB1
 obtain ⟨nm,hnm⟩: ∃nm,nm=x.text:=⟨_,rfl⟩
 obtain ⟨ps,hps⟩: ∃ps:Int,ps=x.pos:=⟨_,rfl⟩
 have HNM:=hdn hnm
 have HPS:=hdn hps
 rw[←hnm,←hps]
 clear hnm hps
 have c0:w2.cell? ⟨S,0,none⟩=some (.string ByteArray.empty):=HB2.out.s.cell 0
 have f0:=HB2.out.s.frozen 0
 have c1:w2.cell? ⟨S,1,none⟩=some (.int .i64 0):=HB2.out.s.cell 1
 have f1:=HB2.out.s.frozen 1
 go_upto_region 3 with fail
 clear c0 f0 c1 f1
 obtain ⟨r1,hr1⟩: ∃r1:Pr.Res Pc,r1=Pr.th r0 fun _ u=>Pr.th (Pa.name l u) fun x v=>(.ok (Pa.pcN x,v):Pr.Res Pc):=⟨_,rfl⟩
 rw[←hr1] at HR
 have HB3:Hid (PB w w1 ((w2.setCell ⟨S,0,none⟩ (.string nm)).setCell ⟨S,1,none⟩ (.int .i64 ps)) rb sb cap A S 37 zPcs [.string nm,.int .i64 ps,.int .i64 0,.slice none 0 0,.slice none 0 0,.slice none 0 0] l 0 N r1):=hdn (by rw[hr1];exact ((HB2.out.set 0 (.string nm)).set 1 (.int .i64 ps)).re (fun h=>m_call (g:=fun _ s=>Pa.pcN s) h))
 have HE3:Hid (∀y u,r1= .ok (y,u)→pcA nm ps [] []=y):=hdn (by
  intro y u hc
  rw[hr1] at hc
  obtain ⟨y1,v1,h1,h2⟩:=Pr.th_ok hc
  obtain ⟨y2,v2,h3,h4⟩:=Pr.th_ok h2
  cases h4
  rw[HNM.out,HPS.out,HX.out y2 u (by rw[h1];exact h3)];rfl)
 generalize (w2.setCell ⟨S,0,none⟩ (.string nm)).setCell ⟨S,1,none⟩ (.int .i64 ps)=w3 at HB3 ⊢
 clear HB2 HX hr1
 go_wp2_with fail
 refine (want_m HC.out ⟨#[40]⟩ (by decide) w3 r1 HB3.out.m).mono ?_
 rintro en w4 ⟨rfl,g,hm⟩
 obtain ⟨r2,hr2⟩: ∃r2:Pr.Res Pc,r2=Pr.th r1 fun y u=>Pr.th (Pr.must (Pa.ts l) ⟨#[40]⟩ u) fun _ v=>(.ok (y,v):Pr.Res Pc):=⟨_,rfl⟩
 rw[←hr2] at HR
 have HB4:Hid (PB w w1 w4 rb sb cap A S 37 zPcs [.string nm,.int .i64 ps,.int .i64 0,.slice none 0 0,.slice none 0 0,.slice none 0 0] l 0 N r2):=hdn (by rw[hr2];exact HB3.out.call g (m_call (g:=fun y _=>y) hm))
 have HE4:Hid (∀y u,r2= .ok (y,u)→pcA nm ps [] []=y):=hdn (stp_wantP hr2 HE3.out)
 clear g hm HB3 hr2 HE3
 go_wp2_with fail
 refine (is_m HC.out ⟨#[41]⟩ (by decide) w4 r2 HB4.out.m).mono ?_
 rintro en w5 ⟨hb,hh⟩
 obtain ⟨bt,hen,hh2⟩:=take_bool hh
 subst hen
 have HH0:=hdn hh2
 have HB5:=hdn (HB4.out.below hb)
 clear hb hh hh2 HB4
 obtain ⟨i0,z0,hI⟩:=qinfDc2
 have HI0:=hdn hI
 clear hI
 go_upto_if 15 with fail
 go_cut [] from 16 to 31 (fun wx=> ∃(acc:List Dc) (v1:Value) (rn:Pr.Res Pc),Hid (∀y u,rn= .ok (y,u)→pcA nm ps acc []=y)∧Hid ((Pr.th r2 fun y u=>Pa.argsP l y u)=Pr.th rn fun y u=>Pr.th (Pr.must (Pa.ts l) ⟨#[41]⟩ u) fun _ v=>(.ok (y,v):Pr.Res Pc))∧Hid (acc.length≤l.length+2)∧Hid (PB w w1 wx rb sb cap A S 37 zPcs [.string nm,.int .i64 ps,.int .i64 0,v1,.slice none 0 0,.slice none 0 0] l 0 N rn)∧Hid (qDc.Gr w1.heap.size acc v1 wx))
 case first=>
  have hcases:=HH0.out
  rcases hcases with ⟨rfl,y0,u0,hr0,hi,hlt⟩|⟨rfl,hf⟩
  ·have HRE:=hdn hr0;have HI:=hdn hi
   clear hr0 hi hlt HH0
   go_wp2_with fail
   go_meet
   exact ⟨[],_,r2,HE4,hdn (by rw[HRE.out];simp only[Pr.th_okk];unfold Pa.argsP;rw[if_pos HI.out,must_of HI.out,Pr.th_okk]),hdn (Nat.zero_le _),HB5,hdn (Kd.Gr.nil qDc (World.ownsRow_nil _ _ _ _))⟩
  have HF:=hdn hf
  clear hf HH0
  have HQ1:Hid (([]:List Dc).length+1≤maxLen∧(([]:List Dc).length+1)*40≤140737488355328):=hdn ⟨by decide,by decide⟩
  obtain ⟨a0,c0,hac⟩: ∃(a0:Option Addr) (c0:Nat),(Value.slice none 0 0)= .slice a0 ([]:List Dc).length c0:=⟨none,0,rfl⟩
  have HGN:Hid (qDc.Gr w1.heap.size [] (.slice a0 ([]:List Dc).length c0) w5):=hdn (by rw[←hac];exact Kd.Gr.nil qDc (World.ownsRow_nil _ _ _ _))
  have HB6:Hid (PB w w1 w5 rb sb cap A S 37 zPcs [.string nm,.int .i64 ps,.int .i64 0,.slice a0 ([]:List Dc).length c0,.slice none 0 0,.slice none 0 0] l 0 N r2):=hdn (by rw[←hac];exact HB5.out)
  clear hac HB5
  go_upto_region 5 with fail
  have HD:=hdn (HB6.out.below (below_drew (Below.refl _ w5)))
  have HGD:=hdn (HGN.out.below (below_drew (Below.refl _ w5)))
  clear HB6 HGN
  have s26:w5.drew.cell? ⟨S,3,none⟩=some (.slice a0 ([]:List Dc).length c0):=HD.out.s.cell 3
  go_region_law (first
   |(go_simp;go_at_call 29;(with_reducible refine (decl_m HC.out _ _ HD.out.m).mono ?_);rintro en w6 ⟨g,vv,dd,rfl,hv,hx,hm⟩;have hvv:vv= .agg (Dc.cells dd).toArray:=hv;clear hv;subst hvv;have HX:=hdn hx;have HS:=hdn (HD.out.call g hm);have HGS:=hdn (HGD.out.par g (by have:=HD.out.b;omega));have s27:w6.cell? ⟨S,3,none⟩=some (.slice a0 ([]:List Dc).length c0):=HS.out.s.cell 3;have s27a: ∀ob,(w6.alloc ob).cell? ⟨S,3,none⟩=some (.slice a0 ([]:List Dc).length c0):=(fun ob=>(World.cell?_alloc_lt _ _ _ HS.out.lt).trans s27);clear g hm hx;(try dsimp only))
   |(refine Kd.step_push qDc rfl 23 i0 _ HI0.out (.tmp 17) (.tmp 20) rfl w1.heap.size ([]:List Dc) (.slice a0 ([]:List Dc).length c0) rfl HGS.out HS.out.b.2.2.2.2.2.1 dd rfl trivial HQ1.out.1 HQ1.out.2 ?_;rintro v' w7 hG8 ⟨gg,cc,rfl⟩ hgr8 hown8;have HG8:=hdn hG8;have HS8:=hdn (HS.out.grown hgr8 hown8);have s28:w7.cell? ⟨S,3,none⟩=some (.slice a0 ([]:List Dc).length c0):=HS8.out.s.cell 3;have f28:w7.frozen? ⟨S,3,none⟩=false:=HS8.out.s.frozen 3;clear hG8 hgr8 hown8))
  all_goals
   have HN8:Hid (PB w w1 (w7.setCell ⟨S,3,none⟩ (.slice (some ⟨gg,0,none⟩) (([]:List Dc).length+1) cc)) rb sb cap A S 37 zPcs [.string nm,.int .i64 ps,.int .i64 0,.slice (some ⟨gg,0,none⟩) (([]:List Dc).length+1) cc,.slice none 0 0,.slice none 0 0] l 0 N (Pr.th r2 fun y u=>Pr.th (Pa.variable_ l u) fun p v=>(.ok (Pa.addP y p,v):Pr.Res Pc))):=hdn ((HS8.out.set 3 (.slice (some ⟨gg,0,none⟩) (([]:List Dc).length+1) cc)).re (fun h=>m_call (g:=Pa.addP) h))
   have HE8:Hid (∀y u,(Pr.th r2 fun y u=>Pr.th (Pa.variable_ l u) fun p v=>(.ok (Pa.addP y p,v):Pr.Res Pc))= .ok (y,u)→pcA nm ps [dd] []=y):=hdn (e_pushP (f:=Pa.addP) HE4.out HX.out)
   have HGN8:=hdn (HG8.out.par (show w7.grownBy (w7.setCell ⟨S,3,none⟩ (.slice (some ⟨gg,0,none⟩) (([]:List Dc).length+1) cc)) (some S) from grownBy_setC _ ⟨S,3,none⟩ _) (by have:=HS8.out.b;omega))
   clear HS HGS HG8 HS8 s26 s27 s27a s28 f28 HD HGD HX HQ1
   generalize w7.setCell ⟨S,3,none⟩ (.slice (some ⟨gg,0,none⟩) (([]:List Dc).length+1) cc)=w8 at HN8 HGN8 ⊢
   obtain ⟨r3,hr3⟩: ∃r3:Pr.Res Pc,r3=Pr.th r2 fun y u=>Pr.th (Pa.variable_ l u) fun p v=>(.ok (Pa.addP y p,v):Pr.Res Pc):=⟨_,rfl⟩
   have HAR:Hid ((Pr.th r2 fun y u=>Pa.argsP l y u)=Pr.th r3 fun y u=>Pa.moreP l (l.length+1) y u):=hdn (by
    rw[hr3]
    rcases r2 with n0 |⟨y,u⟩
    ·rfl
    ·simp only[Pr.th_okk,Pr.th_th]
     unfold Pa.argsP;rw[if_neg (by rw[HF.out _ _ rfl];decide)])
   rw[←hr3] at HN8 HE8
   clear hr3
   go_wp2_with fail
   go_loopg [] (l.length+1) (fun g wr=> ∃(acc:List Dc) (v1:Value) (rn:Pr.Res Pc),Hid (g+acc.length≤l.length+2)∧Hid (∀y u,rn= .ok (y,u)→pcA nm ps acc []=y)∧Hid ((Pr.th rn fun y u=>Pa.moreP l g y u)=Pr.th r3 fun y u=>Pa.moreP l (l.length+1) y u)∧Hid (∀y u,rn= .ok (y,u)→l.length<g+u.i)∧Hid (PB w w1 wr rb sb cap A S 37 zPcs [.string nm,.int .i64 ps,.int .i64 0,v1,.slice none 0 0,.slice none 0 0] l 0 N rn)∧Hid (qDc.Gr w1.heap.size acc v1 wr))
   case atStart=>exact ⟨[dd],_,r3,hdn (by simp),HE8,hdn rfl,hdn (by intro a u hc;omega),HN8,HGN8⟩
   case round=>
    clear HN8 HE8 HGN8
    obtain ⟨acc,v1,rn,HGA,HAC,HH,HFUE,HSG,HGr⟩:=hrel
    obtain ⟨a0,c0,rfl⟩: ∃a0 c0,v1= .slice a0 acc.length c0:=by obtain ⟨ys,_,h2,_⟩:=HGr.out;exact own_shape h2
    go_wp2_with fail
    refine (take_m HC.out ⟨#[44]⟩ (by decide) wr _ HSG.out.m).mono ?_
    rintro en w9 ⟨g,hh⟩
    have HGr1:=hdn (HGr.out.par g (by have:=HSG.out.b;omega))
    rcases hh with ⟨rfl,a1,u1,hrn,hi,hm⟩|⟨rfl,hf,hm⟩
    ·have HRN:=hdn hrn;have HI:=hdn hi
     have HS0:=hdn (HSG.out.call g hm)
     have HG0:Hid (0<gk):=hdn (by have:=HFUE.out a1 u1 hrn;have:=hm.2.1;simp only[Pr.St.go] at this;omega)
     clear hrn hi hm g HSG HGr
     have HQ1:Hid (acc.length+1≤maxLen∧(acc.length+1)*40≤140737488355328):=hdn ⟨by have:=HGA.out;have:=HC.out.len;have:=HN8.out;unfold maxLen;omega,by have:=HGA.out;have:=HC.out.len;have:=HN8.out;omega⟩
     go_upto_region 7 with fail
     have HD:=hdn (HS0.out.below (below_drew (Below.refl _ w9)))
     have HGD:=hdn (HGr1.out.below (below_drew (Below.refl _ w9)))
     clear HS0 HGr1
     have s26:w9.drew.cell? ⟨S,3,none⟩=some (.slice a0 acc.length c0):=HD.out.s.cell 3
     go_region_law (first
      |(go_simp;go_at_call 29;(with_reducible refine (decl_m HC.out _ _ HD.out.m).mono ?_);rintro en w10 ⟨g,vv,dd,rfl,hv,hx,hm⟩;have hvv:vv= .agg (Dc.cells dd).toArray:=hv;clear hv;subst hvv;have HX:=hdn hx;have HS:=hdn (HD.out.call g hm);have HGS:=hdn (HGD.out.par g (by have:=HD.out.b;omega));have s27:w10.cell? ⟨S,3,none⟩=some (.slice a0 acc.length c0):=HS.out.s.cell 3;have s27a: ∀ob,(w10.alloc ob).cell? ⟨S,3,none⟩=some (.slice a0 acc.length c0):=(fun ob=>(World.cell?_alloc_lt _ _ _ HS.out.lt).trans s27);clear g hm hx;(try dsimp only))
      |(refine Kd.step_push qDc rfl 23 i0 _ HI0.out (.tmp 26) (.tmp 29) rfl w1.heap.size acc (.slice a0 acc.length c0) rfl HGS.out HS.out.b.2.2.2.2.2.1 dd rfl trivial HQ1.out.1 HQ1.out.2 ?_;rintro v' w11 hG8 ⟨gg,cc,rfl⟩ hgr8 hown8;have HG8:=hdn hG8;have HS8:=hdn (HS.out.grown hgr8 hown8);have s28:w11.cell? ⟨S,3,none⟩=some (.slice a0 acc.length c0):=HS8.out.s.cell 3;have f28:w11.frozen? ⟨S,3,none⟩=false:=HS8.out.s.frozen 3;clear hG8 hgr8 hown8))
     all_goals
      have HN12:Hid (PB w w1 (w11.setCell ⟨S,3,none⟩ (.slice (some ⟨gg,0,none⟩) (acc.length+1) cc)) rb sb cap A S 37 zPcs [.string nm,.int .i64 ps,.int .i64 0,.slice (some ⟨gg,0,none⟩) (acc.length+1) cc,.slice none 0 0,.slice none 0 0] l 0 N (Pr.th (.ok (a1,u1.go):Pr.Res Pc) fun y u=>Pr.th (Pa.variable_ l u) fun p v=>(.ok (Pa.addP y p,v):Pr.Res Pc))):=hdn ((HS8.out.set 3 (.slice (some ⟨gg,0,none⟩) (acc.length+1) cc)).re (fun h=>m_call (g:=Pa.addP) h))
      have HE12:Hid (∀y u,(Pr.th (.ok (a1,u1.go):Pr.Res Pc) fun y u=>Pr.th (Pa.variable_ l u) fun p v=>(.ok (Pa.addP y p,v):Pr.Res Pc))= .ok (y,u)→pcA nm ps (acc++ [dd]) []=y):=hdn (e_pushP (f:=Pa.addP) (r:=(.ok (a1,u1.go):Pr.Res Pc)) (x:=pcA nm ps acc []) (fun a u hc=>by cases hc;exact HAC.out _ _ HRN.out) HX.out)
      have HGN12:=hdn (HG8.out.par (show w11.grownBy (w11.setCell ⟨S,3,none⟩ (.slice (some ⟨gg,0,none⟩) (acc.length+1) cc)) (some S) from grownBy_setC _ ⟨S,3,none⟩ _) (by have:=HS8.out.b;omega))
      clear HS HGS HG8 HS8 s26 s27 s27a s28 f28 HD HGD HX HQ1
      generalize w11.setCell ⟨S,3,none⟩ (.slice (some ⟨gg,0,none⟩) (acc.length+1) cc)=w12 at HN12 HGN12 ⊢
      go_wp2_with fail
      go_roundg (gk-1)
      case measure=>have:=HG0.out;omega
      case rel=>
       obtain ⟨gj,hgj⟩: ∃k,gk=k+1:=⟨gk-1,by have:=HG0.out;omega⟩
       refine ⟨acc++ [dd],_,_,hdn ?_,HE12,hdn ?_,hdn ?_,HN12,HGN12⟩
       ·have:=HGA.out;have:=HG0.out;simp only[List.length_append,List.length_singleton];omega
       ·rw[←HH.out,HRN.out,hgj,Nat.add_sub_cancel];exact (Pa.moreP_step HI.out).symm
       ·intro a u hc;obtain ⟨y,v9,h1,h2⟩:=Pr.th_ok hc;obtain ⟨p9,z9,h3,h4⟩:=Pr.th_ok h2;cases h1;cases h4;have h5:=Pa.avar_fwd h3;have h6:=HFUE.out _ _ HRN.out;simp only[Pr.St.go] at h5;omega
    have HFF:=hdn hf
    have HS0:=hdn (HSG.out.call (o':=0) g hm)
    have HG0:Hid (∀y u,rn= .ok (y,u)→0<gk):=hdn (by intro a u hc;subst hc;have h1:=HFUE.out a u rfl;have h2:=hm.2.1;omega)
    clear hf hm g HSG HGr
    go_wp2_with fail
    go_meet
    exact ⟨acc,_,rn,HAC,hdn (by rw[HAR.out,←HH.out];exact Pa.moreP_end HAC.out ⟨rfl,rfl⟩ HFF.out HG0.out),hdn (by have:=HGA.out;omega),HS0,HGr1⟩
 case rest=>
  obtain ⟨acc,v1,rn,HAC,HAR,HAL,HBa,HGa⟩:=hcut
  clear HB5 HH0 HE4
  obtain ⟨a1,c1,rfl⟩: ∃a0 c0,v1= .slice a0 acc.length c0:=by obtain ⟨ys,_,h2,_⟩:=HGa.out;exact own_shape h2
  go_wp2_with fail
  refine (want_m HC.out ⟨#[41]⟩ (by decide) wc rn HBa.out.m).mono ?_
  rintro en w13 ⟨rfl,g,hm⟩
  obtain ⟨r4,hr4⟩: ∃r:Pr.Res Pc,r=Pr.th rn fun y u=>Pr.th (Pr.must (Pa.ts l) ⟨#[41]⟩ u) fun _ v=>(.ok (y,v):Pr.Res Pc):=⟨_,rfl⟩
  have HB13:Hid (PB w w1 w13 rb sb cap A S 37 zPcs [.string nm,.int .i64 ps,.int .i64 0,.slice a1 acc.length c1,.slice none 0 0,.slice none 0 0] l 0 N r4):=hdn (by rw[hr4];exact HBa.out.call g (m_call (g:=fun y _=>y) hm))
  have HG13:=hdn (HGa.out.par g (by have:=HBa.out.b;omega))
  have HE13:Hid (∀y u,r4= .ok (y,u)→pcA nm ps acc []=y):=hdn (stp_wantP hr4 HAC.out)
  rw[←hr4] at HAR
  clear g hm HBa HGa HAC hr4
  go_wp2_with fail
  refine (want_m HC.out ⟨#[123]⟩ (by decide) w13 r4 HB13.out.m).mono ?_
  rintro en w14 ⟨rfl,g,hm⟩
  obtain ⟨r5,hr5⟩: ∃r:Pr.Res Pc,r=Pr.th r4 fun y u=>Pr.th (Pr.must (Pa.ts l) ⟨#[123]⟩ u) fun _ v=>(.ok (y,v):Pr.Res Pc):=⟨_,rfl⟩
  have HB14:Hid (PB w w1 w14 rb sb cap A S 37 zPcs [.string nm,.int .i64 ps,.int .i64 0,.slice a1 acc.length c1,.slice none 0 0,.slice none 0 0] l 0 N r5):=hdn (by rw[hr5];exact HB13.out.call g (m_call (g:=fun y _=>y) hm))
  have HG14:=hdn (HG13.out.par g (by have:=HB13.out.b;omega))
  have HE14:Hid (∀y u,r5= .ok (y,u)→pcA nm ps acc []=y):=hdn (stp_wantP hr5 HE13.out)
  have HR5:Hid (R=Pr.th r5 fun y u=>Pr.th (Pa.locP l (l.length+1) y u) fun y u=>Pa.tail3 l n y u):=hdn (by
   rw[HR.out,←Pr.th_th,HAR.out,hr5]
   simp only[Pr.th_th,Pr.th_okk];rfl)
  clear g hm HB13 HG13 HE13 hr5 HAR HR
  have hfin:=Kd.fin qDc (by show acc.length*40≤_;have:=HAL.out;have:=HC.out.len;have:=HN8.out;omega) HG14.out
  obtain ⟨sp,hsv,hsl,hsy⟩:=hfin
  have HSV:=hdn hsv
  have HSL:Hid (sp.l=acc):=hdn (by rw[←hsl];exact (List.map_id _).symm)
  have HLY:Hid (declsLie (mid w1.heap.size w14.heap.size w14) sp):=hdn (declsLie_ext mid_of hsy)
  have HMB:Hid (w1.heap.size≤w14.heap.size):=hdn HB14.out.b.2.2.2.2.2.1
  have HGL:Hid (qDc.Gr w14.heap.size [] (.slice none 0 0) w14):=hdn (Kd.Gr.nil qDc (World.ownsRow_nil _ _ _ _))
  obtain ⟨D,hD⟩: ∃D,D=w14.heap.size:=⟨_,rfl⟩
  have HDB:Hid (D≤w14.heap.size):=hdn (Nat.le_of_eq hD)
  rw[←hD] at HLY HGL HMB
  clear hsv hsl hsy hD HG14
  go_wp2_with fail
  go_loopg [] (l.length+1) (fun g wr=> ∃(ls:List Dc) (v2:Value) (rk:Pr.Res Pc),Hid (g+ls.length≤l.length+1)∧Hid (∀y u,rk= .ok (y,u)→pcA nm ps acc ls=y)∧Hid ((Pr.th rk fun y u=>Pa.locP l g y u)=Pr.th r5 fun y u=>Pa.locP l (l.length+1) y u)∧Hid (∀y u,rk= .ok (y,u)→l.length<g+u.i)∧Hid (PB w w1 wr rb sb cap A S 37 zPcs [.string nm,.int .i64 ps,.int .i64 0,.slice a1 acc.length c1,v2,.slice none 0 0] l 0 N rk)∧Hid (qDc.Gr D ls v2 wr)∧Hid (declsLie (mid w1.heap.size D wr) sp)∧Hid (D≤wr.heap.size))
  case atStart=>exact ⟨[],_,r5,hdn (by simp),HE14,hdn rfl,hdn (by intro a u hc;omega),HB14,HGL,HLY,HDB⟩
  case round=>
   clear HB14 HE14 HGL HLY HDB
   obtain ⟨ls,v2,rk,HGA,HAC,HH,HFUE,HSG,HGr,HLY,HDB⟩:=hrel
   obtain ⟨a0,c0,rfl⟩: ∃a0 c0,v2= .slice a0 ls.length c0:=by obtain ⟨ys,_,h2,_⟩:=HGr.out;exact own_shape h2
   go_upto_region 10 with fail
   go_cut [62] from 36 to 62 (fun c wx=>Hid (PB w w1 wx rb sb cap A S 37 zPcs [.string nm,.int .i64 ps,.int .i64 0,.slice a1 acc.length c1,.slice a0 ls.length c0,.slice none 0 0] l 0 N rk)∧Hid (qDc.Gr D ls (.slice a0 ls.length c0) wx)∧Hid (declsLie (mid w1.heap.size D wx) sp)∧Hid (D≤wx.heap.size)∧∃b:Bool,c= .bool b∧Hid ((b=true∧∃y u,rk= .ok (y,u)∧Pr.declares (Pa.ts l) u=true)∨(b=false∧∀y u,rk= .ok (y,u)→Pr.declares (Pa.ts l) u=false)))
   case first=>
    rcases rk with n0 |⟨y1,u1⟩
    ·obtain ⟨k,b,a,e,he,hk,hb0,hb1,h5⟩:=HSG.out.m
     have c5:wr.cell? ⟨rb,5,none⟩=some (.int .i64 e):=h5.blk.cell 5
     have he':(e==0)=false:=by rw[beq_eq_false_iff_ne];exact he
     clear he hk hb0 hb1 h5
     go_wp2_with fail
     go_meet
     exact ⟨HSG,HGr,HLY,HDB,false,rfl,hdn (.inr ⟨rfl,fun y u hc=>by cases hc⟩)⟩
    have c5:wr.cell? ⟨rb,5,none⟩=some (.int .i64 0):=HSG.out.m.1.blk.cell 5
    have HUL:Hid (u1.i<l.length):=hdn HSG.out.m.2.1
    go_wp2_with fail
    refine (is_m HC.out ⟨#[105,110,116]⟩ (by decide) wr _ HSG.out.m).mono ?_
    rintro en w15 ⟨hb,hh⟩
    have HSG15:=hdn (HSG.out.below hb);have HGr15:=hdn (HGr.out.below hb);have HLY15:=hdn (declsLie_ext (mid2_grown (grownBy_of hb none) (fun q hq=>by cases hq)) HLY.out);have HDB15:=hdn (Nat.le_trans HDB.out hb.size)
    clear hb c5 HSG HGr HLY HDB
    rcases hh with ⟨rfl,y2,u2,hrn,hi,hlt⟩|⟨rfl,hf⟩
    ·cases hrn
     have HI:=hdn hi
     clear hi hlt
     go_wp2_with fail
     go_meet
     exact ⟨HSG15,HGr15,HLY15,HDB15,true,rfl,hdn (.inl ⟨rfl,_,_,rfl,by rw[declares_dB HC.out HUL.out,HI.out];rfl⟩)⟩
    have HFI:Hid (Pr.is (Pa.ts l) u1.i ⟨#[105,110,116]⟩=false):=hdn (hf _ _ rfl)
    clear hf
    go_wp2_with fail
    refine (now_m w15 _ HSG15.out.m).mono ?_
    rintro en w16 ⟨hb,z,rfl,hz⟩
    have HZ:Hid (z=rsg l u1.i):=hdn (by rw[rsg_lt HUL.out];exact hz _ _ rfl)
    have HSG16:=hdn (HSG15.out.below hb);have HGr16:=hdn (HGr15.out.below hb);have HLY16:=hdn (declsLie_ext (mid2_grown (grownBy_of hb none) (fun q hq=>by cases hq)) HLY15.out);have HDB16:=hdn (Nat.le_trans HDB15.out hb.size)
    clear hb hz HSG15 HGr15 HLY15 HDB15
    rcases k1:(z.kind==1) with _ |_
    ·go_wp2_with fail;go_meet;exact ⟨HSG16,HGr16,HLY16,HDB16,false,rfl,hdn (.inr ⟨rfl,fun y u hc=>by cases hc;rw[declares_dB HC.out HUL.out,HFI.out,dB_no HZ.out k1];rfl⟩)⟩
    go_wp2_with fail
    refine (later_m w16 _ HSG16.out.m).mono ?_
    rintro en w17 ⟨hb,y,rfl,hy⟩
    have HY:Hid (y=rsg l (u1.i+1)):=hdn (hy _ _ rfl)
    have HSG17:=hdn (HSG16.out.below hb);have HGr17:=hdn (HGr16.out.below hb);have HLY17:=hdn (declsLie_ext (mid2_grown (grownBy_of hb none) (fun q hq=>by cases hq)) HLY16.out);have HDB17:=hdn (Nat.le_trans HDB16.out hb.size)
    clear hb hy HSG16 HGr16 HLY16 HDB16
    rcases k4:(y.kind==4) with _ |_
    ·go_wp2_with fail;go_meet;exact ⟨HSG17,HGr17,HLY17,HDB17,false,rfl,hdn (.inr ⟨rfl,fun y u hc=>by cases hc;rw[declares_dB HC.out HUL.out,HFI.out,dB_of HZ.out HY.out,k1,k4];rfl⟩)⟩
    go_wp2_with fail
    refine (later_m w17 _ HSG17.out.m).mono ?_
    rintro en w18 ⟨hb,y2,rfl,hy⟩
    obtain rfl:y2=y:=(hy _ _ rfl).trans HY.out.symm
    have HSG18:=hdn (HSG17.out.below hb);have HGr18:=hdn (HGr17.out.below hb);have HLY18:=hdn (declsLie_ext (mid2_grown (grownBy_of hb none) (fun q hq=>by cases hq)) HLY17.out);have HDB18:=hdn (Nat.le_trans HDB17.out hb.size)
    clear hb hy HSG17 HGr17 HLY17 HDB17
    rcases kt:(y2.text.toList== [42]) with _ |_
    ·go_wp2_with fail;go_meet;exact ⟨HSG18,HGr18,HLY18,HDB18,false,rfl,hdn (.inr ⟨rfl,fun y u hc=>by cases hc;rw[declares_dB HC.out HUL.out,HFI.out,dB_of HZ.out HY.out,k1,k4,kt];rfl⟩)⟩
    ·go_wp2_with fail;go_meet;exact ⟨HSG18,HGr18,HLY18,HDB18,true,rfl,hdn (.inl ⟨rfl,_,_,rfl,by rw[declares_dB HC.out HUL.out,HFI.out,dB_of HZ.out HY.out,k1,k4,kt];rfl⟩)⟩
   case rest=>
    clear HSG HGr HLY HDB
    obtain ⟨HSG,HGr,HLY,HDB,bd,rfl,HDC⟩:=hcut
    rcases HDC.out with ⟨rfl,y1,u1,hrk,hde⟩|⟨rfl,hno⟩
    ·have HRK:=hdn hrk;have HDE:=hdn hde
     have HG0:Hid (0<gk):=hdn (by subst hrk;have h1:=HFUE.out y1 u1 rfl;have h2:=HSG.out.m.2.1;omega)
     clear hrk hde HDC
     have HQ1:Hid (ls.length+1≤maxLen∧(ls.length+1)*40≤140737488355328):=hdn ⟨by have:=HGA.out;have:=HC.out.len;have:=HN8.out;unfold maxLen;omega,by have:=HGA.out;have:=HC.out.len;have:=HN8.out;omega⟩
     go_upto_region 11 with fail
     have HD:=hdn (HSG.out.below (below_drew (Below.refl _ wc)))
     have HGD:=hdn (HGr.out.below (below_drew (Below.refl _ wc)))
     clear HSG HGr
     have s26:wc.drew.cell? ⟨S,4,none⟩=some (.slice a0 ls.length c0):=HD.out.s.cell 4
     go_region_law (first
      |(go_simp;go_at_call 29;(with_reducible refine (decl_m HC.out _ _ HD.out.m).mono ?_);rintro en w19 ⟨g,vv,dd,rfl,hv,hx,hm⟩;have hvv:vv= .agg (Dc.cells dd).toArray:=hv;clear hv;subst hvv;have HX:=hdn hx;have HS:=hdn (HD.out.call g hm);have HGS:=hdn (HGD.out.par g (by have:=HD.out.b;have:=HMB.out;omega));have s27:w19.cell? ⟨S,4,none⟩=some (.slice a0 ls.length c0):=HS.out.s.cell 4;have s27a: ∀ob,(w19.alloc ob).cell? ⟨S,4,none⟩=some (.slice a0 ls.length c0):=(fun ob=>(World.cell?_alloc_lt _ _ _ HS.out.lt).trans s27);have HLS:=hdn (declsLie_ext (mid2_grown g (fun q hq=> .inl (by injection hq with hq;have:=HD.out.b;omega))) (declsLie_ext (mid2_grown (grownBy_of (show Below wc.heap.size wc wc.drew from below_drew (Below.refl _ wc)) none) (fun q hq=>by cases hq)) HLY.out));have HDS:Hid (D≤w19.heap.size):=hdn (Nat.le_trans HDB.out g.size);clear g hm hx;(try dsimp only))
      |(refine Kd.step_push qDc rfl 23 i0 _ HI0.out (.tmp 64) (.tmp 67) rfl D ls (.slice a0 ls.length c0) rfl HGS.out HDS.out dd rfl trivial HQ1.out.1 HQ1.out.2 ?_;rintro v' w20 hG8 ⟨gg,cc,rfl⟩ hgr8 hown8;have HG8:=hdn hG8;have HS8:=hdn (HS.out.grown hgr8 (fun q hq=>Nat.le_trans HMB.out (hown8 q hq)));have HL8:=hdn (declsLie_ext (mid2_grown hgr8 (fun q hq=> .inr (hown8 q hq))) HLS.out);have HD8:=hdn (Nat.le_trans HDS.out hgr8.size);have s28:w20.cell? ⟨S,4,none⟩=some (.slice a0 ls.length c0):=HS8.out.s.cell 4;have f28:w20.frozen? ⟨S,4,none⟩=false:=HS8.out.s.frozen 4;clear hG8 hgr8 hown8))
     all_goals
      have HN21:Hid (PB w w1 (w20.setCell ⟨S,4,none⟩ (.slice (some ⟨gg,0,none⟩) (ls.length+1) cc)) rb sb cap A S 37 zPcs [.string nm,.int .i64 ps,.int .i64 0,.slice a1 acc.length c1,.slice (some ⟨gg,0,none⟩) (ls.length+1) cc,.slice none 0 0] l 0 N (Pr.th rk fun y u=>Pr.th (Pa.variable_ l u) fun p v=>(.ok (Pa.addL y p,v):Pr.Res Pc))):=hdn ((HS8.out.set 4 (.slice (some ⟨gg,0,none⟩) (ls.length+1) cc)).re (fun h=>m_call (g:=Pa.addL) h))
      have HE21:Hid (∀y u,(Pr.th rk fun y u=>Pr.th (Pa.variable_ l u) fun p v=>(.ok (Pa.addL y p,v):Pr.Res Pc))= .ok (y,u)→pcA nm ps acc (ls++ [dd])=y):=hdn (e_pushP (f:=Pa.addL) HAC.out HX.out)
      have HGN21:=hdn (HG8.out.par (show w20.grownBy (w20.setCell ⟨S,4,none⟩ (.slice (some ⟨gg,0,none⟩) (ls.length+1) cc)) (some S) from grownBy_setC _ ⟨S,4,none⟩ _) (by have:=HS8.out.b;have:=HMB.out;omega))
      have HLN21:=hdn (declsLie_ext (mid2_grown (show w20.grownBy (w20.setCell ⟨S,4,none⟩ (.slice (some ⟨gg,0,none⟩) (ls.length+1) cc)) (some S) from grownBy_setC _ ⟨S,4,none⟩ _) (fun q hq=> .inl (by injection hq with hq;have:=HS8.out.b;omega))) HL8.out)
      have HDN21:=hdn (Nat.le_trans HD8.out (show w20.grownBy (w20.setCell ⟨S,4,none⟩ (.slice (some ⟨gg,0,none⟩) (ls.length+1) cc)) (some S) from grownBy_setC _ ⟨S,4,none⟩ _).size)
      clear HLS HDS HL8 HD8 HLY HDB
      clear HS HGS HG8 HS8 s26 s27 s27a s28 f28 HD HGD HX HQ1
      generalize w20.setCell ⟨S,4,none⟩ (.slice (some ⟨gg,0,none⟩) (ls.length+1) cc)=w21 at HN21 HGN21 HLN21 HDN21 ⊢
      go_wp2_with fail
      refine (want_m HC.out ⟨#[59]⟩ (by decide) w21 _ HN21.out.m).mono ?_
      rintro en w22 ⟨rfl,g,hm⟩
      have HBq:Hid (PB w w1 w22 rb sb cap A S 37 zPcs [.string nm,.int .i64 ps,.int .i64 0,.slice a1 acc.length c1,.slice (some ⟨gg,0,none⟩) (ls.length+1) cc,.slice none 0 0] l 0 N (Pr.th (Pr.th rk fun y u=>Pr.th (Pa.variable_ l u) fun p v=>(.ok (Pa.addL y p,v):Pr.Res Pc)) fun y u=>Pr.th (Pr.must (Pa.ts l) ⟨#[59]⟩ u) fun _ v=>(.ok (y,v):Pr.Res Pc))):=hdn (HN21.out.call g (m_call (g:=fun y _=>y) hm))
      have HGq:=hdn (HGN21.out.par g (by have:=HN21.out.b;have:=HMB.out;omega))
      have HLq:=hdn (declsLie_ext (mid2_grown g (fun q hq=> .inl (by injection hq with hq;have:=HN21.out.b;omega))) HLN21.out)
      have HDq:=hdn (Nat.le_trans HDN21.out g.size)
      have HEq:Hid (∀y u,(Pr.th (Pr.th rk fun y u=>Pr.th (Pa.variable_ l u) fun p v=>(.ok (Pa.addL y p,v):Pr.Res Pc)) fun y u=>Pr.th (Pr.must (Pa.ts l) ⟨#[59]⟩ u) fun _ v=>(.ok (y,v):Pr.Res Pc))= .ok (y,u)→pcA nm ps acc (ls++ [dd])=y):=hdn (stp_wantP rfl HE21.out)
      clear g hm HN21 HE21 HGN21 HLN21 HDN21
      go_wp2_with fail
      go_roundg (gk-1)
      case measure=>have:=HG0.out;omega
      case rel=>
       obtain ⟨gj,hgj⟩: ∃k,gk=k+1:=⟨gk-1,by have:=HG0.out;omega⟩
       refine ⟨ls++ [dd],_,_,hdn ?_,HEq,hdn ?_,hdn ?_,HBq,HGq,HLq,HDq⟩
       ·have:=HGA.out;have:=HG0.out;simp only[List.length_append,List.length_singleton];omega
       ·rw[←HH.out,HRK.out,hgj,Nat.add_sub_cancel];exact (Pa.locP_step HDE.out).symm
       ·intro a u hc;obtain ⟨y,v9,h1,h2⟩:=Pr.th_ok hc;obtain ⟨p9,z9,h3,h4⟩:=Pr.th_ok h2;obtain ⟨y8,v8,h5,h6⟩:=Pr.th_ok h1;obtain ⟨p7,z7,h7,h8⟩:=Pr.th_ok h6;rw[HRK.out] at h5;cases h5;cases h4;cases h8;have h9:=Pa.avar_fwd h7;have h10:=Pr.must_fwd h3;have h11:=HFUE.out _ _ HRK.out;have:=h10.1;omega
    have HNO:=hdn hno
    have HG0:Hid (∀y u,rk= .ok (y,u)→0<gk):=hdn (by intro a u hc;subst hc;have h1:=HFUE.out a u rfl;have h2:=HSG.out.m.2.1;omega)
    have HR6:Hid (R=Pr.th rk fun y u=>Pa.tail3 l n y u):=hdn (by rw[HR5.out,←Pr.th_th,←HH.out,Pa.locP_end HAC.out ⟨rfl,rfl⟩ HNO.out HG0.out])
    clear hno HDC
    go_wp2_with fail
    refine (HSTS.out wc 0 (Pr.th rk fun _ u=>(.ok ((),u):Pr.Res Unit)) (HSG.out.m.as _ (.inl (by rcases rk with n0 |⟨y,u⟩<;>rfl))) (by decide) (by decide) (fun _ _ _=>by decide) (fun x u _=>by have:=HNF.out;omega)).mono ?_
    rintro en w23 ⟨g,vv,sl,rfl,⟨pa,ca,sa,rfl,hs,hl⟩,hx,hm⟩
    subst hs
    obtain ⟨r7,hr7⟩: ∃r:Pr.Res Pc,r=Pr.th rk fun y u=>Pr.th (Pa.rstmts l (Pa.rstmt l) n u) fun b v=>(.ok (({y with body:=b}:Pc),v):Pr.Res Pc):=⟨_,rfl⟩
    have hm2:RM w23 rb sb cap l 0 (N+1) r7:=by rw[hr7];refine m_call (g:=fun (y:Pc) b=>({y with body:=b}:Pc)) ?_;have h9:=hm;rw[Pr.th_th] at h9;exact h9
    have HB23:=hdn (HSG.out.call g hm2)
    have HG23:=hdn (HGr.out.par g (by have:=HSG.out.b;have:=HMB.out;omega))
    have HL23:=hdn (declsLie_ext (mid2_grown g (fun q hq=> .inl (by injection hq with hq;have:=HSG.out.b;omega))) HLY.out)
    have HSB23:=hdn (sLies_ext (fresh_mono (show w1.heap.size≤wc.heap.size from HSG.out.b.2.2.2.2.2.1) _) hl)
    have HE7:Hid (∀y u,r7= .ok (y,u)→({pcA nm ps acc ls with body:=sa.pl}:Pc)=y):=hdn (by
     intro y u hc
     rw[hr7] at hc
     obtain ⟨y1,v1,h1,h2⟩:=Pr.th_ok hc
     obtain ⟨y2,v2,h3,h4⟩:=Pr.th_ok h2
     cases h4
     rw[HAC.out _ _ h1,hx y2 u (by rw[h1];exact h3)])
    have HR7:Hid (R=Pr.th (Pr.th r7 fun y u=>(.ok (({y with fin:=(Pa.sg l u.i).pos}:Pc),u):Pr.Res Pc)) fun y u=>Pr.th (Pr.must (Pa.ts l) ⟨#[125]⟩ u) fun _ v=>(.ok (y,v):Pr.Res Pc)):=hdn (by rw[HR6.out,hr7];unfold Pa.tail3;simp only[Pr.th_th,Pr.th_okk])
    clear g hm hm2 hx hl hr7 HSG HGr HLY HDB HR6 HR5 HH HFUE HNO HG0 HAC
    have c5:w23.cell? ⟨S,5,none⟩=some (.slice none 0 0):=HB23.out.s.cell 5
    have f5:=HB23.out.s.frozen 5
    go_upto_region 14 with fail
    clear c5 f5
    have gS:w23.grownBy (w23.setCell ⟨S,5,none⟩ (.slice pa sa.len ca)) (some S):=grownBy_setC _ ⟨S,5,none⟩ _
    have hSb:=HB23.out.b
    have HB24:Hid (PB w w1 (w23.setCell ⟨S,5,none⟩ (.slice pa sa.len ca)) rb sb cap A S 37 zPcs [.string nm,.int .i64 ps,.int .i64 0,.slice a1 acc.length c1,.slice a0 ls.length c0,.slice pa sa.len ca] l 0 (N+1) r7):=hdn ((HB23.out.set 5 (.slice pa sa.len ca)).re (fun h=>h))
    have HG24:=hdn (HG23.out.par gS (by have:=HMB.out;omega))
    have HL24:=hdn (declsLie_ext (mid2_grown gS (fun q hq=> .inl (by injection hq with hq;omega))) HL23.out)
    have HSB24:=hdn (sLies_ext (fresh_par gS (by omega)) HSB23.out)
    generalize w23.setCell ⟨S,5,none⟩ (.slice pa sa.len ca)=w24 at HB24 HG24 HL24 HSB24 ⊢
    clear gS hSb HB23 HG23 HL23 HSB23
    go_wp2_with fail
    refine (now_m w24 _ HB24.out.m).mono ?_
    rintro en w25 ⟨hb,z,rfl,hz⟩
    have HZ:=hdn hz
    have HB25:=hdn (HB24.out.below hb);have HG25:=hdn (HG24.out.below hb);have HL25:=hdn (declsLie_ext (mid2_grown (grownBy_of hb none) (fun q hq=>by cases hq)) HL24.out);have HSB25:=hdn (sLies_ext (fresh_below hb) HSB24.out)
    clear hb hz HB24 HG24 HL24 HSB24
    have c2:w25.cell? ⟨S,2,none⟩=some (.int .i64 0):=HB25.out.s.cell 2
    have f2:=HB25.out.s.frozen 2
    go_upto_region 15 with fail
    clear c2 f2
    have gS:w25.grownBy (w25.setCell ⟨S,2,none⟩ (.int .i64 z.pos)) (some S):=grownBy_setC _ ⟨S,2,none⟩ _
    have hSb:=HB25.out.b
    have HB26:Hid (PB w w1 (w25.setCell ⟨S,2,none⟩ (.int .i64 z.pos)) rb sb cap A S 37 zPcs [.string nm,.int .i64 ps,.int .i64 z.pos,.slice a1 acc.length c1,.slice a0 ls.length c0,.slice pa sa.len ca] l 0 (N+1) (Pr.th r7 fun y u=>(.ok (({y with fin:=(Pa.sg l u.i).pos}:Pc),u):Pr.Res Pc))):=hdn ((HB25.out.set 2 (.int .i64 z.pos)).re (fun h=>h.as _ (.inl (by rcases r7 with n0 |⟨y,u⟩<;>rfl))))
    have HG26:=hdn (HG25.out.par gS (by have:=HMB.out;omega))
    have HL26:=hdn (declsLie_ext (mid2_grown gS (fun q hq=> .inl (by injection hq with hq;omega))) HL25.out)
    have HSB26:=hdn (sLies_ext (fresh_par gS (by omega)) HSB25.out)
    generalize w25.setCell ⟨S,2,none⟩ (.int .i64 z.pos)=w26 at HB26 HG26 HL26 HSB26 ⊢
    clear gS hSb HB25 HG25 HL25 HSB25
    have HE8:Hid (∀y u,(Pr.th r7 fun y u=>(.ok (({y with fin:=(Pa.sg l u.i).pos}:Pc),u):Pr.Res Pc))= .ok (y,u)→({pcA nm ps acc ls with body:=sa.pl,fin:=z.pos}:Pc)=y):=hdn (by
     intro y u hc
     obtain ⟨y1,v1,h1,h2⟩:=Pr.th_ok hc
     cases h2
     rw[←HE7.out _ _ h1,HZ.out _ _ h1])
    go_wp2_with fail
    refine (want_m HC2.out ⟨#[125]⟩ (by decide) w26 _ HB26.out.m).mono ?_
    rintro en w27 ⟨rfl,g,hm⟩
    have HB27:=hdn (HB26.out.call (rm':=Pr.th (Pr.th r7 fun y u=>(.ok (({y with fin:=(Pa.sg l u.i).pos}:Pc),u):Pr.Res Pc)) fun y u=>Pr.th (Pr.must (Pa.ts l) ⟨#[125]⟩ u) fun _ v=>(.ok (y,v):Pr.Res Pc)) g (m_call (g:=fun y _=>y) hm))
    have HG27:=hdn (HG26.out.par g (by have:=HB26.out.b;have:=HMB.out;omega))
    have HL27:=hdn (declsLie_ext (mid2_grown g (fun q hq=> .inl (by injection hq with hq;have:=HB26.out.b;omega))) HL26.out)
    have HSB27:=hdn (sLies_ext (fresh_par g (by have:=HB26.out.b;omega)) HSB26.out)
    have HE9:Hid (∀y u,R= .ok (y,u)→({pcA nm ps acc ls with body:=sa.pl,fin:=z.pos}:Pc)=y):=hdn (by rw[HR7.out];exact stp_wantP rfl HE8.out)
    rw[←HR7.out] at HB27
    clear g hm HB26 HG26 HL26 HSB26 HE8 HE7
    obtain ⟨sk,hkv,hkl,hky⟩:=Kd.fin qDc (by show ls.length*40≤_;have:=HGA.out;have:=HC.out.len;have:=HN8.out;omega) HG27.out
    have HKL:Hid (sk.l=ls):=hdn (by rw[←hkl];exact (List.map_id _).symm)
    have HKY:Hid (declsLie (fresh D w27) sk):=hdn hky
    obtain ⟨q,hq⟩: ∃q:Pc,q=⟨nm,ps,z.pos,sp,sk,pa,ca,sa⟩:=⟨_,rfl⟩
    have HCQ:Hid (Bk w27 S 37 (Pc.cells q).toArray):=hdn (by have h9:=HB27.out.s;rw[HSV.out,hkv] at h9;rw[hq];exact h9)
    have HQP:Hid (q.pl=({pcA nm ps acc ls with body:=sa.pl,fin:=z.pos}:Pc)):=hdn (by rw[hq];unfold Pc.pl pcA;rw[HSL.out,HKL.out])
    have HQL:Hid (pcLies (fresh w1.heap.size w27) q):=hdn (by rw[hq];exact ⟨declsLie_ext mid2_fresh HL27.out,declsLie_ext (fresh_mono HMB.out _) HKY.out,HSB27.out⟩)
    clear hkv hkl hky hq
    go_wp2_with (first |((with_reducible show wpList _ _ _ (Oper.mk (some _) (Op.load 37 _) _ _ _ _::_) _ _);refine wpList_load_bk rfl 37 (.tmp 3) rfl S 37 (Pc.cells q).toArray rfl _ HCQ.out Tryz.underlying37 rfl size40p ?_)|((with_reducible show wpList _ _ _ (Oper.mk none (Op.store 37 (Operand.tmp 2) _) _ _ _ _::_) _ _);refine wpList_store_bk rfl 37 (.tmp 2) _ rfl A 37 _ (Pc.cells q).toArray rfl rfl HB27.out.a size40p rfl (kPc.one _) ?_;intro wZ hB hF;have HB:=hdn hB;have HF':=hdn hF;clear hB hF))
    refine bodyPost_ret (results_cell_row Tryz.results28 _ wZ A 37 (Pc.cells q).toArray (0,0) _ rfl HB.out Tryz.underlying37 rfl size40p) rfl ?_
    obtain ⟨b1,b2,b3,b4,b5,b6,b7,b8⟩:=HB27.out.b
    exact ⟨grownBy_up HB27.out.g HF'.out (fun q hq=>by injection hq with hq;omega),_,q.pl,rfl,⟨q,rfl,rfl,pcLies_ext ((fresh_par HF'.out b2).trans (fresh_mono (by omega) _)) HQL.out⟩,(fun y u hc=>HQP.out.trans (HE9.out y u hc)),HB27.out.m.far HF'.out (by omega) (by omega)⟩
end
end Go.Proofs.YtcehbcnloiooaaaGreatDoor
namespace Go.Proofs.YtcehbcnloiooaaaGreatDoor
open Go.RowKit Go.Sort
namespace Pr
section
variable {t:List Tk}
end
end Pr
structure P3q (B:Nat) (w:World) (v1 v2 v3:Value) (ss:List Sr) (gs:List Dc) (ps:List Pc):Prop where
 a:qSr.Row B ss v1 (M3 B v1.ownBlock v2.ownBlock v3.ownBlock w) w
 b:qDc.Row B gs v2 (M3 B v1.ownBlock v2.ownBlock v3.ownBlock w) w
 c:qPc.Row B ps v3 (M3 B v1.ownBlock v2.ownBlock v3.ownBlock w) w
 d12: ∀q,v1.ownBlock=some q→v2.ownBlock≠some q
 d13: ∀q,v1.ownBlock=some q→v3.ownBlock≠some q
 d23: ∀q,v2.ownBlock=some q→v3.ownBlock≠some q
section
variable {B:Nat} {w w':World} {v1 v2 v3:Value} {ss:List Sr} {gs:List Dc} {ps:List Pc}
theorem P3q.par {g:Nat} (h:P3q B w v1 v2 v3 ss gs ps) (hg:w.grownBy w' (some g)) (hB:g<B):P3q B w' v1 v2 v3 ss gs ps:=
 ⟨h.a.to (M3.par hg hB) hg (fun q hq e=>by have:=(h.a.lt q hq).1;injection e with e;omega),h.b.to (M3.par hg hB) hg (fun q hq e=>by have:=(h.b.lt q hq).1;injection e with e;omega),h.c.to (M3.par hg hB) hg (fun q hq e=>by have:=(h.c.lt q hq).1;injection e with e;omega),h.d12,h.d13,h.d23⟩
theorem P3q.below (h:P3q B w v1 v2 v3 ss gs ps) (hb:Below w.heap.size w w'):P3q B w' v1 v2 v3 ss gs ps:=
 ⟨h.a.to (M3.below hb) (grownBy_of hb none) (fun _ _ e=>by cases e),h.b.to (M3.below hb) (grownBy_of hb none) (fun _ _ e=>by cases e),h.c.to (M3.below hb) (grownBy_of hb none) (fun _ _ e=>by cases e),h.d12,h.d13,h.d23⟩
theorem P3q.nil (B:Nat) (w:World):P3q B w (.slice none 0 0) (.slice none 0 0) (.slice none 0 0) [] [] []:=
 ⟨⟨[],rfl,World.ownsRow_nil _ _ _ _,by simp⟩,⟨[],rfl,World.ownsRow_nil _ _ _ _,by simp⟩,⟨[],rfl,World.ownsRow_nil _ _ _ _,by simp⟩,(fun _ h=>by cases h),(fun _ h=>by cases h),(fun _ h=>by cases h)⟩
theorem P3q.fresh (h:P3q B w v1 v2 v3 ss gs ps) {B':Nat} (hB:w.heap.size≤B'):Ext (YtcehbcnloiooaaaGreatDoor.fresh B' w') (M3 B v1.ownBlock v2.ownBlock v3.ownBlock w')∨B'<B:=by
 by_cases hl:B'<B
 ·exact .inr hl
 ·exact .inl (M3.of_fresh (by omega) (fun q hq=>by have:=(h.a.lt q hq).2;omega) (fun q hq=>by have:=(h.b.lt q hq).2;omega) (fun q hq=>by have:=(h.c.lt q hq).2;omega))
theorem P3q.push1 {g cap:Nat} {y:Sr} {ys:List Sr} (h:P3q B w v1 v2 v3 ss gs ps) (h1:ys.map qSr.er=ss) (h3: ∀y∈ys,qSr.R (M3 B v1.ownBlock v2.ownBlock v3.ownBlock w) y) (hy:qSr.R (M3 B v1.ownBlock v2.ownBlock v3.ownBlock w) y)
  (ho:w'.ownsRow B 67 3 (.slice (some ⟨g,0,none⟩) (ss.length+1) cap) (ss.length+1) (ys.flatMap Sr.cells++y.cells)) (hg:w.grownBy w' v1.ownBlock) (hat:v1.ownBlock=some g∨w.heap.size≤g):P3q B w' (.slice (some ⟨g,0,none⟩) (ss.length+1) cap) v2 v3 (ss++ [qSr.er y]) gs ps:=by
 have hx:Ext (M3 B v1.ownBlock v2.ownBlock v3.ownBlock w) (M3 B (some g) v2.ownBlock v3.ownBlock w'):=M3.push1 hg hat
 refine ⟨Kd.Row.add (K:=qSr) h1 (fun z hz=>qSr.ext z hx (h3 z hz)) (qSr.ext y hx hy) ho,h.b.to hx hg (fun q hq e=>h.d12 q e hq),h.c.to hx hg (fun q hq e=>h.d13 q e hq), ?_, ?_,h.d23⟩
 ·intro q hq e
  injection hq with hq;subst hq
  rcases hat with hat |hat
  ·exact h.d12 _ hat e
  ·have:=(h.b.lt _ e).2;simp only at this;omega
 ·intro q hq e
  injection hq with hq;subst hq
  rcases hat with hat |hat
  ·exact h.d13 _ hat e
  ·have:=(h.c.lt _ e).2;simp only at this;omega
theorem P3q.push2 {g cap:Nat} {y:Dc} {ys:List Dc} (h:P3q B w v1 v2 v3 ss gs ps) (h1:ys.map qDc.er=gs) (h3: ∀y∈ys,qDc.R (M3 B v1.ownBlock v2.ownBlock v3.ownBlock w) y) (hy:qDc.R (M3 B v1.ownBlock v2.ownBlock v3.ownBlock w) y)
  (ho:w'.ownsRow B 65 3 (.slice (some ⟨g,0,none⟩) (gs.length+1) cap) (gs.length+1) (ys.flatMap Dc.cells++y.cells)) (hg:w.grownBy w' v2.ownBlock) (hat:v2.ownBlock=some g∨w.heap.size≤g):P3q B w' v1 (.slice (some ⟨g,0,none⟩) (gs.length+1) cap) v3 ss (gs++ [qDc.er y]) ps:=by
 have hx:Ext (M3 B v1.ownBlock v2.ownBlock v3.ownBlock w) (M3 B v1.ownBlock (some g) v3.ownBlock w'):=M3.push2 hg hat
 refine ⟨h.a.to hx hg (fun q hq e=>h.d12 q hq e),Kd.Row.add (K:=qDc) h1 (fun z hz=>qDc.ext z hx (h3 z hz)) (qDc.ext y hx hy) ho,h.c.to hx hg (fun q hq e=>h.d23 q e hq), ?_,h.d13, ?_⟩
 ·intro q hq e
  injection e with e;subst e
  rcases hat with hat |hat
  ·exact h.d12 _ hq hat
  ·have:=(h.a.lt _ hq).2;simp only at this;omega
 ·intro q hq e
  injection hq with hq;subst hq
  rcases hat with hat |hat
  ·exact h.d23 _ hat e
  ·have:=(h.c.lt _ e).2;simp only at this;omega
theorem P3q.push3 {g cap:Nat} {y:Pc} {ys:List Pc} (h:P3q B w v1 v2 v3 ss gs ps) (h1:ys.map qPc.er=ps) (h3: ∀y∈ys,qPc.R (M3 B v1.ownBlock v2.ownBlock v3.ownBlock w) y) (hy:qPc.R (M3 B v1.ownBlock v2.ownBlock v3.ownBlock w) y)
  (ho:w'.ownsRow B 37 6 (.slice (some ⟨g,0,none⟩) (ps.length+1) cap) (ps.length+1) (ys.flatMap Pc.cells++y.cells)) (hg:w.grownBy w' v3.ownBlock) (hat:v3.ownBlock=some g∨w.heap.size≤g):P3q B w' v1 v2 (.slice (some ⟨g,0,none⟩) (ps.length+1) cap) ss gs (ps++ [qPc.er y]):=by
 have hx:Ext (M3 B v1.ownBlock v2.ownBlock v3.ownBlock w) (M3 B v1.ownBlock v2.ownBlock (some g) w'):=M3.push3 hg hat
 refine ⟨h.a.to hx hg (fun q hq e=>h.d13 q hq e),h.b.to hx hg (fun q hq e=>h.d23 q hq e),Kd.Row.add (K:=qPc) h1 (fun z hz=>qPc.ext z hx (h3 z hz)) (qPc.ext y hx hy) ho,h.d12, ?_, ?_⟩
 ·intro q hq e
  injection e with e;subst e
  rcases hat with hat |hat
  ·exact h.d13 _ hq hat
  ·have:=(h.a.lt _ hq).2;simp only at this;omega
 ·intro q hq e
  injection e with e;subst e
  rcases hat with hat |hat
  ·exact h.d23 _ hq hat
  ·have:=(h.b.lt _ hq).2;simp only at this;omega
end
end Go.Proofs.YtcehbcnloiooaaaGreatDoor
namespace Go.Proofs.YtcehbcnloiooaaaGreatDoor
open Go.RowKit Go.Sort
structure PC {β:Type} (w0 w1 w:World) (rb sb cap A S:Nat) (z cs:List Value) (l:List Tx.Sg) (N:Nat) (rm:Pr.Res β):Prop where
 m:RM w rb sb cap l 0 N rm
 a:Bk w A 26 z.toArray
 s:Bk w S 26 cs.toArray
 g:Below w0.heap.size w0 w
 b:w0.heap.size≤A∧A<w1.heap.size∧S<w1.heap.size∧A≠S∧w0.heap.size≤S∧w1.heap.size≤w.heap.size∧w0.heap.size≤rb∧rb<w1.heap.size∧sb<w1.heap.size∧A≠rb∧A≠sb∧S≠rb∧S≠sb
section
variable {β γ:Type} {w0 w1 w w':World} {rb sb cap A S:Nat} {z cs:List Value} {l:List Tx.Sg} {N N':Nat} {rm:Pr.Res β} {rm':Pr.Res γ}
theorem PC.call (h:PC w0 w1 w rb sb cap A S z cs l N rm) (g:w.grownBy w' (some rb)) (m:RM w' rb sb cap l 0 N' rm'):PC w0 w1 w' rb sb cap A S z cs l N' rm':=by
 obtain ⟨b1,b2,b3,b4,b5,b6,b7,b8,b9,c1,c2,c3,c4⟩:=h.b
 exact ⟨m,h.a.kept g c1,h.s.kept g c3,below_by h.g g b7,⟨b1,b2,b3,b4,b5,Nat.le_trans b6 g.size,b7,b8,b9,c1,c2,c3,c4⟩⟩
theorem PC.below (h:PC w0 w1 w rb sb cap A S z cs l N rm) (hb:Below w.heap.size w w'):PC w0 w1 w' rb sb cap A S z cs l N rm:=h.call (grownBy_of hb _) (h.m.below hb)
theorem PC.re (h:PC w0 w1 w rb sb cap A S z cs l N rm) (hm:RM w rb sb cap l 0 N rm→RM w rb sb cap l 0 N' rm'):PC w0 w1 w rb sb cap A S z cs l N' rm':=⟨hm h.m,h.a,h.s,h.g,h.b⟩
theorem PC.set (h:PC w0 w1 w rb sb cap A S z cs l N rm) (i:Nat) (v:Value):PC w0 w1 (w.setCell ⟨S,i,none⟩ v) rb sb cap A S z (cs.set i v) l N rm:=by
 obtain ⟨b1,b2,b3,b4,b5,b6,b7,b8,b9,c1,c2,c3,c4⟩:=h.b
 have gS:w.grownBy (w.setCell ⟨S,i,none⟩ v) (some S):=grownBy_setC w ⟨S,i,none⟩ v
 exact ⟨h.m.far gS c3 c4,h.a.kept gS b4,by have:=h.s.set_ i v;rwa[List.setIfInBounds_toArray] at this,below_by h.g gS b5,⟨b1,b2,b3,b4,b5,Nat.le_trans b6 gS.size,b7,b8,b9,c1,c2,c3,c4⟩⟩
theorem PC.grown (h:PC w0 w1 w rb sb cap A S z cs l N rm) {v:Value} (hgr:w.grownBy w' v.ownBlock) (hown: ∀q,v.ownBlock=some q→w1.heap.size≤q):PC w0 w1 w' rb sb cap A S z cs l N rm:=by
 obtain ⟨b1,b2,b3,b4,b5,b6,b7,b8,b9,c1,c2,c3,c4⟩:=h.b
 exact ⟨h.m.grown hgr (fun q hq=>by have:=hown q hq;omega),h.a.grown hgr (fun q hq=>by have:=hown q hq;omega),h.s.grown hgr (fun q hq=>by have:=hown q hq;omega),h.g.grown hgr (by have:=h.g.size;omega) (fun q hq=>by have:=hown q hq;omega),⟨b1,b2,b3,b4,b5,Nat.le_trans b6 hgr.size,b7,b8,b9,c1,c2,c3,c4⟩⟩
theorem PC.lt (h:PC w0 w1 w rb sb cap A S z cs l N rm):S<w.heap.size:=h.s.lt
theorem PC.okN {x:β} {u:Pr.St} (h:PC w0 w1 w rb sb cap A S z cs l N (.ok (x,u):Pr.Res β)) (N':Nat):PC w0 w1 w rb sb cap A S z cs l N' (.ok (x,u):Pr.Res β):=⟨⟨h.m.1,h.m.2⟩,h.a,h.s,h.g,h.b⟩
end
def pg3 (ss:List Sr) (gs:List Dc) (ps:List Pc):Pg:=⟨⟨none,0,ss⟩,⟨none,0,gs⟩,⟨none,0,ps⟩⟩
namespace Pa
open Pr (St Res th)
section
variable (l:List Tx.Sg)
def rprog (n:Nat):Nat→List Sr→List Dc→List Pc→St→Res Pg
 |0,_,_,_,_=> .error (0,0)
 |g+1,ss,gs,ps,u=>
  if (sg l u.i).kind=0 then .ok (pg3 ss gs ps,u)
  else if Pr.is (ts l) u.i ⟨#[115,116,114,117,99,116]⟩ then (th (strct l u.go) fun x u=>rprog n g (ss++ [x]) gs ps u)
  else if Pr.is (ts l) u.i ⟨#[118,111,105,100]⟩ then (th (rproc l n u.go) fun x u=>rprog n g ss gs (ps++ [x]) u)
  else (th (decl l u) fun x u=>rprog n g ss (gs++ [x]) ps u)
def progP (n g:Nat) (y:Pg) (u:St):Res Pg:=rprog l n g y.structs.l y.globals.l y.procs.l u
end
def addS (y:Pg) (x:Sr):Pg:=pg3 (y.structs.l++ [x]) y.globals.l y.procs.l
def addG (y:Pg) (x:Dc):Pg:=pg3 y.structs.l (y.globals.l++ [x]) y.procs.l
def addQ (y:Pg) (x:Pc):Pg:=pg3 y.structs.l y.globals.l (y.procs.l++ [x])
variable {l:List Tx.Sg} {n g:Nat} {y:Pg} {u:St}
theorem progP_end (hk:(sg l u.i).kind=0):progP l n (g+1) y u= .ok (pg3 y.structs.l y.globals.l y.procs.l,u):=by
 unfold progP;rw[rprog,if_pos hk]
theorem progP_s (hk:(sg l u.i).kind≠0) (h1:Pr.is (ts l) u.i ⟨#[115,116,114,117,99,116]⟩=true):
  progP l n (g+1) y u=th (th (.ok (y,u.go):Res Pg) fun y u=>th (strct l u) fun x v=>(.ok (addS y x,v):Res Pg)) fun y u=>progP l n g y u:=by
 unfold progP;rw[rprog,if_neg hk,if_pos h1];simp only[Pr.th_th,Pr.th_okk];rfl
theorem progP_p (hk:(sg l u.i).kind≠0) (h1:Pr.is (ts l) u.i ⟨#[115,116,114,117,99,116]⟩=false) (h2:Pr.is (ts l) u.i ⟨#[118,111,105,100]⟩=true):
  progP l n (g+1) y u=th (th (.ok (y,u.go):Res Pg) fun y u=>th (rproc l n u) fun x v=>(.ok (addQ y x,v):Res Pg)) fun y u=>progP l n g y u:=by
 unfold progP;rw[rprog,if_neg hk,if_neg (by rw[h1];decide),if_pos h2];simp only[Pr.th_th,Pr.th_okk];rfl
theorem progP_g (hk:(sg l u.i).kind≠0) (h1:Pr.is (ts l) u.i ⟨#[115,116,114,117,99,116]⟩=false) (h2:Pr.is (ts l) u.i ⟨#[118,111,105,100]⟩=false):
  progP l n (g+1) y u=th (th (th (.ok (y,u):Res Pg) fun y u=>th (variable_ l u) fun x v=>(.ok (addG y x,v):Res Pg)) fun y u=>th (Pr.must (ts l) ⟨#[59]⟩ u) fun _ v=>(.ok (y,v):Res Pg)) fun y u=>progP l n g y u:=by
 unfold progP;rw[rprog,if_neg hk,if_neg (by rw[h1];decide),if_neg (by rw[h2];decide)];unfold decl;simp only[Pr.th_th,Pr.th_okk];rfl
theorem fields_go: ∀(n:Nat) (acc:List Dc) (u:St) {a:List Dc} {v:St},fields l n acc u= .ok (a,v)→u.i≤v.i
 |0,acc,u,a,v,h=>by cases h
 |n+1,acc,u,a,v,h=>by
  unfold fields at h
  split at h
  ·cases h;simp only[St.go];omega
  ·obtain ⟨d,u1,h1,h2⟩:=Pr.th_ok h
   obtain ⟨t,u2,h3,h4⟩:=Pr.th_ok h2
   have h5:=fields_go n _ _ h4
   have h6:=(Pr.must_fwd h3).1
   have h7:u.i≤u1.i:=by
    unfold pointer at h1
    obtain ⟨a1,b1,e1,h1⟩:=Pr.th_ok h1
    obtain ⟨a2,b2,e2,h1⟩:=Pr.th_ok h1
    obtain ⟨a3,b3,e3,h1⟩:=Pr.th_ok h1
    cases h1
    have:=name_go e1;have:=must_go e2;have:=name_go e3;omega
   omega
theorem strct_go {x:Sr} {v:St} (h:strct l u= .ok (x,v)):u.i≤v.i:=by
 unfold strct at h
 obtain ⟨a1,b1,e1,h⟩:=Pr.th_ok h
 obtain ⟨a2,b2,e2,h⟩:=Pr.th_ok h
 obtain ⟨a3,b3,e3,h⟩:=Pr.th_ok h
 cases h
 have:=name_go e1;have:=must_go e2;have:=fields_go _ _ _ e3;omega
theorem more_go: ∀(n:Nat) (acc:List Dc) (u:St) {a:List Dc} {v:St},Pr.more (ts l) (variable_ l) n acc u= .ok (a,v)→u.i≤v.i
 |0,acc,u,a,v,h=>by cases h
 |n+1,acc,u,a,v,h=>by
  rw[Pr.more] at h
  split at h
  ·obtain ⟨d,u1,h1,h2⟩:=Pr.th_ok h
   have h3:=avar_fwd h1
   have h4:=more_go n _ _ h2
   simp only[St.go] at h3;omega
  ·obtain ⟨d,u1,h1,h2⟩:=Pr.th_ok h
   cases h2
   have:=(Pr.must_fwd h1).1;omega
theorem locals_go: ∀(n:Nat) (acc:List Dc) (u:St) {a:List Dc} {v:St},locals l n acc u= .ok (a,v)→u.i≤v.i
 |0,acc,u,a,v,h=>by cases h
 |n+1,acc,u,a,v,h=>by
  rw[locals] at h
  split at h
  ·obtain ⟨d,u1,h1,h2⟩:=Pr.th_ok h
   unfold decl at h1
   obtain ⟨d2,u2,h3,h1⟩:=Pr.th_ok h1
   obtain ⟨d3,u3,h4,h1⟩:=Pr.th_ok h1
   cases h1
   have h5:=avar_fwd h3
   have h6:=(Pr.must_fwd h4).1
   have h7:=locals_go n _ _ h2
   omega
  ·cases h;exact Nat.le_refl _
theorem rproc_go {x:Pc} {v:St} (h:rproc l n u= .ok (x,v)):u.i≤v.i:=by
 unfold rproc at h
 obtain ⟨a1,b1,e1,h⟩:=Pr.th_ok h
 obtain ⟨a2,b2,e2,h⟩:=Pr.th_ok h
 obtain ⟨a3,b3,e3,h⟩:=Pr.th_ok h
 obtain ⟨a4,b4,e4,h⟩:=Pr.th_ok h
 obtain ⟨a5,b5,e5,h⟩:=Pr.th_ok h
 obtain ⟨a6,b6,e6,h⟩:=Pr.th_ok h
 cases h
 have h2:b1.i≤b2.i:=by
  unfold Pr.listed at e2
  obtain ⟨c1,d1,f1,e2⟩:=Pr.th_ok e2
  have:=(Pr.must_fwd f1).1
  split at e2
  ·cases e2;simp only[St.go];omega
  ·obtain ⟨c2,d2,f2,e2⟩:=Pr.th_ok e2
   have:=avar_fwd f2;have:=more_go _ _ _ e2;omega
 have:=name_go e1;have:=(Pr.must_fwd e3).1;have:=locals_go _ _ _ e4;have:=(rstmts_stp _ _ _ _ e5).1;have:=(Pr.must_fwd e6).1;omega
end Pa
section
variable {α:Type} {l:List Tx.Sg}
theorem e_pushG {δ ε:Type} {r:Pr.Res Pg} {x:Pg} {d:δ} {f:Pg→δ→Pg} {k:Pr.St→Pr.Res δ} {g:ε→δ} {e:ε} (he: ∀a u,r= .ok (a,u)→x=a) (hx: ∀y u,(Pr.th r fun _ u=>k u)= .ok (y,u)→d=y) (hy:g e=d):
  ∀a u,(Pr.th r fun y u=>Pr.th (k u) fun p v=>(.ok (f y p,v):Pr.Res Pg))= .ok (a,u)→f x (g e)=a:=by
 intro a u hc
 obtain ⟨y,v,h1,h2⟩:=Pr.th_ok hc
 obtain ⟨p,z,h3,h4⟩:=Pr.th_ok h2
 cases h4
 rw[he y v h1,hy,hx p u (by rw[h1];exact h3)]
end
def zPg:List Value:= [.slice none 0 0,.slice none 0 0,.slice none 0 0]
theorem qinfSr: ∃i z,qSr.Inf Tryz.prog 22 i z:=by
 obtain ⟨i,h⟩:=infSr
 exact ⟨i,_,⟨h.und,h.info,h.zero,h.size,h.bytes,h.cells,h.pos⟩⟩
theorem qinfPc: ∃i z,qPc.Inf Tryz.prog 24 i z:=by
 obtain ⟨i,h⟩:=infPc
 exact ⟨i,_,⟨h.und,h.info,h.zero,h.size,h.bytes,h.cells,h.pos⟩⟩
def RfQ (e0:Int) (R:Pr.Res Pg) (B:Nat) (w w':World) (en:Ending):Prop:= ∃(p:Pg) (at_ e:Int),en= .returned (.tuple #[.agg (Pg.cells p).toArray,.int .i64 at_,.int .i64 e])∧Below B w w'∧
 ((e=0∧e0=0∧(∃u,R= .ok (pg3 (p.structs.l.map qSr.er) (p.globals.l.map qDc.er) (p.procs.l.map qPc.er),u))∧pgLies (fresh B w') p)∨
 (e≠0∧(e0≠0∨∃n,R= .error n)))
def RfPost (s:ByteArray) (B:Nat) (w w':World) (en:Ending):Prop:=
 RfQ (Tx.alls s).2.2 (Pa.rprog (Tx.alls s).1 ((Tx.alls s).1.length+1) ((Tx.alls s).1.length+1) [] [] [] ⟨0,0,0⟩) B w w' en
end Go.Proofs.YtcehbcnloiooaaaGreatDoor
