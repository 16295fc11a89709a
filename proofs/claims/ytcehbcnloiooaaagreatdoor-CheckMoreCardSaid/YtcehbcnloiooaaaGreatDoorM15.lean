/-
  The document's reader: conditions. The document's reader: structs. The document's reader: statements in braces. The document's reader: statements one after the other. The document's reader: a text opened. Plain: a statement as the document's reader takes it. Plain: the document's reader of statement
-/
import Derived.Test.YtcehbcnloiooaaaGreatDoorM14
import Derived.Test.YtcehbcnloiooaaaGreatDoorM06
set_option maxHeartbeats 6400000
set_option maxRecDepth 100000
namespace Go.Proofs.YtcehbcnloiooaaaGreatDoor
open Go.RowKit Go.Sort
attribute [local go_sem] field72_0 field72_1 field72_2 field72_3
def Vl.pl (x:Vl):Vl:= {x with path:=⟨x.path.name,x.path.pos,⟨none,0,x.path.hops.l⟩⟩}
def qCd:Kd Cd:=⟨60,26,304,Cd.cells,fun x=>⟨x.kind,x.pos,x.left.pl,x.right.pl⟩,fun w x=>vlLies w x.left∧vlLies w x.right,fun _=>rfl,fun _=>by simp[Value.oneCell'],fun _ h k=>⟨vlLies_ext h k.1,vlLies_ext h k.2⟩⟩
section
variable {α:Type} {rb sb cap:Nat} {l:List Tx.Sg} {o:Int} {N:Nat}
theorem cond_fin {β:Type} {r0:Pr.Res α} {rR:Pr.Res β} {k:Int} {z:Tx.Sg} {x1 x2:Vl} (hf: ∀x u,r0= .ok (x,u)→Pr.is (Pa.ts l) u.i ⟨#[63]⟩=false) (hz: ∀x u,r0= .ok (x,u)→z=Pa.sg l u.i)
  (hx1: ∀y u,(Pr.th r0 fun _ u=>Pa.side l u)= .ok (y,u)→x1=y) (hrel:(Pr.th (Pr.th r0 fun _ u=>Pa.side l u) fun _ u=>Pr.relation (Pa.ts l) u)=Pr.th rR fun _ u=> .ok (k,u))
  (hx2: ∀y u,(Pr.th rR fun _ u=>Pa.side l u)= .ok (y,u)→x2=y):
  (∀c v,(Pr.th r0 fun _ u=>Pa.cond l u)= .ok (c,v)→(⟨k,z.pos,x1,x2⟩:Cd)=c)∧
  ((Pr.th (Pr.th rR fun _ u=>Pa.side l u) fun _ u=> .ok ((),u))=(Pr.th (Pr.th r0 fun _ u=>Pa.cond l u) fun _ u=> .ok ((),u))∨((∃n,(Pr.th rR fun _ u=>Pa.side l u)= .error n)∧∃n,(Pr.th r0 fun _ u=>Pa.cond l u)= .error n)):=by
 have herr: ∀n,(.error n:Pr.Res Int)=(Pr.th rR fun _ u=> .ok (k,u))→∃m,rR= .error m:=by
  intro n hn;rcases rR with m |⟨y,u⟩
  ·exact ⟨m,rfl⟩
  ·cases hn
 rcases r0 with n |⟨x0,u⟩
 ·obtain ⟨m,rfl⟩:=herr n hrel
  exact ⟨(by intro c v hc;cases hc),.inr ⟨⟨m,rfl⟩,⟨n,rfl⟩⟩⟩
 have hv:(Pr.th (Except.ok (x0,u)) fun _ u=>Pa.cond l u)=Pr.th (Pa.side l u) fun x v=>Pr.th (Pr.relation (Pa.ts l) v) fun k v=>Pr.th (Pa.side l v) fun y v=> .ok (⟨k,(Pa.sg l u.i).pos,x,y⟩,v):=by
  show Pa.cond l u=_;unfold Pa.cond;rw[if_neg (by rw[hf _ _ rfl];decide)]
 rw[hv]
 change (Pr.th (Pa.side l u) _)=_ at hrel
 change∀y v,Pa.side l u= .ok (y,v)→x1=y at hx1
 rcases q1:Pa.side l u with n |⟨y1,u1⟩
 ·rw[q1] at hrel
  obtain ⟨m,rfl⟩:=herr n hrel
  exact ⟨(by intro c v hc;cases hc),.inr ⟨⟨m,rfl⟩,⟨n,rfl⟩⟩⟩
 rw[q1] at hrel
 change Pr.relation (Pa.ts l) u1=_ at hrel
 show (∀c v,(Pr.th (Pr.relation (Pa.ts l) u1) _)=_→_)∧(_=Pr.th (Pr.th (Pr.relation (Pa.ts l) u1) _) _∨(_∧∃n,Pr.th (Pr.relation (Pa.ts l) u1) _=_))
 rw[hrel]
 rcases rR with n |⟨b,u2⟩
 ·exact ⟨(by intro c v hc;cases hc),.inr ⟨⟨n,rfl⟩,⟨n,rfl⟩⟩⟩
 change∀y v,Pa.side l u2= .ok (y,v)→x2=y at hx2
 show (∀c v,(Pr.th (Pa.side l u2) _)=_→_)∧(Pr.th (Pa.side l u2) _=Pr.th (Pr.th (Pa.side l u2) _) _∨_)
 rcases q2:Pa.side l u2 with n |⟨y2,u3⟩
 ·exact ⟨(by intro c v hc;cases hc),.inl rfl⟩
 ·refine ⟨?_,.inl rfl⟩
  intro c v hc
  injection hc with hc;injection hc with h3 h4
  rw[←h3,hx1 y1 u1 q1,hx2 y2 u3 q2,hz x0 u rfl]
theorem cond_m (C:RC l N) (w:World) (r0:Pr.Res α) (h:RM w rb sb cap l o N r0):
  Calls Tryz.prog 110 #[.pointer (some ⟨rb,0,none⟩)] w (RP (qCd.Val w.heap.size) w rb sb cap l o N (Pr.th r0 fun _ u=>Pa.cond l u)):=by
 have HC:=hdn C
 obtain ⟨r,hr⟩: ∃r,r=Pr.th r0 fun _ u=>Pa.cond l u:=⟨_,rfl⟩
 rw[←hr]
 have HR:=hdn hr
 have hn:Below w.heap.size w (w.alloc (.cells #[.int .i64 0,.int .i64 0,.int .i64 0,.int .i64 0,.string ByteArray.empty,.int .i64 0,.slice none 0 0,.string ByteArray.empty,.string ByteArray.empty,.int .i64 0,.int .i64 0,.string ByteArray.empty,.int .i64 0,.int .i64 0,.int .i64 0,.int .i64 0,.string ByteArray.empty,.int .i64 0,.slice none 0 0,.string ByteArray.empty,.string ByteArray.empty,.int .i64 0,.int .i64 0,.string ByteArray.empty,.int .i64 0,.int .i64 0] 60)):=(Below.refl _ _).alloc (Nat.le_refl _) _
 have HM:=hdn (h.below hn)
 have HK:Hid (Bk (w.alloc (.cells #[.int .i64 0,.int .i64 0,.int .i64 0,.int .i64 0,.string ByteArray.empty,.int .i64 0,.slice none 0 0,.string ByteArray.empty,.string ByteArray.empty,.int .i64 0,.int .i64 0,.string ByteArray.empty,.int .i64 0,.int .i64 0,.int .i64 0,.int .i64 0,.string ByteArray.empty,.int .i64 0,.slice none 0 0,.string ByteArray.empty,.string ByteArray.empty,.int .i64 0,.int .i64 0,.string ByteArray.empty,.int .i64 0,.int .i64 0] 60)) w.heap.size 60 (Cd.cells Pr.noCd).toArray):=hdn (heap_alloc_new _ _)
 have HNE:Hid (w.heap.size≠rb∧w.heap.size≠sb):=hdn ⟨by have:=h.rb_lt;omega,by have:=h.sb_lt;omega⟩
 have HG:Hid (w.grownBy (w.alloc (.cells #[.int .i64 0,.int .i64 0,.int .i64 0,.int .i64 0,.string ByteArray.empty,.int .i64 0,.slice none 0 0,.string ByteArray.empty,.string ByteArray.empty,.int .i64 0,.int .i64 0,.string ByteArray.empty,.int .i64 0,.int .i64 0,.int .i64 0,.int .i64 0,.string ByteArray.empty,.int .i64 0,.slice none 0 0,.string ByteArray.empty,.string ByteArray.empty,.int .i64 0,.int .i64 0,.string ByteArray.empty,.int .i64 0,.int .i64 0] 60)) (some rb)):=hdn (grownBy_of hn _)
 generalize hwA:w.alloc (.cells #[.int .i64 0,.int .i64 0,.int .i64 0,.int .i64 0,.string ByteArray.empty,.int .i64 0,.slice none 0 0,.string ByteArray.empty,.string ByteArray.empty,.int .i64 0,.int .i64 0,.string ByteArray.empty,.int .i64 0,.int .i64 0,.int .i64 0,.int .i64 0,.string ByteArray.empty,.int .i64 0,.slice none 0 0,.string ByteArray.empty,.string ByteArray.empty,.int .i64 0,.int .i64 0,.string ByteArray.empty,.int .i64 0,.int .i64 0] 60)=wA at HM HK HG
 clear h hr hn
 go_enter Tryz.func110,Tryz.ntmps110
 go_upto_region 1 with fail
 rw[show w.alloc (.cells #[.int .i64 0,.int .i64 0,.int .i64 0,.int .i64 0,.string ⟨#[]⟩,.int .i64 0,.slice none 0 0,.string ⟨#[]⟩,.string ⟨#[]⟩,.int .i64 0,.int .i64 0,.string ⟨#[]⟩,.int .i64 0,.int .i64 0,.int .i64 0,.int .i64 0,.string ⟨#[]⟩,.int .i64 0,.slice none 0 0,.string ⟨#[]⟩,.string ⟨#[]⟩,.int .i64 0,.int .i64 0,.string ⟨#[]⟩,.int .i64 0,.int .i64 0] 60)=wA from hwA]
 clear hwA
 obtain ⟨A,hA⟩: ∃A,A=w.heap.size:=⟨_,rfl⟩
 have HA:=hdn hA
 rw[←hA] at HK HNE ⊢
 clear hA
 go_wp2_with fail
 refine (now_m wA r0 HM.out).mono ?_
 rintro en w2 ⟨hb,z,rfl,hz⟩
 have HZ:=hdn hz
 have HM2:=hdn (HM.out.below hb);have HK2:=hdn (HK.out.below hb HK.out.lt);have HG2:=hdn (grownBy_below HG.out hb)
 clear hb hz HM HK HG
 go_upto_region 2 with (first |((with_reducible show wpList _ _ _ (Oper.mk none (Op.store 60 _ _) _ _ _ _::_) _ _);refine wpList_store_new rfl 60 (.tmp 3) (.tmp 7) rfl _ #[.int .i64 0,.int .i64 z.pos,.int .i64 0,.int .i64 0,.string ⟨#[]⟩,.int .i64 0,.slice none 0 0,.string ⟨#[]⟩,.string ⟨#[]⟩,.int .i64 0,.int .i64 0,.string ⟨#[]⟩,.int .i64 0,.int .i64 0,.int .i64 0,.int .i64 0,.string ⟨#[]⟩,.int .i64 0,.slice none 0 0,.string ⟨#[]⟩,.string ⟨#[]⟩,.int .i64 0,.int .i64 0,.string ⟨#[]⟩,.int .i64 0,.int .i64 0] rfl rfl size49 rfl (kCd.one {Pr.noCd with pos:=(z.pos:Int)}) ?_))
 change Code.wp _ _ _ _ (w2.alloc (.cells (Cd.cells {Pr.noCd with pos:=(z.pos:Int)}).toArray 60))
 have hm:Below w2.heap.size w2 (w2.alloc (.cells (Cd.cells {Pr.noCd with pos:=(z.pos:Int)}).toArray 60)):=(Below.refl _ _).alloc (Nat.le_refl _) _
 have HM3:=hdn (HM2.out.below hm)
 have HK3:=hdn (HK2.out.below hm HK2.out.lt)
 have HS3:Hid (Bk (w2.alloc (.cells (Cd.cells {Pr.noCd with pos:=(z.pos:Int)}).toArray 60)) w2.heap.size 60 (Cd.cells {Pr.noCd with pos:=(z.pos:Int)}).toArray):=hdn (heap_alloc_new _ _)
 have HG3:=hdn (grownBy_below HG2.out hm)
 have HNS:Hid (w2.heap.size≠rb∧w2.heap.size≠sb∧A≠w2.heap.size∧w.heap.size≤w2.heap.size):=hdn ⟨by have:=HM2.out.rb_lt;omega,by have:=HM2.out.sb_lt;omega,by have:=HK2.out.lt;omega,HG2.out.size⟩
 generalize w2.alloc (.cells (Cd.cells {Pr.noCd with pos:=(z.pos:Int)}).toArray 60)=w3 at HM3 HK3 HS3 HG3 ⊢
 clear hm HM2 HK2 HG2
 generalize w2.heap.size=S at*
 obtain ⟨c1,hc1⟩: ∃c1:Cd,c1= {Pr.noCd with pos:=(z.pos:Int)}:=⟨_,rfl⟩
 have HC1:=hdn hc1
 rw[←hc1] at HS3
 clear hc1
 go_wp2_with fail
 refine (take_m HC.out ⟨#[63]⟩ (by decide) w3 r0 HM3.out).mono ?_
 rintro en w4 ⟨g4,hh⟩
 have HK4:=hdn (HK3.out.kept g4 HNE.out.1)
 have HS4:=hdn (HS3.out.kept g4 HNS.out.1)
 have HG4:=hdn (grownBy_tr HG3.out g4)
 clear g4 HM3 HK3 HS3 HG3
 rcases hh with ⟨rfl,x0,u,hr0,hi,hm⟩|⟨rfl,hf,hm⟩
 ·have HR0:=hdn hr0
  have HI:=hdn hi
  have HM4:=hdn hm
  clear hr0 hi hm
  go_wp2_with (first |((with_reducible show wpList _ _ _ (Oper.mk (some _) (Op.load 60 _) _ _ _ _::_) _ _);refine wpList_load_bk rfl 60 (.tmp 3) rfl S 60 (Cd.cells c1).toArray rfl _ HS4.out Tryz.underlying60 rfl size49 ?_)|((with_reducible show wpList _ _ _ (Oper.mk none (Op.store 60 (Operand.tmp 2) _) _ _ _ _::_) _ _);refine wpList_store_bk rfl 60 (.tmp 2) _ rfl A 60 _ (Cd.cells c1).toArray rfl rfl HK4.out size49 rfl (kCd.one _) ?_;intro wZ hB hF;have HB:=hdn hB;have HF':=hdn hF;clear hB hF))
  have hm:=HM4.out.far HF'.out HNE.out.1 HNE.out.2
  have hg:=grownBy_up HG4.out HF'.out (fun q hq=>by injection hq with hq;have:=HA.out;omega)
  refine bodyPost_ret (results_cell_row Tryz.results110 _ wZ A 60 (Cd.cells c1).toArray (0,0) _ rfl HB.out Tryz.underlying60 rfl size49) rfl ?_
  have hrr:r= .ok ({Pr.noCd with pos:=((Pa.sg l u.i).pos:Int)},u.go):=by
   rw[HR.out,HR0.out];show Pa.cond l u=_;unfold Pa.cond;rw[if_pos HI.out]
  have hz:=HZ.out _ _ HR0.out
  rw[hrr,←hz]
  exact ⟨hg,_,_,rfl,⟨c1,rfl,(by rw[HC1.out];rfl:qCd.er c1= {Pr.noCd with pos:=(z.pos:Int)}),by rw[HC1.out];exact ⟨no_hops,no_hops⟩⟩,(fun y v hc=>by injection hc with hc;injection hc),hm.as _ (.inl rfl)⟩
 have HF0:=hdn hf
 have HM4:=hdn hm
 clear hf hm
 go_wp2_with fail
 refine (side_m HC.out w4 r0 HM4.out).mono ?_
 rintro en w5 ⟨g5,v5,x1,rfl,⟨y0,hv,hye,hyl⟩,hx,hm⟩
 have hv5:v5= .agg y0.cells.toArray:=hv
 clear hv
 subst hv5
 have HX:=hdn hx
 have HM5:=hdn hm
 have HYE:=hdn hye
 have HYL5:=hdn hyl
 have HLT:Hid (rb<w4.heap.size∧S<w4.heap.size∧A<w4.heap.size∧w.heap.size≤w4.heap.size):=hdn ⟨HM4.out.rb_lt,HS4.out.lt,HK4.out.lt,HG4.out.size⟩
 have HK5:=hdn (HK4.out.kept g5 HNE.out.1)
 have HS5:=hdn (HS4.out.kept g5 HNS.out.1)
 have HG5:=hdn (grownBy_tr HG4.out g5)
 clear g5 hx hm hye hyl HM4 HK4 HS4 HG4
 go_upto_region 7 with ((with_reducible show wpList _ _ _ (Oper.mk none (Op.store 58 _ _) _ _ _ _::_) _ _);refine wpList_store_part rfl 58 (.tmp 13) (.tmp 12) rfl S 2 60 (Cd.cells c1) (Vl.cells y0) rfl rfl HS5.out size47 (by show 14≤26;decide) (kVl.one y0) ?_;intro w6 hB hF;have HB6:=hdn hB;have HF6:=hdn hF;clear hB hF)
 obtain ⟨c2,hc2⟩: ∃c2:Cd,c2= {c1 with left:=y0}:=⟨_,rfl⟩
 have HC2:=hdn hc2
 have HS6:Hid (Bk w6 S 60 (Cd.cells c2).toArray):=hdn (by rw[hc2];exact cd_put1 HB6.out)
 have g6:=HF6.out
 clear hc2 HB6 HF6
 have HM6:=hdn (HM5.out.far g6 HNS.out.1 HNS.out.2.1)
 have HK6:=hdn (HK5.out.kept g6 HNS.out.2.2.1)
 have HG6:=hdn (grownBy_up HG5.out g6 (fun q hq=>by injection hq with hq;have:=HNS.out;omega))
 have HYL6:=hdn (vlLies_ext (fresh_par g6 HLT.out.2.1) HYL5.out)
 clear g6 HM5 HK5 HS5 HG5 HYL5
 go_wp2_with fail
 refine (take_m HC.out ⟨#[61,61]⟩ (by decide) w6 _ HM6.out).mono ?_
 rintro en w7 ⟨g7,hh⟩
 have HK7:=hdn (HK6.out.kept g7 HNE.out.1)
 have HS7:=hdn (HS6.out.kept g7 HNS.out.1)
 have HG7:=hdn (grownBy_tr HG6.out g7)
 have HYL7:=hdn (vlLies_ext (fresh_par g7 HLT.out.1) HYL6.out)
 clear g7 HM6 HK6 HS6 HG6 HYL6
 rcases hh with ⟨rfl,y1,u1,hS,hi,hm⟩|⟨rfl,hf,hm⟩
 ·have HSS:=hdn hS
  have HI:=hdn hi
  have HM7:=hdn hm
  clear hS hi hm
  have f0:=HS7.out.frozen 0
  have c0:w7.cell? ⟨S,0,none⟩=some (.int .i64 c2.kind):=HS7.out.cell 0
  go_upto_region 13 with fail
  clear f0 c0
  have gs:w7.grownBy (w7.setCell ⟨S,0,none⟩ (.int .i64 1)) (some S):=grownBy_setC _ ⟨S,0,none⟩ _
  obtain ⟨c3,hc3⟩: ∃c3:Cd,c3= {c2 with kind:=1}:=⟨_,rfl⟩
  have HC3:=hdn hc3
  have HS19:Hid (Bk (w7.setCell ⟨S,0,none⟩ (.int .i64 1)) S 60 (Cd.cells c3).toArray):=hdn (by rw[hc3];exact cd_set0 HS7.out 1)
  have HM19:=hdn (HM7.out.far gs HNS.out.1 HNS.out.2.1)
  have HK19:=hdn (HK7.out.kept gs HNS.out.2.2.1)
  have HG19:=hdn (grownBy_up HG7.out gs (fun q hq=>by injection hq with hq;have:=HNS.out;omega))
  have HYL19:=hdn (vlLies_ext (fresh_par gs HLT.out.2.1) HYL7.out)
  clear gs hc3 HM7 HK7 HS7 HG7 HYL7
  generalize w7.setCell ⟨S,0,none⟩ (.int .i64 1)=w19 at HS19 HM19 HK19 HG19 HYL19 ⊢
  have HREL:=hdn (show (Pr.th (Pr.th r0 fun _ u=>Pa.side l u) fun _ u=>Pr.relation (Pa.ts l) u)=Pr.th (Except.ok (y1,u1.go):Pr.Res Vl) fun _ u=> .ok ((1:Int),u) by rw[HSS.out];show Pr.relation (Pa.ts l) u1=_;unfold Pr.relation;rw[if_pos HI.out];rfl)
  go_wp2_with fail
  refine (side_m HC.out w19 _ HM19.out).mono ?_
  rintro en w20 ⟨g20,v5,x2,rfl,⟨y2,hv,hye,hyl⟩,hx,hm⟩
  have hv5:v5= .agg y2.cells.toArray:=hv
  clear hv
  subst hv5
  have HX2:=hdn hx
  have HM20:=hdn hm
  have HYE2:=hdn hye
  have HYB20:=hdn hyl
  have HLT2:Hid (S<w19.heap.size∧A<w19.heap.size∧w.heap.size≤w19.heap.size):=hdn ⟨HS19.out.lt,HK19.out.lt,HG19.out.size⟩
  have HK20:=hdn (HK19.out.kept g20 HNE.out.1)
  have HS20:=hdn (HS19.out.kept g20 HNS.out.1)
  have HG20:=hdn (grownBy_tr HG19.out g20)
  have HYL20:=hdn (vlLies_ext (fresh_par g20 HLT.out.1) HYL19.out)
  clear g20 hx hm hye hyl HM19 HK19 HS19 HG19 HYL19
  go_upto_region 14 with ((with_reducible show wpList _ _ _ (Oper.mk none (Op.store 58 _ _) _ _ _ _::_) _ _);refine wpList_store_part rfl 58 (.tmp 31) (.tmp 30) rfl S 14 60 (Cd.cells c3) (Vl.cells y2) rfl rfl HS20.out size47 (by show 26≤26;decide) (kVl.one y2) ?_;intro w21 hB hF;have HB6:=hdn hB;have HF6:=hdn hF;clear hB hF)
  obtain ⟨c4,hc4⟩: ∃c4:Cd,c4= {c3 with right:=y2}:=⟨_,rfl⟩
  have HC4:=hdn hc4
  have HS21:Hid (Bk w21 S 60 (Cd.cells c4).toArray):=hdn (by rw[hc4];exact cd_put2 HB6.out)
  have g6:=HF6.out
  clear hc4 HB6 HF6
  have HM21:=hdn (HM20.out.far g6 HNS.out.1 HNS.out.2.1)
  have HK21:=hdn (HK20.out.kept g6 HNS.out.2.2.1)
  have HG21:=hdn (grownBy_up HG20.out g6 (fun q hq=>by injection hq with hq;have:=HNS.out;omega))
  have HYL21:=hdn (vlLies_ext (fresh_par g6 HLT.out.2.1) HYL20.out)
  have HYB21:=hdn (vlLies_ext (fresh_par g6 HLT2.out.1) HYB20.out)
  clear g6 HM20 HK20 HS20 HG20 HYL20 HYB20
  go_wp2_with (first |((with_reducible show wpList _ _ _ (Oper.mk (some _) (Op.load 60 _) _ _ _ _::_) _ _);refine wpList_load_bk rfl 60 (.tmp 3) rfl S 60 (Cd.cells c4).toArray rfl _ HS21.out Tryz.underlying60 rfl size49 ?_)|((with_reducible show wpList _ _ _ (Oper.mk none (Op.store 60 (Operand.tmp 2) _) _ _ _ _::_) _ _);refine wpList_store_bk rfl 60 (.tmp 2) _ rfl A 60 _ (Cd.cells c4).toArray rfl rfl HK21.out size49 rfl (kCd.one _) ?_;intro wZ hB hF;have HB:=hdn hB;have HF':=hdn hF;clear hB hF))
  have hm:=HM21.out.far HF'.out HNE.out.1 HNE.out.2
  have hg:=grownBy_up HG21.out HF'.out (fun q hq=>by injection hq with hq;have:=HA.out;omega)
  refine bodyPost_ret (results_cell_row Tryz.results110 _ wZ A 60 (Cd.cells c4).toArray (0,0) _ rfl HB.out Tryz.underlying60 rfl size49) rfl ?_
  have hfin:=cond_fin HF0.out HZ.out HX.out HREL.out HX2.out
  rw[HR.out]
  exact ⟨hg,_,⟨1,z.pos,x1,x2⟩,rfl,⟨c4,rfl,(by rw[HC4.out,HC3.out,HC2.out,HC1.out,←HYE.out,←HYE2.out];rfl),(by rw[HC4.out,HC3.out,HC2.out];exact ⟨vlLies_ext ((fresh_par HF'.out HLT.out.2.2.1).trans (fresh_mono HLT.out.2.2.2 _)) HYL21.out,vlLies_ext ((fresh_par HF'.out HLT2.out.2.1).trans (fresh_mono HLT2.out.2.2 _)) HYB21.out⟩)⟩,hfin.1,hm.as _ hfin.2⟩
 have HF1:=hdn hf
 have HM7:=hdn hm
 clear hf hm
 go_wp2_with fail
 refine (take_m HC.out ⟨#[33,61]⟩ (by decide) w7 _ HM7.out).mono ?_
 rintro en w8 ⟨g8,hh⟩
 have HK8:=hdn (HK7.out.kept g8 HNE.out.1)
 have HS8:=hdn (HS7.out.kept g8 HNS.out.1)
 have HG8:=hdn (grownBy_tr HG7.out g8)
 have HYL8:=hdn (vlLies_ext (fresh_par g8 HLT.out.1) HYL7.out)
 clear g8 HM7 HK7 HS7 HG7 HYL7
 rcases hh with ⟨rfl,y1,u1,hS,hi,hm⟩|⟨rfl,hf,hm⟩
 ·have HSS:=hdn hS
  have HI:=hdn hi
  have HM8:=hdn hm
  clear hS hi hm
  have f0:=HS8.out.frozen 0
  have c0:w8.cell? ⟨S,0,none⟩=some (.int .i64 c2.kind):=HS8.out.cell 0
  go_upto_region 13 with fail
  clear f0 c0
  have gs:w8.grownBy (w8.setCell ⟨S,0,none⟩ (.int .i64 2)) (some S):=grownBy_setC _ ⟨S,0,none⟩ _
  obtain ⟨c3,hc3⟩: ∃c3:Cd,c3= {c2 with kind:=2}:=⟨_,rfl⟩
  have HC3:=hdn hc3
  have HS19:Hid (Bk (w8.setCell ⟨S,0,none⟩ (.int .i64 2)) S 60 (Cd.cells c3).toArray):=hdn (by rw[hc3];exact cd_set0 HS8.out 2)
  have HM19:=hdn (HM8.out.far gs HNS.out.1 HNS.out.2.1)
  have HK19:=hdn (HK8.out.kept gs HNS.out.2.2.1)
  have HG19:=hdn (grownBy_up HG8.out gs (fun q hq=>by injection hq with hq;have:=HNS.out;omega))
  have HYL19:=hdn (vlLies_ext (fresh_par gs HLT.out.2.1) HYL8.out)
  clear gs hc3 HM8 HK8 HS8 HG8 HYL8
  generalize w8.setCell ⟨S,0,none⟩ (.int .i64 2)=w19 at HS19 HM19 HK19 HG19 HYL19 ⊢
  have HREL:=hdn (show (Pr.th (Pr.th r0 fun _ u=>Pa.side l u) fun _ u=>Pr.relation (Pa.ts l) u)=Pr.th (Except.ok (y1,u1.go):Pr.Res Vl) fun _ u=> .ok ((2:Int),u) by rw[HSS.out];show Pr.relation (Pa.ts l) u1=_;unfold Pr.relation;rw[if_neg (by rw[HF1.out _ _ HSS.out];decide),if_pos HI.out];rfl)
  go_wp2_with fail
  refine (side_m HC.out w19 _ HM19.out).mono ?_
  rintro en w20 ⟨g20,v5,x2,rfl,⟨y2,hv,hye,hyl⟩,hx,hm⟩
  have hv5:v5= .agg y2.cells.toArray:=hv
  clear hv
  subst hv5
  have HX2:=hdn hx
  have HM20:=hdn hm
  have HYE2:=hdn hye
  have HYB20:=hdn hyl
  have HLT2:Hid (S<w19.heap.size∧A<w19.heap.size∧w.heap.size≤w19.heap.size):=hdn ⟨HS19.out.lt,HK19.out.lt,HG19.out.size⟩
  have HK20:=hdn (HK19.out.kept g20 HNE.out.1)
  have HS20:=hdn (HS19.out.kept g20 HNS.out.1)
  have HG20:=hdn (grownBy_tr HG19.out g20)
  have HYL20:=hdn (vlLies_ext (fresh_par g20 HLT.out.1) HYL19.out)
  clear g20 hx hm hye hyl HM19 HK19 HS19 HG19 HYL19
  go_upto_region 14 with ((with_reducible show wpList _ _ _ (Oper.mk none (Op.store 58 _ _) _ _ _ _::_) _ _);refine wpList_store_part rfl 58 (.tmp 31) (.tmp 30) rfl S 14 60 (Cd.cells c3) (Vl.cells y2) rfl rfl HS20.out size47 (by show 26≤26;decide) (kVl.one y2) ?_;intro w21 hB hF;have HB6:=hdn hB;have HF6:=hdn hF;clear hB hF)
  obtain ⟨c4,hc4⟩: ∃c4:Cd,c4= {c3 with right:=y2}:=⟨_,rfl⟩
  have HC4:=hdn hc4
  have HS21:Hid (Bk w21 S 60 (Cd.cells c4).toArray):=hdn (by rw[hc4];exact cd_put2 HB6.out)
  have g6:=HF6.out
  clear hc4 HB6 HF6
  have HM21:=hdn (HM20.out.far g6 HNS.out.1 HNS.out.2.1)
  have HK21:=hdn (HK20.out.kept g6 HNS.out.2.2.1)
  have HG21:=hdn (grownBy_up HG20.out g6 (fun q hq=>by injection hq with hq;have:=HNS.out;omega))
  have HYL21:=hdn (vlLies_ext (fresh_par g6 HLT.out.2.1) HYL20.out)
  have HYB21:=hdn (vlLies_ext (fresh_par g6 HLT2.out.1) HYB20.out)
  clear g6 HM20 HK20 HS20 HG20 HYL20 HYB20
  go_wp2_with (first |((with_reducible show wpList _ _ _ (Oper.mk (some _) (Op.load 60 _) _ _ _ _::_) _ _);refine wpList_load_bk rfl 60 (.tmp 3) rfl S 60 (Cd.cells c4).toArray rfl _ HS21.out Tryz.underlying60 rfl size49 ?_)|((with_reducible show wpList _ _ _ (Oper.mk none (Op.store 60 (Operand.tmp 2) _) _ _ _ _::_) _ _);refine wpList_store_bk rfl 60 (.tmp 2) _ rfl A 60 _ (Cd.cells c4).toArray rfl rfl HK21.out size49 rfl (kCd.one _) ?_;intro wZ hB hF;have HB:=hdn hB;have HF':=hdn hF;clear hB hF))
  have hm:=HM21.out.far HF'.out HNE.out.1 HNE.out.2
  have hg:=grownBy_up HG21.out HF'.out (fun q hq=>by injection hq with hq;have:=HA.out;omega)
  refine bodyPost_ret (results_cell_row Tryz.results110 _ wZ A 60 (Cd.cells c4).toArray (0,0) _ rfl HB.out Tryz.underlying60 rfl size49) rfl ?_
  have hfin:=cond_fin HF0.out HZ.out HX.out HREL.out HX2.out
  rw[HR.out]
  exact ⟨hg,_,⟨2,z.pos,x1,x2⟩,rfl,⟨c4,rfl,(by rw[HC4.out,HC3.out,HC2.out,HC1.out,←HYE.out,←HYE2.out];rfl),(by rw[HC4.out,HC3.out,HC2.out];exact ⟨vlLies_ext ((fresh_par HF'.out HLT.out.2.2.1).trans (fresh_mono HLT.out.2.2.2 _)) HYL21.out,vlLies_ext ((fresh_par HF'.out HLT2.out.2.1).trans (fresh_mono HLT2.out.2.2 _)) HYB21.out⟩)⟩,hfin.1,hm.as _ hfin.2⟩
 have HF2:=hdn hf
 have HM8:=hdn hm
 clear hf hm
 go_wp2_with fail
 refine (take_m HC.out ⟨#[60]⟩ (by decide) w8 _ HM8.out).mono ?_
 rintro en w9 ⟨g9,hh⟩
 have HK9:=hdn (HK8.out.kept g9 HNE.out.1)
 have HS9:=hdn (HS8.out.kept g9 HNS.out.1)
 have HG9:=hdn (grownBy_tr HG8.out g9)
 have HYL9:=hdn (vlLies_ext (fresh_par g9 HLT.out.1) HYL8.out)
 clear g9 HM8 HK8 HS8 HG8 HYL8
 rcases hh with ⟨rfl,y1,u1,hS,hi,hm⟩|⟨rfl,hf,hm⟩
 ·have HSS:=hdn hS
  have HI:=hdn hi
  have HM9:=hdn hm
  clear hS hi hm
  have f0:=HS9.out.frozen 0
  have c0:w9.cell? ⟨S,0,none⟩=some (.int .i64 c2.kind):=HS9.out.cell 0
  go_upto_region 13 with fail
  clear f0 c0
  have gs:w9.grownBy (w9.setCell ⟨S,0,none⟩ (.int .i64 3)) (some S):=grownBy_setC _ ⟨S,0,none⟩ _
  obtain ⟨c3,hc3⟩: ∃c3:Cd,c3= {c2 with kind:=3}:=⟨_,rfl⟩
  have HC3:=hdn hc3
  have HS19:Hid (Bk (w9.setCell ⟨S,0,none⟩ (.int .i64 3)) S 60 (Cd.cells c3).toArray):=hdn (by rw[hc3];exact cd_set0 HS9.out 3)
  have HM19:=hdn (HM9.out.far gs HNS.out.1 HNS.out.2.1)
  have HK19:=hdn (HK9.out.kept gs HNS.out.2.2.1)
  have HG19:=hdn (grownBy_up HG9.out gs (fun q hq=>by injection hq with hq;have:=HNS.out;omega))
  have HYL19:=hdn (vlLies_ext (fresh_par gs HLT.out.2.1) HYL9.out)
  clear gs hc3 HM9 HK9 HS9 HG9 HYL9
  generalize w9.setCell ⟨S,0,none⟩ (.int .i64 3)=w19 at HS19 HM19 HK19 HG19 HYL19 ⊢
  have HREL:=hdn (show (Pr.th (Pr.th r0 fun _ u=>Pa.side l u) fun _ u=>Pr.relation (Pa.ts l) u)=Pr.th (Except.ok (y1,u1.go):Pr.Res Vl) fun _ u=> .ok ((3:Int),u) by rw[HSS.out];show Pr.relation (Pa.ts l) u1=_;unfold Pr.relation;rw[if_neg (by rw[HF1.out _ _ HSS.out];decide),if_neg (by rw[HF2.out _ _ HSS.out];decide),if_pos HI.out];rfl)
  go_wp2_with fail
  refine (side_m HC.out w19 _ HM19.out).mono ?_
  rintro en w20 ⟨g20,v5,x2,rfl,⟨y2,hv,hye,hyl⟩,hx,hm⟩
  have hv5:v5= .agg y2.cells.toArray:=hv
  clear hv
  subst hv5
  have HX2:=hdn hx
  have HM20:=hdn hm
  have HYE2:=hdn hye
  have HYB20:=hdn hyl
  have HLT2:Hid (S<w19.heap.size∧A<w19.heap.size∧w.heap.size≤w19.heap.size):=hdn ⟨HS19.out.lt,HK19.out.lt,HG19.out.size⟩
  have HK20:=hdn (HK19.out.kept g20 HNE.out.1)
  have HS20:=hdn (HS19.out.kept g20 HNS.out.1)
  have HG20:=hdn (grownBy_tr HG19.out g20)
  have HYL20:=hdn (vlLies_ext (fresh_par g20 HLT.out.1) HYL19.out)
  clear g20 hx hm hye hyl HM19 HK19 HS19 HG19 HYL19
  go_upto_region 14 with ((with_reducible show wpList _ _ _ (Oper.mk none (Op.store 58 _ _) _ _ _ _::_) _ _);refine wpList_store_part rfl 58 (.tmp 31) (.tmp 30) rfl S 14 60 (Cd.cells c3) (Vl.cells y2) rfl rfl HS20.out size47 (by show 26≤26;decide) (kVl.one y2) ?_;intro w21 hB hF;have HB6:=hdn hB;have HF6:=hdn hF;clear hB hF)
  obtain ⟨c4,hc4⟩: ∃c4:Cd,c4= {c3 with right:=y2}:=⟨_,rfl⟩
  have HC4:=hdn hc4
  have HS21:Hid (Bk w21 S 60 (Cd.cells c4).toArray):=hdn (by rw[hc4];exact cd_put2 HB6.out)
  have g6:=HF6.out
  clear hc4 HB6 HF6
  have HM21:=hdn (HM20.out.far g6 HNS.out.1 HNS.out.2.1)
  have HK21:=hdn (HK20.out.kept g6 HNS.out.2.2.1)
  have HG21:=hdn (grownBy_up HG20.out g6 (fun q hq=>by injection hq with hq;have:=HNS.out;omega))
  have HYL21:=hdn (vlLies_ext (fresh_par g6 HLT.out.2.1) HYL20.out)
  have HYB21:=hdn (vlLies_ext (fresh_par g6 HLT2.out.1) HYB20.out)
  clear g6 HM20 HK20 HS20 HG20 HYL20 HYB20
  go_wp2_with (first |((with_reducible show wpList _ _ _ (Oper.mk (some _) (Op.load 60 _) _ _ _ _::_) _ _);refine wpList_load_bk rfl 60 (.tmp 3) rfl S 60 (Cd.cells c4).toArray rfl _ HS21.out Tryz.underlying60 rfl size49 ?_)|((with_reducible show wpList _ _ _ (Oper.mk none (Op.store 60 (Operand.tmp 2) _) _ _ _ _::_) _ _);refine wpList_store_bk rfl 60 (.tmp 2) _ rfl A 60 _ (Cd.cells c4).toArray rfl rfl HK21.out size49 rfl (kCd.one _) ?_;intro wZ hB hF;have HB:=hdn hB;have HF':=hdn hF;clear hB hF))
  have hm:=HM21.out.far HF'.out HNE.out.1 HNE.out.2
  have hg:=grownBy_up HG21.out HF'.out (fun q hq=>by injection hq with hq;have:=HA.out;omega)
  refine bodyPost_ret (results_cell_row Tryz.results110 _ wZ A 60 (Cd.cells c4).toArray (0,0) _ rfl HB.out Tryz.underlying60 rfl size49) rfl ?_
  have hfin:=cond_fin HF0.out HZ.out HX.out HREL.out HX2.out
  rw[HR.out]
  exact ⟨hg,_,⟨3,z.pos,x1,x2⟩,rfl,⟨c4,rfl,(by rw[HC4.out,HC3.out,HC2.out,HC1.out,←HYE.out,←HYE2.out];rfl),(by rw[HC4.out,HC3.out,HC2.out];exact ⟨vlLies_ext ((fresh_par HF'.out HLT.out.2.2.1).trans (fresh_mono HLT.out.2.2.2 _)) HYL21.out,vlLies_ext ((fresh_par HF'.out HLT2.out.2.1).trans (fresh_mono HLT2.out.2.2 _)) HYB21.out⟩)⟩,hfin.1,hm.as _ hfin.2⟩
 have HF3:=hdn hf
 have HM9:=hdn hm
 clear hf hm
 go_wp2_with fail
 refine (want_m HC.out ⟨#[62,61]⟩ (by decide) w9 _ HM9.out).mono ?_
 rintro en w10 ⟨rfl,g10,hm⟩
 have HK10:=hdn (HK9.out.kept g10 HNE.out.1)
 have HS10:=hdn (HS9.out.kept g10 HNS.out.1)
 have HG10:=hdn (grownBy_tr HG9.out g10)
 have HYL10:=hdn (vlLies_ext (fresh_par g10 HLT.out.1) HYL9.out)
 have HM10:=hdn hm
 clear g10 hm HM9 HK9 HS9 HG9 HYL9
 have f0:=HS10.out.frozen 0
 have c0:w10.cell? ⟨S,0,none⟩=some (.int .i64 c2.kind):=HS10.out.cell 0
 go_upto_region 13 with fail
 clear f0 c0
 have gs:w10.grownBy (w10.setCell ⟨S,0,none⟩ (.int .i64 4)) (some S):=grownBy_setC _ ⟨S,0,none⟩ _
 obtain ⟨c3,hc3⟩: ∃c3:Cd,c3= {c2 with kind:=4}:=⟨_,rfl⟩
 have HC3:=hdn hc3
 have HS19:Hid (Bk (w10.setCell ⟨S,0,none⟩ (.int .i64 4)) S 60 (Cd.cells c3).toArray):=hdn (by rw[hc3];exact cd_set0 HS10.out 4)
 have HM19:=hdn (HM10.out.far gs HNS.out.1 HNS.out.2.1)
 have HK19:=hdn (HK10.out.kept gs HNS.out.2.2.1)
 have HG19:=hdn (grownBy_up HG10.out gs (fun q hq=>by injection hq with hq;have:=HNS.out;omega))
 have HYL19:=hdn (vlLies_ext (fresh_par gs HLT.out.2.1) HYL10.out)
 clear gs hc3 HM10 HK10 HS10 HG10 HYL10
 generalize w10.setCell ⟨S,0,none⟩ (.int .i64 4)=w19 at HS19 HM19 HK19 HG19 HYL19 ⊢
 have HREL:=hdn (show (Pr.th (Pr.th r0 fun _ u=>Pa.side l u) fun _ u=>Pr.relation (Pa.ts l) u)=Pr.th (Pr.th (Pr.th r0 fun _ u=>Pa.side l u) fun _ u=>Pr.must (Pa.ts l) ⟨#[62,61]⟩ u) fun _ u=> .ok ((4:Int),u) by have f1:=HF1.out;have f2:=HF2.out;have f3:=HF3.out;rcases q:(Pr.th r0 fun _ u=>Pa.side l u) with n |⟨y1,u1⟩;(· rfl);(· show Pr.relation (Pa.ts l) u1=Pr.th (Pr.must (Pa.ts l) ⟨#[62,61]⟩ u1) _;unfold Pr.relation;rw[if_neg (by rw[f1 _ _ q];decide),if_neg (by rw[f2 _ _ q];decide),if_neg (by rw[f3 _ _ q];decide)]))
 go_wp2_with fail
 refine (side_m HC.out w19 _ HM19.out).mono ?_
 rintro en w20 ⟨g20,v5,x2,rfl,⟨y2,hv,hye,hyl⟩,hx,hm⟩
 have hv5:v5= .agg y2.cells.toArray:=hv
 clear hv
 subst hv5
 have HX2:=hdn hx
 have HM20:=hdn hm
 have HYE2:=hdn hye
 have HYB20:=hdn hyl
 have HLT2:Hid (S<w19.heap.size∧A<w19.heap.size∧w.heap.size≤w19.heap.size):=hdn ⟨HS19.out.lt,HK19.out.lt,HG19.out.size⟩
 have HK20:=hdn (HK19.out.kept g20 HNE.out.1)
 have HS20:=hdn (HS19.out.kept g20 HNS.out.1)
 have HG20:=hdn (grownBy_tr HG19.out g20)
 have HYL20:=hdn (vlLies_ext (fresh_par g20 HLT.out.1) HYL19.out)
 clear g20 hx hm hye hyl HM19 HK19 HS19 HG19 HYL19
 go_upto_region 14 with ((with_reducible show wpList _ _ _ (Oper.mk none (Op.store 58 _ _) _ _ _ _::_) _ _);refine wpList_store_part rfl 58 (.tmp 31) (.tmp 30) rfl S 14 60 (Cd.cells c3) (Vl.cells y2) rfl rfl HS20.out size47 (by show 26≤26;decide) (kVl.one y2) ?_;intro w21 hB hF;have HB6:=hdn hB;have HF6:=hdn hF;clear hB hF)
 obtain ⟨c4,hc4⟩: ∃c4:Cd,c4= {c3 with right:=y2}:=⟨_,rfl⟩
 have HC4:=hdn hc4
 have HS21:Hid (Bk w21 S 60 (Cd.cells c4).toArray):=hdn (by rw[hc4];exact cd_put2 HB6.out)
 have g6:=HF6.out
 clear hc4 HB6 HF6
 have HM21:=hdn (HM20.out.far g6 HNS.out.1 HNS.out.2.1)
 have HK21:=hdn (HK20.out.kept g6 HNS.out.2.2.1)
 have HG21:=hdn (grownBy_up HG20.out g6 (fun q hq=>by injection hq with hq;have:=HNS.out;omega))
 have HYL21:=hdn (vlLies_ext (fresh_par g6 HLT.out.2.1) HYL20.out)
 have HYB21:=hdn (vlLies_ext (fresh_par g6 HLT2.out.1) HYB20.out)
 clear g6 HM20 HK20 HS20 HG20 HYL20 HYB20
 go_wp2_with (first |((with_reducible show wpList _ _ _ (Oper.mk (some _) (Op.load 60 _) _ _ _ _::_) _ _);refine wpList_load_bk rfl 60 (.tmp 3) rfl S 60 (Cd.cells c4).toArray rfl _ HS21.out Tryz.underlying60 rfl size49 ?_)|((with_reducible show wpList _ _ _ (Oper.mk none (Op.store 60 (Operand.tmp 2) _) _ _ _ _::_) _ _);refine wpList_store_bk rfl 60 (.tmp 2) _ rfl A 60 _ (Cd.cells c4).toArray rfl rfl HK21.out size49 rfl (kCd.one _) ?_;intro wZ hB hF;have HB:=hdn hB;have HF':=hdn hF;clear hB hF))
 have hm:=HM21.out.far HF'.out HNE.out.1 HNE.out.2
 have hg:=grownBy_up HG21.out HF'.out (fun q hq=>by injection hq with hq;have:=HA.out;omega)
 refine bodyPost_ret (results_cell_row Tryz.results110 _ wZ A 60 (Cd.cells c4).toArray (0,0) _ rfl HB.out Tryz.underlying60 rfl size49) rfl ?_
 have hfin:=cond_fin HF0.out HZ.out HX.out HREL.out HX2.out
 rw[HR.out]
 exact ⟨hg,_,⟨4,z.pos,x1,x2⟩,rfl,⟨c4,rfl,(by rw[HC4.out,HC3.out,HC2.out,HC1.out,←HYE.out,←HYE2.out];rfl),(by rw[HC4.out,HC3.out,HC2.out];exact ⟨vlLies_ext ((fresh_par HF'.out HLT.out.2.2.1).trans (fresh_mono HLT.out.2.2.2 _)) HYL21.out,vlLies_ext ((fresh_par HF'.out HLT2.out.2.1).trans (fresh_mono HLT2.out.2.2 _)) HYB21.out⟩)⟩,hfin.1,hm.as _ hfin.2⟩
end
end Go.Proofs.YtcehbcnloiooaaaGreatDoor
namespace Go.Proofs.YtcehbcnloiooaaaGreatDoor
open Go.RowKit Go.Sort
def qDc:Kd Dc:=⟨65,3,40,Dc.cells,id,fun _ _=>True,fun _=>rfl,fun _=>by simp[Value.oneCell'],fun _ _ _=>trivial⟩
def qSr:Kd Sr:=⟨67,3,48,Sr.cells,fun x=>⟨x.name,x.pos,⟨none,0,x.fields.l⟩⟩,fun w x=>declsLie w x.fields,fun _=>rfl,fun _=>by simp[Value.oneCell'],fun _ h k=>declsLie_ext h k⟩
theorem qinfDc: ∃i,qDc.Inf Tryz.prog 23 i (.agg #[.string ByteArray.empty,.string ByteArray.empty,.int .i64 0]):=by
 obtain ⟨i,h1,h2,h3,h4⟩:=info_parts zinfoDc
 exact ⟨i,Tryz.underlying23,h1,h2,h3,h4,rfl,by decide⟩
theorem dc_aside {B:Nat} {xs:List Dc} {v:Value} {w w':World} {D:Nat} (h:qDc.Gr B xs v w) (hg:w.grownBy w' (some D)) (hne: ∀q,v.ownBlock=some q→q≠D):qDc.Gr B xs v w':=by
 obtain ⟨ys,h1,h2,h3⟩:=h
 refine ⟨ys,h1,h2.kept hg ?_,fun _ _=>trivial⟩
 cases hv:v.ownBlock with
 |none=>exact .inl rfl
 |some b=>right;intro e;injection e with e;exact hne b hv e
namespace Pa
def strct (l:List Tx.Sg) (u:Pr.St):Pr.Res Sr:=
 Pr.th (name l u) fun x u=>
 Pr.th (Pr.must (ts l) ⟨#[123]⟩ u) fun _ u=>
 Pr.th (fields l ((ts l).length+1) [] u) fun a u=>
 .ok (⟨x.text,x.pos,⟨none,0,a⟩⟩,u)
theorem structure_strct (l:List Tx.Sg) (u:Pr.St):structure_ l u=Pr.th (Pr.must (ts l) ⟨#[115,116,114,117,99,116]⟩ u) fun _ u=>strct l u:=rfl
end Pa
section
variable {α:Type} {rb sb cap:Nat} {l:List Tx.Sg} {o:Int} {N:Nat}
theorem name_go {u v:Pr.St} {x:Tx.Sg} (h:Pa.name l u= .ok (x,v)):v.i=u.i+1:=by
 unfold Pa.name at h
 split at h
 ·injection h with h;injection h with a b;rw[←b];rfl
 ·cases h
theorem must_go {u v:Pr.St} {x:Pr.Tk} {s:ByteArray} (h:Pr.must (Pa.ts l) s u= .ok (x,v)):v.i=u.i+1:=by
 unfold Pr.must at h
 split at h
 ·injection h with h;injection h with a b;rw[←b];rfl
 ·cases h
theorem ptr_of {u u2:Pr.St} {a1 a:List Dc} (h:(Pr.th (Pa.pointer l u) (fun d v=>Pr.th (Pr.must (Pa.ts l) ⟨#[59]⟩ v) fun _ v=> .ok (a1++ [d],v)))= .ok (a,u2)):
  ∃ya ua yb ub yc uc yd,Pa.name l u= .ok (ya,ua)∧Pr.must (Pa.ts l) ⟨#[42]⟩ ua= .ok (yb,ub)∧Pa.name l ub= .ok (yc,uc)∧Pr.must (Pa.ts l) ⟨#[59]⟩ uc= .ok (yd,u2)∧a=a1++ [⟨ya.text,yc.text,yc.pos⟩]:=by
 unfold Pa.pointer at h
 rcases q1:Pa.name l u with n |⟨ya,ua⟩
 ·rw[q1] at h;cases h
 rcases q2:Pr.must (Pa.ts l) ⟨#[42]⟩ ua with n |⟨yb,ub⟩
 ·rw[q1] at h;simp only[Pr.th,q2] at h;cases h
 rcases q3:Pa.name l ub with n |⟨yc,uc⟩
 ·rw[q1] at h;simp only[Pr.th,q2,q3] at h;cases h
 rcases q4:Pr.must (Pa.ts l) ⟨#[59]⟩ uc with n |⟨yd,ud⟩
 ·rw[q1] at h;simp only[Pr.th,q2,q3,q4] at h;cases h
 ·rw[q1] at h;simp only[Pr.th,q2,q3,q4] at h
  injection h with h;injection h with h1 h2;subst h2
  exact ⟨ya,ua,yb,ub,yc,uc,yd,rfl,q2,q3,q4,h1.symm⟩
theorem struct_fin {r1:Pr.Res Tx.Sg} {rn:Pr.Res (List Dc)} {x:Tx.Sg} {acc:List Dc} (hx: ∀y u,r1= .ok (y,u)→x=y) (hac: ∀a u,rn= .ok (a,u)→acc=a)
  (h2:(Pr.th (Pr.th r1 fun _ u=>Pr.must (Pa.ts l) ⟨#[123]⟩ u) fun _ u=>Pa.fields l ((Pa.ts l).length+1) [] u)=Pr.th rn fun a u=>Pr.th (Pr.must (Pa.ts l) ⟨#[125]⟩ u) fun _ v=> .ok (a,v)):
  (∀s v,(Pr.th r1 fun x u=>Pr.th (Pr.must (Pa.ts l) ⟨#[123]⟩ u) fun _ u=>Pr.th (Pa.fields l ((Pa.ts l).length+1) [] u) fun a u=> .ok ((⟨x.text,x.pos,⟨none,0,a⟩⟩:Sr),u))= .ok (s,v)→(⟨x.text,x.pos,⟨none,0,acc⟩⟩:Sr)=s)∧
  ((Pr.th (Pr.th rn fun _ u=>Pr.must (Pa.ts l) ⟨#[125]⟩ u) fun _ u=> .ok ((),u))=(Pr.th (Pr.th r1 fun x u=>Pr.th (Pr.must (Pa.ts l) ⟨#[123]⟩ u) fun _ u=>Pr.th (Pa.fields l ((Pa.ts l).length+1) [] u) fun a u=> .ok ((⟨x.text,x.pos,⟨none,0,a⟩⟩:Sr),u)) fun _ u=> .ok ((),u))∨
   ((∃n,(Pr.th rn fun _ u=>Pr.must (Pa.ts l) ⟨#[125]⟩ u)= .error n)∧∃n,(Pr.th r1 fun x u=>Pr.th (Pr.must (Pa.ts l) ⟨#[123]⟩ u) fun _ u=>Pr.th (Pa.fields l ((Pa.ts l).length+1) [] u) fun a u=> .ok ((⟨x.text,x.pos,⟨none,0,a⟩⟩:Sr),u))= .error n)):=by
 have herr: ∀n,(.error n:Pr.Res (List Dc))=(Pr.th rn fun a u=>Pr.th (Pr.must (Pa.ts l) ⟨#[125]⟩ u) fun _ v=> .ok (a,v))→∃m,(Pr.th rn fun _ u=>Pr.must (Pa.ts l) ⟨#[125]⟩ u)= .error m:=by
  intro n hn
  rcases rn with m |⟨a,u⟩
  ·exact ⟨m,rfl⟩
  ·show∃m,Pr.must (Pa.ts l) ⟨#[125]⟩ u=_
   change _=Pr.th (Pr.must (Pa.ts l) ⟨#[125]⟩ u) _ at hn
   rcases q:Pr.must (Pa.ts l) ⟨#[125]⟩ u with m |⟨b,v⟩
   ·exact ⟨m,rfl⟩
   ·rw[q] at hn;cases hn
 rcases r1 with n |⟨y,u1⟩
 ·exact ⟨(by intro s v hs;cases hs),.inr ⟨herr n h2,⟨n,rfl⟩⟩⟩
 change (Pr.th (Pr.must (Pa.ts l) ⟨#[123]⟩ u1) _)=_ at h2
 show (∀s v,(Pr.th (Pr.must (Pa.ts l) ⟨#[123]⟩ u1) _)=_→_)∧(_=(Pr.th (Pr.th (Pr.must (Pa.ts l) ⟨#[123]⟩ u1) _) _)∨_∧∃n,(Pr.th (Pr.must (Pa.ts l) ⟨#[123]⟩ u1) _)=_)
 rcases q:Pr.must (Pa.ts l) ⟨#[123]⟩ u1 with n |⟨t,u2⟩
 ·rw[q] at h2
  exact ⟨(by intro s v hs;cases hs),.inr ⟨herr n h2,⟨n,rfl⟩⟩⟩
 rw[q] at h2
 change Pa.fields l ((Pa.ts l).length+1) [] u2=_ at h2
 show (∀s v,(Pr.th (Pa.fields l ((Pa.ts l).length+1) [] u2) _)=_→_)∧(_=(Pr.th (Pr.th (Pa.fields l ((Pa.ts l).length+1) [] u2) _) _)∨_∧∃n,(Pr.th (Pa.fields l ((Pa.ts l).length+1) [] u2) _)=_)
 rw[h2]
 rcases rn with n |⟨a,u⟩
 ·exact ⟨(by intro s v hs;cases hs),.inl rfl⟩
 show (∀s v,(Pr.th (Pr.th (Pr.must (Pa.ts l) ⟨#[125]⟩ u) _) _)=_→_)∧((Pr.th (Pr.must (Pa.ts l) ⟨#[125]⟩ u) _)=(Pr.th (Pr.th (Pr.th (Pr.must (Pa.ts l) ⟨#[125]⟩ u) _) _) _)∨_)
 rcases Pr.must (Pa.ts l) ⟨#[125]⟩ u with n |⟨b,v⟩
 ·exact ⟨(by intro s v hs;cases hs),.inl rfl⟩
 ·refine ⟨?_,.inl rfl⟩
  intro s v' hs
  injection hs with hs;injection hs with h3 h4
  rw[←h3,hx y u1 rfl,hac a u rfl]
theorem struct_m (C:RC l N) (w:World) (r0:Pr.Res α) (h:RM w rb sb cap l o N r0):
  Calls Tryz.prog 27 #[.pointer (some ⟨rb,0,none⟩)] w (RP (qSr.Val w.heap.size) w rb sb cap l o N (Pr.th r0 fun _ u=>Pa.strct l u)):=by
 have HC:=hdn C
 obtain ⟨r,hr⟩: ∃r,r=Pr.th r0 fun _ u=>Pa.strct l u:=⟨_,rfl⟩
 rw[←hr]
 have HR:=hdn hr
 have hn:Below w.heap.size w (w.alloc (.cells #[.string ByteArray.empty,.int .i64 0,.slice none 0 0] 67)):=(Below.refl _ _).alloc (Nat.le_refl _) _
 have HM:=hdn (h.below hn)
 have HK:Hid (Bk (w.alloc (.cells #[.string ByteArray.empty,.int .i64 0,.slice none 0 0] 67)) w.heap.size 67 #[.string ByteArray.empty,.int .i64 0,.slice none 0 0]):=hdn (heap_alloc_new _ _)
 have HNE:Hid (w.heap.size≠rb∧w.heap.size≠sb):=hdn ⟨by have:=h.rb_lt;omega,by have:=h.sb_lt;omega⟩
 have HG:Hid (w.grownBy (w.alloc (.cells #[.string ByteArray.empty,.int .i64 0,.slice none 0 0] 67)) (some rb)):=hdn (grownBy_of hn _)
 generalize hwA:w.alloc (.cells #[.string ByteArray.empty,.int .i64 0,.slice none 0 0] 67)=wA at HM HK HG
 clear h hr hn
 go_enter Tryz.func27,Tryz.ntmps27
 go_upto_region 1 with fail
 rw[show w.alloc (.cells #[.string ⟨#[]⟩,.int .i64 0,.slice none 0 0] 67)=wA from hwA]
 clear hwA
 obtain ⟨A,hA⟩: ∃A,A=w.heap.size:=⟨_,rfl⟩
 have HA:=hdn hA
 rw[←hA] at HK HNE ⊢
 clear hA
 go_upto_region 2 with fail
 have hn:Below wA.heap.size wA (wA.alloc (.cells #[.string ByteArray.empty,.int .i64 0,.slice none 0 0] 67)):=(Below.refl _ _).alloc (Nat.le_refl _) _
 have HM1:=hdn (HM.out.below hn)
 have HK1:=hdn (HK.out.below hn HK.out.lt)
 have HS1:Hid (Bk (wA.alloc (.cells #[.string ByteArray.empty,.int .i64 0,.slice none 0 0] 67)) wA.heap.size 67 #[.string ByteArray.empty,.int .i64 0,.slice none 0 0]):=hdn (heap_alloc_new _ _)
 have HNS:Hid (wA.heap.size≠rb∧wA.heap.size≠sb∧A≠wA.heap.size∧w.heap.size≤wA.heap.size∧rb<wA.heap.size∧A<wA.heap.size):=hdn ⟨by have:=HM.out.rb_lt;omega,by have:=HM.out.sb_lt;omega,by have:=HK.out.lt;omega,HG.out.size,HM.out.rb_lt,HK.out.lt⟩
 have HG1:=hdn (grownBy_below HG.out hn)
 change Code.wp _ _ _ _ (wA.alloc (.cells #[.string ByteArray.empty,.int .i64 0,.slice none 0 0] 67))
 generalize wA.alloc (.cells #[.string ByteArray.empty,.int .i64 0,.slice none 0 0] 67)=w1 at HM1 HK1 HS1 HG1 ⊢
 clear hn HM HK HG
 generalize wA.heap.size=S at*
 go_wp2_with fail
 refine (name_m HC.out w1 r0 HM1.out).mono ?_
 rintro en w2 ⟨g2,_,x,rfl,rfl,hx,hm⟩
 have HX:=hdn hx
 have HM2:=hdn hm
 have HK2:=hdn (HK1.out.kept g2 HNE.out.1)
 have HS2:=hdn (HS1.out.kept g2 HNS.out.1)
 have HG2:=hdn (grownBy_tr HG1.out g2)
 clear hx hm g2 HM1 HK1 HS1 HG1
 obtain ⟨r1,hr1⟩: ∃r1,r1=Pr.th r0 fun _ u=>Pa.name l u:=⟨_,rfl⟩
 rw[←hr1] at HM2 HX
 have HR1:Hid (r=Pr.th r1 fun x u=>Pr.th (Pr.must (Pa.ts l) ⟨#[123]⟩ u) fun _ u=>Pr.th (Pa.fields l ((Pa.ts l).length+1) [] u) fun a u=> .ok ((⟨x.text,x.pos,⟨none,0,a⟩⟩:Sr),u)):=hdn (by
  rw[HR.out,hr1];rcases r0 with n |⟨y,u⟩<;>rfl)
 clear hr1 HR
 have f0:=HS2.out.frozen 0
 have c0:=HS2.out.cell 0
 have f1:=HS2.out.frozen 1
 have c1:=HS2.out.cell 1
 go_upto_region 3 with fail
 clear f0 c0 f1 c1
 have gs:w2.grownBy ((w2.setCell ⟨S,0,none⟩ (.string x.text)).setCell ⟨S,1,none⟩ (.int .i64 x.pos)) (some S):=grownBy_tr (grownBy_setC _ ⟨S,0,none⟩ _) (grownBy_setC _ ⟨S,1,none⟩ _)
 have HS2b:Hid (Bk ((w2.setCell ⟨S,0,none⟩ (.string x.text)).setCell ⟨S,1,none⟩ (.int .i64 x.pos)) S 67 #[.string x.text,.int .i64 x.pos,.slice none 0 0]):=hdn ((HS2.out.set_ 0 _).set_ 1 _)
 have HM2b:=hdn (HM2.out.far gs HNS.out.1 HNS.out.2.1)
 have HK2b:=hdn (HK2.out.kept gs HNS.out.2.2.1)
 have HG2b:=hdn (grownBy_up HG2.out gs (fun q hq=>by injection hq with hq;have:=HNS.out;omega))
 clear gs HM2 HK2 HS2 HG2
 generalize (w2.setCell ⟨S,0,none⟩ (.string x.text)).setCell ⟨S,1,none⟩ (.int .i64 x.pos)=w2b at HS2b HM2b HK2b HG2b ⊢
 go_wp2_with fail
 refine (want_m HC.out ⟨#[123]⟩ (by decide) w2b _ HM2b.out).mono ?_
 rintro en w3 ⟨rfl,g3,hm⟩
 have HM3:=hdn hm
 have HK3:=hdn (HK2b.out.kept g3 HNE.out.1)
 have HS3:=hdn (HS2b.out.kept g3 HNS.out.1)
 have HG3:=hdn (grownBy_tr HG2b.out g3)
 clear hm g3 HM2b HK2b HS2b HG2b
 obtain ⟨r2,hr2⟩: ∃r2,r2=Pr.th r1 fun _ u=>Pr.must (Pa.ts l) ⟨#[123]⟩ u:=⟨_,rfl⟩
 have HR2:=hdn hr2
 rw[←hr2] at HM3
 clear hr2
 have HSZ:Hid (S<w3.heap.size):=hdn HS3.out.lt
 have HSB:Hid (sb<w3.heap.size):=hdn HM3.out.sb_lt
 have HLEN:Hid ((Pa.ts l).length=l.length):=hdn (by simp)
 have HM3':Hid (RM w3 rb sb cap l o N (Pr.th r2 fun _ u=>(.ok ([],u):Pr.Res (List Dc)))):=hdn (HM3.out.as _ (by rcases r2 with n |⟨y,u⟩<;>exact .inl rfl))
 obtain ⟨iDc,hI⟩:=qinfDc
 have HI:=hdn hI
 clear hI
 go_wp2_with fail
 go_loopg [] (l.length+1) (fun g wr=> ∃(acc:List Dc) (v:Value) (rn:Pr.Res (List Dc)),g+acc.length=l.length+1∧Hid (∀a u,rn= .ok (a,u)→acc=a)∧Hid (Pr.th rn (fun a u=>Pa.fields l g a u)=Pr.th r2 (fun _ u=>Pa.fields l ((Pa.ts l).length+1) [] u))∧Hid (∀a u,rn= .ok (a,u)→l.length<g+u.i)∧Hid (qDc.Gr w3.heap.size acc v wr)∧Hid (Bk wr S 67 #[.string x.text,.int .i64 x.pos,v])∧Hid (RM wr rb sb cap l o N rn)∧Hid (Bk wr A 67 #[.string ByteArray.empty,.int .i64 0,.slice none 0 0])∧Hid (w.grownBy wr (some rb))∧Hid (w3.heap.size≤wr.heap.size))
 case atStart=>exact ⟨[],.slice none 0 0,_,rfl,hdn (by intro a u ha;rcases r2 with n |⟨y,v⟩;(· cases ha);(· cases ha;rfl)),hdn (by have hl:=HLEN.out;rcases r2 with n |⟨y,v⟩;(· rfl);(· show Pa.fields l (l.length+1) [] v=Pa.fields l ((Pa.ts l).length+1) [] v;rw[hl])),hdn (by intro a u ha;omega),hdn (Kd.Gr.nil qDc (World.ownsRow_nil _ _ _ _)),HS3,HM3',HK3,HG3,hdn (Nat.le_refl _)⟩
 case round=>
  obtain ⟨acc,v,rn,hg8,HAC,HH,HFU,HGrr,HSr,HMr,HKr,HGr,HLEr⟩:=hrel
  obtain ⟨ys,hy1,hy2,hy3⟩:=HGrr.out
  obtain ⟨a0,c0,rfl⟩:=own_shape hy2
  have HOW:=hdn hy2
  clear hy1 hy2 hy3
  rcases rn with n |⟨a1,u⟩
  ·obtain ⟨k,b,a,e,he,hk,hb0,hb1,h5⟩:=HMr.out
   have c5:wr.cell? ⟨rb,5,none⟩=some (.int .i64 e):=h5.blk.cell 5
   have he':(e==0)=false:=by rw[beq_eq_false_iff_ne];exact he
   clear he hk hb0 hb1 h5
   go_upto_region 11 with fail
   clear c5 he'
   have HMq:=HMr;have HKq:=HKr;have HSq:=HSr;have HGq:=HGr;have HGrq:=HGrr;have HLEq:=HLEr
   obtain ⟨wq,hwq⟩: ∃wq,wq=wr:=⟨_,rfl⟩
   rw[←hwq] at HMq HKq HSq HGq HGrq HLEq ⊢
   clear hwq HMr HKr HSr HGr HGrr HLEr HOW
   go_wp2_with fail
   refine (want_m HC.out ⟨#[125]⟩ (by decide) wq (Except.error n) HMq.out).mono ?_
   rintro en w30 ⟨rfl,g30,hm⟩
   have HM30:=hdn hm
   have HK30:=hdn (HKq.out.kept g30 HNE.out.1)
   have HS30:=hdn (HSq.out.kept g30 HNS.out.1)
   have HG30:=hdn (grownBy_tr HGq.out g30)
   have HGr30:=hdn (HGrq.out.par g30 (by have:=HSZ.out;have:=HNS.out;omega))
   have HLE30:=hdn (Nat.le_trans HLEq.out g30.size)
   clear g30 hm HKq HSq HGq HGrq HLEq HMq
   have s0:=HS30.out.cell 0
   have s1:=HS30.out.cell 1
   have s2:=HS30.out.cell 2
   have r0':=HK30.out.cell 0
   have r1':=HK30.out.cell 1
   have r2':=HK30.out.cell 2
   have f0:=HK30.out.frozen 0
   have f1:=HK30.out.frozen 1
   have f2:=HK30.out.frozen 2
   simp only[List.getElem?_toArray,List.getElem?_cons_zero,List.getElem?_cons_succ] at s0 s1 s2 r0' r1' r2'
   go_wp2_with fail
   clear s0 s1 s2 r0' r1' r2' f0 f1 f2
   have hBF:Bk (((w30.setCell ⟨A,0,none⟩ (.string x.text)).setCell ⟨A,1,none⟩ (.int .i64 x.pos)).setCell ⟨A,2,none⟩ (.slice a0 acc.length c0)) A 67 #[.string x.text,.int .i64 x.pos,.slice a0 acc.length c0]∧w30.grownBy (((w30.setCell ⟨A,0,none⟩ (.string x.text)).setCell ⟨A,1,none⟩ (.int .i64 x.pos)).setCell ⟨A,2,none⟩ (.slice a0 acc.length c0)) (some A):=⟨((HK30.out.set_ 0 _).set_ 1 _).set_ 2 _,grownBy_tr (grownBy_tr (grownBy_setC _ ⟨A,0,none⟩ _) (grownBy_setC _ ⟨A,1,none⟩ _)) (grownBy_setC _ ⟨A,2,none⟩ _)⟩
   generalize ((w30.setCell ⟨A,0,none⟩ (.string x.text)).setCell ⟨A,1,none⟩ (.int .i64 x.pos)).setCell ⟨A,2,none⟩ (.slice a0 acc.length c0)=wZ at hBF ⊢
   obtain ⟨hB,hF⟩:=hBF
   have e0:=hB.cell 0
   have e1:=hB.cell 1
   have e2:=hB.cell 2
   have hgr:=HGr30.out.par hF (by have:=HSZ.out;have:=HNS.out;omega)
   obtain ⟨sl,hv,hsl,hly⟩:=Kd.fin qDc (by show acc.length*40≤_;have:=HC.out.len;have:=HC.out.top;omega) hgr
   have hm:=HM30.out.far hF HNE.out.1 HNE.out.2
   have hg:=grownBy_up HG30.out hF (fun q hq=>by injection hq with hq;have:=HA.out;omega)
   refine bodyPost_ret (v:= .agg #[.string x.text,.int .i64 x.pos,.slice a0 acc.length c0]) (by simp[results,Tryz.results27,go_sem,e0,e1,e2]) rfl ?_
   have hval:qSr.Val w.heap.size wZ (.agg #[.string x.text,.int .i64 x.pos,.slice a0 acc.length c0]) ⟨x.text,x.pos,⟨none,0,acc⟩⟩:=by
    refine ⟨⟨x.text,x.pos,sl⟩,by rw[hv];rfl, ?_, ?_⟩
    ·show (⟨x.text,x.pos,⟨none,0,sl.l⟩⟩:Sr)=_
     rw[show sl.l=acc by rw[←hsl];exact (List.map_id _).symm]
    ·exact declsLie_ext (fresh_rest (r:=none) (B':=w.heap.size) (by have:=HSZ.out;have:=HNS.out;omega) (by simp)|>.trans rest_fresh) hly
   have hfin:=struct_fin (rn:=(Except.error n)) HX.out HAC.out (by rw[←HR2.out,←HH.out];rfl)
   rw[HR1.out]
   exact ⟨hg,_,_,rfl,hval,hfin.1,hm.as _ hfin.2⟩
  ·have c5:wr.cell? ⟨rb,5,none⟩=some (.int .i64 0):=HMr.out.1.blk.cell 5
   go_wp2_with fail
   refine (is_m HC.out ⟨#[125]⟩ (by decide) wr _ HMr.out).mono ?_
   rintro en w4 ⟨hb,hh⟩
   have HM4:=hdn (HMr.out.below hb);have HK4:=hdn (HKr.out.below hb HKr.out.lt);have HS4:=hdn (HSr.out.below hb HSr.out.lt);have HG4:=hdn (grownBy_below HGr.out hb);have HGr4:=hdn (HGrr.out.below hb);have HLE4:=hdn (Nat.le_trans HLEr.out hb.size)
   have HOB0:Hid (∀q,(Value.slice a0 acc.length c0).ownBlock=some q→q<w4.heap.size):=hdn (fun q hq=>Nat.lt_of_lt_of_le (HOW.out.lt q hq).2 hb.size)
   have HN1:Hid (0<gk):=hdn (by have:=HFU.out a1 u rfl;have:=HMr.out.2.1;omega)
   clear hb c5 HMr HKr HSr HGr HGrr HLEr HOW
   rcases hh with ⟨rfl,a2,u2,hrn,hi,hlt⟩|⟨rfl,hf⟩
   ·have HI2:Hid (Pr.is (Pa.ts l) u.i ⟨#[125]⟩=true):=hdn (by injection hrn with hrn;injection hrn with h1 h2;rw[h2];exact hi)
    clear hrn hi hlt
    go_upto_region 11 with fail
    go_wp2_with fail
    refine (want_m HC.out ⟨#[125]⟩ (by decide) w4 (Except.ok (a1,u)) HM4.out).mono ?_
    rintro en w30 ⟨rfl,g30,hm⟩
    have HM30:=hdn hm
    have HK30:=hdn (HK4.out.kept g30 HNE.out.1)
    have HS30:=hdn (HS4.out.kept g30 HNS.out.1)
    have HG30:=hdn (grownBy_tr HG4.out g30)
    have HGr30:=hdn (HGr4.out.par g30 (by have:=HSZ.out;have:=HNS.out;omega))
    have HLE30:=hdn (Nat.le_trans HLE4.out g30.size)
    clear g30 hm HK4 HS4 HG4 HGr4 HLE4 HM4
    have s0:=HS30.out.cell 0
    have s1:=HS30.out.cell 1
    have s2:=HS30.out.cell 2
    have r0':=HK30.out.cell 0
    have r1':=HK30.out.cell 1
    have r2':=HK30.out.cell 2
    have f0:=HK30.out.frozen 0
    have f1:=HK30.out.frozen 1
    have f2:=HK30.out.frozen 2
    simp only[List.getElem?_toArray,List.getElem?_cons_zero,List.getElem?_cons_succ] at s0 s1 s2 r0' r1' r2'
    go_wp2_with fail
    clear s0 s1 s2 r0' r1' r2' f0 f1 f2
    have hBF:Bk (((w30.setCell ⟨A,0,none⟩ (.string x.text)).setCell ⟨A,1,none⟩ (.int .i64 x.pos)).setCell ⟨A,2,none⟩ (.slice a0 acc.length c0)) A 67 #[.string x.text,.int .i64 x.pos,.slice a0 acc.length c0]∧w30.grownBy (((w30.setCell ⟨A,0,none⟩ (.string x.text)).setCell ⟨A,1,none⟩ (.int .i64 x.pos)).setCell ⟨A,2,none⟩ (.slice a0 acc.length c0)) (some A):=⟨((HK30.out.set_ 0 _).set_ 1 _).set_ 2 _,grownBy_tr (grownBy_tr (grownBy_setC _ ⟨A,0,none⟩ _) (grownBy_setC _ ⟨A,1,none⟩ _)) (grownBy_setC _ ⟨A,2,none⟩ _)⟩
    generalize ((w30.setCell ⟨A,0,none⟩ (.string x.text)).setCell ⟨A,1,none⟩ (.int .i64 x.pos)).setCell ⟨A,2,none⟩ (.slice a0 acc.length c0)=wZ at hBF ⊢
    obtain ⟨hB,hF⟩:=hBF
    have e0:=hB.cell 0
    have e1:=hB.cell 1
    have e2:=hB.cell 2
    have hgr:=HGr30.out.par hF (by have:=HSZ.out;have:=HNS.out;omega)
    obtain ⟨sl,hv,hsl,hly⟩:=Kd.fin qDc (by show acc.length*40≤_;have:=HC.out.len;have:=HC.out.top;omega) hgr
    have hm:=HM30.out.far hF HNE.out.1 HNE.out.2
    have hg:=grownBy_up HG30.out hF (fun q hq=>by injection hq with hq;have:=HA.out;omega)
    refine bodyPost_ret (v:= .agg #[.string x.text,.int .i64 x.pos,.slice a0 acc.length c0]) (by simp[results,Tryz.results27,go_sem,e0,e1,e2]) rfl ?_
    have hval:qSr.Val w.heap.size wZ (.agg #[.string x.text,.int .i64 x.pos,.slice a0 acc.length c0]) ⟨x.text,x.pos,⟨none,0,acc⟩⟩:=by
     refine ⟨⟨x.text,x.pos,sl⟩,by rw[hv];rfl, ?_, ?_⟩
     ·show (⟨x.text,x.pos,⟨none,0,sl.l⟩⟩:Sr)=_
      rw[show sl.l=acc by rw[←hsl];exact (List.map_id _).symm]
     ·exact declsLie_ext (fresh_rest (r:=none) (B':=w.heap.size) (by have:=HSZ.out;have:=HNS.out;omega) (by simp)|>.trans rest_fresh) hly
    have hfin:=struct_fin (rn:=(Except.ok (a1,u))) HX.out HAC.out (by rw[←HR2.out,←HH.out];show Pa.fields l gk a1 u=Pr.th (Pr.must (Pa.ts l) ⟨#[125]⟩ u) _;obtain ⟨gj,hj⟩: ∃k,gk=k+1:=⟨gk-1,by have:=HN1.out;omega⟩;rw[hj];simp only[Pa.fields,Pr.must,HI2.out,if_true,Pr.th])
    rw[HR1.out]
    exact ⟨hg,_,_,rfl,hval,hfin.1,hm.as _ hfin.2⟩
   ·have HF:=hdn hf
    clear hf
    go_upto_region 6 with fail
    have hn:Below w4.heap.size w4 (w4.alloc (.cells #[.string ByteArray.empty,.string ByteArray.empty,.int .i64 0] 65)):=(Below.refl _ _).alloc (Nat.le_refl _) _
    have HM5:=hdn (HM4.out.below hn);have HK5:=hdn (HK4.out.below hn HK4.out.lt);have HS5:=hdn (HS4.out.below hn HS4.out.lt);have HG5:=hdn (grownBy_below HG4.out hn);have HGr5:=hdn (HGr4.out.below hn);have HLE5:=hdn (Nat.le_trans HLE4.out hn.size)
    have HD5:Hid (Bk (w4.alloc (.cells #[.string ByteArray.empty,.string ByteArray.empty,.int .i64 0] 65)) w4.heap.size 65 #[.string ByteArray.empty,.string ByteArray.empty,.int .i64 0]):=hdn (heap_alloc_new _ _)
    have HDN:Hid (w4.heap.size≠rb∧w4.heap.size≠sb∧A≠w4.heap.size∧S≠w4.heap.size∧w.heap.size≤w4.heap.size):=hdn ⟨by have:=HM4.out.rb_lt;omega,by have:=HM4.out.sb_lt;omega,by have:=HK4.out.lt;omega,by have:=HS4.out.lt;omega,HG4.out.size⟩
    change Code.wp _ _ _ _ (w4.alloc (.cells #[.string ByteArray.empty,.string ByteArray.empty,.int .i64 0] 65))
    generalize w4.alloc (.cells #[.string ByteArray.empty,.string ByteArray.empty,.int .i64 0] 65)=w5 at HM5 HK5 HS5 HG5 HGr5 HLE5 HD5 ⊢
    clear hn HK4 HS4 HG4 HGr4 HLE4 HM4
    generalize hD:w4.heap.size=D at*
    have HOB:=HOB0
    clear HOB0 hD
    go_wp2_with fail
    refine (name_m HC.out w5 _ HM5.out).mono ?_
    rintro en w6 ⟨g6,_,xa,rfl,rfl,hx,hm⟩
    have HXA:=hdn hx
    have HM6:=hdn hm
    have HK6:=hdn (HK5.out.kept g6 HNE.out.1)
    have HS6:=hdn (HS5.out.kept g6 HNS.out.1)
    have HG6:=hdn (grownBy_tr HG5.out g6)
    have HGr6:=hdn (HGr5.out.par g6 (by have:=HSZ.out;have:=HNS.out;omega))
    have HLE6:=hdn (Nat.le_trans HLE5.out g6.size)
    have HD6:=hdn (HD5.out.kept g6 HDN.out.1)
    clear hx hm g6 HK5 HS5 HG5 HGr5 HLE5 HM5 HD5
    have f0:=HD6.out.frozen 0
    have c0:=HD6.out.cell 0
    go_upto_region 7 with fail
    clear f0 c0
    have gs:w6.grownBy (w6.setCell ⟨D,0,none⟩ (.string xa.text)) (some D):=grownBy_setC _ ⟨D,0,none⟩ _
    have HD7:Hid (Bk (w6.setCell ⟨D,0,none⟩ (.string xa.text)) D 65 #[.string xa.text,.string ByteArray.empty,.int .i64 0]):=hdn (HD6.out.set_ 0 _)
    have HM7:=hdn (HM6.out.far gs HDN.out.1 HDN.out.2.1)
    have HK7:=hdn (HK6.out.kept gs HDN.out.2.2.1)
    have HS7:=hdn (HS6.out.kept gs HDN.out.2.2.2.1)
    have HG7:=hdn (grownBy_up HG6.out gs (fun q hq=>by injection hq with hq;have:=HDN.out;omega))
    have HGr7:=hdn (dc_aside HGr6.out gs (fun q hq=>Nat.ne_of_lt (HOB.out q hq)))
    have HLE7:=hdn (Nat.le_trans HLE6.out gs.size)
    clear gs HK6 HS6 HG6 HGr6 HLE6 HM6 HD6
    generalize (w6.setCell ⟨D,0,none⟩ (.string xa.text))=w7 at HD7 HM7 HK7 HS7 HG7 HGr7 HLE7 ⊢
    go_wp2_with fail
    refine (want_m HC.out ⟨#[42]⟩ (by decide) w7 _ HM7.out).mono ?_
    rintro en w8 ⟨rfl,g8,hm⟩
    have HM8:=hdn hm
    have HK8:=hdn (HK7.out.kept g8 HNE.out.1)
    have HS8:=hdn (HS7.out.kept g8 HNS.out.1)
    have HG8:=hdn (grownBy_tr HG7.out g8)
    have HGr8:=hdn (HGr7.out.par g8 (by have:=HSZ.out;have:=HNS.out;omega))
    have HLE8:=hdn (Nat.le_trans HLE7.out g8.size)
    have HD8:=hdn (HD7.out.kept g8 HDN.out.1)
    clear hm g8 HK7 HS7 HG7 HGr7 HLE7 HM7 HD7
    go_wp2_with fail
    refine (name_m HC.out w8 _ HM8.out).mono ?_
    rintro en w9 ⟨g9,_,xc,rfl,rfl,hx,hm⟩
    have HXC:=hdn hx
    have HM9:=hdn hm
    have HK9:=hdn (HK8.out.kept g9 HNE.out.1)
    have HS9:=hdn (HS8.out.kept g9 HNS.out.1)
    have HG9:=hdn (grownBy_tr HG8.out g9)
    have HGr9:=hdn (HGr8.out.par g9 (by have:=HSZ.out;have:=HNS.out;omega))
    have HLE9:=hdn (Nat.le_trans HLE8.out g9.size)
    have HD9:=hdn (HD8.out.kept g9 HDN.out.1)
    clear hx hm g9 HK8 HS8 HG8 HGr8 HLE8 HM8 HD8
    have f1:=HD9.out.frozen 1
    have c1:=HD9.out.cell 1
    have f2:=HD9.out.frozen 2
    have c2:=HD9.out.cell 2
    go_upto_region 9 with fail
    clear f1 c1 f2 c2
    have gs:w9.grownBy ((w9.setCell ⟨D,1,none⟩ (.string xc.text)).setCell ⟨D,2,none⟩ (.int .i64 xc.pos)) (some D):=grownBy_tr (grownBy_setC _ ⟨D,1,none⟩ _) (grownBy_setC _ ⟨D,2,none⟩ _)
    have HD10:Hid (Bk ((w9.setCell ⟨D,1,none⟩ (.string xc.text)).setCell ⟨D,2,none⟩ (.int .i64 xc.pos)) D 65 #[.string xa.text,.string xc.text,.int .i64 xc.pos]):=hdn ((HD9.out.set_ 1 _).set_ 2 _)
    have HM10:=hdn (HM9.out.far gs HDN.out.1 HDN.out.2.1)
    have HK10:=hdn (HK9.out.kept gs HDN.out.2.2.1)
    have HS10:=hdn (HS9.out.kept gs HDN.out.2.2.2.1)
    have HG10:=hdn (grownBy_up HG9.out gs (fun q hq=>by injection hq with hq;have:=HDN.out;omega))
    have HGr10:=hdn (dc_aside HGr9.out gs (fun q hq=>Nat.ne_of_lt (HOB.out q hq)))
    have HLE10:=hdn (Nat.le_trans HLE9.out gs.size)
    clear gs HK9 HS9 HG9 HGr9 HLE9 HM9 HD9
    generalize ((w9.setCell ⟨D,1,none⟩ (.string xc.text)).setCell ⟨D,2,none⟩ (.int .i64 xc.pos))=w10 at HD10 HM10 HK10 HS10 HG10 HGr10 HLE10 ⊢
    go_wp2_with fail
    refine (want_m HC.out ⟨#[59]⟩ (by decide) w10 _ HM10.out).mono ?_
    rintro en w11 ⟨rfl,g11,hm⟩
    have HM11:=hdn hm
    have HK11:=hdn (HK10.out.kept g11 HNE.out.1)
    have HS11:=hdn (HS10.out.kept g11 HNS.out.1)
    have HG11:=hdn (grownBy_tr HG10.out g11)
    have HGr11:=hdn (HGr10.out.par g11 (by have:=HSZ.out;have:=HNS.out;omega))
    have HLE11:=hdn (Nat.le_trans HLE10.out g11.size)
    have HD11:=hdn (HD10.out.kept g11 HDN.out.1)
    clear hm g11 HK10 HS10 HG10 HGr10 HLE10 HM10 HD10
    go_upto_region 10 with fail
    have s2:w11.cell? ⟨S,2,none⟩=some (.slice a0 acc.length c0):=HS11.out.cell 2
    have d0:w11.cell? ⟨D,0,none⟩=some (.string xa.text):=HD11.out.cell 0
    have d1:w11.cell? ⟨D,1,none⟩=some (.string xc.text):=HD11.out.cell 1
    have d2:w11.cell? ⟨D,2,none⟩=some (.int .i64 xc.pos):=HD11.out.cell 2
    go_wp2_with (first |((with_reducible show wpList _ _ _ (Oper.mk (some 44) _ _ _ _ _::_) _ _);refine wpList_one rfl 23 65 (.tmp 43) rfl (qDc.cells ⟨xa.text,xc.text,xc.pos⟩).toArray rfl HI.out.und iDc _ qDc.size HI.out.info HI.out.zero HI.out.size HI.out.pos (by decide) rfl ?_)|((with_reducible show wpList _ _ _ (Oper.mk (some 45) _ _ _ _ _::_) _ _);refine Kd.wpList_push qDc rfl 23 iDc _ HI.out (.tmp 42) (.tmp 44) rfl w3.heap.size acc (.slice a0 acc.length c0) rfl HGr11.out HLE11.out ⟨xa.text,xc.text,xc.pos⟩ rfl trivial (by have:=HC.out.len;have:=HC.out.top;unfold maxLen;omega) (by show (acc.length+1)*40≤_;have:=HC.out.len;have:=HC.out.top;omega) ?_;rintro v' w12 hG8 ⟨gg,cc,rfl⟩ hgr8 hown8;have HGr12:=hdn hG8;have HM12:=hdn (HM11.out.grown hgr8 (fun q hq=>by have:=hown8 q hq;have:=HSZ.out;have:=HNS.out;have:=HSB.out;omega));have HK12:=hdn (HK11.out.grown hgr8 (fun q hq=>by have:=hown8 q hq;have:=HSZ.out;have:=HNS.out;omega));have HS12:=hdn (HS11.out.grown hgr8 (fun q hq=>by have:=hown8 q hq;have:=HSZ.out;omega));have HG12:=hdn (grownBy_up HG11.out hgr8 (fun q hq=>by have:=hown8 q hq;have:=HSZ.out;have:=HNS.out;omega));have HLE12:Hid (w3.heap.size≤w12.heap.size):=hdn (Nat.le_trans HLE11.out hgr8.size);have s28:w12.cell? ⟨S,2,none⟩=some (.slice a0 acc.length c0):=HS12.out.cell 2;have f28:w12.frozen? ⟨S,2,none⟩=false:=HS12.out.frozen 2;clear hG8 hgr8 hown8 s2 d0 d1 d2 HM11 HK11 HS11 HG11 HGr11 HLE11 HD11))
    clear s28 f28
    have gs:w12.grownBy (w12.setCell ⟨S,2,none⟩ (.slice (some ⟨gg,0,none⟩) (acc.length+1) cc)) (some S):=grownBy_setC w12 ⟨S,2,none⟩ _
    have HS13:Hid (Bk (w12.setCell ⟨S,2,none⟩ (.slice (some ⟨gg,0,none⟩) (acc.length+1) cc)) S 67 #[.string x.text,.int .i64 x.pos,.slice (some ⟨gg,0,none⟩) (acc.length+1) cc]):=hdn (HS12.out.set_ 2 _)
    have HM13:=hdn (HM12.out.far gs HNS.out.1 HNS.out.2.1)
    have HK13:=hdn (HK12.out.kept gs HNS.out.2.2.1)
    have HG13:=hdn (grownBy_up HG12.out gs (fun q hq=>by injection hq with hq;have:=HNS.out;omega))
    have HGr13:=hdn (HGr12.out.par gs (by have:=HSZ.out;exact this))
    have HLE13:=hdn (Nat.le_trans HLE12.out gs.size)
    clear gs HM12 HK12 HS12 HG12 HGr12 HLE12
    generalize w12.setCell ⟨S,2,none⟩ (.slice (some ⟨gg,0,none⟩) (acc.length+1) cc)=w13 at HM13 HK13 HS13 HG13 HGr13 HLE13 ⊢
    go_roundg (gk-1)
    case measure=>have:=HN1.out;omega
    case rel=>
     have hac:=HAC.out;have hxa:=HXA.out;have hxc:=HXC.out;have hh:=HH.out;have his:=HF.out;have hm:=HM13.out;have hfu:=HFU.out
     obtain ⟨gj,hj⟩: ∃k,gk=k+1:=⟨gk-1,by have:=HN1.out;omega⟩
     subst hj
     refine ⟨acc++ [qDc.er ⟨xa.text,xc.text,xc.pos⟩],.slice (some ⟨gg,0,none⟩) (acc.length+1) cc,Pr.th (Pa.pointer l u) (fun d v=>Pr.th (Pr.must (Pa.ts l) ⟨#[59]⟩ v) fun _ v=> .ok (a1++ [d],v)),by simp only[List.length_append,List.length_singleton];omega,hdn ?_,hdn ?_,hdn ?_,HGr13,HS13,hdn ?_,HK13,HG13,HLE13⟩
     ·intro a u2 ha
      have h3:=ptr_of ha
      obtain ⟨ya,ua,yb,ub,yc,uc,yd,q1,q2,q3,q4,rfl⟩:=h3
      rw[hac a1 u rfl,hxa ya ua q1,hxc yc uc (by show Pr.th (Pr.th (Pa.name l u) _) _=_;rw[q1];show Pr.th (Pr.must (Pa.ts l) ⟨#[42]⟩ ua) _=_;rw[q2];exact q3)];rfl
     ·rw[←hh]
      show _=Pa.fields l (gj+1) a1 u
      simp only[Pa.fields,his _ _ rfl,Bool.false_eq_true,if_false,Nat.add_sub_cancel]
      show Pr.th (Pr.th (Pa.pointer l u) _) _=Pr.th (Pa.pointer l u) _
      rcases Pa.pointer l u with n |⟨t,u3⟩
      ·rfl
      ·show Pr.th (Pr.th (Pr.must (Pa.ts l) ⟨#[59]⟩ u3) _) _=Pr.th (Pr.must (Pa.ts l) ⟨#[59]⟩ u3) _
       rcases Pr.must (Pa.ts l) ⟨#[59]⟩ u3 with n |⟨t2,u4⟩<;>rfl
     ·intro a u2 ha
      have h3:=ptr_of ha
      obtain ⟨ya,ua,yb,ub,yc,uc,yd,q1,q2,q3,q4,rfl⟩:=h3
      have:=hfu a1 u rfl
      have e1:=name_go q1;have e2:=must_go q2;have e3:=name_go q3;have e4:=must_go q4
      omega
     ·refine hm.as _ (.inl ?_)
      show Pr.th (Pr.th (Pr.th (Pr.th (Pa.name l u) _) _) _) _=_
      unfold Pa.pointer
      rcases Pa.name l u with n |⟨ya,ua⟩
      ·rfl
      show Pr.th (Pr.th (Pr.th (Pr.must (Pa.ts l) ⟨#[42]⟩ ua) _) _) _=Pr.th (Pr.th (Pr.th (Pr.must (Pa.ts l) ⟨#[42]⟩ ua) _) _) _
      rcases Pr.must (Pa.ts l) ⟨#[42]⟩ ua with n |⟨yb,ub⟩
      ·rfl
      show Pr.th (Pr.th (Pa.name l ub) _) _=Pr.th (Pr.th (Pr.th (Pa.name l ub) _) _) _
      rcases Pa.name l ub with n |⟨yc,uc⟩
      ·rfl
      show Pr.th (Pr.must (Pa.ts l) ⟨#[59]⟩ uc) _=Pr.th (Pr.th (Pr.must (Pa.ts l) ⟨#[59]⟩ uc) _) _
      rcases Pr.must (Pa.ts l) ⟨#[59]⟩ uc with n |⟨yd,ud⟩<;>rfl
end
end Go.Proofs.YtcehbcnloiooaaaGreatDoor
namespace Go.Proofs.YtcehbcnloiooaaaGreatDoor
open Go.RowKit Go.Sort
attribute [local go_sem] field72_0 field72_1 field72_2 field72_3
def Pth.pl (x:Pth):Pth:=⟨x.name,x.pos,⟨none,0,x.hops.l⟩⟩
def Cd.pl (x:Cd):Cd:=⟨x.kind,x.pos,x.left.pl,x.right.pl⟩
def Hd.pl (x:Hd):Hd:=⟨x.kind,x.pos,x.place.pl,x.value.pl,x.cond.pl,x.name,⟨none,0,x.args.l.map Vl.pl⟩,x.both⟩
def SL.pl:SL→SL
 |.nil=> .nil
 |.cons h _ _ t _ _ e r=> .cons h.pl none 0 t.pl none 0 e.pl r.pl
def SLq (B:Nat) (w:World) (v:Value) (a:SL):Prop:= ∃(p:Option Addr) (c:Nat) (s:SL),v= .slice p s.len c∧s.pl=a∧sLies (fresh B w) p s
theorem SLq.par {B g:Nat} {w w':World} {v:Value} {a:SL} (h:SLq B w v a) (hg:w.grownBy w' (some g)) (hB:g<B):SLq B w' v a:=by
 obtain ⟨p,c,s,h1,h2,h3⟩:=h
 exact ⟨p,c,s,h1,h2,sLies_ext (fresh_par hg hB) h3⟩
theorem SLq.mono {B B':Nat} {w:World} {v:Value} {a:SL} (h:SLq B w v a) (hB:B'≤B):SLq B' w v a:=by
 obtain ⟨p,c,s,h1,h2,h3⟩:=h
 exact ⟨p,c,s,h1,h2,sLies_ext (fresh_mono hB _) h3⟩
theorem RS.deep {w:World} {rb sb cap:Nat} {l:List Tx.Sg} {k:Nat} {o b a e:Int} (h:RS w rb sb cap l k o b a e) (o':Int):RS (w.setCell ⟨rb,2,none⟩ (.int .i64 o')) rb sb cap l k o' b a e:=
 ⟨by have:=h.blk.set_ 2 (.int .i64 o');simpa using this,fun j x hx=>range_grown (h.row j x hx) (grownBy_setC w ⟨rb,2,none⟩ _) h.ne,h.ne,h.pos,h.len,h.kb⟩
section
variable {α:Type} {rb sb cap:Nat} {l:List Tx.Sg} {o:Int} {N:Nat}
theorem RM.deep {w:World} {r:Pr.Res α} (h:RM w rb sb cap l o N r) (k:Int):RM (w.setCell ⟨rb,2,none⟩ (.int .i64 k)) rb sb cap l k N (Pr.th r fun x u=> .ok (x,⟨u.i,k,u.b⟩)):=by
 rcases r with n |⟨x,u⟩
 ·obtain ⟨k',b,a,e,e1,e2,e3,e4,e5⟩:=h;exact ⟨k',b,a,e,e1,e2,e3,e4,e5.deep k⟩
 ·obtain ⟨h1,h2,rfl,h3⟩:=h;exact ⟨h1.deep k,h2,rfl,h3⟩
theorem RM.deepAt {w:World} {r:Pr.Res α} (h:RM w rb sb cap l o N r):w.cell? ⟨rb,2,none⟩=some (.int .i64 o)∧w.frozen? ⟨rb,2,none⟩=false:=by
 rcases r with n |⟨x,u⟩
 ·obtain ⟨k',b,a,e,e1,e2,e3,e4,e5⟩:=h;exact ⟨e5.blk.cell 2,e5.blk.frozen 2⟩
 ·obtain ⟨h1,h2,rfl,h3⟩:=h;exact ⟨h1.blk.cell 2,h1.blk.frozen 2⟩
theorem RM.oAt {w:World} {r:Pr.Res α} (h:RM w rb sb cap l o N r): ∀x u,r= .ok (x,u)→u.o=o:=by
 intro x u hr;subst hr;exact h.2.2.1
def braced (l:List Tx.Sg) (rec:Pr.St→Pr.Res SL) (rq:Pr.Res α):Pr.Res SL:=
 Pr.th rq fun _ u=>
 Pr.th (Pr.must (Pa.ts l) ⟨#[123]⟩ u) fun _ u=>
 Pr.th (rec ⟨u.i,u.o+1,u.b⟩) fun a u=>
 Pr.th (Pr.must (Pa.ts l) ⟨#[125]⟩ u) fun _ u=>
 .ok (a,⟨u.i,u.o-1,u.b⟩)
theorem list_fin {rq:Pr.Res α} {rec:Pr.St→Pr.Res SL} {x:SL} (hq: ∀x u,rq= .ok (x,u)→u.o=o)
  (hr: ∀x u,(Pr.th (Pr.th (Pr.th rq fun _ u=>Pr.must (Pa.ts l) ⟨#[123]⟩ u) fun _ u=>(.ok ((),⟨u.i,o+1,u.b⟩):Pr.Res Unit)) fun _ u=>rec u)= .ok (x,u)→u.o=o+1)
  (hx: ∀y u,(Pr.th (Pr.th (Pr.th rq fun _ u=>Pr.must (Pa.ts l) ⟨#[123]⟩ u) fun _ u=>(.ok ((),⟨u.i,o+1,u.b⟩):Pr.Res Unit)) fun _ u=>rec u)= .ok (y,u)→x=y):
  (∀y u,braced l rec rq= .ok (y,u)→x=y)∧
  (Pr.th (Pr.th (Pr.th (Pr.th (Pr.th (Pr.th rq fun _ u=>Pr.must (Pa.ts l) ⟨#[123]⟩ u) fun _ u=>(.ok ((),⟨u.i,o+1,u.b⟩):Pr.Res Unit)) fun _ u=>rec u) fun x u=> .ok (x,⟨u.i,o,u.b⟩)) fun _ u=>Pr.must (Pa.ts l) ⟨#[125]⟩ u) fun _ u=> .ok ((),u))=Pr.th (braced l rec rq) fun _ u=> .ok ((),u):=by
 unfold braced
 rcases rq with n |⟨x0,u0⟩
 ·exact ⟨(by intro y u hy;cases hy),rfl⟩
 have h0:=hq x0 u0 rfl
 change∀x u,(Pr.th (Pr.th (Pr.must (Pa.ts l) ⟨#[123]⟩ u0) _) _)=_→_ at hr
 change∀y u,(Pr.th (Pr.th (Pr.must (Pa.ts l) ⟨#[123]⟩ u0) _) _)=_→_ at hx
 show (∀y u,Pr.th (Pr.must (Pa.ts l) ⟨#[123]⟩ u0) _=_→_)∧(Pr.th (Pr.th (Pr.th (Pr.th (Pr.th (Pr.must (Pa.ts l) ⟨#[123]⟩ u0) _) _) _) _) _)=Pr.th (Pr.th (Pr.must (Pa.ts l) ⟨#[123]⟩ u0) _) _
 rcases q:Pr.must (Pa.ts l) ⟨#[123]⟩ u0 with n |⟨t1,u1⟩
 ·exact ⟨(by intro y u hy;cases hy),rfl⟩
 have h1:u1.o=o:=by
  unfold Pr.must at q
  split at q
  ·injection q with q;injection q with a b;rw[←b];exact h0
  ·cases q
 rw[q] at hr hx
 change∀x u,rec ⟨u1.i,o+1,u1.b⟩= .ok (x,u)→_ at hr
 change∀y u,rec ⟨u1.i,o+1,u1.b⟩= .ok (y,u)→_ at hx
 show (∀y u,Pr.th (rec ⟨u1.i,u1.o+1,u1.b⟩) _=_→_)∧(Pr.th (Pr.th (Pr.th (rec ⟨u1.i,o+1,u1.b⟩) _) _) _)=Pr.th (Pr.th (rec ⟨u1.i,u1.o+1,u1.b⟩) _) _
 rw[h1]
 rcases q2:rec ⟨u1.i,o+1,u1.b⟩ with n |⟨a,u2⟩
 ·exact ⟨(by intro y u hy;cases hy),rfl⟩
 have h2:=hr a u2 q2
 have h3:=hx a u2 q2
 have hi:Pr.must (Pa.ts l) ⟨#[125]⟩ (⟨u2.i,o,u2.b⟩:Pr.St)=Pr.th (Pr.must (Pa.ts l) ⟨#[125]⟩ u2) fun t u=> .ok (t,⟨u.i,u.o-1,u.b⟩):=by
  unfold Pr.must
  show (if Pr.is (Pa.ts l) u2.i ⟨#[125]⟩=true then _ else _)=_
  by_cases hc:Pr.is (Pa.ts l) u2.i ⟨#[125]⟩=true
  ·rw[if_pos hc,if_pos hc]
   show Except.ok (_,_)=Except.ok (_,(⟨u2.i+1,u2.o-1,u2.b⟩:Pr.St))
   rw[h2,show o+1-1=o by omega];rfl
  ·rw[if_neg hc,if_neg hc];rfl
 show (∀y u,Pr.th (Pr.must (Pa.ts l) ⟨#[125]⟩ u2) _=_→_)∧(Pr.th (Pr.must (Pa.ts l) ⟨#[125]⟩ (⟨u2.i,o,u2.b⟩:Pr.St)) _)=Pr.th (Pr.th (Pr.must (Pa.ts l) ⟨#[125]⟩ u2) _) _
 rw[hi]
 rcases Pr.must (Pa.ts l) ⟨#[125]⟩ u2 with n |⟨t3,u3⟩
 ·exact ⟨(by intro y u hy;cases hy),rfl⟩
 ·exact ⟨(by intro y u hy;injection hy with hy;injection hy with a b;rw[h3,a]),rfl⟩
theorem fuel_in {rq:Pr.Res α} {n:Nat} {k:Int} (h: ∀x u,rq= .ok (x,u)→l.length<u.i+1+n): ∀x u,(Pr.th (Pr.th rq fun _ u=>Pr.must (Pa.ts l) ⟨#[123]⟩ u) fun _ u=>(.ok ((),⟨u.i,k,u.b⟩):Pr.Res Unit))= .ok (x,u)→l.length<u.i+n:=by
 intro x u hu
 rcases rq with m |⟨x0,u0⟩
 ·cases hu
 have h0:=h x0 u0 rfl
 change (Pr.th (Pr.must (Pa.ts l) ⟨#[123]⟩ u0) _)=_ at hu
 rcases q:Pr.must (Pa.ts l) ⟨#[123]⟩ u0 with m |⟨t,u1⟩
 ·rw[q] at hu;cases hu
 ·rw[q] at hu;injection hu with hu;injection hu with a b
  have h1:=must_go q
  rw[←b];show l.length<u1.i+n;omega
theorem must_no_ok {rq:Pr.Res α} {k:Int} (h: ∀x u,rq= .ok (x,u)→Pr.is (Pa.ts l) u.i ⟨#[123]⟩=false) {x:Unit} {u:Pr.St} (hu:(Pr.th (Pr.th rq fun _ u=>Pr.must (Pa.ts l) ⟨#[123]⟩ u) fun _ u=>(.ok ((),⟨u.i,k,u.b⟩):Pr.Res Unit))= .ok (x,u)):False:=by
 rcases rq with m |⟨x0,u0⟩
 ·cases hu
 have h0:=h x0 u0 rfl
 change (Pr.th (Pr.must (Pa.ts l) ⟨#[123]⟩ u0) _)=_ at hu
 unfold Pr.must at hu
 rw[if_neg (by rw[h0];decide)] at hu
 cases hu
def SRq (rb sb cap:Nat) (l:List Tx.Sg) (N n:Nat) (rec:Pr.St→Pr.Res SL):Prop:= ∀(w:World) (o:Int) (r0:Pr.Res Unit),RM w rb sb cap l o N r0→0≤o→o≤21→(∀x u,r0= .ok (x,u)→o≤20)→(∀x u,r0= .ok (x,u)→l.length<u.i+n)→
 Calls Tryz.prog 57 #[.pointer (some ⟨rb,0,none⟩),.string ⟨#[125]⟩] w (RP (SLq w.heap.size) w rb sb cap l o (N+1) (Pr.th r0 fun _ u=>rec u))
theorem list_m (n:Nat) (rec:Pr.St→Pr.Res SL) (hrec:SRq rb sb cap l N n rec) (C:RC l N) (hN8:N≤800000) (w:World) (r0:Pr.Res α) (h:RM w rb sb cap l o N r0) (ho:0≤o∧o≤20) (hfu: ∀x u,r0= .ok (x,u)→l.length<u.i+1+n):
  Calls Tryz.prog 108 #[.pointer (some ⟨rb,0,none⟩)] w (RP (SLq w.heap.size) w rb sb cap l o (N+1) (Pr.th r0 fun _ u=>Pr.block (Pa.ts l) rec u)):=by
 have HC:=hdn C
 have HC2:=hdn (C.more hN8)
 have HREC:=hdn hrec
 have HO:=hdn ho
 have HRB:Hid (rb<w.heap.size):=hdn h.rb_lt
 have HM:=hdn h
 have HFUE:=hdn hfu
 clear hN8 hrec ho hfu
 have HOA:=hdn h.oAt
 obtain ⟨r,hr⟩: ∃r,r=Pr.th r0 fun _ u=>Pr.block (Pa.ts l) rec u:=⟨_,rfl⟩
 rw[←hr]
 have HR:=hdn hr
 have HBR:Hid (r=braced l rec (Pr.th r0 fun _ u=>Pr.mustHold (Pa.ts l) u)):=hdn (by
  rw[hr];rcases r0 with n |⟨x,u⟩<;>rfl)
 clear h hr
 go_enter Tryz.func108,Tryz.ntmps108
 go_wp2_with fail
 refine (is_m HC.out ⟨#[123]⟩ (by decide) w r0 HM.out).mono ?_
 rintro en w1 ⟨hb,hh⟩
 have HM1:=hdn (HM.out.below hb)
 have HG1:Hid (w.grownBy w1 (some rb)):=hdn (grownBy_of hb _)
 clear hb HM
 rcases hh with ⟨rfl,x0,u,hr0,hi,hlt⟩|⟨rfl,hf⟩
 ·have HR0:=hdn hr0
  have HI:=hdn hi
  clear hr0 hi hlt
  obtain ⟨c2,f2⟩:=HM1.out.deepAt
  by_cases h20:o=20
  ·have hd:(o==20)=true:=by rw[h20];rfl
   have H20:=hdn h20
   clear h20
   go_wp2_with fail
   clear c2 f2 hd
   refine (now_m w1 r0 HM1.out).mono ?_
   rintro en w2 ⟨hb,z,rfl,hz⟩
   have HM2:=hdn (HM1.out.below hb)
   have HG2:=hdn (grownBy_below HG1.out hb)
   clear hb hz HM1 HG1
   go_wp2_with fail
   refine (stop_m HC.out z.pos 6 (by decide) w2 r0 HM2.out).mono ?_
   rintro en w4 ⟨rfl,g4,hm⟩
   have HM4:=hdn hm
   have HG4:=hdn (grownBy_tr HG2.out g4)
   clear hm g4 HM2 HG2
   have HERR:Hid (∃n,r= .error n):=hdn (by
    rw[HBR.out,HR0.out]
    show∃n,braced l rec (Pr.mustHold (Pa.ts l) u)=_
    have ho:=HOA.out x0 u HR0.out
    unfold Pr.mustHold
    rw[HI.out,ho,H20.out];exact ⟨_,rfl⟩)
   go_wp2_with fail
   refine (want_m HC.out ⟨#[123]⟩ (by decide) w4 ((Except.error (6,0):Pr.Res α)) HM4.out).mono ?_
   rintro en w5 ⟨rfl,g5,hm⟩
   have HM5:=hdn hm
   have HG5:=hdn (grownBy_tr HG4.out g5)
   clear hm g5 HM4 HG4
   obtain ⟨c2,f2⟩:=HM5.out.deepAt
   have ho0:0≤o:=HO.out.1
   have ho1:o≤20:=HO.out.2
   go_upto_region 5 with fail
   clear c2 f2
   have g6:w5.grownBy (w5.setCell ⟨rb,2,none⟩ (.int .i64 (o+1))) (some rb):=grownBy_setC w5 ⟨rb,2,none⟩ _
   have HM6:=hdn ((HM5.out.deep (o+1)).as (Pr.th (Pr.th ((Except.error (6,0):Pr.Res α)) fun _ u=>Pr.must (Pa.ts l) ⟨#[123]⟩ u) fun _ u=> .ok ((),⟨u.i,o+1,u.b⟩)) (by rcases (Pr.th ((Except.error (6,0):Pr.Res α)) fun _ u=>Pr.must (Pa.ts l) ⟨#[123]⟩ u) with n |⟨y,u⟩<;>exact .inl rfl))
   have HG6:=hdn (grownBy_tr HG5.out g6)
   have HLE:=hdn HG6.out.size
   clear g6 HM5 HG5
   generalize w5.setCell ⟨rb,2,none⟩ (.int .i64 (o+1))=w6 at HM6 HG6 HLE ⊢
   go_wp2_with fail
   refine (HREC.out w6 (o+1) _ HM6.out (by have:=HO.out;omega) (by have:=HO.out;omega) (by intro x u hc;cases hc) (fuel_in (by intro x u hc;cases hc))).mono ?_
   rintro en w7 ⟨g7,v,x,rfl,hk,hx,hm⟩
   have HX:=hdn hx
   have HM7:=hdn hm
   have HV:=hdn hk
   have HG7:=hdn (grownBy_tr HG6.out g7)
   clear hx hm hk g7 HM6 HG6
   obtain ⟨c2,f2⟩:=HM7.out.deepAt
   go_upto_region 7 with fail
   clear c2 f2 ho0 ho1
   have g8:w7.grownBy (w7.setCell ⟨rb,2,none⟩ (.int .i64 o)) (some rb):=grownBy_setC w7 ⟨rb,2,none⟩ _
   have HOR:=hdn HM7.out.oAt
   have HM8:=hdn (HM7.out.deep o)
   have HG8:=hdn (grownBy_tr HG7.out g8)
   have HV8:=hdn (SLq.par HV.out g8 (by have:=HLE.out;have:=HRB.out;omega))
   clear g8 HM7 HG7 HV
   generalize w7.setCell ⟨rb,2,none⟩ (.int .i64 o)=w8 at HM8 HG8 HV8 ⊢
   go_wp2_with fail
   refine (want_m HC2.out ⟨#[125]⟩ (by decide) w8 _ HM8.out).mono ?_
   rintro en w9 ⟨rfl,g9,hm⟩
   have HM9:=hdn hm
   have HG9:=hdn (grownBy_tr HG8.out g9)
   have HV9:=hdn (SLq.par HV8.out g9 (by have:=HLE.out;have:=HRB.out;omega))
   clear hm g9 HM8 HG8 HV8
   go_wp2_with fail
   have hfin:=list_fin (rq:=(Except.error (6,0):Pr.Res α)) (rec:=rec) (x:=x) (by intro x u hc;cases hc) HOR.out HX.out
   have hm:=HM9.out
   refine bodyPost_ret (v:=v) (by simp[results,Tryz.results108,go_sem]) rfl ⟨HG9.out,_,x,rfl,SLq.mono HV9.out HLE.out, ?_, ?_⟩
   ·intro y u hy
    obtain ⟨n,hn⟩:=HERR.out
    rw[hn] at hy;cases hy
   ·obtain ⟨n,hn⟩:=HERR.out
    rw[hn]
    exact hm.as _ (.inr ⟨⟨_,rfl⟩,⟨_,rfl⟩⟩)
  ·have hd:(o==20)=false:=by rw[beq_eq_false_iff_ne];exact h20
   have H20:=hdn h20
   clear h20
   have HRE:Hid (r=braced l rec r0):=hdn (by
    rw[HBR.out,HR0.out]
    show braced l rec (Pr.mustHold (Pa.ts l) u)=_
    have ho:=HOA.out x0 u HR0.out
    unfold Pr.mustHold
    rw[HI.out,ho,show (o==20)=false by rw[beq_eq_false_iff_ne];exact H20.out];rfl)
   go_wp2_with fail
   clear c2 f2 hd
   refine (want_m HC.out ⟨#[123]⟩ (by decide) w1 (r0) HM1.out).mono ?_
   rintro en w5 ⟨rfl,g5,hm⟩
   have HM5:=hdn hm
   have HG5:=hdn (grownBy_tr HG1.out g5)
   clear hm g5 HM1 HG1
   obtain ⟨c2,f2⟩:=HM5.out.deepAt
   have ho0:0≤o:=HO.out.1
   have ho1:o≤20:=HO.out.2
   go_upto_region 5 with fail
   clear c2 f2
   have g6:w5.grownBy (w5.setCell ⟨rb,2,none⟩ (.int .i64 (o+1))) (some rb):=grownBy_setC w5 ⟨rb,2,none⟩ _
   have HM6:=hdn ((HM5.out.deep (o+1)).as (Pr.th (Pr.th (r0) fun _ u=>Pr.must (Pa.ts l) ⟨#[123]⟩ u) fun _ u=> .ok ((),⟨u.i,o+1,u.b⟩)) (by rcases (Pr.th (r0) fun _ u=>Pr.must (Pa.ts l) ⟨#[123]⟩ u) with n |⟨y,u⟩<;>exact .inl rfl))
   have HG6:=hdn (grownBy_tr HG5.out g6)
   have HLE:=hdn HG6.out.size
   clear g6 HM5 HG5
   generalize w5.setCell ⟨rb,2,none⟩ (.int .i64 (o+1))=w6 at HM6 HG6 HLE ⊢
   go_wp2_with fail
   refine (HREC.out w6 (o+1) _ HM6.out (by have:=HO.out;omega) (by have:=HO.out;omega) (by intro x u hc;have:=H20.out;have:=HO.out;omega) (fuel_in HFUE.out)).mono ?_
   rintro en w7 ⟨g7,v,x,rfl,hk,hx,hm⟩
   have HX:=hdn hx
   have HM7:=hdn hm
   have HV:=hdn hk
   have HG7:=hdn (grownBy_tr HG6.out g7)
   clear hx hm hk g7 HM6 HG6
   obtain ⟨c2,f2⟩:=HM7.out.deepAt
   go_upto_region 7 with fail
   clear c2 f2 ho0 ho1
   have g8:w7.grownBy (w7.setCell ⟨rb,2,none⟩ (.int .i64 o)) (some rb):=grownBy_setC w7 ⟨rb,2,none⟩ _
   have HOR:=hdn HM7.out.oAt
   have HM8:=hdn (HM7.out.deep o)
   have HG8:=hdn (grownBy_tr HG7.out g8)
   have HV8:=hdn (SLq.par HV.out g8 (by have:=HLE.out;have:=HRB.out;omega))
   clear g8 HM7 HG7 HV
   generalize w7.setCell ⟨rb,2,none⟩ (.int .i64 o)=w8 at HM8 HG8 HV8 ⊢
   go_wp2_with fail
   refine (want_m HC2.out ⟨#[125]⟩ (by decide) w8 _ HM8.out).mono ?_
   rintro en w9 ⟨rfl,g9,hm⟩
   have HM9:=hdn hm
   have HG9:=hdn (grownBy_tr HG8.out g9)
   have HV9:=hdn (SLq.par HV8.out g9 (by have:=HLE.out;have:=HRB.out;omega))
   clear hm g9 HM8 HG8 HV8
   go_wp2_with fail
   have hfin:=list_fin (rq:=r0) (rec:=rec) (x:=x) (HOA.out) HOR.out HX.out
   have hm:=HM9.out
   refine bodyPost_ret (v:=v) (by simp[results,Tryz.results108,go_sem]) rfl ⟨HG9.out,_,x,rfl,SLq.mono HV9.out HLE.out, ?_, ?_⟩
   ·intro y u hy
    rw[HRE.out] at hy
    exact hfin.1 y u hy
   ·refine hm.as _ ?_
    rw[HRE.out]
    exact .inl hfin.2
 ·have HF:=hdn hf
  clear hf
  have HRE:Hid (r=braced l rec r0):=hdn (by
   rw[HBR.out]
   have hf:=HF.out
   rcases r0 with n |⟨x0,u⟩
   ·rfl
   ·show braced l rec (Pr.mustHold (Pa.ts l) u)=_
    unfold Pr.mustHold
    rw[hf _ _ rfl];rfl)
  go_wp2_with fail
  refine (want_m HC.out ⟨#[123]⟩ (by decide) w1 (r0) HM1.out).mono ?_
  rintro en w5 ⟨rfl,g5,hm⟩
  have HM5:=hdn hm
  have HG5:=hdn (grownBy_tr HG1.out g5)
  clear hm g5 HM1 HG1
  obtain ⟨c2,f2⟩:=HM5.out.deepAt
  have ho0:0≤o:=HO.out.1
  have ho1:o≤20:=HO.out.2
  go_upto_region 5 with fail
  clear c2 f2
  have g6:w5.grownBy (w5.setCell ⟨rb,2,none⟩ (.int .i64 (o+1))) (some rb):=grownBy_setC w5 ⟨rb,2,none⟩ _
  have HM6:=hdn ((HM5.out.deep (o+1)).as (Pr.th (Pr.th (r0) fun _ u=>Pr.must (Pa.ts l) ⟨#[123]⟩ u) fun _ u=> .ok ((),⟨u.i,o+1,u.b⟩)) (by rcases (Pr.th (r0) fun _ u=>Pr.must (Pa.ts l) ⟨#[123]⟩ u) with n |⟨y,u⟩<;>exact .inl rfl))
  have HG6:=hdn (grownBy_tr HG5.out g6)
  have HLE:=hdn HG6.out.size
  clear g6 HM5 HG5
  generalize w5.setCell ⟨rb,2,none⟩ (.int .i64 (o+1))=w6 at HM6 HG6 HLE ⊢
  go_wp2_with fail
  refine (HREC.out w6 (o+1) _ HM6.out (by have:=HO.out;omega) (by have:=HO.out;omega) (fun x u hc=>(must_no_ok HF.out hc).elim) (fuel_in HFUE.out)).mono ?_
  rintro en w7 ⟨g7,v,x,rfl,hk,hx,hm⟩
  have HX:=hdn hx
  have HM7:=hdn hm
  have HV:=hdn hk
  have HG7:=hdn (grownBy_tr HG6.out g7)
  clear hx hm hk g7 HM6 HG6
  obtain ⟨c2,f2⟩:=HM7.out.deepAt
  go_upto_region 7 with fail
  clear c2 f2 ho0 ho1
  have g8:w7.grownBy (w7.setCell ⟨rb,2,none⟩ (.int .i64 o)) (some rb):=grownBy_setC w7 ⟨rb,2,none⟩ _
  have HOR:=hdn HM7.out.oAt
  have HM8:=hdn (HM7.out.deep o)
  have HG8:=hdn (grownBy_tr HG7.out g8)
  have HV8:=hdn (SLq.par HV.out g8 (by have:=HLE.out;have:=HRB.out;omega))
  clear g8 HM7 HG7 HV
  generalize w7.setCell ⟨rb,2,none⟩ (.int .i64 o)=w8 at HM8 HG8 HV8 ⊢
  go_wp2_with fail
  refine (want_m HC2.out ⟨#[125]⟩ (by decide) w8 _ HM8.out).mono ?_
  rintro en w9 ⟨rfl,g9,hm⟩
  have HM9:=hdn hm
  have HG9:=hdn (grownBy_tr HG8.out g9)
  have HV9:=hdn (SLq.par HV8.out g9 (by have:=HLE.out;have:=HRB.out;omega))
  clear hm g9 HM8 HG8 HV8
  go_wp2_with fail
  have hfin:=list_fin (rq:=r0) (rec:=rec) (x:=x) (HOA.out) HOR.out HX.out
  have hm:=HM9.out
  refine bodyPost_ret (v:=v) (by simp[results,Tryz.results108,go_sem]) rfl ⟨HG9.out,_,x,rfl,SLq.mono HV9.out HLE.out, ?_, ?_⟩
  ·intro y u hy
   rw[HRE.out] at hy
   exact hfin.1 y u hy
  ·refine hm.as _ ?_
   rw[HRE.out]
   exact .inl hfin.2
end
end Go.Proofs.YtcehbcnloiooaaaGreatDoor
namespace Go.Proofs.YtcehbcnloiooaaaGreatDoor
open Go.RowKit Go.Sort
attribute [local go_sem] field72_0 field72_1 field72_2 field72_3
def It.pl (x:It):It:=⟨x.h.pl,none,0,x.t.pl,none,0,x.e.pl⟩
theorem pl_of: ∀(l:List It),(SL.of l).pl=SL.of (l.map It.pl)
 | []=>rfl
 |x::l=>by rw[SL.of,SL.pl,List.map_cons,SL.of,pl_of l];rfl
def qIt:Kd It:=⟨63,48,608,It.cells,It.pl,itLies,fun _=>rfl,fun _=>scells_one _ _ _ _ _ _ _,fun _ h k=>itLies_ext h k⟩
theorem qinfIt: ∃i z,qIt.Inf Tryz.prog 35 i z:=by
 obtain ⟨i,h⟩:=infIt
 exact ⟨i,_,⟨h.und,h.info,h.zero,h.size,h.bytes,h.cells,h.pos⟩⟩
theorem qLies_items {w:World} {p:Option Addr} {l:List It} (h:qIt.Ly w p l):sLies w p (SL.of l):=sLies_items (l:=l) h
namespace Pa
def rstmts (l:List Tx.Sg) (rstmt:(Pr.St→Pr.Res SL)→Pr.St→Pr.Res (Hd×SL×SL)):Nat→Pr.St→Pr.Res SL
 |0,_=> .error (0,0)
 |n+1,u=>
  if (sg l u.i).kind=0∨Pr.is (ts l) u.i ⟨#[125]⟩=true then .ok (.nil,u)
  else Pr.th (rstmt (rstmts l rstmt n) u) fun a v=>thenOnto [itB a] (rstmts l rstmt n v)
end Pa
section
variable {rb sb cap:Nat} {l:List Tx.Sg} {N:Nat}
theorem RM.kind {α:Type} {w:World} {o:Int} {x:α} {u:Pr.St} (h:RM w rb sb cap l o N (Except.ok (x,u):Pr.Res α)):w.cell? ⟨rb,5,none⟩=some (.int .i64 0):=h.1.blk.cell 5
theorem th_onto (acc:List It) (r:Pr.Res (Hd×SL×SL)) (f:Pr.St→Pr.Res SL):thenOnto acc (Pr.th r fun a v=>thenOnto [itB a] (f v))=Pr.th (Pr.th r fun a v=>(.ok (acc++ [itB a],v):Pr.Res (List It))) fun a v=>thenOnto a (f v):=by
 rcases r with n |⟨a,v⟩
 ·rfl
 ·exact thenOnto_app _ _ _
def TRq (rb sb cap:Nat) (l:List Tx.Sg) (N n:Nat) (st:Pr.St→Pr.Res (Hd×SL×SL)):Prop:= ∀(w:World) (o:Int) (u:Pr.St),RM w rb sb cap l o N (.ok ((),u):Pr.Res Unit)→0≤o→o≤20→l.length<u.i+1+n→(Pa.sg l u.i).kind≠0→
 Calls Tryz.prog 78 #[.pointer (some ⟨rb,0,none⟩)] w (RP (qIt.Val w.heap.size) w rb sb cap l o (N+1) (Pr.th (st u) fun a v=> .ok (itB a,v)))
theorem stmts_m (C:RC l N) (hN8:N≤800000) (rstmt:(Pr.St→Pr.Res SL)→Pr.St→Pr.Res (Hd×SL×SL)) (n:Nat) (hn:n≤1000000)
  (hst: ∀m,m<n→TRq rb sb cap l N m (rstmt (Pa.rstmts l rstmt m))) (hfw: ∀m u a v,rstmt (Pa.rstmts l rstmt m) u= .ok (a,v)→u.i<v.i):SRq rb sb cap l N n (Pa.rstmts l rstmt n):=by
 intro w o r0 h ho0 ho1 ho2 hfu
 have HC:=hdn C
 have HC2:=hdn (C.more hN8)
 have HST:=hdn hst
 have HFW:=hdn hfw
 have HNB:=hdn hn
 have HO:=hdn ho0
 have HO2:Hid (∀x u,r0= .ok (x,u)→o≤20):=hdn ho2
 have HFUE:=hdn hfu
 have HM:=hdn h.more
 have HLT:Hid (rb<w.heap.size∧sb<w.heap.size):=hdn ⟨h.rb_lt,h.sb_lt⟩
 have HG0:Hid (w.grownBy w (some rb)):=hdn (grownBy_of (Below.refl _ _) _)
 clear hN8 hn hst hfw ho0 ho1 ho2 hfu
 obtain ⟨r,hr⟩: ∃r,r=Pr.th r0 fun _ u=>Pa.rstmts l rstmt n u:=⟨_,rfl⟩
 rw[←hr]
 have HR:=hdn hr
 have HMs:Hid (RM w rb sb cap l o (N+1) (Pr.th r0 fun _ u=>(.ok ([],u):Pr.Res (List It)))):=hdn (HM.out.as _ (by rcases r0 with n |⟨y,u⟩<;>exact .inl rfl))
 clear h hr
 obtain ⟨i0,z0,hI⟩:=qinfIt
 have HIN:=hdn hI
 clear hI
 go_enter Tryz.func57,Tryz.ntmps57
 go_wp2_with fail
 go_loopg [5] n (fun g v wr=> ∃(acc:List It) (rn:Pr.Res (List It)),Hid (g+acc.length=n)∧Hid (∀a u,rn= .ok (a,u)→acc=a∧l.length<u.i+g∧o≤20)∧Hid (r=Pr.th rn fun a u=>thenOnto a (Pa.rstmts l rstmt g u))∧Hid (qIt.Gr w.heap.size acc v wr)∧Hid (RM wr rb sb cap l o (N+1) rn)∧Hid (w.grownBy wr (some rb)))
 case atStart=>exact ⟨[],_,hdn rfl,hdn (by intro a u ha;rcases r0 with n |⟨y,v⟩;(· cases ha);(· injection ha with ha;injection ha with h1 h2;subst h2;exact ⟨h1,HFUE.out _ _ rfl,HO2.out _ _ rfl⟩)),hdn (by rw[HR.out];rcases r0 with n |⟨y,v⟩;(· rfl);(· exact (thenOnto_nil _).symm)),hdn (Kd.Gr.nil qIt (World.ownsRow_nil _ _ _ _)),HMs,HG0⟩
 case round=>
  obtain ⟨acc,rn,HNA,HAC,HH,HGr,HMr,HGw⟩:=hrel
  rcases rn with e0 |⟨a1,un⟩
  ·obtain ⟨k,b,a,e,he,hk,hb0,hb1,h5⟩:=HMr.out
   have c5:wr.cell? ⟨rb,5,none⟩=some (.int .i64 e):=h5.blk.cell 5
   have he':(e==0)=false:=by rw[beq_eq_false_iff_ne];exact he
   clear he hk hb0 hb1 h5
   go_wp2_with fail
   obtain ⟨sl,hv,hsl,hly⟩:=Kd.fin qIt (by have:=HNB.out;have:=HNA.out;show acc.length*608≤_;omega) HGr.out
   refine bodyPost_ret (v:=u5) (by simp[results,Tryz.results57,go_sem]) rfl ⟨HGw.out,_,SL.of acc,rfl,⟨sl.p,sl.cap,SL.of sl.l,by rw[hv,SL.of_len], ?_,qLies_items hly⟩, ?_, ?_⟩
   ·rw[pl_of,show sl.l.map It.pl=acc from hsl]
   ·rw[HH.out];intro y u hy;cases hy
   ·rw[HH.out];exact HMr.out.as _ (.inl rfl)
  ·have c5:wr.cell? ⟨rb,5,none⟩=some (.int .i64 0):=HMr.out.kind
   go_wp2_with fail
   refine (now_m wr _ HMr.out).mono ?_
   rintro en w2 ⟨hb,z,rfl,hz⟩
   have HZ:=hdn (hz _ _ rfl)
   have HM2:=hdn (HMr.out.below hb);have HG2:=hdn (grownBy_below HGw.out hb);have HGr2:=hdn (HGr.out.below hb)
   clear hb hz c5 HMr HGw HGr
   have HGP:Hid (0<gk):=hdn (by have h1:=(HAC.out a1 un rfl).2.1;have h2:=HM2.out.2.1;omega)
   by_cases hk:z.kind=0
   ·have hk':(z.kind !=0)=false:=by rw[hk];rfl
    have HKZ:=hdn hk
    clear hk
    go_wp2_with fail
    obtain ⟨sl,hv,hsl,hly⟩:=Kd.fin qIt (by have:=HNB.out;have:=HNA.out;show acc.length*608≤_;omega) HGr2.out
    refine bodyPost_ret (v:=u5) (by simp[results,Tryz.results57,go_sem]) rfl ⟨HG2.out,_,SL.of acc,rfl,⟨sl.p,sl.cap,SL.of sl.l,by rw[hv,SL.of_len], ?_,qLies_items hly⟩, ?_, ?_⟩
    ·rw[pl_of,show sl.l.map It.pl=acc from hsl]
    ·have hrr:r= .ok (SL.of acc,un):=by
      rw[HH.out]
      obtain ⟨gj,hgj⟩: ∃k,gk=k+1:=⟨gk-1,by have:=HGP.out;omega⟩
      rw[hgj]
      show thenOnto a1 (Pa.rstmts l rstmt (gj+1) un)=_
      rw[Pa.rstmts,if_pos (by left;rw[←HZ.out];exact HKZ.out),(HAC.out a1 un rfl).1]
      simp only[thenOnto,SL.onto_nil]
     rw[hrr];intro y u hy;injection hy with hy;injection hy
    ·have hrr:r= .ok (SL.of acc,un):=by
      rw[HH.out]
      obtain ⟨gj,hgj⟩: ∃k,gk=k+1:=⟨gk-1,by have:=HGP.out;omega⟩
      rw[hgj]
      show thenOnto a1 (Pa.rstmts l rstmt (gj+1) un)=_
      rw[Pa.rstmts,if_pos (by left;rw[←HZ.out];exact HKZ.out),(HAC.out a1 un rfl).1]
      simp only[thenOnto,SL.onto_nil]
     rw[hrr];exact HM2.out.as _ (.inl rfl)
   have hk':(z.kind !=0)=true:=by rw[bne_iff_ne];exact hk
   have HKZ:=hdn hk
   clear hk
   go_wp2_with fail
   refine (is_m HC2.out ⟨#[125]⟩ (by decide) w2 _ HM2.out).mono ?_
   rintro en w3 ⟨hb,hh⟩
   have HM3:=hdn (HM2.out.below hb);have HG3:=hdn (grownBy_below HG2.out hb);have HGr3:=hdn (HGr2.out.below hb)
   clear hb hk' HM2 HG2 HGr2
   rcases hh with ⟨rfl,a2,u2,hrn,hi,hlt⟩|⟨rfl,hf⟩
   ·have HI2:Hid (Pr.is (Pa.ts l) un.i ⟨#[125]⟩=true):=hdn (by injection hrn with hrn;injection hrn with h1 h2;rw[h2];exact hi)
    clear hrn hi hlt
    go_wp2_with fail
    obtain ⟨sl,hv,hsl,hly⟩:=Kd.fin qIt (by have:=HNB.out;have:=HNA.out;show acc.length*608≤_;omega) HGr3.out
    refine bodyPost_ret (v:=u5) (by simp[results,Tryz.results57,go_sem]) rfl ⟨HG3.out,_,SL.of acc,rfl,⟨sl.p,sl.cap,SL.of sl.l,by rw[hv,SL.of_len], ?_,qLies_items hly⟩, ?_, ?_⟩
    ·rw[pl_of,show sl.l.map It.pl=acc from hsl]
    ·have hrr:r= .ok (SL.of acc,un):=by
      rw[HH.out]
      obtain ⟨gj,hgj⟩: ∃k,gk=k+1:=⟨gk-1,by have:=HGP.out;omega⟩
      rw[hgj]
      show thenOnto a1 (Pa.rstmts l rstmt (gj+1) un)=_
      rw[Pa.rstmts,if_pos (.inr HI2.out),(HAC.out a1 un rfl).1]
      simp only[thenOnto,SL.onto_nil]
     rw[hrr];intro y u hy;injection hy with hy;injection hy
    ·have hrr:r= .ok (SL.of acc,un):=by
      rw[HH.out]
      obtain ⟨gj,hgj⟩: ∃k,gk=k+1:=⟨gk-1,by have:=HGP.out;omega⟩
      rw[hgj]
      show thenOnto a1 (Pa.rstmts l rstmt (gj+1) un)=_
      rw[Pa.rstmts,if_pos (.inr HI2.out),(HAC.out a1 un rfl).1]
      simp only[thenOnto,SL.onto_nil]
     rw[hrr];exact HM3.out.as _ (.inl rfl)
   have HF:Hid (Pr.is (Pa.ts l) un.i ⟨#[125]⟩=false):=hdn (hf _ _ rfl)
   clear hf
   go_wp2_with fail
   obtain ⟨gj,hgj⟩: ∃k,gk=k+1:=⟨gk-1,by have:=HGP.out;omega⟩
   have HGJ:=hdn hgj
   clear hgj
   refine (HST.out gj (by have:=HGJ.out;have:=HNA.out;omega) w3 o un ⟨HM3.out.1,HM3.out.2⟩ HO.out (HAC.out a1 un rfl).2.2 (by have:=(HAC.out a1 un rfl).2.1;have:=HGJ.out;omega) (by rw[←HZ.out];exact HKZ.out)).mono ?_
   rintro en w6 ⟨g6,v,xx,rfl,⟨z,rfl,hze,hlie⟩,hx,hm⟩
   have HX:=hdn hx
   have HM6:=hdn hm
   have HZE:=hdn hze
   have HLZ:Hid (qIt.R (rest w.heap.size u5.ownBlock w6) z):=hdn (qIt.ext z (fresh_rest HG3.out.size (fun g hg=>by obtain ⟨ys,h1,h2,h3⟩:=HGr3.out;exact (h2.lt g hg).2)) hlie)
   have HG6:=hdn (grownBy_tr HG3.out g6)
   have HGr6:=hdn (HGr3.out.par g6 HLT.out.1)
   have HB1:Hid (acc.length+1≤maxLen∧(acc.length+1)*608≤140737488355328):=hdn ⟨by have:=HNB.out;have:=HNA.out;unfold maxLen;omega,by have:=HNB.out;have:=HNA.out;omega⟩
   clear hx hm hze hlie g6 HM3 HG3 HGr3
   go_wp2_with (first |((with_reducible show wpList _ _ _ (Oper.mk (some 30) _ _ _ _ _::_) _ _);refine wpList_one rfl 35 63 (.tmp 29) rfl (qIt.cells z).toArray rfl HIN.out.und i0 _ qIt.size HIN.out.info HIN.out.zero HIN.out.size HIN.out.pos (by decide) rfl ?_)|((with_reducible show wpList _ _ _ (Oper.mk (some 31) _ _ _ _ _::_) _ _);refine Kd.wpList_push qIt rfl 35 i0 _ HIN.out (.tmp 27) (.tmp 30) rfl w.heap.size acc u5 rfl HGr6.out HG6.out.size z rfl HLZ.out HB1.out.1 HB1.out.2 ?_;rintro v' w7 hG7 ⟨gg,cc,rfl⟩ hgr7 hown7;have HGr7:=hdn hG7;have HM7:=hdn (HM6.out.grown hgr7 (fun q hq=>by have:=hown7 q hq;have:=HLT.out;omega));have HG7:=hdn (grownBy_up HG6.out hgr7 hown7);clear hG7 hgr7 hown7))
   go_roundg gj
   case measure=>have:=HGJ.out;omega
   case rel=>
    refine ⟨acc++ [qIt.er z],Pr.th (rstmt (Pa.rstmts l rstmt gj) un) (fun a v=> .ok (a1++ [itB a],v)),hdn (by have:=HNA.out;have:=HGJ.out;simp only[List.length_append,List.length_singleton];omega),hdn ?_,hdn ?_,HGr7,hdn ?_,HG7⟩
    ·intro a u ha
     rcases q:rstmt (Pa.rstmts l rstmt gj) un with e |⟨b,v⟩
     ·rw[q] at ha;cases ha
     ·have h1:=HFW.out gj un b v q
      have h2:=HAC.out a1 un rfl
      have h3:=HX.out (itB b) v (by rw[q];rfl)
      rw[q] at ha;injection ha with ha;injection ha with h4 h5
      subst h5
      refine ⟨?_,by have:=HGJ.out;omega,h2.2.2⟩
      rw[←h4,h2.1,←h3,←HZE.out]
    ·rw[HH.out,HGJ.out]
     show thenOnto a1 (Pa.rstmts l rstmt (gj+1) un)=_
     rw[Pa.rstmts,if_neg (by rw[HF.out,←HZ.out];intro hh;rcases hh with hh |hh;(· exact HKZ.out hh);(· exact absurd hh (by decide)))]
     exact th_onto _ _ _
    ·refine HM7.out.as _ (.inl ?_)
     rcases rstmt (Pa.rstmts l rstmt gj) un with e |⟨b,v⟩<;>rfl
end
end Go.Proofs.YtcehbcnloiooaaaGreatDoor
namespace Go.Proofs.YtcehbcnloiooaaaGreatDoor
open Go.RowKit Go.Sort
theorem rs_row {w:World} {B:Nat} {v:Value} {l:List Tx.Sg} (h:w.ownsRow B 83 4 v l.length (l.flatMap Tx.cells)) (hl:0<l.length):
  ∃sb cap,v= .slice (some ⟨sb,0,none⟩) l.length cap∧sb<w.heap.size∧B≤sb∧∀k x,l[k]? =some x→w.rangeAt sb (k*4) [.int .i64 x.kind,.int .i64 x.pos,.string x.text,.int .i64 x.num]:=by
 rcases h.2 with ⟨rfl,h0⟩|⟨g,cap,cur,rfl,hg,hr,_⟩
 ·omega
 ·refine ⟨g,cap,rfl,(Array.getElem?_eq_some_iff.1 hr).1,hg,fun k x hx j u hu=> ?_⟩
  have hk:=(List.getElem?_eq_some_iff.1 hx).1
  have hj:j<4:=(List.getElem?_eq_some_iff.1 hu).1
  rw[h.cellAt (k*4+j) (by omega),Tx.cells_at l k hk j hj]
  have hx':l[k]=x:=(List.getElem?_eq_some_iff.1 hx).2
  rw[hx']
  exact hu
theorem rc_alls (s:ByteArray) (he:(Tx.alls s).2.2=0):RC (Tx.alls s).1 70000∧0<(Tx.alls s).1.length∧(Tx.alls s).1.length≤70000:=by
 obtain ⟨hg,_,h0⟩:=alls_good s he
 obtain ⟨m,x,h1,_,_,_,_,h6,h7⟩:=Tx.alls_shape s he
 have hl:(Tx.alls s).1.length≤70000:=by rw[h1];simp;omega
 exact ⟨⟨Pa.alls_kind s he,hg,hl,by decide⟩,h0,hl⟩
theorem open_any (s:ByteArray) (w:World) (hs:s.size≤5000000):
  Calls Tryz.prog 24 #[.string s] w fun en w'=> ∃rb:Nat,en= .returned (.tuple #[.pointer (some ⟨rb,0,none⟩),.int .i64 (Tx.alls s).2.1,.int .i64 (Tx.alls s).2.2])∧Below w.heap.size w w'∧w.heap.size≤rb∧
   ((Tx.alls s).2.2=0→∃sb cap,w.heap.size≤sb∧RM w' rb sb cap (Tx.alls s).1 0 70000 (.ok ((),⟨0,0,0⟩):Pr.Res Unit)):=by
 have CA:=refAll_any s w hs
 clear hs
 unfold AllPost at CA
 have HRC:Hid ((Tx.alls s).2.2=0→RC (Tx.alls s).1 70000∧0<(Tx.alls s).1.length∧(Tx.alls s).1.length≤70000):=hdn (rc_alls s)
 generalize Tx.alls s=al at*
 go_enter Tryz.func24,Tryz.ntmps24
 go_wp2_with fail
 refine CA.mono ?_
 rintro en w1 ⟨v,rfl,ho,hb⟩
 obtain ⟨a0,c0,rfl⟩:=own_shape ho
 have HO:=hdn ho
 have HB:=hdn hb
 clear ho hb CA
 go_wp2_with fail
 have hm:Below w1.heap.size w1 (w1.alloc (.cells #[.slice a0 al.1.length c0,.int .i64 0,.int .i64 0,.int .i64 0,.int .i64 0,.int .i64 0] 81)):=(Below.refl _ _).alloc (Nat.le_refl _) _
 refine bodyPost_ret (results_tmp3 rfl _ _ _) rfl ⟨w1.heap.size,rfl,HB.out.trans (hm.mono HB.out.size),HB.out.size, ?_⟩
 intro he
 obtain ⟨hc,h0,hl⟩:=HRC.out he
 obtain ⟨sb,cap,hv,hsb,hB,hrow⟩:=rs_row HO.out h0
 refine ⟨sb,cap,hB,⟨?_,fun j x hx=>rangeAt_below (hrow j x hx) hm,by show sb≠w1.heap.size;omega,h0,hl,by decide⟩,h0,rfl,by decide,by decide⟩
 rw[hv]
 exact heap_alloc_new _ _
end Go.Proofs.YtcehbcnloiooaaaGreatDoor
namespace Go.Proofs.YtcehbcnloiooaaaGreatDoor
open Go.RowKit Go.Sort
namespace Pa
open Pr (St Res th noHd)
section
variable (l:List Tx.Sg)
def rbody (rec:St→Res SL) (u:St):Res (Hd×SL×SL):=
 if Pr.is (ts l) u.i ⟨#[59]⟩ then .ok (({noHd with pos:=(sg l u.i).pos},.nil,.nil),u.go)
 else if Pr.is (ts l) u.i ⟨#[123]⟩ then
  th (block l rec u) fun a v=>
  .ok (({noHd with kind:=6,pos:=(sg l u.i).pos},a,.nil),v)
 else if Pr.is (ts l) u.i ⟨#[102,114,101,101]⟩ then
  th (free l u) fun h u=>
  .ok ((h,.nil,.nil),u)
 else if Pr.is (ts l) u.i ⟨#[105,102]⟩ then branch l rec u
 else if Pr.is (ts l) u.i ⟨#[119,104,105,108,101]⟩ then loop l rec u
 else
  th (named l u) fun h u=>
  .ok ((h,.nil,.nil),u)
def rstmt (rec:St→Res SL) (u:St):Res (Hd×SL×SL):=
 if u.b=400 then .error (11,u.i) else rbody l rec ⟨u.i,u.o,u.b+1⟩
end
variable {l:List Tx.Sg}
theorem stmt_rbody (rec:St→Res SL) (u:St):stmt l rec u=th (Pr.count (ts l) u) fun _ u=>rbody l rec u:=rfl
theorem is_one {i:Nat} {s t:ByteArray} (h1:Pr.is (ts l) i s=true) (hne:(s.toList==t.toList)=false):Pr.is (ts l) i t=false:=by
 unfold Pr.is at h1 ⊢
 rw[beq_iff_eq] at h1
 rw[h1];exact hne
theorem rstmt_iff (rec:St→Res SL) (u:St) (x:(Hd×SL×SL)×St):rstmt l rec u= .ok x↔stmt l rec u= .ok x:=by
 rw[stmt_rbody]
 unfold rstmt Pr.count Pr.mustHold
 by_cases hb:u.b=400
 ·rw[if_pos hb]
  constructor
  ·intro h;cases h
  ·intro h
   split at h
   ·cases h
   ·simp only[Pr.th,hb,if_true] at h;cases h
 ·rw[if_neg hb]
  by_cases hh:(Pr.is (ts l) u.i ⟨#[123]⟩ && u.o==20)=true
  ·rw[if_pos hh]
   constructor
   ·intro h
    rw[Bool.and_eq_true] at hh
    unfold rbody at h
    rw[if_neg (by rw[is_one hh.1 (by rw[Lib.toList_data,Lib.toList_data];decide)];decide),if_pos hh.1] at h
    unfold block Pr.block Pr.mustHold at h
    rw[if_pos (by rw[Bool.and_eq_true];exact hh)] at h
    cases h
   ·intro h;cases h
  ·rw[if_neg hh]
   simp only[Pr.th,if_neg hb]
end Pa
end Go.Proofs.YtcehbcnloiooaaaGreatDoor
namespace Go.Proofs.YtcehbcnloiooaaaGreatDoor
open Go.RowKit Go.Sort
namespace Pa
open Pr (St Res th noHd)
def Eqo {α:Type} (r s:Res α):Prop:= ∀x,r= .ok x↔s= .ok x
theorem Eqo.rfl' {α:Type} (r:Res α):Eqo r r:=fun _=>Iff.rfl
theorem Eqo.th {α β:Type} {r s:Res α} {f g:α→St→Res β} (h:Eqo r s) (k: ∀a u,Eqo (f a u) (g a u)):Eqo (th r f) (th s g):=by
 intro x
 rcases r with n |⟨a,u⟩
 ·rcases s with m |⟨b,v⟩
  ·exact ⟨(fun e=>by cases e),(fun e=>by cases e)⟩
  ·exact absurd ((h (b,v)).2 rfl) (by intro e;cases e)
 ·have:=(h (a,u)).1 rfl
  rw[this];exact k a u x
theorem Eqo.ite {α:Type} {c:Prop} [Decidable c] {r1 r2 s1 s2:Res α} (h1:Eqo r1 s1) (h2:Eqo r2 s2):Eqo (if c then r1 else r2) (if c then s1 else s2):=by
 split
 ·exact h1
 ·exact h2
variable {l:List Tx.Sg}
def fin (l:List Tx.Sg) (u:St):Prop:=(sg l u.i).kind=0∨Pr.is (ts l) u.i ⟨#[125]⟩=true
theorem block_eqo {r1 r2:St→Res SL} (h: ∀u x,r1 u= .ok x↔(r2 u= .ok x∧fin l x.2)) (u:St):Eqo (block l r1 u) (block l r2 u):=by
 unfold block Pr.block
 refine Eqo.th (Eqo.rfl' _) fun _ u1=>Eqo.th (Eqo.rfl' _) fun _ u2=> ?_
 intro x
 rcases q1:r1 ⟨u2.i,u2.o+1,u2.b⟩ with n |⟨a,v⟩
 ·rcases q2:r2 ⟨u2.i,u2.o+1,u2.b⟩ with m |⟨b,v⟩
  ·exact ⟨(fun e=>by cases e),(fun e=>by cases e)⟩
  ·have hn: ¬fin l v:=fun hf=>by
    have:=(h _ (b,v)).2 ⟨q2,hf⟩
    rw[q1] at this;cases this
   have hm:Pr.is (ts l) v.i ⟨#[125]⟩=false:=by
    rcases q:Pr.is (ts l) v.i ⟨#[125]⟩ with _ |_
    ·rfl
    ·exact absurd (.inr q) hn
   constructor
   ·intro e;cases e
   ·intro e
    change Pr.th (Pr.must (ts l) ⟨#[125]⟩ v) _=_ at e
    unfold Pr.must at e
    rw[if_neg (by rw[hm];decide)] at e
    cases e
 ·have:=((h _ (a,v)).1 q1).1
  rw[this]
theorem stmt_eqo {r1 r2:St→Res SL} (h: ∀u x,r1 u= .ok x↔(r2 u= .ok x∧fin l x.2)) (u:St):Eqo (stmt l r1 u) (stmt l r2 u):=by
 rw[stmt_rbody,stmt_rbody]
 refine Eqo.th (Eqo.rfl' _) fun _ u=> ?_
 unfold rbody
 refine Eqo.ite (Eqo.rfl' _) (Eqo.ite (Eqo.th (block_eqo h u) fun _ _=>Eqo.rfl' _) (Eqo.ite (Eqo.rfl' _) (Eqo.ite ?_ (Eqo.ite ?_ (Eqo.rfl' _)))))
 ·unfold branch
  refine Eqo.th (Eqo.rfl' _) fun _ v=>Eqo.th (Eqo.rfl' _) fun _ v=>Eqo.th (block_eqo h v) fun _ v=>Eqo.ite (Eqo.th (block_eqo h _) fun _ _=>Eqo.rfl' _) (Eqo.rfl' _)
 ·unfold loop
  exact Eqo.th (Eqo.rfl' _) fun _ v=>Eqo.th (Eqo.rfl' _) fun _ v=>Eqo.th (block_eqo h v) fun _ _=>Eqo.rfl' _
theorem begins_fin {N:Nat} (C:RC l N) {u:St} (hi:u.i<l.length) (hf:fin l u):Pr.begins (ts l) u=false:=by
 have hx:l[u.i]? =some (sg l u.i):=by unfold sg;rw[List.getD_eq_getElem?_getD,List.getElem?_eq_getElem hi];rfl
 have hkk:(Pr.sg (ts l) u.i).kind=(sg l u.i).kind:=(kind_tk _).symm
 rcases hf with h0 |h1
 ·have ht:(sg l u.i).text=ByteArray.empty:=C.good.none _ _ hx ((C.good.fin _ _ hx).1 h0)
  have hne: ∀s:ByteArray,s.toList≠ []→Pr.is (ts l) u.i s=false:=by
   intro s hs
   unfold Pr.is
   rw[←sg_tk]
   show ((sg l u.i).text.toList==s.toList)=false
   rw[ht,beq_eq_false_iff_ne,Lib.toList_data]
   intro e;exact hs e.symm
  unfold Pr.begins
  rw[hne _ (by rw[Lib.toList_data];decide),hne _ (by rw[Lib.toList_data];decide),hne _ (by rw[Lib.toList_data];decide),hne _ (by rw[Lib.toList_data];decide),hne _ (by rw[Lib.toList_data];decide),hkk,h0]
  rfl
 ·unfold Pr.begins
  rw[is_one h1 (by rw[Lib.toList_data,Lib.toList_data];decide),is_one h1 (by rw[Lib.toList_data,Lib.toList_data];decide),is_one h1 (by rw[Lib.toList_data,Lib.toList_data];decide),is_one h1 (by rw[Lib.toList_data,Lib.toList_data];decide),is_one h1 (by rw[Lib.toList_data,Lib.toList_data];decide),hkk]
  rw[←isNx_pr hi] at h1
  rcases isNx_kind C.kinds (by omega) (by decide) h1 with hh |hh<;>rw[rsg_lt hi] at hh<;>rw[hh]<;>rfl
end Pa
end Go.Proofs.YtcehbcnloiooaaaGreatDoor
namespace Go.Proofs.YtcehbcnloiooaaaGreatDoor
open Go.RowKit Go.Sort
namespace Pa
open Pr (St Res th noHd)
variable {l:List Tx.Sg}
theorem is_out {i:Nat} {s:ByteArray} (h: ¬i<l.length) (hs:s.toList≠ []):Pr.is (ts l) i s=false:=by
 unfold Pr.is
 rw[←sg_tk]
 show ((sg l i).text.toList==s.toList)=false
 have:(sg l i).text=ByteArray.empty:=by
  unfold sg;rw[List.getD_eq_getElem?_getD,List.getElem?_eq_none (by omega)];rfl
 rw[this,beq_eq_false_iff_ne,Lib.toList_data]
 intro e;exact hs e.symm
theorem begins_end {N:Nat} (C:RC l N) {u:St} (hf:fin l u):Pr.begins (ts l) u=false:=by
 by_cases hi:u.i<l.length
 ·exact begins_fin C hi hf
 ·have hk:(Pr.sg (ts l) u.i).kind=0:=by
   rw[←kind_tk];unfold sg;rw[List.getD_eq_getElem?_getD,List.getElem?_eq_none (by omega)];rfl
  unfold Pr.begins
  rw[is_out hi (by rw[Lib.toList_data];decide),is_out hi (by rw[Lib.toList_data];decide),is_out hi (by rw[Lib.toList_data];decide),is_out hi (by rw[Lib.toList_data];decide),is_out hi (by rw[Lib.toList_data];decide),hk]
  rfl
theorem rstmt_none {rec:St→Res SL} {u:St} (hb:Pr.begins (ts l) u=false) (x:(Hd×SL×SL)×St):rstmt l rec u≠ .ok x:=by
 unfold Pr.begins at hb
 simp only[Bool.or_eq_false_iff] at hb
 obtain ⟨⟨⟨⟨⟨h1,h2⟩,h3⟩,h4⟩,h5⟩,h6⟩:=hb
 have hk: ¬(sg l u.i).kind=1:=by
  rw[kind_tk];rw[beq_eq_false_iff_ne] at h6;exact h6
 unfold rstmt
 split
 ·intro e;cases e
 ·unfold rbody named path name
  show (if Pr.is (ts l) u.i ⟨#[59]⟩=true then _ else _)≠_
  rw[if_neg (by rw[h1];decide),if_neg (by rw[h2];decide),if_neg (by rw[h3];decide),if_neg (by rw[h4];decide),if_neg (by rw[h5];decide)]
  rw[if_neg hk]
  split
  ·intro e;cases e
  ·intro e;cases e
theorem rstmts_iff {N:Nat} (C:RC l N): ∀(n:Nat) (u:St) (x:SL×St),rstmts l (rstmt l) n u= .ok x↔(stmts l n u= .ok x∧fin l x.2)
 |0,u,x=>⟨(fun e=>by cases e),(fun e=>by cases e.1)⟩
 |n+1,u,x=>by
  unfold rstmts stmts
  by_cases hf:(sg l u.i).kind=0∨Pr.is (ts l) u.i ⟨#[125]⟩=true
  ·rw[if_pos hf,if_neg (by rw[begins_end C hf];decide)]
   exact ⟨fun e=>⟨e,by injection e with e;rw[←e];exact hf⟩,And.left⟩
  ·rw[if_neg hf]
   by_cases hb:Pr.begins (ts l) u=true
   ·rw[if_pos hb]
    have hs: ∀y,rstmt l (rstmts l (rstmt l) n) u= .ok y↔stmt l (stmts l n) u= .ok y:=fun y=>(rstmt_iff _ u y).trans (stmt_eqo (rstmts_iff C n) u y)
    rcases q:stmt l (stmts l n) u with m |⟨a,v⟩
    ·rcases q':rstmt l (rstmts l (rstmt l) n) u with m' |y
     ·exact ⟨(fun e=>by cases e),(fun e=>by cases e.1)⟩
     ·have:=(hs y).1 q'
      rw[q] at this;cases this
    ·rw[(hs (a,v)).2 q]
     show thenOnto [itB a] (rstmts l (rstmt l) n v)=_↔(Pr.th (stmts l n v) _=_∧_)
     rcases q3:rstmts l (rstmt l) n v with m |⟨s,z⟩
     ·rcases q4:stmts l n v with m' |⟨s',z'⟩
      ·exact ⟨(fun e=>by cases e),(fun e=>by cases e.1)⟩
      ·have hn: ¬fin l z':=fun h=>by
        have:=(rstmts_iff C n v (s',z')).2 ⟨q4,h⟩
        rw[q3] at this;cases this
       refine ⟨(fun e=>by cases e),fun e=> ?_⟩
       obtain ⟨e1,e2⟩:=e
       injection e1 with e1
       rw[←e1] at e2
       exact absurd e2 hn
     ·obtain ⟨h1,h2⟩:=(rstmts_iff C n v (s,z)).1 q3
      rw[h1]
      exact ⟨fun e=>⟨e,by injection e with e;rw[←e];exact h2⟩,And.left⟩
   ·rw[if_neg hb]
    have hb':Pr.begins (ts l) u=false:=by simpa using hb
    rcases q':rstmt l (rstmts l (rstmt l) n) u with m' |y
    ·refine ⟨(fun e=>by cases e),fun e=> ?_⟩
     obtain ⟨e1,e2⟩:=e
     injection e1 with e1
     rw[←e1] at e2
     exact absurd e2 hf
    ·exact absurd q' (rstmt_none hb' y)
end Pa
end Go.Proofs.YtcehbcnloiooaaaGreatDoor
namespace Go.Proofs.YtcehbcnloiooaaaGreatDoor
open Go.RowKit Go.Sort
namespace Pa
open Pr (St Res th noHd)
variable {l:List Tx.Sg}
theorem rstmt_stp {rec:St→Res SL} (hr: ∀u a v,rec u= .ok (a,v)→Pr.Stp 0 u v) {u v:St} {a:Hd×SL×SL} (h:rstmt l rec u= .ok (a,v)):Pr.Stp 1 u v:=by
 have h':=(rstmt_iff rec u (a,v)).1 h
 have hl: ∀u,Like SL.er (rec u) ((fun u=>Pr.th (rec u) fun a v=>(.ok (a.er,v):Res SL)) u):=by
  intro u
  show Like SL.er (rec u) (Pr.th (rec u) _)
  rcases rec u with n |⟨b,w⟩
  ·exact rfl
  ·exact ⟨rfl,rfl⟩
 have hs:=stmt_er (l:=l) hl u
 rw[h'] at hs
 rcases q:Pr.stmt (ts l) (fun u=>Pr.th (rec u) fun a v=>(.ok (a.er,v):Res SL)) u with n |⟨b,w⟩
 ·rw[q] at hs;exact hs.elim
 ·rw[q] at hs
  obtain ⟨_,rfl⟩:=hs
  refine Pr.stmt_stp (fun u a v hh=> ?_) q
  rcases q2:rec u with n |⟨c,z⟩
  ·simp only[q2,Pr.th] at hh;cases hh
  ·simp only[q2,Pr.th] at hh
   injection hh with hh;injection hh with h1 h2
   rw[←h2];exact hr u c z q2
theorem rstmts_stp: ∀(n:Nat) (u:St) (a:SL) (v:St),rstmts l (rstmt l) n u= .ok (a,v)→Pr.Stp 0 u v
 |0,u,a,v,h=>by cases h
 |n+1,u,a,v,h=>by
  unfold rstmts at h
  split at h
  ·injection h with h;injection h with h1 h2;subst h2
   exact (Pr.Fwd.refl u).stp
  ·rcases q:rstmt l (rstmts l (rstmt l) n) u with m |⟨b,w⟩
   ·rw[q] at h;cases h
   ·rw[q] at h
    change thenOnto [itB b] (rstmts l (rstmt l) n w)=_ at h
    rcases q2:rstmts l (rstmt l) n w with m |⟨c,z⟩
    ·rw[q2] at h;cases h
    ·rw[q2] at h
     injection h with h;injection h with h1 h2;subst h2
     exact ((rstmt_stp (fun u a v=>rstmts_stp n u a v) q).tr (rstmts_stp n w c z q2)).le (by omega)
theorem rstmt_fw (m:Nat) (u:St) (a:Hd×SL×SL) (v:St) (h:rstmt l (rstmts l (rstmt l) m) u= .ok (a,v)):u.i<v.i:=(rstmt_stp (fun u a v=>rstmts_stp m u a v) h).1
end Pa
end Go.Proofs.YtcehbcnloiooaaaGreatDoor
