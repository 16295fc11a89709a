/-
  The law CheckMore: up to what it weighs. A tree whose types are right has no place, and stays right with one procedure more, and with an empty statement and a block about each body. For every input; the six tables of the package hold what the program's text lays in them.
-/
import Derived.Test.YtcehbcnloiooaaaGreatDoorM18
import Derived.ProofKit
import Derived.LaidMore
import Derived.OpenShut
import Derived.Stop.Joined
import Derived.Lib.LaidTab
import Derived.Laws.Cover2
import Derived.Test.YtcehbcnloiooaaaGreatDoorTie
import Derived.Test.YtcehbcnloiooaaaGreatDoorCards
import Derived.SevenTiedAt
import Derived.Stop.LaidErr
set_option maxHeartbeats 6400000
set_option maxRecDepth 100000
namespace Go.Proofs.YtcehbcnloiooaaaGreatDoor
namespace Mo
open Go.RowKit Go.Sort
theorem heap_alloc_old_ {w:World} {g:Nat} {t:TypeId} {cs:Array Value} (h:Bk w g t cs) (o:Obj):Bk (w.alloc o) g t cs:=h.below ((Below.refl _ _).alloc (Nat.le_refl _) _) h.lt
structure Wd (y:Pg) (k:Nat) (n:Int):Prop where
 n:n=Sc.wtP (y.procs.l.take k)
 dp: ∀q∈y.procs.l.take k,Sc.dpG q.body 0<20
 nm: ∀q∈y.procs.l.take k,¬q.name=Sc.moN
theorem Wd.step {y:Pg} {k:Nat} {n:Int} (h:Wd y k n) {q:Pc} (hq:y.procs.l[k]? =some q) (h1:Sc.dpG q.body 0<20) (h2: ¬q.name=Sc.moN):Wd y (k+1) (n+Sc.wt q.body 0+2):=by
 have e:y.procs.l.take (k+1)=y.procs.l.take k++ [q]:=by rw[List.take_add_one,hq];rfl
 refine ⟨by rw[e,Sc.wtP_snoc,h.n];omega,fun x hx=> ?_,fun x hx=> ?_⟩
 ·rw[e] at hx
  rcases List.mem_append.1 hx with g |g
  ·exact h.dp x g
  ·rw[List.mem_singleton.1 g];exact h1
 ·rw[e] at hx
  rcases List.mem_append.1 hx with g |g
  ·exact h.nm x g
  ·rw[List.mem_singleton.1 g];exact h2
theorem wt_le (l:SL):0≤Sc.wt l 0∧Sc.wt l 0≤2000:=⟨(Sc.wtGo_ge l 0 0).2 (Int.le_refl _),by unfold Sc.wt;split<;>omega⟩
theorem cnt_le: ∀ {l:List Pc} {q:Pc},q∈l→Pn.cnt q.body≤Pn.cntP l
 |x::l,q,h=>by
  have h1:=Pn.cnt_nn x.body
  have h2:=Pn.cntP_nn l
  unfold Pn.cntP
  rcases List.mem_cons.1 h with e |e
  ·subst e;omega
  ·have:=cnt_le e;omega
theorem procs_at {y:Pg} {w w':World} (h:Rdy y w) (hb:Below w.heap.size w w') {k:Nat} {q:Pc} (hq:y.procs.l[k]? =some q): ∃pb po,y.procs.p=some ⟨pb,po,none⟩∧w'.rangeAt pb (po+k*6) (Pc.cells q)∧Sc.sok w' q.bp q.body∧Pn.cnt q.body≤400:=by
 have h':=h.below hb
 have hm:q∈y.procs.l:=List.mem_iff_getElem?.2 ⟨k,hq⟩
 have hr:=h.ok
 simp only[Pn.right,Bool.and_eq_true,decide_eq_true_eq] at hr
 have hc:=cnt_le hm
 rcases h'.lies.2.2.2 with e |⟨b,o,hp,hx⟩
 ·rw[e] at hq;simp at hq
 ·exact ⟨b,o,hp,(hx k q hq).1,(all_ok h'.lies h'.ok h'.tight).1.body q hm,by omega⟩
theorem at_below_ {w w':World} {p:Addr} {v:Value} (hb:Below w.heap.size w w') (h:w.cell? p=some v):w'.cell? p=some v:=(hb.cell (World.block_lt_of_cell? _ _ h)).trans h
theorem nm_yes {x:ByteArray} (h:x=Sc.moN):(x.toList==([109,111,114,101]:List UInt8))=true:=by
 rw[h,ByteArray.toList_eq];rfl
theorem nm_no {x:ByteArray} (h: ¬x=Sc.moN):(x.toList==([109,111,114,101]:List UInt8))=false:=by
 rw[beq_eq_false_iff_ne]
 intro e
 rw[ByteArray.toList_eq] at e
 apply h
 obtain ⟨d⟩:=x
 have:d= #[109,111,114,101]:=by rw[←Array.toList_inj];exact e
 rw[this];rfl
def TrueP (w:World) (e:Ending) (w':World):Prop:=e= .returned (.bool true)∧Below w.heap.size w w'
theorem more_any (s:ByteArray) (w:World) (hG:Gp w):Calls Tryz.prog 6 #[.string s] w (TrueP w):=by
 have HG:=hdn hG
 have HLV:Hid (∀w',Below w.heap.size w w'→Calls Tryz.prog 8 #[] w' fun e w''=>e= .returned (.bool true)∧Below w'.heap.size w' w''):=hdn (fun w' hb=>lives9_any w' (HG.out.go hb))
 clear hG
 by_cases hl:4000<s.size
 ·have hl':(4000:Int)<(s.size:Int):=by omega
  have CL:=hdn (HLV.out w (Below.refl _ _))
  go_enter Tryz.func6,Tryz.ntmps6
  go_wp2_with (go_at_call 8;refine CL.out.mono ?_;rintro e w' ⟨rfl,hb⟩;have HB1:=hdn hb;clear hb)
  go_ret
  exact ⟨rfl,HB1.out⟩
 ·have h4:s.size≤4000:=by omega
  have hl': ¬(4000:Int)<(s.size:Int):=by omega
  have HR1:=hdn (refP_any s w (by omega))
  clear hl
  go_enter Tryz.func6,Tryz.ntmps6
  go_wp2_with fail
  refine (HR1.out).mono ?_
  rintro en w2 ⟨y,p1,e1,rfl,hb1,hor⟩
  have HB1:=hdn hb1
  obtain ⟨c1,hc1⟩: ∃c1,c1=(Pg.cells y).toArray:=⟨_,rfl⟩
  have HSI:Hid ((Tryz.prog.info? 26).map (·.size)=some c1.size):=hdn (by rw[hc1];exact size26)
  have HZ:Hid (3=c1.size):=hdn (by rw[hc1];rfl)
  have HON:Hid (c1.all (·.oneCell')=true):=hdn (by rw[hc1];simp[Pg.cells,Value.oneCell'])
  have HBA:Hid (Below w2.heap.size w2 (w2.alloc (.cells c1 26))):=hdn ((Below.refl _ _).alloc (Nat.le_refl _) _)
  have HB2:Hid (Below w.heap.size w (w2.alloc (.cells c1 26))):=hdn (HB1.out.trans (HBA.out.mono HB1.out.size))
  have HKA:Hid (Bk (w2.alloc (.cells c1 26)) w2.heap.size 26 c1):=hdn (heap_alloc_new _ _)
  have HCE:=hdn hc1
  rw[←hc1]
  rcases hor with ⟨rfl,hok,hly⟩|⟨hne,_⟩
  ·have HRD:Hid (Rdy y (w2.alloc (.cells c1 26))):=hdn ((Rdy.of (HG.out.go hb1) hly hok (by omega)).below HBA.out)
   have HCS:Hid (Pn.cs (Pn.progK y)≤64000):=hdn (progK_er y HRD.out.ok 64000 (by have:=hok.cs8;omega))
   have HC:Hid (∀w',Below (w2.alloc (.cells c1 26)).heap.size (w2.alloc (.cells c1 26)) w'→Calls Tryz.prog 9 #[.agg c1] w' (Sc.PPost (Sc.checkE y) w')):=hdn (fun w' hb=>by
    have e1:c1=Sc.pgA y:=HCE.out.trans (pgA_cells y)
    have:=check_of (HRD.out.below hb);rwa[←e1] at this)
   generalize hr:Sc.checkE y=r at HC
   obtain ⟨r1,r2⟩:=r
   have HR:=hdn hr
   unfold Sc.PPost at HC
   simp only at HC
   clear hb1 hok hly hc1 HR1 hr
   generalize hwA:w2.alloc (.cells c1 26)=wA at HBA HB2 HKA HC HRD
   have HWA:=hdn hwA
   clear hwA
   obtain ⟨P,hP⟩: ∃P,P=y.procs.p:=⟨_,rfl⟩
   obtain ⟨pc,hpc⟩: ∃c,c=y.procs.cap:=⟨_,rfl⟩
   have kb:wA.cell? ⟨w2.heap.size,2,none⟩=some (.slice P y.procs.l.length pc):=by
    have:=HKA.out.cell 2
    rw[HCE.out] at this;rw[hP,hpc];exact this
   have HPE:=hdn hP
   have HPC:=hdn hpc
   have HLL:Hid (∀w',Below wA.heap.size wA w'→∀k q,y.procs.l[k]? =some q→∃pb po,P=some ⟨pb,po,none⟩∧w'.rangeAt pb (po+k*6) (Pc.cells q)∧Sc.sok w' q.bp q.body∧Pn.cnt q.body≤400):=hdn (fun w' hb k q hq=>by
    rw[hP];exact procs_at HRD.out hb hq)
   clear hP hpc
   by_cases hfew:y.procs.l.length<16
   ·have hf': ¬(16:Int)≤(y.procs.l.length:Int):=by omega
    have HCC:=hdn (HC.out wA (Below.refl _ _))
    by_cases hr2:r2=0
    ·subst hr2
     go_wp2_with (first |((with_reducible show wpList _ _ _ (Oper.mk none (Op.store 26 _ _) _ _ _ _::_) _ _);refine wpList_store_new rfl 26 (.tmp 3) (.tmp 22) rfl _ c1 rfl rfl HSI.out HZ.out HON.out ?_;rw[HWA.out])|((with_reducible show wpList _ _ _ (Oper.mk (some 35) _ _ _ _ _::_) _ _);refine wpList_load_bk rfl 26 (.tmp 3) rfl w2.heap.size 26 c1 rfl _ HKA.out Tryz.underlying26 rfl HSI.out ?_)|(go_at_call 9;refine HCC.out.mono ?_;rintro en w3 ⟨rfl,hb3⟩;have HB3:=hdn hb3;clear hb3))
     obtain rfl:r1=0:=by
      have hz:=Sc.check_zero (x:=y) (by rw[HR.out])
      rw[HR.out] at hz
      injection hz
     have HKN:=hdn (fun (w':World) (hb:Below wA.heap.size wA w')=>at_below_ hb kb)
     have HCA:Hid (∀w',Below wA.heap.size wA w'→Bk w' w2.heap.size 26 c1):=hdn (fun w' hb=>HKA.out.below hb HKA.out.lt)
     clear kb HC HCC
     go_loopw [8,9] (fun v i wr=> ∃(k:Nat) (n:Int),i= .int .i64 k∧v= .int .i64 n∧k≤y.procs.l.length∧0≤n∧n≤2002*k∧Hid (Wd y k n)∧Hid (Below wA.heap.size wA wr)) (fun _ i _=>y.procs.l.length-(intOf i).toNat)
     case atStart=>exact ⟨0,0,rfl,rfl,Nat.zero_le _,Int.le_refl _,by omega,hdn ⟨rfl,(fun q h=>by simp at h),(fun q h=>by simp at h)⟩,HB3⟩
     case round=>
      obtain ⟨k,n,rfl,rfl,hk,hn0,hn1,HW,HB⟩:=hrel
      have kbr:=HKN.out wr HB.out
      by_cases hkl:k<y.procs.l.length
      ·obtain ⟨q,hq⟩: ∃q,y.procs.l[k]? =some q:=⟨_,List.getElem?_eq_getElem hkl⟩
       obtain ⟨pb,po,rfl,hit,hso,hcn⟩:=HLL.out wr HB.out k q hq
       have HQ:=hdn hq
       have hk0:(0:Int)≤(k:Int):=Int.natCast_nonneg _
       have hk1:(k:Int)<(y.procs.l.length:Int):=by omega
       have lx5:=cell_at hit 5 _ rfl
       have HWL:=hdn (wt_le q.body)
       have CV:=hdn (Sc.weight_any q.body q.bp q.bc 0 wr (Int.le_refl _) (by omega) (sLies8 hso))
       have CD:=hdn (fun (w4:World) (hb:Below wr.heap.size wr w4)=>Sc.deep_any q.body q.bp q.bc w4 (Sc.sok_below hso hb) hcn)
       have HIT:=hdn hit
       clear hq hit hso hcn
       have HST:Hid (∀wz,Sc.dpG q.body 0<20→¬q.name=Sc.moN→Below wA.heap.size wA wz→∃(k':Nat) (n':Int),Value.int .i64 ((k:Int)+1)= .int .i64 k'∧Value.int .i64 (n+Sc.wt q.body 0+2)= .int .i64 n'∧k'≤y.procs.l.length∧0≤n'∧n'≤2002*k'∧Hid (Wd y k' n')∧Hid (Below wA.heap.size wA wz)):=hdn (fun wz h1 h2 hb=>by
        have:=HWL.out
        exact ⟨k+1,_,by rw[Int.natCast_add];rfl,rfl,by omega,by omega,by omega,hdn (HW.out.step HQ.out h1 h2),hdn hb⟩)
       generalize hwb:Sc.wt q.body 0=wb at CV HWL HST
       clear hwb
       obtain ⟨hw0,hw1⟩:=HWL.out
       have hn2:n≤40000:=by omega
       by_cases h20:Sc.dpG q.body 0<20
       ·have hd20: ¬(20:Int)≤Sc.dpG q.body 0:=by omega
        by_cases hnm:q.name=Sc.moN
        ·have hnm1:(q.name.toList==([109,111,114,101]:List UInt8))=true:=nm_yes hnm
         clear hnm HST
         go_wp2_with (first |(go_at_call 16;refine CV.out.mono ?_;rintro en w4 ⟨rfl,hb4⟩;have HB4:=hdn (HB.out.trans (hb4.mono HB.out.size));have kb4:=at_below_ hb4 kbr;have l54:=at_below_ hb4 lx5;have l04:=at_below_ hb4 (cell_at HIT.out 0 _ rfl);rw[Nat.add_zero] at l04;have CD4:=hdn (CD.out w4 hb4);clear hb4)|(go_at_call 17;refine CD4.out.mono ?_;rintro en w6 ⟨rfl,hb6⟩;have HB6:=hdn (HB4.out.trans (hb6.mono HB4.out.size));have kb6:=at_below_ hb6 kb4;have l06:=at_below_ hb6 l04;clear hb6;have CL:=hdn (HLV.out _ (HB2.out.trans (HB6.out.mono HB2.out.size))))|(go_at_call 8;refine CL.out.mono ?_;rintro en w7 ⟨rfl,hb7⟩;have HB7:=hdn hb7;clear hb7))
         go_ret
         have HB8:Hid (Below w.heap.size w w6):=hdn (HB2.out.trans (HB6.out.mono HB2.out.size))
         exact ⟨rfl,HB8.out.trans (HB7.out.mono HB8.out.size)⟩
        ·have HNX:=hdn (fun wz hb=>HST.out wz h20 hnm hb)
         have hnm1:(q.name.toList==([109,111,114,101]:List UInt8))=false:=nm_no hnm
         clear hnm HST
         go_wp2_with (first |(go_at_call 16;refine CV.out.mono ?_;rintro en w4 ⟨rfl,hb4⟩;have HB4:=hdn (HB.out.trans (hb4.mono HB.out.size));have kb4:=at_below_ hb4 kbr;have l54:=at_below_ hb4 lx5;have l04:=at_below_ hb4 (cell_at HIT.out 0 _ rfl);rw[Nat.add_zero] at l04;have CD4:=hdn (CD.out w4 hb4);clear hb4)|(go_at_call 17;refine CD4.out.mono ?_;rintro en w6 ⟨rfl,hb6⟩;have HB6:=hdn (HB4.out.trans (hb6.mono HB4.out.size));have kb6:=at_below_ hb6 kb4;have l06:=at_below_ hb6 l04;clear hb6))
         go_roundw
         case rel=>exact HNX.out _ HB6.out
         case measure=>simp[intOf];omega
       ·have hd20:(20:Int)≤Sc.dpG q.body 0:=by omega
        clear HST
        ·go_wp2_with (first |(go_at_call 16;refine CV.out.mono ?_;rintro en w4 ⟨rfl,hb4⟩;have HB4:=hdn (HB.out.trans (hb4.mono HB.out.size));have kb4:=at_below_ hb4 kbr;have l54:=at_below_ hb4 lx5;have l04:=at_below_ hb4 (cell_at HIT.out 0 _ rfl);rw[Nat.add_zero] at l04;have CD4:=hdn (CD.out w4 hb4);clear hb4)|(go_at_call 17;refine CD4.out.mono ?_;rintro en w6 ⟨rfl,hb6⟩;have HB6:=hdn (HB4.out.trans (hb6.mono HB4.out.size));have kb6:=at_below_ hb6 kb4;have l06:=at_below_ hb6 l04;clear hb6;have CL:=hdn (HLV.out _ (HB2.out.trans (HB6.out.mono HB2.out.size))))|(go_at_call 8;refine CL.out.mono ?_;rintro en w7 ⟨rfl,hb7⟩;have HB7:=hdn hb7;clear hb7))
         go_ret
         have HB8:Hid (Below w.heap.size w w6):=hdn (HB2.out.trans (HB6.out.mono HB2.out.size))
         exact ⟨rfl,HB8.out.trans (HB7.out.mono HB8.out.size)⟩
      ·obtain rfl:k=y.procs.l.length:=by omega
       by_cases hn4:n≤400
       ·have hn5: ¬(400:Int)<n:=by omega
        have hn6:decide ((400:Int)<n)=false:=decide_eq_false hn5
        have HKW:Hid (Known y wA):=hdn (by
         have h:=HW.out
         have ht:y.procs.l.take y.procs.l.length=y.procs.l:=List.take_length
         have h1:=h.n;have h2:=h.dp;have h3:=h.nm
         rw[ht] at h1 h2 h3
         exact ⟨HRD.out,hfew,HCS.out,h2,by omega,h3,by rw[HR.out]⟩)
        have HK1:=hdn (HCA.out wr HB.out)
        have HB10:Bk (wr.alloc (.cells c1 26)) wr.heap.size 26 c1:=heap_alloc_new _ _
        have u10:(wr.alloc (.cells c1 26)).cell? ⟨wr.heap.size,2,none⟩=some (.slice P y.procs.l.length pc):=by
         have:=HB10.cell 2
         rw[HCE.out] at this;rw[HPE.out,HPC.out];rw[HCE.out];exact this
        have f10:(wr.alloc (.cells c1 26)).frozen? ⟨wr.heap.size,2,none⟩=false:=HB10.frozen 2
        clear HW hn0 hn1 hn4 hn5 hk hkl HB10
        go_wp2_with (first |((with_reducible show wpList _ _ _ (Oper.mk (some 80) _ _ _ _ _::_) _ _);refine wpList_load_bk rfl 26 (.tmp 3) rfl w2.heap.size 26 c1 rfl _ HK1.out Tryz.underlying26 rfl HSI.out ?_)|((with_reducible show wpList _ _ _ (Oper.mk none (Op.store 26 _ _) _ _ _ _::_) _ _);refine wpList_store_new rfl 26 (.tmp 10) (.tmp 80) rfl _ c1 rfl rfl HSI.out HZ.out HON.out ?_))
        have HMO:=hdn (mo_start (w0:=wA) (wr:=wr) (y:=y) HB.out HCE.out)
        clear u10 f10 HK1
        generalize wr.alloc (.cells (c1.setIfInBounds 2 (.slice none 0 0)) 26)=wS at HMO ⊢
        generalize wr.heap.size=b10 at HMO ⊢
        go_loopw [11] (fun t wr=> ∃(k:Nat) (v:Value) (ks:List Pc),t= .int .i64 k∧k≤y.procs.l.length∧Hid (MoI wA wr (b10+1) b10 y k v ks)) (fun t _=>y.procs.l.length-(intOf t).toNat)
        case atStart=>exact ⟨0,_,_,rfl,Nat.zero_le _,HMO⟩
        case round=>
         clear HMO HB
         obtain ⟨k,v,ks,rfl,hk,HI⟩:=hrel
         have kbr:=HKN.out wr HI.out.below
         by_cases hkl:k<y.procs.l.length
         ·obtain ⟨q,hq⟩: ∃q,y.procs.l[k]? =some q:=⟨_,List.getElem?_eq_getElem hkl⟩
          obtain ⟨pb,po,rfl,hit,hso,hcn⟩:=HLL.out wr HI.out.below k q hq
          have HQ:=hdn hq
          have hk0:(0:Int)≤(k:Int):=Int.natCast_nonneg _
          have hk1:(k:Int)<(y.procs.l.length:Int):=by omega
          obtain ⟨cq,hcq⟩: ∃c,c=(Pc.cells q).toArray:=⟨_,rfl⟩
          have HCQ:=hdn hcq
          have HIT:Hid (wr.rangeAt pb (po+k*6) cq.toList):=hdn (by rw[hcq];exact hit)
          have HQS:Hid ((Tryz.prog.info? 37).map (·.size)=some cq.size):=hdn (by rw[hcq];exact size40p)
          have HQZ:Hid (6=cq.size):=hdn (by rw[hcq];rfl)
          have HQO:Hid (cq.all (·.oneCell')=true):=hdn (by rw[hcq];simp[Value.oneCell'])
          have HB12:Hid (Bk (wr.alloc (.cells cq 37)) wr.heap.size 37 cq):=hdn (heap_alloc_new _ _)
          have u5:(wr.alloc (.cells cq 37)).cell? ⟨wr.heap.size,5,none⟩=some (.slice q.bp q.body.len q.bc):=by
           have:=HB12.out.cell 5
           rw[hcq] at this ⊢;exact this
          have f5:(wr.alloc (.cells cq 37)).frozen? ⟨wr.heap.size,5,none⟩=false:=HB12.out.frozen 5
          clear hq hit hso hcn hcq
          obtain ⟨i63,z63,HI63⟩:=qinfIt
          have HIT63:=hdn HI63
          clear HI63
          obtain ⟨Z0,hZ0⟩: ∃c,c=(scells (Sc.zHd 0) none 0 0 none 0 0).toArray:=⟨_,rfl⟩
          obtain ⟨Z6,hZ6⟩: ∃c,c=(scells (Sc.zHd 6) q.bp q.body.len q.bc none 0 0).toArray:=⟨_,rfl⟩
          have HZ0:=hdn hZ0
          have HZ6:=hdn hZ6
          clear hZ0 hZ6
          have u5b:((wr.alloc (.cells cq 37)).alloc (.cells (Z0++Z6) 63)).cell? ⟨wr.heap.size,5,none⟩=some (.slice q.bp q.body.len q.bc):=(World.cell?_alloc_lt _ _ _ (by simp)).trans u5
          have f5b:((wr.alloc (.cells cq 37)).alloc (.cells (Z0++Z6) 63)).frozen? ⟨wr.heap.size,5,none⟩=false:=(heap_alloc_old_ HB12.out _).frozen 5
          go_upto_region 25 with (first |((with_reducible show wpList _ _ _ (Oper.mk (some 93) _ _ _ _ _::_) _ _);refine wpList_load_arr rfl 37 (.tmp 92) rfl pb (po+k*6) rfl cq _ HIT.out Tryz.underlying37 rfl HQS.out ?_)|((with_reducible show wpList _ _ _ (Oper.mk none (Op.store 37 _ _) _ _ _ _::_) _ _);refine wpList_store_new rfl 37 (.tmp 12) (.tmp 93) rfl _ cq rfl rfl HQS.out HQZ.out HQO.out ?_)|((with_reducible show wpList _ _ _ (Oper.mk (some 98) _ _ _ _ _::_) _ _);refine wpList_two rfl 35 63 (.tmp 94) (.tmp 97) rfl Z0 Z6 (by rw[HZ0.out];rfl) (by rw[HZ6.out];rfl) HIT63.out.und i63 z63 48 HIT63.out.info HIT63.out.zero HIT63.out.size (by decide) (by decide) (by rw[HZ0.out];rfl) (by rw[HZ6.out];rfl) ?_))
          have HX:Hid (MoI wA ((wr.alloc (.cells (cq.setIfInBounds 5 (.slice (some ⟨wr.heap.size+1,0,none⟩) 2 2)) 37)).alloc (.cells (Z0++Z6) 63)) (b10+1) b10 y k v ks):=hdn (HI.out.two _ _)
          have HXR:Hid (kMo.R (rest (b10+1) v.ownBlock ((wr.alloc (.cells (cq.setIfInBounds 5 (.slice (some ⟨wr.heap.size+1,0,none⟩) 2 2)) 37)).alloc (.cells (Z0++Z6) 63))) (moX q (wr.heap.size+1))):=hdn (mo_R HI.out q _ HZ0.out HZ6.out)
          have HXB:Hid (Bk ((wr.alloc (.cells (cq.setIfInBounds 5 (.slice (some ⟨wr.heap.size+1,0,none⟩) 2 2)) 37)).alloc (.cells (Z0++Z6) 63)) wr.heap.size 37 (kMo.cells (moX q (wr.heap.size+1))).toArray):=hdn (by
           have h:Bk (wr.alloc (.cells (cq.setIfInBounds 5 (.slice (some ⟨wr.heap.size+1,0,none⟩) 2 2)) 37)) wr.heap.size 37 (cq.setIfInBounds 5 (.slice (some ⟨wr.heap.size+1,0,none⟩) 2 2)):=heap_alloc_new _ _
           have h':=heap_alloc_old_ h (.cells (Z0++Z6) 63)
           have e:cq.setIfInBounds 5 (.slice (some ⟨wr.heap.size+1,0,none⟩) 2 2)=(kMo.cells (moX q (wr.heap.size+1))).toArray:=by rw[HCQ.out];exact moX_cells q _
           rw[←e];exact h')
          have HXW:Hid (MZ q (moX q (wr.heap.size+1))):=hdn (moX_wrap q _)
          clear HI u5b f5b u5 f5 HB12 kbr HIT
          generalize (wr.alloc (.cells (cq.setIfInBounds 5 (.slice (some ⟨wr.heap.size+1,0,none⟩) 2 2)) 37)).alloc (.cells (Z0++Z6) 63)=wq at HX HXR HXB ⊢
          generalize moX q (wr.heap.size+1)=X at HXR HXB HXW
          generalize wr.heap.size=b12 at HXB ⊢
          obtain ⟨im,zm,him⟩:=infMo
          have HIM:=hdn him
          have HXS:Hid ((Tryz.prog.info? 37).map (·.size)=some (kMo.cells X).toArray.size):=hdn size40p
          have v2:wq.cell? ⟨b10,2,none⟩=some v:=HX.out.top.cell 2
          clear him
          go_wp2_with (first |((with_reducible show wpList _ _ _ (Oper.mk (some 102) _ _ _ _ _::_) _ _);refine wpList_load_bk rfl 37 (.tmp 12) rfl b12 37 (kMo.cells X).toArray rfl _ HXB.out Tryz.underlying37 rfl HXS.out ?_)|((with_reducible show wpList _ _ _ (Oper.mk (some 103) _ _ _ _ _::_) _ _);refine wpList_one rfl 24 37 (.tmp 102) rfl (kMo.cells X).toArray rfl HIM.out.und im zm kMo.size HIM.out.info HIM.out.zero HIM.out.size HIM.out.pos (by decide) rfl ?_)|((with_reducible show wpList _ _ _ (Oper.mk (some 104) _ _ _ _ _::_) _ _);refine Kd.wpList_push kMo rfl 24 im zm HIM.out (.tmp 101) (.tmp 103) rfl (b10+1) ks v rfl HX.out.gr HX.out.Bw X rfl HXR.out (by have:=HX.out.len;unfold maxLen;omega) (by have:=HX.out.len;show (ks.length+1)*104≤_;omega) ?_;rintro v' w8 hG8 ⟨gg,cc,rfl⟩ hgr8 hown8;have HN:=hdn (HX.out.push HQ.out HXW.out hG8 hgr8 hown8);have k8:w8.cell? ⟨b10,2,none⟩=some v:=(HX.out.at2 hgr8 hown8).cell 2;have f8:w8.frozen? ⟨b10,2,none⟩=false:=(HX.out.at2 hgr8 hown8).frozen 2;clear hG8 hgr8 hown8))
          go_roundw
          case rel=>exact ⟨k+1,_,ks++ [X],by go_num,by omega,HN⟩
          case measure=>simp[intOf];omega
         ·obtain rfl:k=y.procs.l.length:=by omega
          obtain ⟨im,zm,him⟩:=infMo
          have HIM:=hdn him
          obtain ⟨id0,hid0⟩:=qinfDc
          have HID:=hdn hid0
          clear him hid0
          obtain ⟨D,hD⟩: ∃c,c=(Dc.cells ⟨ByteArray.empty,Sc.mnN,0⟩).toArray:=⟨_,rfl⟩
          have HDE:=hdn hD
          clear hD
          have HMX:Hid (MoI wA (wr.alloc (.cells D 65)) (b10+1) b10 y y.procs.l.length v ks):=hdn (HI.out.go ((Below.refl _ _).alloc (Nat.le_refl _) _))
          have HMR:Hid (kMo.R (rest (b10+1) v.ownBlock (wr.alloc (.cells D 65))) (Sc.moPc (some ⟨wr.heap.size,0,none⟩) 1)):=hdn (.inr ⟨wr.heap.size,rfl,fun j u hu=>by
           rw[Nat.zero_add]
           exact alloc_rest HI.out.Bw (Gr_lt HI.out.gr) j u (by rw[HDE.out,List.getElem?_toArray];exact hu)⟩)
          have HDZ:Hid (qDc.size=D.size):=hdn (by rw[HDE.out];rfl)
          obtain ⟨XM,hXM⟩: ∃x,x=Sc.moPc (some ⟨wr.heap.size,0,none⟩) 1:=⟨_,rfl⟩
          have HXM:=hdn hXM
          rw[←hXM] at HMR
          have v2:wr.cell? ⟨b10,2,none⟩=some v:=HI.out.top.cell 2
          clear hXM
          go_upto_region 27 with (first |((with_reducible show wpList _ _ _ (Oper.mk (some 109) _ _ _ _ _::_) _ _);refine wpList_one rfl 23 65 (.tmp 108) rfl D (by rw[HDE.out];rfl) HID.out.und id0 _ qDc.size HID.out.info HID.out.zero HID.out.size HID.out.pos (by decide) HDZ.out ?_)|((with_reducible show wpList _ _ _ (Oper.mk (some 111) _ _ _ _ _::_) _ _);refine wpList_one rfl 24 37 (.tmp 110) rfl (kMo.cells XM).toArray (by rw[HXM.out];rfl) HIM.out.und im zm kMo.size HIM.out.info HIM.out.zero HIM.out.size HIM.out.pos (by decide) rfl ?_)|((with_reducible show wpList _ _ _ (Oper.mk (some 112) _ _ _ _ _::_) _ _);refine Kd.wpList_push kMo rfl 24 im zm HIM.out (.tmp 107) (.tmp 111) rfl (b10+1) ks v rfl HMX.out.gr HMX.out.Bw XM rfl HMR.out (by have:=HMX.out.len;unfold maxLen;omega) (by have:=HMX.out.len;show (ks.length+1)*104≤_;omega) ?_;rintro v' w8 hG8 ⟨gg,cc,rfl⟩ hgr8 hown8;have HG8:=hdn hG8;have HBW:=hdn (HMX.out.below2 hgr8 hown8);have HBK:=hdn (HMX.out.at2 hgr8 hown8);have k8:w8.cell? ⟨b10,2,none⟩=some v:=HBK.out.cell 2;have f8:w8.frozen? ⟨b10,2,none⟩=false:=HBK.out.frozen 2;clear hG8 hgr8 hown8))
          have hsc:w8.grownBy (w8.setCell ⟨b10,2,none⟩ (.slice (some ⟨gg,0,none⟩) (ks.length+1) cc)) (some b10):=grownBy_setC w8 ⟨b10,2,none⟩ _
          have HB9:Hid (Below wA.heap.size wA (w8.setCell ⟨b10,2,none⟩ (.slice (some ⟨gg,0,none⟩) (ks.length+1) cc))):=hdn (HBW.out.grown hsc HBW.out.size (fun j hj=>by injection hj with hj;subst hj;exact HMX.out.b0))
          have HG9:=hdn (HG8.out.par hsc HMX.out.bB)
          have HT9:Hid (Bk (w8.setCell ⟨b10,2,none⟩ (.slice (some ⟨gg,0,none⟩) (ks.length+1) cc)) b10 26 #[.slice y.structs.p y.structs.l.length y.structs.cap,.slice y.globals.p y.globals.l.length y.globals.cap,.slice (some ⟨gg,0,none⟩) (ks.length+1) cc]):=hdn (HBK.out.set_ 2 _)
          have HCK:Hid (Calls Tryz.prog 9 #[.agg #[.slice y.structs.p y.structs.l.length y.structs.cap,.slice y.globals.p y.globals.l.length y.globals.cap,.slice (some ⟨gg,0,none⟩) (ks.length+1) cc]] (w8.setCell ⟨b10,2,none⟩ (.slice (some ⟨gg,0,none⟩) (ks.length+1) cc)) fun en w'=>en= .returned (.tuple #[.int .i64 0,.int .i64 0])∧Below (w8.setCell ⟨b10,2,none⟩ (.slice (some ⟨gg,0,none⟩) (ks.length+1) cc)).heap.size (w8.setCell ⟨b10,2,none⟩ (.slice (some ⟨gg,0,none⟩) (ks.length+1) cc)) w'):=hdn (by
           have hg:=HG9.out
           rw[HXM.out] at hg
           obtain ⟨s',h1,h2⟩:=mo_check HKW.out HB9.out hg HMX.out.len (fun i hi=>HMX.out.wz i (by rw[HMX.out.len] at hi;exact hi))
           have h3:Sc.pgA ⟨y.structs,y.globals,s'⟩= #[.slice y.structs.p y.structs.l.length y.structs.cap,.slice y.globals.p y.globals.l.length y.globals.cap,.slice (some ⟨gg,0,none⟩) (ks.length+1) cc]:=by rw[h1]
           rw[h3] at h2;exact h2)
          have HT9S:Hid ((Tryz.prog.info? 26).map (·.size)=some (#[.slice y.structs.p y.structs.l.length y.structs.cap,.slice y.globals.p y.globals.l.length y.globals.cap,.slice (some ⟨gg,0,none⟩) (ks.length+1) cc]:Array Value).size):=hdn size26
          clear hsc HG8 HBW HBK k8 f8 v2 HG9 HMX HMR HXM HI kbr
          generalize w8.setCell ⟨b10,2,none⟩ (.slice (some ⟨gg,0,none⟩) (ks.length+1) cc)=w9 at HB9 HT9 HCK ⊢
          go_wp2_with (first |((with_reducible show wpList _ _ _ (Oper.mk (some 115) _ _ _ _ _::_) _ _);refine wpList_load_bk rfl 26 (.tmp 10) rfl b10 26 _ rfl _ HT9.out Tryz.underlying26 rfl HT9S.out ?_)|(go_at_call 9;refine HCK.out.mono ?_;rintro en w10 ⟨rfl,hb10⟩;have HBT:Hid (Below w.heap.size w w10):=hdn (HB2.out.trans ((HB9.out.trans (hb10.mono HB9.out.size)).mono HB2.out.size));have CL:=hdn (HLV.out _ HBT.out);clear hb10)|(go_at_call 8;refine CL.out.mono ?_;rintro en w11 ⟨rfl,hb11⟩;have HBU:=hdn hb11;clear hb11))
          go_ret
          exact ⟨rfl,HBT.out.trans (HBU.out.mono HBT.out.size)⟩
       ·have hn5:(400:Int)<n:=by omega
        have hn6:decide ((400:Int)<n)=true:=decide_eq_true hn5
        have CL:=hdn (HLV.out _ (HB2.out.trans (HB.out.mono HB2.out.size)))
        go_wp2_with (go_at_call 8;refine CL.out.mono ?_;rintro en w7 ⟨rfl,hb7⟩;have HB7:=hdn hb7;clear hb7)
        go_ret
        have HB8:Hid (Below w.heap.size w wr):=hdn (HB2.out.trans (HB.out.mono HB2.out.size))
        exact ⟨rfl,HB8.out.trans (HB7.out.mono HB8.out.size)⟩
    ·have hn2:(r2 !=0)=true:=by simpa using hr2
     have hn1:(r2==0)=false:=by simpa using hr2
     go_wp2_with (first |((with_reducible show wpList _ _ _ (Oper.mk none (Op.store 26 _ _) _ _ _ _::_) _ _);refine wpList_store_new rfl 26 (.tmp 3) (.tmp 22) rfl _ c1 rfl rfl HSI.out HZ.out HON.out ?_;rw[HWA.out])|((with_reducible show wpList _ _ _ (Oper.mk (some 35) _ _ _ _ _::_) _ _);refine wpList_load_bk rfl 26 (.tmp 3) rfl w2.heap.size 26 c1 rfl _ HKA.out Tryz.underlying26 rfl HSI.out ?_)|(go_at_call 9;refine HCC.out.mono ?_;rintro en w3 ⟨rfl,hb3⟩;have HB3:=hdn hb3;have CL:=hdn (HLV.out _ (HB2.out.trans (HB3.out.mono HB2.out.size)));clear hb3)|(go_at_call 8;refine CL.out.mono ?_;rintro en w5 ⟨rfl,hb5⟩;have HB5:=hdn hb5;clear hb5))
     go_ret
     have HB6:Hid (Below w.heap.size w w3):=hdn (HB2.out.trans (HB3.out.mono HB2.out.size))
     exact ⟨rfl,HB6.out.trans (HB5.out.mono HB6.out.size)⟩
   ·have hf':(16:Int)≤(y.procs.l.length:Int):=by omega
    have CL:=hdn (HLV.out _ HB2.out)
    go_wp2_with (first |((with_reducible show wpList _ _ _ (Oper.mk none (Op.store 26 _ _) _ _ _ _::_) _ _);refine wpList_store_new rfl 26 (.tmp 3) (.tmp 22) rfl _ c1 rfl rfl HSI.out HZ.out HON.out ?_;rw[HWA.out])|(go_at_call 8;refine CL.out.mono ?_;rintro en w5 ⟨rfl,hb5⟩;have HB5:=hdn hb5;clear hb5))
    go_ret
    exact ⟨rfl,HB2.out.trans (HB5.out.mono HB2.out.size)⟩
  ·have hn1:(e1==0)=false:=by simpa using hne
   have hn2:(e1 !=0)=true:=by simpa using hne
   have CL:=hdn (HLV.out _ HB2.out)
   clear hb1 hc1 HR1
   go_wp2_with (first |((with_reducible show wpList _ _ _ (Oper.mk none (Op.store 26 _ _) _ _ _ _::_) _ _);refine wpList_store_new rfl 26 (.tmp 3) (.tmp 22) rfl _ c1 rfl rfl HSI.out HZ.out HON.out ?_)|(go_at_call 8;refine CL.out.mono ?_;rintro en w5 ⟨rfl,hb5⟩;have HB5:=hdn hb5;clear hb5))
   go_ret
   exact ⟨rfl,HB2.out.trans (HB5.out.mono HB2.out.size)⟩
end Mo
end Go.Proofs.YtcehbcnloiooaaaGreatDoor
namespace Go.Proofs.YtcehbcnloiooaaaGreatDoor
open Go.ChangeShapes Go.WideShapes Go.ChangeAt Go.RowKit
open Go.ChangeMaps (open_string shut_string)
theorem own:ownKnob Tryz.prog.godebug=none:=by kernel_rfl
theorem gKeys:Tryz.prog.globalNamed "umbral/lex.keys" =some 1:=by kernel_rfl
theorem gPairs:Tryz.prog.globalNamed "umbral/lex.pairs" =some 0:=by kernel_rfl
theorem tKeys:(Tryz.prog.globals[1]?).map (·.type)=some 225:=by kernel_rfl
theorem tPairs:(Tryz.prog.globals[0]?).map (·.type)=some 223:=by kernel_rfl
theorem cells9:Tryz.prog.cellsOf 9=1:=by kernel_rfl
theorem cells189:Tryz.prog.cellsOf 225=10:=by kernel_rfl
theorem cells179:Tryz.prog.cellsOf 223=4:=by kernel_rfl
def laid6:List (String×DataW Unit):= [("math/bits.deBruijn32tab",Rows.laid_math_bits_deBruijn32tab),("math/bits.deBruijn64tab",Rows.laid_math_bits_deBruijn64tab),("internal/strconv.uint64pow10",Rows.laid_internal_strconv_uint64pow10),("umbral/lex.pairs",Rows.laid_umbral_lex_pairs),("umbral/lex.keys",Rows.laid_umbral_lex_keys),("umbral/print.relations",Rows.laid_umbral_print_relations)]
theorem ba_of {s:ByteArray} {l:List UInt8} (h:s.data.toList=l):s=⟨l.toArray⟩:=by rw[←h,Lib.mk_data]
theorem cells_of_strs {H:Type} {enc:TypeId×Value→H} {P:Program} {w:World} {base:Nat} {sp:Nat→Bool} {held:Bool} {fuel:Nat} {t e:TypeId} {n:Nat} {cs:List Value} {ls:List (List UInt8)} {p:List MemPlace}
  (ht:P.underlying t=some (.array n e)) (he:P.underlying e=some .string) (hce:P.cellsOf e=1) (hct:P.cellsOf t=n)
  (h:DataW.trod enc P w base sp held fuel t cs=some (.agg (ls.map fun l=> .lit (.string l)),p)):cs=ls.map fun l=>Value.string ⟨l.toArray⟩:=by
 cases fuel with
 |zero=>simp[DataW.trod] at h
 |succ fuel=>
  simp only[DataW.trod,ht,hce,hct,Nat.mul_one] at h
  split at h
  ·rename_i hl
   obtain ⟨xs,hm,hx⟩:=Option.map_eq_some_iff.1 h
   have hxs:xs.map (·.1)=ls.map fun l=>(DataW.lit (.string l):DataW H):=by
    have:=congrArg Prod.fst hx
    simpa using this
   have hxl:xs.length=n:=by simpa using Lib.mapM_length hm
   have hzl:ls.length=n:=by
    have:=congrArg List.length hxs
    simp at this
    omega
   apply List.ext_getElem?
   intro i
   by_cases hi:i<n
   ·obtain ⟨b,hb,hf⟩:=Lib.mapM_at hm i i (by simp[hi])
    obtain ⟨s,hc,hy,_⟩:=DataW.trod_string he hf
    have h1:cs[i]? =some (.string s):=by
     have:=congrArg (·[0]?) hc
     simpa [List.getElem?_take,List.getElem?_drop] using this
    have h2:(xs.map (·.1))[i]? =some (DataW.lit (.string s.data.toList):DataW H):=by simp[hb,hy]
    rw[hxs] at h2
    simp only[List.getElem?_map,Option.map_eq_some_iff,DataW.lit.injEq,Lit.string.injEq] at h2
    obtain ⟨z',hz',hzz⟩:=h2
    simp[h1,hz',ba_of hzz.symm]
   ·rw[List.getElem?_eq_none (by omega),List.getElem?_eq_none (by simp;omega)]
  ·cases h
theorem gl_of_laid {W:World} (h:laidMetH Tryz.prog laid6 W) (h3:3≤W.heap.size):Gl W:=by
 rw[MakeChecks.laidMetH_plain _ _ _ (by kernel_rfl)] at h
 obtain ⟨ps,⟨_,_,_,_,_,_,_,_,_,_,⟨_,_,_,_,_,_,_,_,_,_,⟨_,_,_,_,_,_,_,_,_,_,⟨g0,t0,cs0,f0,p0,q0,hg0,ht0,hv0,hd0,⟨g1,t1,cs1,f1,p1,q1,hg1,ht1,hv1,hd1,_,_⟩,_⟩,_⟩,_⟩,_⟩,_,_⟩:=h
 obtain rfl:=Option.some.inj (gPairs.symm.trans hg0)
 obtain rfl:=Option.some.inj (gKeys.symm.trans hg1)
 obtain rfl:=Option.some.inj (tPairs.symm.trans ht0)
 obtain rfl:=Option.some.inj (tKeys.symm.trans ht1)
 have e0:=cells_of_strs (ls:=Tx.pw) Tryz.underlying223 Tryz.underlying9 cells9 cells179 hd0
 have e1:=cells_of_strs (ls:=Tx.kw) Tryz.underlying225 Tryz.underlying9 cells9 cells189 hd1
 have hp: ∀k,k<4→W.cell? ⟨0,k,none⟩=some (.string (Tx.prAt k)):=by
  intro k hk
  have:=World.var?_cell hg0 hv0 k
  rw[this,←Array.getElem?_toList,e0]
  match k,hk with
  |0,_=>rfl
  |1,_=>rfl
  |2,_=>rfl
  |3,_=>rfl
 have hq: ∀k,k<10→W.cell? ⟨1,k,none⟩=some (.string (Tx.keyAt k)):=by
  intro k hk
  have:=World.var?_cell hg1 hv1 k
  rw[this,←Array.getElem?_toList,e1]
  match k,hk with
  |0,_=>rfl
  |1,_=>rfl
  |2,_=>rfl
  |3,_=>rfl
  |4,_=>rfl
  |5,_=>rfl
  |6,_=>rfl
  |7,_=>rfl
  |8,_=>rfl
  |9,_=>rfl
 exact ⟨hq,hp,h3⟩
theorem door_met (os:Os) (args:Array Value):laidMetH Tryz.prog laid6 ((World.doorLaid Tryz.prog 39 os).forCall (fun _ _=>0) ⟨#[],args,[]⟩).memory:=
 laidMetH_of_parts3 (fuel:=8) (laidMet_of_run' 8 (by kernel_rfl) (by kernel_rfl)) (by kernel_rfl) (by kernel_rfl)
theorem law_end {H:Type} {enc:TypeId×Value→H} {P:Program} {f:Func} {s:ChangeSpec} {apart fresh handsOn:Bool} {W W':World} {args:Array Value} {ds:List (DataW H)} {before:List MemPlace} {t:TypeId}
  (hW:DataW.Whole enc P f.params.toList s.vars apart W args.toList ds [] before)
  (hr:f.resultTypes= #[t]) (ht:P.underlying t=some .bool)
  (hres:(s.fn H (ds++ [])).results= [.lit (.bool true)])
  (hargs:DataW.TrodAll enc P W' 0 (fun b=>decide (b<W.heap.size)) true f.params.toList args.toList (s.fn H (ds++ [])).args before)
  (hvars:DataW.TrodVars enc P W' (fun b=>decide (b<W.heap.size)) s.vars (s.fn H (ds++ [])).vars [])
  (hb:Below W.heap.size W W'):s.post enc P f apart fresh handsOn false W args (.bool true) W':=by
 refine ⟨ds,[],before,[],before,[],hW, ?_,hargs,hvars,hb.frame _,fun h=>by cases h⟩
 rw[hr,hres]
 exact trodAll_mk1 (shut_bool ht true)
theorem gDb:Tryz.prog.globalNamed "math/bits.deBruijn64tab" =some 6:=by kernel_rfl
theorem gRel:Tryz.prog.globalNamed "umbral/print.relations" =some 2:=by kernel_rfl
theorem tRel:(Tryz.prog.globals[2]?).map (·.type)=some 234:=by kernel_rfl
theorem tPow:(Tryz.prog.globals[4]?).map (·.type)=some 267:=by kernel_rfl
theorem cells175:Tryz.prog.cellsOf 234=5:=by kernel_rfl
theorem cells229:Tryz.prog.cellsOf 267=20:=by kernel_rfl
theorem cellsU:Tryz.prog.cellsOf 260=1:=by kernel_rfl
theorem var_lt {W:World} {n:String} {g:Nat} {cs:Array Value} (hg:Tryz.prog.globalNamed n=some g) (hv:W.var? Tryz.prog n=some cs):g<W.heap.size:=by
 unfold World.var? at hv
 rw[hg] at hv
 simp only[Option.bind_some] at hv
 rcases Nat.lt_or_ge g W.heap.size with h |h
 ·exact h
 ·rw[Array.getElem?_eq_none h] at hv;cases hv
theorem gp_of_laid {W:World} (h:laidMetH Tryz.prog laid6 W):Gp W:=by
 have h0:=h
 rw[MakeChecks.laidMetH_plain _ _ _ (by kernel_rfl)] at h
 have h1:=h.tail
 have h2:laidMet Tryz.prog (("internal/strconv.uint64pow10",Rows.laid_internal_strconv_uint64pow10)::_) W:=h1.tail
 have hpow:Lib.TabIs Tryz.prog W "internal/strconv.uint64pow10" .u64 Lib.pow10Tab:=Lib.tabIs_of_head gPow tPow Tryz.underlying267 Tryz.underlying260 cellsU cells229 h2
 have h5:=h2.tail.tail.tail
 obtain ⟨ps0,⟨g6,t6,cs6,f6,p6,q6,hg6,ht6,hv6,_,_,_⟩,_⟩:=h1
 obtain ⟨ps,⟨g0,t0,cs0,f0,p0,q0,hg0,ht0,hv0,hd0,_,_⟩,_⟩:=h5
 obtain rfl:=Option.some.inj (gRel.symm.trans hg0)
 obtain rfl:=Option.some.inj (tRel.symm.trans ht0)
 have e0:=cells_of_strs (ls:= [relB 0,relB 1,relB 2,relB 3,relB 4]) Tryz.underlying234 Tryz.underlying9 cells9 cells175 hd0
 refine ⟨gl_of_laid h0 (by have:=var_lt gDb hv6;omega),hpow,fun k hk=> ?_,var_lt gDb hv6⟩
 have:=World.var?_cell hg0 hv0 k
 rw[this,←Array.getElem?_toList,e0]
 match k,hk with
 |0,_=>rfl
 |1,_=>rfl
 |2,_=>rfl
 |3,_=>rfl
 |4,_=>rfl
theorem checkMore_lifted (os:Os) (started:os.Started) (H:Type) (enc:TypeId×Value→H):
  ReturnsInHanded {} Tryz.checked os 6 .any (fun w args=>(Rows.checkMoreSpec.pre enc Tryz.prog Tryz.f6 [] false w args∧laidMetH Tryz.prog laid6 w)∧sizedMet enc Tryz.prog Tryz.f6 (OpenSpec.ofChange Rows.checkMoreSpec) false w args)
   (Rows.checkMoreSpec.post enc Tryz.prog Tryz.f6 false true false false):=by
 refine returnsInHanded_of_change_and (C:=Tryz.checked) (X:=fun w _=>laidMetH Tryz.prog laid6 w) (fun _ _ _ hh h=>h.of_heap hh) own started (by kernel_rfl) Tryz.func6
  (ChangeSpec.witness_shaped (enc:=enc) (C:=Tryz.checked) (os:=os) (X:=fun w _=>laidMetH Tryz.prog laid6 w) false (World.doorLaid Tryz.prog 39 os) #[.string ByteArray.empty] 8 rfl (World.shaped_of_RefB (by kernel_rfl) (by kernel_rfl)) (by kernel_rfl) (by kernel_rfl) (by kernel_rfl) (door_met os _)) ?_
 intro W base args ds gs before hval0 hW _ _ hL _
 have hval: ∀(j:Nat) t v,Tryz.f6.params[j]? =some t→args[j]? =some v→Value.okWide Tryz.prog W .any base t v:=hval0
 have hW':=hW
 obtain ⟨p,q,hA0,hV,rfl,hfz,hnd⟩:=hW
 have hA:DataW.TrodAll enc Tryz.prog W 0 (fun _=>true) true Tryz.f6.params.toList args.toList ds p:=hA0
 rw[Tryz.params6] at hA hval
 obtain ⟨v0,d0,rfl,rfl,h0⟩:=trodAll_one hA
 obtain ⟨rfl,rfl⟩:=trodVars_none hV
 obtain ⟨a,rfl,rfl,rfl,wa⟩:=open_string Tryz.underlying9 (hval 0 9 v0 rfl rfl) h0
 clear hA0 hval0
 simp only[List.append_nil] at hW'
 refine (Mo.more_any a W (gp_of_laid hL)).mono fun e W' ⟨he,hw⟩=> ?_
 subst he
 exact ⟨_,rfl,law_end hW' (by kernel_rfl) Tryz.underlying4 rfl (trodAll_mk1 (shut_string Tryz.underlying9 wa)) rfl hw⟩
theorem checkMore_holds:Rows.CheckMoreSaid:=
 OpenClaim.holds_of_wide 6 Tryz.f6 rfl rfl rfl rfl rfl rfl rfl ⟨rfl,rfl,rfl,rfl,rfl⟩ rfl rfl rfl rfl rfl (by kernel_rfl) Tryz.func6 (by kernel_rfl)
  (of_decide_eq_true (by kernel_rfl)) (by unfold Func.isWrapper;first |(rw[if_pos (by decide+kernel)];kernel_rfl)|(rw[if_neg (by decide+kernel)];exact ⟨rfl,rfl⟩))
  (fun os started H enc _=>checkMore_lifted os started H enc)
theorem checkMore_card:Rows.CheckMoreCardSaid:=
 Claim7.holds_tied_plain_at .later [] [.data,.data,.data,.data,.data,.data] true (true, "8644a09a518b2ab4023b322dc8522c2d5a7426271d3510eebe820a0d616a6a7f") false
  checkMore_holds (fun _ h=>by cases h) (by kernel_rfl) (fun _ h=>by cases h) checkMore_row_tie rfl ⟨rfl,rfl⟩ (by kernel_rfl) rfl
  (fun f fn hf hfn=>by
   obtain rfl:f=6:=Option.some.inj ((show Tryz.prog.funcNamed "umbral/umbrallaw09.CheckMore" =some 6 by kernel_rfl).symm.trans hf)|>.symm
   obtain rfl:fn=Tryz.f6:=(Option.some.inj (Tryz.func6.symm.trans hfn)).symm
   exact ⟨by kernel_rfl,fun j t ht=>by
    rw[Tryz.params6] at ht
    have hm:t∈ [9]:=by simpa using Array.mem_of_getElem? ht
    have hall:([9].all fun u=> !Tryz.prog.wantsStandIn u)=true:=by kernel_rfl
    exact (show Tryz.prog.wantsStandIn t=false by simpa using List.all_eq_true.1 hall t hm)⟩)
  (by kernel_rfl)
#print axioms checkMore_card
end Go.Proofs.YtcehbcnloiooaaaGreatDoor
