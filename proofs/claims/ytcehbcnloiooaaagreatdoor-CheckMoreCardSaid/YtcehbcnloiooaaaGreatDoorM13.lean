/-
  The walk of the document's Program, where a program is right. The law PrintParses, given the page's example. What a right program that lies in memory gives a check. Plain: what is right stays so with more procedures: what a check asks of a program's structs, globals and calls. Plain: no error, no pl
-/
import Derived.Test.YtcehbcnloiooaaaGreatDoorM09
import Derived.Test.YtcehbcnloiooaaaGreatDoorM06
import Derived.Test.YtcehbcnloiooaaaGreatDoorM03
import Derived.Test.YtcehbcnloiooaaaGreatDoorM12
import Derived.Test.YtcehbcnloiooaaaGreatDoorM01
import Derived.Test.YtcehbcnloiooaaaGreatDoorM05
import Derived.Test.YtcehbcnloiooaaaGreatDoorM08
set_option maxHeartbeats 6400000
set_option maxRecDepth 100000
namespace Go.Proofs.YtcehbcnloiooaaaGreatDoor
open Go.RowKit Go.Sort
end Go.Proofs.YtcehbcnloiooaaaGreatDoor
namespace Go.Proofs.YtcehbcnloiooaaaGreatDoor
open Go.RowKit Go.Sort
theorem tight_of_er {M:Nat}: ∀l:SL,Pn.tight M l.er→Pn.tight M l
 |.nil,_=>trivial
 |.cons h _ _ t _ _ e r,g=>by
  refine ⟨?_,tight_of_er t g.2.1,tight_of_er e g.2.2.1,tight_of_er r g.2.2.2⟩
  have:=g.1
  rwa[show (h.er).args.l=h.args.l.map Vl.er from rfl,List.length_map] at this
theorem tightP_of_er {M:Nat} {p:Pg} (g:Pn.tightP M p.er):Pn.tightP M p:=by
 obtain ⟨⟨g1,g2⟩,g3,g4,g5⟩:=g
 refine ⟨⟨by rwa[show p.er.structs.l=p.structs.l.map Sr.er from rfl,List.length_map] at g1,fun x hx=> ?_⟩,by rwa[show p.er.globals.l=p.globals.l.map Dc.er from rfl,List.length_map] at g3,by rwa[show p.er.procs.l=p.procs.l.map Pc.er from rfl,List.length_map] at g4,fun x hx=> ?_⟩
 ·have:=g2 x.er (List.mem_map_of_mem hx)
  rwa[show x.er.fields.l=x.fields.l.map Dc.er from rfl,List.length_map] at this
 ·obtain ⟨h1,h2,h3⟩:=g5 x.er (List.mem_map_of_mem hx)
  exact ⟨by rwa[show x.er.params.l=x.params.l.map Dc.er from rfl,List.length_map] at h1,by rwa[show x.er.locals_.l=x.locals_.l.map Dc.er from rfl,List.length_map] at h2,tight_of_er _ h3⟩
end Go.Proofs.YtcehbcnloiooaaaGreatDoor
namespace Go.Proofs.YtcehbcnloiooaaaGreatDoor
open Go.RowKit Go.Sort
theorem szN {x:ByteArray} (h:Pn.okN x=true):x.size≤maxLen:=Nat.le_trans (Pn.okN_nameB h).1 (by decide)
theorem sz0 {x:ByteArray} (h:Pn.txt x= []):x.size≤maxLen:=by
 have:(Pn.txt x).length=x.size:=Tx.len_eq x
 rw[h] at this;rw[←this];exact Nat.zero_le _
theorem pth_ok {w:World} {p:Pth} (hl:hopsLie w p.hops) (ho:Pn.okPath p=true):Sc.pthLies w p:=by
 unfold Pn.okPath at ho
 simp only[Bool.and_eq_true,decide_eq_true_eq,List.all_eq_true] at ho
 obtain ⟨⟨h1,h2⟩,h3⟩:=ho
 refine ⟨⟨by omega, ?_⟩,szN h1⟩
 rcases hl.2 with h |⟨b,o,hp,hx⟩
 ·exact .inl h
 ·exact .inr ⟨b,o,hp,fun k x hk=>⟨(hx k x hk).1,szN (h3 x (List.mem_of_getElem? hk))⟩⟩
theorem pth_no {w:World} {p:Pth} (ho:Pn.noP p=true):Sc.pthLies w p:=by
 unfold Pn.noP at ho
 simp only[Bool.and_eq_true,decide_eq_true_eq] at ho
 exact ⟨⟨by rw[ho.2];exact Nat.zero_le _,.inl ho.2⟩,sz0 ho.1⟩
theorem tm_no {t:Tm} (ho:Pn.noT t=true):t.name.size≤maxLen:=by
 unfold Pn.noT at ho
 simp only[Bool.and_eq_true,decide_eq_true_eq] at ho
 exact sz0 ho.1
theorem tm_ok {t:Tm} (ho:Pn.okTerm t=true):t.name.size≤maxLen:=by
 unfold Pn.okTerm at ho
 split at ho
 ·rename_i h;exact sz0 h
 ·simp only[Bool.and_eq_true,decide_eq_true_eq] at ho;exact szN ho.1
theorem vl_ok {w:World} {v:Vl} (hl:vlLies w v) (ho:Pn.okVal v=true):Sc.vlOk w v:=by
 unfold Pn.okVal at ho
 split at ho
 ·simp only[Bool.and_eq_true,decide_eq_true_eq] at ho;exact ⟨pth_no ho.1.1.1,sz0 ho.2,tm_no ho.1.1.2,tm_no ho.1.2⟩
 split at ho
 ·simp only[Bool.and_eq_true,decide_eq_true_eq] at ho;exact ⟨pth_ok hl ho.2,sz0 ho.1.2,tm_no ho.1.1.1,tm_no ho.1.1.2⟩
 split at ho
 ·simp only[Bool.and_eq_true] at ho;exact ⟨pth_no ho.1.1.1,szN ho.2,tm_no ho.1.1.2,tm_no ho.1.2⟩
 split at ho
 ·simp only[Bool.and_eq_true,decide_eq_true_eq] at ho;exact ⟨pth_no ho.1.1.1.1,sz0 ho.1.1.2,sz0 ho.1.2,tm_no ho.1.1.1.2⟩
 split at ho
 ·simp only[Bool.and_eq_true,decide_eq_true_eq] at ho;exact ⟨pth_no ho.1.1.1,sz0 ho.1.1.2,tm_ok ho.1.2,tm_ok ho.2⟩
 ·cases ho
theorem ok_noVal {v:Vl} (h:Pn.noVal v=true):Pn.okVal v=true:=by
 unfold Pn.noVal at h;simp only[Bool.and_eq_true] at h;exact h.2
theorem ok_side {v:Vl} (h:Pn.okSide v=true):Pn.okVal v=true:=by
 unfold Pn.okSide at h;simp only[Bool.and_eq_true] at h;exact h.1
theorem cd_no {c:Cd} (h:Pn.noCond c=true):c.kind=0∧Pn.okVal c.left=true∧Pn.okVal c.right=true:=by
 unfold Pn.noCond at h;simp only[Bool.and_eq_true,decide_eq_true_eq] at h;exact ⟨h.1.1,ok_noVal h.1.2,ok_noVal h.2⟩
theorem cd_ok {c:Cd} (h:Pn.okCond c=true):c.kind≤4∧Pn.okVal c.left=true∧Pn.okVal c.right=true:=by
 unfold Pn.okCond at h
 split at h
 ·have:=cd_no h;exact ⟨by omega,this.2⟩
 ·simp only[Bool.and_eq_true,decide_eq_true_eq] at h;exact ⟨h.1.1.2,ok_side h.1.2,ok_side h.2⟩
theorem cd_any {c:Cd} (h:Pn.noCond c=true):c.kind≤4∧Pn.okVal c.left=true∧Pn.okVal c.right=true:=by
 have:=cd_no h;exact ⟨by omega,this.2⟩
theorem st_parts {h:Hd} {a b:Bool} (ho:Pn.okStmt h a b=true):(Pn.noP h.place=true∨Pn.okPath h.place=true)∧Pn.okVal h.value=true∧(h.cond.kind≤4∧Pn.okVal h.cond.left=true∧Pn.okVal h.cond.right=true)∧(h.args.l= []∨h.args.l.all Pn.okSide=true):=by
 have nc:Pn.noCall h=true→h.args.l= []:=fun g=>by unfold Pn.noCall at g;simp only[Bool.and_eq_true,decide_eq_true_eq] at g;exact g.2
 unfold Pn.okStmt at ho
 split at ho
 ·simp only[Bool.and_eq_true] at ho;exact ⟨.inl ho.1.1.1.1.1.1,ok_noVal ho.1.1.1.1.1.2,cd_any ho.1.1.1.1.2,.inl (nc ho.1.1.1.2)⟩
 split at ho
 ·simp only[Bool.and_eq_true] at ho;exact ⟨.inr ho.1.1.1.1.1.1,ho.1.1.1.1.1.2,cd_any ho.1.1.1.1.2,.inl (nc ho.1.1.1.2)⟩
 split at ho
 ·simp only[Bool.and_eq_true] at ho;exact ⟨.inr ho.1.1.1.1.1.1,ok_noVal ho.1.1.1.1.1.2,cd_any ho.1.1.1.1.2,.inl (nc ho.1.1.1.2)⟩
 split at ho
 ·simp only[Bool.and_eq_true] at ho;exact ⟨.inl ho.1.1.1.1.1.1.2,ok_noVal ho.1.1.1.1.1.2,cd_any ho.1.1.1.1.2,.inr ho.1.1.1.1.1.1.1⟩
 split at ho
 ·simp only[Bool.and_eq_true] at ho;exact ⟨.inl ho.1.1.1.1,ok_noVal ho.1.1.1.2,cd_ok ho.1.1.2,.inl (nc ho.1.2)⟩
 split at ho
 ·simp only[Bool.and_eq_true] at ho;exact ⟨.inl ho.1.1.1.1.1,ok_noVal ho.1.1.1.1.2,cd_ok ho.1.1.1.2,.inl (nc ho.1.1.2)⟩
 split at ho
 ·simp only[Bool.and_eq_true] at ho;exact ⟨.inl ho.1.1.1.1.1,ok_noVal ho.1.1.1.1.2,cd_any ho.1.1.1.2,.inl (nc ho.1.1.2)⟩
 ·cases ho
theorem hd_ok {w:World} {h:Hd} {a b:Bool} (hl:hdLies w h) (ho:Pn.okStmt h a b=true) (hn:h.args.l.length≤8010):Sc.hdOk w h:=by
 obtain ⟨p1,p2,p3,p4⟩:=st_parts ho
 obtain ⟨l1,l2,l3,l4,l5,l6⟩:=hl
 refine ⟨?_,vl_ok l2 p2,vl_ok l3 p3.2.1,vl_ok l4 p3.2.2,⟨by omega, ?_⟩,l6⟩
 ·rcases p1 with p1 |p1
  ·exact pth_no p1
  ·exact pth_ok l1 p1
 ·rcases p4 with p4 |p4
  ·exact .inl p4
  ·rcases l5.2 with g |⟨b,o,hp,hx⟩
   ·exact .inl g
   ·exact .inr ⟨b,o,hp,fun k x hk=>⟨(hx k x hk).1,vl_ok (hx k x hk).2 (ok_side (List.all_eq_true.1 p4 x (List.mem_of_getElem? hk)))⟩⟩
theorem len_cnt: ∀l:SL,(l.len:Int)≤Pn.cnt l
 |.nil=>Int.le_refl _
 |.cons h _ _ t _ _ e r=>by
  have h1:=len_cnt r
  have h2:=Pn.cnt_nn t;have h3:=Pn.cnt_nn e
  simp only[SL.len,Pn.cnt];omega
theorem lok_of {w:World}: ∀(l:SL) (b o:Nat),lies w l b o→Pn.okList l=true→Pn.tight 8010 l→Pn.cnt l≤400→Sc.lok w l b o
 |.nil,_,_,_,_,_,_=>trivial
 |.cons h tp tc t ep ec e r,b,o,hl,ho,ht,hc=>by
  obtain ⟨l1,l2,⟨_,l3⟩,⟨_,l4⟩,l5⟩:=hl
  simp only[Pn.okList,Bool.and_eq_true] at ho
  obtain ⟨⟨⟨o1,o2⟩,o3⟩,o4⟩:=ho
  obtain ⟨t1,t2,t3,t4⟩:=ht
  simp only[Pn.cnt] at hc
  have n1:=Pn.cnt_nn t;have n2:=Pn.cnt_nn e;have n3:=Pn.cnt_nn r
  have m1:=len_cnt t;have m2:=len_cnt e
  refine ⟨l1,hd_ok l2 o1 t1,⟨by omega, ?_⟩,⟨by omega, ?_⟩,lok_of r b _ l5 o4 t4 (by omega)⟩
  ·rcases l3 with g |⟨b',o',hp,g⟩
   ·exact .inl g
   ·exact .inr ⟨b',o',hp,lok_of t b' o' g o2 t2 (by omega)⟩
  ·rcases l4 with g |⟨b',o',hp,g⟩
   ·exact .inl g
   ·exact .inr ⟨b',o',hp,lok_of e b' o' g o3 t3 (by omega)⟩
theorem lay_R {α:Type} {size bytes:Nat} {cells:α→List Value} {R:World→α→Prop} {R':α→Prop} {w:World} {s:Sl α} (h:Sc.Lay size cells R w s.p s.l) (hR: ∀x,R w x→R' x):Sc.slLies w size bytes cells R' s:=by
 refine ⟨h.1, ?_⟩
 rcases h.2 with g |⟨b,o,hp,hx⟩
 ·exact .inl g
 ·exact .inr ⟨b,o,hp,fun k x hk=>⟨(hx k x hk).1,hR x (hx k x hk).2⟩⟩
theorem vl_R {w:World} {v:Vl} (h:Sc.vlOk w v):Sc.vlLies w v:=lay_R (bytes:=24) h.1.1 fun _ _=>trivial
theorem lies_lok {w:World}: ∀(l:SL) (b o:Nat),Sc.lok w l b o→Sc.lies w l b o
 |.nil,_,_,_=>trivial
 |.cons h tp tc t ep ec e r,b,o,hl=>by
  obtain ⟨l1,l2,⟨m1,l3⟩,⟨m2,l4⟩,l5⟩:=hl
  obtain ⟨h1,h2,h3,h4,h5,h6⟩:=l2
  refine ⟨l1,⟨lay_R (bytes:=24) h1.1 fun _ _=>trivial,vl_R h2,vl_R h3,vl_R h4,lay_R (bytes:=144) h5 fun _ g=>vl_R g,h6⟩,⟨m1, ?_⟩,⟨m2, ?_⟩,lies_lok r b _ l5⟩
  ·rcases l3 with g |⟨b',o',hp,g⟩
   ·exact .inl g
   ·exact .inr ⟨b',o',hp,lies_lok t b' o' g⟩
  ·rcases l4 with g |⟨b',o',hp,g⟩
   ·exact .inl g
   ·exact .inr ⟨b',o',hp,lies_lok e b' o' g⟩
theorem sok_of {w:World} {p:Option Addr} {l:SL} (hl:sLies w p l) (ho:Pn.okList l=true) (ht:Pn.tight 8010 l) (hc:Pn.cnt l≤400):Sc.sok w p l:=by
 have hn:=len_cnt l
 refine ⟨by omega, ?_⟩
 rcases hl.2 with g |⟨b',o',hp',g⟩
 ·exact .inl g
 ·exact .inr ⟨b',o',hp',lok_of _ _ _ g ho ht hc⟩
theorem sLies8 {w:World} {p:Option Addr} {l:SL} (h:Sc.sok w p l):Sc.sLies w p l:=by
 refine ⟨h.1, ?_⟩
 rcases h.2 with g |⟨b',o',hp',g⟩
 ·exact .inl g
 ·exact .inr ⟨b',o',hp',lies_lok _ _ _ g⟩
theorem ck_of: ∀l:SL,Pn.okList l=true→Sc.ckOk l
 |.nil,_=>trivial
 |.cons h _ _ t _ _ e r,ho=>by
  simp only[Pn.okList,Bool.and_eq_true] at ho
  exact ⟨fun _=>(st_parts ho.1.1.1).2.2.1.1,ck_of t ho.1.1.2,ck_of e ho.1.2,ck_of r ho.2⟩
theorem dc_ok {d:Dc} (h:Pn.okDecl d=true):Sc.dcOk d:=by
 unfold Pn.okDecl at h
 simp only[Bool.and_eq_true,Bool.or_eq_true,decide_eq_true_eq] at h
 refine ⟨?_,szN h.1⟩
 rcases h.2 with g |g
 ·exact sz0 g
 ·exact szN g
theorem decls_ok {w:World} {s:Sl Dc} (hl:declsLie w s) (hn:s.l.length≤8010) (ho:s.l.all Pn.okDecl=true):Sc.declsLie w s:=by
 refine ⟨by omega, ?_⟩
 rcases hl.2 with g |⟨b,o,hp,hx⟩
 ·exact .inl g
 ·exact .inr ⟨b,o,hp,fun k x hk=>⟨(hx k x hk).1,dc_ok (List.all_eq_true.1 ho x (List.mem_of_getElem? hk))⟩⟩
theorem cntP_mem: ∀(l:List Pc) {q:Pc},q∈l→Pn.cnt q.body≤Pn.cntP l
 | [],_,h=>by cases h
 |p::r,q,h=>by
  have n:=Pn.cnt_nn p.body
  have m:=Pn.cntP_nn r
  rcases List.mem_cons.1 h with rfl |h
  ·simp only[Pn.cntP];omega
  ·have:=cntP_mem r h
   simp only[Pn.cntP];omega
theorem all_ok {w:World} {x:Pg} (hl:pgLies w x) (hr:Pn.right x=true) (ht:Pn.tightP 8010 x):Sc.AllOk x w∧∀q∈x.procs.l,Sc.ckOk q.body:=by
 obtain ⟨l1,l2,l3⟩:=hl
 obtain ⟨⟨t1,t2⟩,t3,t4,t5⟩:=ht
 simp only[Pn.right,Pn.okProg,Bool.and_eq_true,decide_eq_true_eq,List.all_eq_true] at hr
 obtain ⟨⟨⟨⟨r1,r2⟩,r3⟩,_⟩,r5⟩:=hr
 have pr: ∀q∈x.procs.l,Pn.okN q.name=true∧q.params.l.all Pn.okDecl=true∧q.locals_.l.all Pn.okDecl=true∧Pn.okList q.body=true:=fun q hq=>by
  have:=r3 q hq
  simp only[Pn.okProc,Bool.and_eq_true] at this
  exact ⟨this.1.1.1,this.1.1.2,this.1.2,this.2⟩
 refine ⟨⟨⟨⟨by omega, ?_⟩,decls_ok l2 t3 (List.all_eq_true.2 r2),⟨by omega, ?_⟩⟩,fun q hq=> ?_⟩,fun q hq=>ck_of _ (pr q hq).2.2.2⟩
 ·rcases l1.2 with g |⟨b,o,hp,hx⟩
  ·exact .inl g
  ·refine .inr ⟨b,o,hp,fun k s hk=>⟨(hx k s hk).1, ?_⟩⟩
   have hs:=r1 s (List.mem_of_getElem? hk)
   simp only[Pn.okStruct,Bool.and_eq_true] at hs
   exact ⟨decls_ok (hx k s hk).2 (t2 s (List.mem_of_getElem? hk)) (Pn.fields_decls hs.2),szN hs.1⟩
 ·rcases l3.2 with g |⟨b,o,hp,hx⟩
  ·exact .inl g
  ·refine .inr ⟨b,o,hp,fun k q hk=>⟨(hx k q hk).1, ?_⟩⟩
   have hm:=List.mem_of_getElem? hk
   obtain ⟨a1,a2,a3,a4⟩:=pr q hm
   obtain ⟨b1,b2,b3⟩:=t5 q hm
   obtain ⟨c1,c2,c3⟩:=(hx k q hk).2
   exact ⟨decls_ok c1 b1 a2,decls_ok c2 b2 a3,sLies8 (sok_of c3 a4 b3 (Int.le_trans (cntP_mem _ hm) r5)),szN a1⟩
 ·obtain ⟨_,_,_,a4⟩:=pr q hq
  obtain ⟨_,_,b3⟩:=t5 q hq
  rcases l3.2 with g |⟨b,o,hp,hx⟩
  ·rw[g] at hq;cases hq
  ·obtain ⟨k,hk⟩:=List.getElem?_of_mem hq
   obtain ⟨_,_,c3⟩:=(hx k q hk).2
   exact sok_of c3 a4 b3 (Int.le_trans (cntP_mem _ hq) r5)
end Go.Proofs.YtcehbcnloiooaaaGreatDoor
namespace Go.Proofs.YtcehbcnloiooaaaGreatDoor
namespace Sc
open Go.RowKit
structure Like (x y:Pg):Prop where
 s:y.structs.l=x.structs.l
 g:y.globals.l=x.globals.l
theorem Like.kindT {x y:Pg} (h:Like x y) (t:ByteArray):Sc.kindT y t=Sc.kindT x t:=by unfold Sc.kindT;rw[h.s]
theorem Like.pairM {x y:Pg} (h:Like x y):Sc.pairM y=Sc.pairM x:=by unfold Sc.pairM allPairs;rw[h.s]
theorem Like.endAt {x y:Pg} (h:Like x y) (f:Int):Sc.endAt y f=Sc.endAt x f:=by unfold Sc.endAt endsP allPairs;rw[h.s]
theorem Like.globOf {x y:Pg} (h:Like x y) (n:ByteArray):Sc.globOf y n=Sc.globOf x n:=by unfold Sc.globOf varsP;rw[h.s,h.g]
theorem Like.findD {x y:Pg} (h:Like x y): ∀(l:List Dc) (n:ByteArray),Sc.findD y l n=Sc.findD x l n
 | [],_=>rfl
 |d::r,n=>by unfold Sc.findD;rw[h.kindT,h.findD r n]
theorem Like.hops {x y:Pg} (h:Like x y): ∀(l:List Hp) (k:Int),hopsGo y k l=hopsGo x k l
 | [],_=>rfl
 |p::r,k=>by unfold hopsGo;rw[h.pairM,h.endAt,h.hops r]
theorem Like.varOf {x y:Pg} (h:Like x y) (q:Pc) (n:ByteArray):Sc.varOf y q n=Sc.varOf x q n:=by unfold Sc.varOf;rw[h.findD,h.g,h.globOf]
theorem Like.path {x y:Pg} (h:Like x y) (q:Pc) (w:Pth):pathGo y q w=pathGo x q w:=by
 unfold pathGo;rw[h.varOf]
 split
 ·exact h.hops _ _
 ·rfl
theorem Like.term {x y:Pg} (h:Like x y) (q:Pc) (t:Tm):termE y q t=termE x q t:=by unfold termE;rw[h.path]
theorem Like.fit {x y:Pg} (h:Like x y) (q:Pc) (v:Vl) (k:Int):fitE y q v k=fitE x q v k:=by unfold fitE;rw[h.path,h.term,h.term,h.s]
theorem Like.side {x y:Pg} (h:Like x y) (q:Pc) (v:Vl):sideGo y q v=sideGo x q v:=by unfold sideGo;rw[h.path]
theorem Like.cond {x y:Pg} (h:Like x y) (q:Pc) (c:Cd):condE y q c=condE x q c:=by unfold condE;rw[h.side,h.side]
theorem Like.args {x y:Pg} (h:Like x y) (q:Pc): ∀(vs:List Vl) (ds:List Dc),argsE y q vs ds=argsE x q vs ds
 |v::vs,d::ds=>by unfold argsE;rw[h.fit,h.kindT,h.args q vs ds]
 | [],_=>by unfold argsE;rfl
 |_::_,[]=>by unfold argsE;rfl
def More (x y:Pg):Prop:= ∀n,isIn (pNames x.procs.l) n=true→isIn (pNames y.procs.l) n=true∧paramsOf y n=paramsOf x n
theorem call_more {x y:Pg} (h:Like x y) (m:More x y) (q:Pc) (d:Hd) (h0:(callE x q d).2=0):callE y q d=callE x q d:=by
 unfold callE at h0 ⊢
 by_cases hi:isIn (pNames x.procs.l) d.name=true
 ·obtain ⟨m1,m2⟩:=m d.name hi
  rw[if_pos hi,if_pos m1,m2,h.args]
 ·rw[if_neg hi] at h0;exact absurd (show (8:Int)=0 from h0) (by decide)
theorem stmt_more {x y:Pg} (h:Like x y) (m:More x y) (q:Pc) (d:Hd) (h0:(stmtE x q d).2=0):stmtE y q d=stmtE x q d:=by
 unfold stmtE at h0 ⊢
 rw[h.path,h.fit,h.cond]
 by_cases k1:d.kind=1
 ·rw[if_pos k1,if_pos k1]
 rw[if_neg k1,if_neg k1]
 by_cases k2:d.kind=2
 ·rw[if_pos k2,if_pos k2]
 rw[if_neg k2,if_neg k2]
 by_cases k3:d.kind=3
 ·rw[if_pos k3,if_pos k3]
  rw[if_neg k1,if_neg k2,if_pos k3] at h0
  exact call_more h m q d h0
 rw[if_neg k3,if_neg k3]
theorem thenE_zero {a b:Int×Int} (h:(thenE a b).2=0):a.2=0∧b.2=0∧thenE a b=b:=by
 unfold thenE at h ⊢
 by_cases ha:a.2=0
 ·rw[if_pos ha] at h ⊢;exact ⟨ha,h,rfl⟩
 ·rw[if_neg ha] at h;exact absurd h ha
theorem list_more {x y:Pg} (h:Like x y) (m:More x y) (q:Pc): ∀l:SL,(listE x q l).2=0→listE y q l=listE x q l
 |.nil,_=>rfl
 |.cons d tp tc t ep ec e r,h0=>by
  unfold listE at h0 ⊢
  obtain ⟨a1,b1,_⟩:=thenE_zero h0
  obtain ⟨a2,b2,_⟩:=thenE_zero b1
  obtain ⟨a3,b3,_⟩:=thenE_zero b2
  rw[stmt_more h m q d a1,list_more h m q t a2,list_more h m q e a3,list_more h m q r b3]
theorem list_frame (x:Pg) {q p:Pc} (hf:frameOf p=frameOf q): ∀l:SL,listE x p l=listE x q l:=by
 have hv: ∀n,varOf x p n=varOf x q n:=fun n=>by unfold varOf;rw[hf]
 have hp: ∀w,pathGo x p w=pathGo x q w:=fun w=>by unfold pathGo;rw[hv]
 have ht: ∀t,termE x p t=termE x q t:=fun t=>by unfold termE;rw[hp]
 have hft: ∀v k,fitE x p v k=fitE x q v k:=fun v k=>by unfold fitE;rw[hp,ht,ht]
 have hs: ∀v,sideGo x p v=sideGo x q v:=fun v=>by unfold sideGo;rw[hp]
 have hc: ∀c,condE x p c=condE x q c:=fun c=>by unfold condE;rw[hs,hs]
 have ha: ∀vs ds,argsE x p vs ds=argsE x q vs ds:=by
  intro vs
  induction vs with
  |nil=>intro ds;unfold argsE;rfl
  |cons v vs ih=>
   intro ds
   cases ds with
   |nil=>unfold argsE;rfl
   |cons d ds=>unfold argsE;rw[hft,ih ds]
 have hcl: ∀d,callE x p d=callE x q d:=fun d=>by unfold callE;rw[ha]
 have hst: ∀d,stmtE x p d=stmtE x q d:=fun d=>by unfold stmtE;rw[hp,hft,hc,hcl]
 intro l
 exact (SL.all (P:=fun l=>listE x p l=listE x q l) (fun l hl=>by
  induction l with
  |nil=>rfl
  |cons d tp tc t ep ec e r _ _ ih=>
   obtain ⟨h1,h2,h3⟩:=hl
   unfold listE
   rw[hst,h1,h2,ih h3]) l).1
end Sc
end Go.Proofs.YtcehbcnloiooaaaGreatDoor
namespace Go.Proofs.YtcehbcnloiooaaaGreatDoor
namespace Sc
open Go.RowKit
theorem then_zero {a b:Int×Int} (hb:b.2=0→b=(0,0)) (h:(thenE a b).2=0):thenE a b=(0,0):=by
 obtain ⟨_,h2,h3⟩:=thenE_zero h
 rw[h3];exact hb h2
theorem procs_zero {x:Pg}: ∀ {l:List Pc},(procsE x l).2=0→procsE x l=(0,0)
 | [],_=>rfl
 |q::r,h=>by unfold procsE at h ⊢;exact then_zero procs_zero h
theorem check_zero {x:Pg} (h:(checkE x).2=0):checkE x=(0,0):=by
 unfold checkE at h ⊢
 by_cases hb:(buildGo x).2=0
 ·rw[if_pos hb] at h ⊢
  by_cases hm:isIn (pNames x.procs.l) mainN=true
  ·rw[if_pos hm] at h ⊢
   by_cases hp:0<(paramsOf x mainN).length
   ·rw[if_pos hp] at h;exact absurd (show (9:Int)=0 from h) (by decide)
   ·rw[if_neg hp] at h ⊢;exact procs_zero h
  ·rw[if_neg hm] at h;exact absurd (show (8:Int)=0 from h) (by decide)
 ·rw[if_neg hb] at h;exact absurd h hb
end Sc
end Go.Proofs.YtcehbcnloiooaaaGreatDoor
namespace Go.Proofs.YtcehbcnloiooaaaGreatDoor
namespace Sc
open Go.RowKit
structure Wrap (q p:Pc):Prop where
 name:p.name=q.name
 params:p.params.l=q.params.l
 locs:p.locals_.l=q.locals_.l
 body: ∃(d1 d2:Hd) (a1 a2 a3 a4:Option Addr) (c1 c2 c3 c4:Nat),p.body= .cons d1 a1 c1 .nil a2 c2 .nil (.cons d2 a3 c3 q.body a4 c4 .nil .nil)∧d1.kind=0∧d2.kind=6
def WrapL:List Pc→List Pc→Prop
 | [],[]=>True
 |q::l,p::m=>Wrap q p∧WrapL l m
 |_,_=>False
theorem Wrap.frame {q p:Pc} (h:Wrap q p):frameOf p=frameOf q:=by unfold frameOf;rw[h.params,h.locs]
theorem wrap_names: ∀ {l m:List Pc},WrapL l m→pNames m=pNames l
 | [],[],_=>rfl
 |q::l,p::m,h=>by
  show p.name::pNames m=q.name::pNames l
  rw[h.1.name,wrap_names h.2]
 | [],_::_,h=>h.elim
 |_::_,[],h=>h.elim
theorem wrap_at: ∀ {l m:List Pc} (k:Nat),WrapL l m→(m[k]?).map (·.params.l)=(l[k]?).map (·.params.l)
 | [],[],_,_=>rfl
 |q::l,p::m,0,h=>by show some p.params.l=some q.params.l;rw[h.1.params]
 |q::l,p::m,k+1,h=>by simpa using wrap_at k h.2
 | [],_::_,_,h=>h.elim
 |_::_,[],_,h=>h.elim
theorem procs_more (sn:List ByteArray) {mo:Pc} (hd:(declsGo sn [] (frameOf mo)).2=0): ∀ {l m:List Pc} (hv:List ByteArray),WrapL l m→hv.length+l.length<16→isIn hv mo.name=false→isIn (pNames l) mo.name=false→(procsGo sn hv l).2=0→(procsGo sn hv (m++ [mo])).2=0
 | [],[],hv,_,hn,hi,_,_=>by
  show (procsGo sn hv [mo]).2=0
  unfold procsGo
  rw[if_neg (by simpa using hn),hi,if_neg (by decide),if_pos hd]
  rfl
 |q::l,p::m,hv,hw,hn,hi,hj,h=>by
  rw[List.cons_append]
  unfold procsGo at h ⊢
  simp only[List.length_cons] at hn
  rw[if_neg (by omega)] at h ⊢
  rw[hw.1.name]
  by_cases h1:isIn hv q.name=true
  ·rw[if_pos h1] at h;exact absurd (show (7:Int)=0 from h) (by decide)
  rw[if_neg h1] at h ⊢
  rw[hw.1.frame]
  by_cases h2:(declsGo sn [] (frameOf q)).2=0
  ·rw[if_pos h2] at h ⊢
   have hne: ¬mo.name=q.name:=fun e=>by
    rw[isIn_not] at hj
    exact hj (by show mo.name∈q.name::pNames l;rw[e];exact List.mem_cons_self)
   refine procs_more sn hd (hv++ [q.name]) hw.2 (by rw[List.length_append];simp;omega) ?_ ?_ h
   ·rw[isIn_not] at hi ⊢
    simp only[List.mem_append,List.mem_singleton,not_or]
    exact ⟨hi,hne⟩
   ·rw[isIn_not] at hj ⊢
    exact fun e=>hj (List.mem_cons_of_mem _ e)
  ·rw[if_neg h2] at h;exact absurd h h2
 | [],_::_,_,h,_,_,_,_=>h.elim
 |_::_,[],_,h,_,_,_,_=>h.elim
theorem wrap_list {x y:Pg} (h:Like x y) (m:More x y) {q p:Pc} (hw:Wrap q p) (h0:(listE x q q.body).2=0):(listE y p p.body).2=0:=by
 obtain ⟨d1,d2,a1,a2,a3,a4,c1,c2,c3,c4,hb,k1,k2⟩:=hw.body
 have e:listE y p q.body=listE x q q.body:=(list_frame y hw.frame q.body).trans (list_more h m q q.body h0)
 have s1:stmtE y p d1=(0,0):=by unfold stmtE;rw[if_neg (by omega),if_neg (by omega),if_neg (by omega),if_neg (by omega)]
 have s2:stmtE y p d2=(0,0):=by unfold stmtE;rw[if_neg (by omega),if_neg (by omega),if_neg (by omega),if_neg (by omega)]
 rw[hb]
 simp only[listE,s1,s2,e,thenE,if_true,h0]
theorem wrap_procs {x y:Pg} (h:Like x y) (m:More x y) {mo:Pc} (hmo:mo.body= .nil): ∀ {l k:List Pc},WrapL l k→(procsE x l).2=0→(procsE y (k++ [mo])).2=0
 | [],[],_,_=>by
  show (procsE y [mo]).2=0
  unfold procsE procsE
  rw[hmo];rfl
 |q::l,p::k,hw,h0=>by
  rw[List.cons_append]
  unfold procsE at h0 ⊢
  obtain ⟨h1,h2,_⟩:=thenE_zero h0
  rw[thenE_go (wrap_list h m hw.1 h1)]
  exact wrap_procs h m hmo hw.2 h2
 | [],_::_,h,_=>h.elim
 |_::_,[],h,_=>h.elim
theorem idx_app {κ:Type} [DecidableEq κ] {l:List κ} {a n:κ} (h:isIn l n=true):isIn (l++ [a]) n=true∧numOf (l++ [a]) n=numOf l n:=by
 have hm:=isIn_iff.1 h
 have h1:isIn (l++ [a]) n=true:=isIn_iff.2 (List.mem_append.2 (.inl hm))
 refine ⟨h1, ?_⟩
 unfold numOf
 rw[if_pos h,if_pos h1,List.idxOf_append,if_pos hm]
theorem check_more {x y:Pg} {k:List Pc} {mo:Pc} (h:Like x y) (hp:y.procs.l=k++ [mo]) (hw:WrapL x.procs.l k) (hn:x.procs.l.length<16) (hm:isIn (pNames x.procs.l) mo.name=false)
  (hb:mo.body= .nil) (hd:(declsGo (sNames x.structs.l) [] (frameOf mo)).2=0) (h0:(checkE x).2=0):checkE y=(0,0):=by
 have hnm:pNames y.procs.l=pNames x.procs.l++ [mo.name]:=by rw[hp,←wrap_names hw];unfold pNames;rw[List.map_append];rfl
 have hM:More x y:=fun n hn=>by
  obtain ⟨h1,h2⟩:=idx_app (a:=mo.name) hn
  refine ⟨by rw[hnm];exact h1, ?_⟩
  unfold paramsOf
  rw[hnm,h2,hp,←wrap_at _ hw]
  have hlt:(numOf (pNames x.procs.l) n).toNat<k.length:=by
   rw[numOf_in hn,Int.toNat_natCast]
   have:=placeOf_lt hn
   have e:(pNames x.procs.l).length=k.length:=by rw[←wrap_names hw];simp[pNames]
   omega
  rw[List.getElem?_append_left hlt]
 refine check_zero ?_
 unfold checkE at h0 ⊢
 by_cases b0:(buildGo x).2=0
 ·rw[if_pos b0] at h0
  have by0:(buildGo y).2=0:=by
   unfold buildGo at b0 ⊢
   rw[h.s,h.g,hp]
   split at b0
   ·rename_i g1;rw[if_pos g1]
    split at b0
    ·rename_i g2;rw[if_pos g2]
     split at b0
     ·rename_i g3;rw[if_pos g3]
      exact procs_more _ hd [] hw (by simpa using hn) rfl hm b0
     ·rename_i g3;exact absurd b0 g3
    ·rename_i g2;exact absurd b0 g2
   ·rename_i g1;exact absurd b0 g1
  rw[if_pos by0]
  by_cases m0:isIn (pNames x.procs.l) mainN=true
  ·obtain ⟨m1,m2⟩:=hM mainN m0
   rw[if_pos m0] at h0
   rw[if_pos m1,m2]
   by_cases p0:0<(paramsOf x mainN).length
   ·rw[if_pos p0] at h0;exact absurd (show (9:Int)=0 from h0) (by decide)
   ·rw[if_neg p0] at h0 ⊢
    rw[hp];exact wrap_procs h hM hb hw h0
  ·rw[if_neg m0] at h0;exact absurd (show (8:Int)=0 from h0) (by decide)
 ·rw[if_neg b0] at h0;exact absurd h0 b0
end Sc
end Go.Proofs.YtcehbcnloiooaaaGreatDoor
namespace Go.Proofs.YtcehbcnloiooaaaGreatDoor
namespace Sc
open Go.RowKit Go.Sort Go.Maps
def blk (h:Hd):Bool:=h.kind==4 ||h.kind==5 ||h.kind==6
def dpG:SL→Int→Int
 |.nil,n=>n
 |.cons h _ _ t _ _ e r,n=>dpG r (if blk h=true then max (max n (1+dpG t 0)) (1+dpG e 0) else n)
theorem dpG_le: ∀(l:SL) (n:Int),n≤dpG l n∧dpG l n≤max n (Pn.cnt l)
 |.nil,n=>⟨Int.le_refl _,by unfold dpG Pn.cnt;omega⟩
 |.cons h tp tc t ep ec e r,n=>by
  have h1:=dpG_le t 0
  have h2:=dpG_le e 0
  have c1:=Pn.cnt_nn t;have c2:=Pn.cnt_nn e;have c3:=Pn.cnt_nn r
  unfold dpG Pn.cnt
  split
  ·have h3:=dpG_le r (max (max n (1+dpG t 0)) (1+dpG e 0));omega
  ·have h3:=dpG_le r n;omega
theorem mx (n a b:Int):max (max n a) b=(if (if n<a then a else n)<b then b else if n<a then a else n):=by
 by_cases h:n<a
 ·rw[if_pos h]
  by_cases g:a<b
  ·rw[if_pos g];omega
  ·rw[if_neg g];omega
 ·rw[if_neg h]
  by_cases g:n<b
  ·rw[if_pos g];omega
  ·rw[if_neg g];omega
def okD (l:SL):Prop:= ∀(p:Option Addr) (c:Nat) (w:World),sok w p l→Pn.cnt l≤400→
 Calls Tryz.prog 17 #[.slice p l.len c] w fun en w'=>en= .returned (.int .i64 (dpG l 0))∧Below w.heap.size w w'
theorem deep_step (l:SL) (hl:l.each okD):okD l:=by
 intro p c w hs hcn
 have hlen:l.len≤1048576:=hs.1
 have HI0:Hid ((0:Nat)+l.len=l.len∧l.each okD∧Pn.cnt l≤400∧(l= .nil∨∃b o,p=some ⟨b,o,none⟩∧lok w l b (o+0*48))):=hdn ⟨Nat.zero_add _,hl,hcn,by rcases hs.2 with h |⟨b,o,h1,h2⟩;exact .inl h;exact .inr ⟨b,o,h1,by rw[Nat.zero_mul,Nat.add_zero];exact h2⟩⟩
 clear hs hl hcn
 go_enter Tryz.func17,Tryz.ntmps17
 go_wp2_with fail
 go_loopw [3,4] (fun v i wr=> ∃(k:Nat) (rest:SL) (n:Int),i= .int .i64 k∧v= .int .i64 n∧k≤l.len∧0≤n∧n≤401∧Hid (k+rest.len=l.len∧rest.each okD∧Pn.cnt rest≤400∧(rest= .nil∨∃b o,p=some ⟨b,o,none⟩∧lok w rest b (o+k*48)))∧Hid (dpG l 0=dpG rest n)∧Hid (Below w.heap.size w wr)) (fun _ i _=>l.len-(intOf i).toNat)
 case atStart=>exact ⟨0,l,0,rfl,rfl,Nat.zero_le _,by omega,by omega,HI0,hdn rfl,hdn (Below.refl _ _)⟩
 case round=>
  clear HI0
  obtain ⟨k,rest,n,rfl,rfl,hk,hn0,hn1,HI,HG,HB⟩:=hrel
  cases rest with
  |nil=>
   have hkl:k=l.len:=by have:=HI.out.1;simpa [SL.len] using this
   subst hkl
   go_wp2_with fail
   go_ret
   exact ⟨by rw[HG.out];rfl,HB.out⟩
  |cons h tp tc t ep ec e r=>
   have hkl:k<l.len:=by have:=HI.out.1;simp only[SL.len] at this;omega
   obtain ⟨_,⟨ht,he,hr⟩,hcn,hx⟩:=HI.out
   have c1:=Pn.cnt_nn t;have c2:=Pn.cnt_nn e;have c3:=Pn.cnt_nn r
   simp only[Pn.cnt] at hcn
   obtain ⟨b,o,rfl,hrg,hho,hts,hes,hrs⟩:=hx.resolve_left (by intro h;cases h)
   have HTS:Hid (sok w tp t):=hdn hts;have HES:Hid (sok w ep e):=hdn hes;have HRS:=hdn hrs;have HRE:=hdn hr
   have HIR:Hid (k+1+r.len=l.len):=hdn (by have:=HI.out.1;simp only[SL.len] at this;omega)
   have HIN:Hid (k+1+r.len=l.len∧r.each okD∧Pn.cnt r≤400∧(r= .nil∨∃b' o',some (⟨b,o,none⟩:Addr)=some ⟨b',o',none⟩∧lok w r b' (o'+(k+1)*48))):=hdn ⟨HIR.out,HRE.out,by omega,.inr ⟨b,o,rfl,by have:=HRS.out;rwa[show o+k*48+48=o+(k+1)*48 from by omega] at this⟩⟩
   have d0:=cell_at (rangeAt_below hrg HB.out) 0 _ rfl
   rw[Nat.add_zero] at d0
   have d45:=cell_at (rangeAt_below hrg HB.out) 45 _ rfl
   have d46:=cell_at (rangeAt_below hrg HB.out) 46 _ rfl
   have k45:=cell_regrown d45
   have k46:=cell_regrown d46
   have l1:=dpG_le t 0;have l2:=dpG_le e 0
   have CC1:=qb_call (wB:=wr) (F:=17) (ar:= #[.slice tp t.len tc]) (v:= .int .i64 (dpG t 0)) (fun wq hb=>ht tp tc wq (sok_below HTS.out (HB.out.trans (hb.mono HB.out.size))) (by omega))
   have CC2:=qb_call (wB:=wr) (F:=17) (ar:= #[.slice ep e.len ec]) (v:= .int .i64 (dpG e 0)) (fun wq hb=>he ep ec wq (sok_below HES.out (HB.out.trans (hb.mono HB.out.size))) (by omega))
   have HGC:Hid (dpG l 0=dpG r (if blk h=true then max (max n (1+dpG t 0)) (1+dpG e 0) else n)):=HG
   have b1:0≤dpG t 0:=l1.1;have b2:dpG t 0≤400:=by omega
   have b3:0≤dpG e 0:=l2.1;have b4:dpG e 0≤400:=by omega
   generalize dpG t 0=dt at CC1 HGC b1 b2
   generalize dpG e 0=de at CC2 HGC b3 b4
   have n0:(0:Int)≤(k:Int):=Int.natCast_nonneg _
   have n1:(k:Int)<(l.len:Int):=by omega
   clear ht he hr hx hrg hho hts hes hrs HI HG l1 l2 hcn c1 c2 c3
   cases hb:blk h
   ·have q4:(h.kind==4)=false:=by unfold blk at hb;simp only[Bool.or_eq_false_iff] at hb;exact hb.1.1
    have q5:(h.kind==5)=false:=by unfold blk at hb;simp only[Bool.or_eq_false_iff] at hb;exact hb.1.2
    have q6:(h.kind==6)=false:=by unfold blk at hb;simp only[Bool.or_eq_false_iff] at hb;exact hb.2
    have HN:Hid (dpG l 0=dpG r n):=hdn (by rw[HGC.out,hb];rfl)
    clear hb k45 k46 CC1 CC2 d45 d46
    go_wp2_with fail
    go_roundw
    case rel=>exact ⟨k+1,r,n,by go_num,rfl,by omega,hn0,hn1,HIN,HN,HB⟩
    case measure=>simp[intOf];omega
   ·have hN:dpG l 0=dpG r (max (max n (1+dt)) (1+de)):=by rw[HGC.out,hb];rfl
    rw[mx] at hN
    have HN:=hdn hN
    have hm:=mx n (1+dt) (1+de)
    have HMX:Hid (0≤(if (if n<1+dt then 1+dt else n)<1+de then 1+de else if n<1+dt then 1+dt else n)∧(if (if n<1+dt then 1+dt else n)<1+de then 1+de else if n<1+dt then 1+dt else n)≤401):=hdn (by rw[←hm];omega)
    clear hN hm
    have hk3:h.kind=4∨h.kind=5∨h.kind=6:=by unfold blk at hb;simp only[Bool.or_eq_true,beq_iff_eq] at hb;omega
    clear hb
    rcases hk3 with k4 |k5 |k6
    ·rw[k4] at d0
     go_wp2_with fail
     refine wp_region_quiet_below (by kernel_rfl) (by kernel_rfl) ?_
     repeat (first |go_big_quiet_step (with_reducible exact CC1 _ _)|go_big_quiet_step (with_reducible exact CC2 _ _))
     refine wpQuiet_nil ?_
     intro _ hw'
     obtain ⟨⟨dq,osq⟩,hw''⟩:=hw'
     subst hw''
     have hb3:=below_regrown wr dq osq
     have HB3:Hid (Below w.heap.size w (grow (redrawn wr dq) osq)):=hdn (HB.out.trans (hb3.mono HB.out.size))
     generalize grow (redrawn wr dq) osq=w3 at HB3 hb3 ⊢
     clear hb3 CC1 CC2 k45 k46 d45 d46
     go_wp2_with fail
     go_roundw
     case rel=>exact ⟨k+1,r,_,by go_num,rfl,by omega,HMX.out.1,HMX.out.2,HIN,HN,HB3⟩
     case measure=>simp[intOf];omega
    ·rw[k5] at d0
     go_wp2_with fail
     refine wp_region_quiet_below (by kernel_rfl) (by kernel_rfl) ?_
     repeat (first |go_big_quiet_step (with_reducible exact CC1 _ _)|go_big_quiet_step (with_reducible exact CC2 _ _))
     refine wpQuiet_nil ?_
     intro _ hw'
     obtain ⟨⟨dq,osq⟩,hw''⟩:=hw'
     subst hw''
     have hb3:=below_regrown wr dq osq
     have HB3:Hid (Below w.heap.size w (grow (redrawn wr dq) osq)):=hdn (HB.out.trans (hb3.mono HB.out.size))
     generalize grow (redrawn wr dq) osq=w3 at HB3 hb3 ⊢
     clear hb3 CC1 CC2 k45 k46 d45 d46
     go_wp2_with fail
     go_roundw
     case rel=>exact ⟨k+1,r,_,by go_num,rfl,by omega,HMX.out.1,HMX.out.2,HIN,HN,HB3⟩
     case measure=>simp[intOf];omega
    ·rw[k6] at d0
     go_wp2_with fail
     refine wp_region_quiet_below (by kernel_rfl) (by kernel_rfl) ?_
     repeat (first |go_big_quiet_step (with_reducible exact CC1 _ _)|go_big_quiet_step (with_reducible exact CC2 _ _))
     refine wpQuiet_nil ?_
     intro _ hw'
     obtain ⟨⟨dq,osq⟩,hw''⟩:=hw'
     subst hw''
     have hb3:=below_regrown wr dq osq
     have HB3:Hid (Below w.heap.size w (grow (redrawn wr dq) osq)):=hdn (HB.out.trans (hb3.mono HB.out.size))
     generalize grow (redrawn wr dq) osq=w3 at HB3 hb3 ⊢
     clear hb3 CC1 CC2 k45 k46 d45 d46
     go_wp2_with fail
     go_roundw
     case rel=>exact ⟨k+1,r,_,by go_num,rfl,by omega,HMX.out.1,HMX.out.2,HIN,HN,HB3⟩
     case measure=>simp[intOf];omega
theorem deep_any (l:SL):okD l:=(SL.all (P:=okD) (fun l h=>deep_step l h) l).1
end Sc
end Go.Proofs.YtcehbcnloiooaaaGreatDoor
namespace Go.Proofs.YtcehbcnloiooaaaGreatDoor
namespace Sc
open Go.RowKit Go.Sort
def hw (h:Hd):Int:=h.args.l.length+h.place.hops.l.length+h.value.path.hops.l.length+h.cond.left.path.hops.l.length+h.cond.right.path.hops.l.length
def wtGo:SL→Int→Int→Int
 |.nil,_,n=>n
 |.cons h _ _ t _ _ e r,d,n=>if n<2000 then wtGo r d (n+hw h+(if 40<d+1 then 2000 else min (wtGo t (d+1) t.len) 2000)+(if 40<d+1 then 2000 else min (wtGo e (d+1) e.len) 2000)) else n
def wt (l:SL) (d:Int):Int:=if 40<d then 2000 else min (wtGo l d l.len) 2000
theorem wtGo_cons (h:Hd) (tp:Option Addr) (tc:Nat) (t:SL) (ep:Option Addr) (ec:Nat) (e r:SL) (d n:Int):
  wtGo (.cons h tp tc t ep ec e r) d n=if n<2000 then wtGo r d (n+hw h+wt t (d+1)+wt e (d+1)) else n:=rfl
theorem hw_nonneg (h:Hd):0≤hw h:=by unfold hw;omega
theorem wtGo_ge: ∀(l:SL) (d n:Int),n≤wtGo l d n∧(0≤n→0≤wt l d)
 |.nil,d,n=>⟨Int.le_refl _,fun _=>by unfold wt wtGo SL.len;split<;>omega⟩
 |.cons h tp tc t ep ec e r,d,n=>by
  have ht:=(wtGo_ge t (d+1) 0).2 (Int.le_refl _)
  have he:=(wtGo_ge e (d+1) 0).2 (Int.le_refl _)
  have hh:=hw_nonneg h
  have key: ∀n,n≤wtGo (.cons h tp tc t ep ec e r) d n:=fun n=>by
   rw[wtGo_cons];split
   ·have:=(wtGo_ge r d (n+hw h+wt t (d+1)+wt e (d+1))).1;omega
   ·omega
  refine ⟨key n,fun _=> ?_⟩
  unfold wt;split
  ·omega
  ·have:=key (SL.cons h tp tc t ep ec e r).len;omega
theorem wt_nonneg (l:SL) (d:Int):0≤wt l d:=(wtGo_ge l d 0).2 (Int.le_refl _)
theorem wt_le (l:SL) (d:Int):wt l d≤2000:=by unfold wt;split<;>omega
def wtOk (l:SL):Prop:= ∀(p:Option Addr) (c:Nat) (d:Int) (w:World),0≤d→d≤41→sLies w p l→
   Calls Tryz.prog 16 #[.slice p l.len c,.int .i64 d] w fun e w'=>e= .returned (.int .i64 (wt l d))∧Below w.heap.size w w'
theorem weight_one (l:SL) (hP:l.each wtOk)
  (p:Option Addr) (c:Nat) (d:Int) (w:World) (hd0:0≤d) (hd1:d≤41) (hl:sLies w p l):
  Calls Tryz.prog 16 #[.slice p l.len c,.int .i64 d] w fun e w'=>e= .returned (.int .i64 (wt l d))∧Below w.heap.size w w':=by
 obtain ⟨hlen,hl⟩:=hl
 have hlen':l.len≤300000000000:=by omega
 clear hlen
 have HP:=hdn hP
 clear hP
 by_cases hd:40<d
 ·have HE:Hid (wt l d=2000):=hdn (by unfold wt;rw[if_pos hd])
  go_enter Tryz.func16,Tryz.ntmps16
  go_wp2_with fail
  go_ret
  exact ⟨ret_int (by rw[HE.out]),Below.refl _ _⟩
 ·have HE:Hid (wt l d=min (wtGo l d l.len) 2000):=hdn (by unfold wt;rw[if_neg hd])
  go_enter Tryz.func16,Tryz.ntmps16
  go_wp2_with fail
  have hd2:d≤40:=by omega
  clear hd
  go_loopw [5,6] (fun v i wr=> ∃(k:Nat) (rest:SL) (n:Int),i= .int .i64 k∧v= .int .i64 n∧k≤l.len∧0≤n∧n≤40000000000000∧Hid (k+rest.len=l.len)∧Hid (wtGo l d l.len=wtGo rest d n)∧
    Hid (rest= .nil∨∃b o,p=some ⟨b,o,none⟩∧lies w rest b (o+k*48))∧Hid (rest.each (wtOk))∧Hid (Below w.heap.size w wr)) (fun _ i _=>l.len-(intOf i).toNat)
  case atStart=>exact ⟨0,l,l.len,rfl,rfl,Nat.zero_le _,by omega,by omega,hdn (Nat.zero_add _),hdn rfl,hdn (by simpa using hl),HP,hdn (Below.refl _ _)⟩
  case round=>
   obtain ⟨k,rest,n,rfl,rfl,hk,hn0,hn1,HK,HG,HL,HQ,HB⟩:=hrel
   by_cases hnn:n<2000
   ·cases rest with
    |nil=>
     have hk':l.len≤k:=by have:=HK.out;simp only[SL.len] at this;omega
     go_wp2_with fail
     go_ret
     exact ⟨ret_int (by rw[HE.out,HG.out];unfold wtGo;omega),HB.out⟩
    |cons h tp tc t ep ec e r=>
     have hkl:k<l.len:=by have:=HK.out;simp only[SL.len] at this;omega
     have hr:=HL.out
     obtain ⟨b,o,rfl,hrg,hhd,hts,hes,hrs⟩: ∃b o,p=some ⟨b,o,none⟩∧w.rangeAt b (o+k*48) (scells h tp t.len tc ep e.len ec)∧hdLies w h∧sLies w tp t∧sLies w ep e∧(r= .nil∨lies w r b (o+k*48+48)):=by
      rcases hr with hr |⟨b,o,hp,h1,h2,h3,h4,h5⟩
      ·cases hr
      ·exact ⟨b,o,hp,h1,h2,h3,h4,.inr h5⟩
     obtain ⟨hQt,hQe,hQr⟩:=HQ.out
     obtain ⟨cs,hcs⟩: ∃cs,cs=sarr h tp t.len tc ep e.len ec:=⟨_,rfl⟩
     have HRG:Hid (wr.rangeAt b (o+k*48) cs.toList):=hdn (by rw[hcs];exact rangeAt_below hrg HB.out)
     have HSZ:Hid ((Tryz.prog.info? 63).map (·.size)=some cs.size):=hdn (by rw[hcs];exact size57)
     have HZ:Hid (48=cs.size):=hdn (by rw[hcs];rfl)
     have HON:Hid (cs.all (·.oneCell')=true):=hdn (by rw[hcs];exact scells_one _ _ _ _ _ _ _)
     have c44:cs[44]? =some (.slice h.args.p h.args.l.length h.args.cap):=by rw[hcs];rfl
     have c4:cs[4]? =some (.slice h.place.hops.p h.place.hops.l.length h.place.hops.cap):=by rw[hcs];rfl
     have c9:cs[9]? =some (.slice h.value.path.hops.p h.value.path.hops.l.length h.value.path.hops.cap):=by rw[hcs];rfl
     have c23:cs[23]? =some (.slice h.cond.left.path.hops.p h.cond.left.path.hops.l.length h.cond.left.path.hops.cap):=by rw[hcs];rfl
     have c35:cs[35]? =some (.slice h.cond.right.path.hops.p h.cond.right.path.hops.l.length h.cond.right.path.hops.cap):=by rw[hcs];rfl
     have c45:cs[45]? =some (.slice tp t.len tc):=by rw[hcs];rfl
     have c46:cs[46]? =some (.slice ep e.len ec):=by rw[hcs];rfl
     clear hcs
     have b1:h.args.l.length≤6000000000000:=by have:=hhd.2.2.2.2.1.1;omega
     have b2:h.place.hops.l.length≤6000000000000:=by have:=hhd.1.1;omega
     have b3:h.value.path.hops.l.length≤6000000000000:=by have:=hhd.2.1.1;omega
     have b4:h.cond.left.path.hops.l.length≤6000000000000:=by have:=hhd.2.2.1.1;omega
     have b5:h.cond.right.path.hops.l.length≤6000000000000:=by have:=hhd.2.2.2.1.1;omega
     have HHD:=hdn hhd
     have HTS:=hdn hts
     have HES:=hdn hes
     have HRS:=hdn hrs
     have HQT:=hdn hQt
     have HQE:=hdn hQe
     have HQR:=hdn hQr
     clear hhd hts hes hrs hQt hQe hQr hrg hr
     go_wp2_with (first |((with_reducible show wpList _ _ _ (Oper.mk (some 25) _ _ _ _ _::_) _ _);refine wpList_load_arr rfl 63 (.tmp 24) rfl b (o+k*48) rfl cs _ HRG.out Tryz.underlying63 rfl HSZ.out ?_)|((with_reducible show wpList _ _ _ (Oper.mk none (Op.store _ _ _) _ _ _ _::_) _ _);refine wpList_store_new rfl 63 (.tmp 7) (.tmp 25) rfl _ cs rfl rfl HSZ.out HZ.out HON.out ?_))
     have k45:=cell_regrown (w:=wr.alloc (.cells cs 63)) (a:=⟨wr.heap.size,45,none⟩) ((World.cell?_alloc_at _ _ _ _ rfl).trans c45)
     have k46:=cell_regrown (w:=wr.alloc (.cells cs 63)) (a:=⟨wr.heap.size,46,none⟩) ((World.cell?_alloc_at _ _ _ _ rfl).trans c46)
     have hB1:Below w.heap.size w (wr.alloc (.cells cs 63)):=HB.out.alloc HB.out.size _
     have cT: ∀dd os,Calls Tryz.prog 16 #[.slice tp t.len tc,.int .i64 (d+1)] (grow (redrawn (wr.alloc (.cells cs 63)) dd) os) fun e w''=>e= .returned (.int .i64 (wt t (d+1)))∧∃p:Regrown,w''=grow (redrawn (wr.alloc (.cells cs 63)) p.d) p.os:=
      fun dd os=>Calls.regrown_of (HQT.out _ _ _ _ (by omega) (by omega) (sLies_below (sLies_below HTS.out hB1) (below_regrown _ _ _)))
     have cE: ∀dd os,Calls Tryz.prog 16 #[.slice ep e.len ec,.int .i64 (d+1)] (grow (redrawn (wr.alloc (.cells cs 63)) dd) os) fun e' w''=>e'= .returned (.int .i64 (wt e (d+1)))∧∃p:Regrown,w''=grow (redrawn (wr.alloc (.cells cs 63)) p.d) p.os:=
      fun dd os=>Calls.regrown_of (HQE.out _ _ _ _ (by omega) (by omega) (sLies_below (sLies_below HES.out hB1) (below_regrown _ _ _)))
     have HBB:=hdn hB1
     clear hB1
     have t0:=wt_nonneg t (d+1)
     have t1:=wt_le t (d+1)
     have e0:=wt_nonneg e (d+1)
     have e1:=wt_le e (d+1)
     refine wp_region_quiet_below (by kernel_rfl) (by kernel_rfl) ?_
     repeat (go_big_quiet_step (first |(with_reducible exact cT _ _)|(with_reducible exact cE _ _)))
     refine wpQuiet_nil ?_
     intro _ hw'
     obtain ⟨⟨dq,osq⟩,hw''⟩:=hw'
     subst hw''
     have HB3:Hid (Below w.heap.size w (grow (redrawn (wr.alloc (.cells cs 63)) dq) osq)):=hdn (HBB.out.trans ((below_regrown _ dq osq).mono HBB.out.size))
     generalize grow (redrawn (wr.alloc (.cells cs 63)) dq) osq=w3 at HB3 ⊢
     go_wp2_with fail
     go_roundw
     case rel=>
      refine ⟨k+1,r,n+hw h+wt t (d+1)+wt e (d+1),by go_num, ?_,by omega,by have:=hw_nonneg h;omega,by unfold hw;omega,hdn (by have:=HK.out;simp only[SL.len] at this;omega),hdn ?_,hdn ?_,HQR,HB3⟩
      ·congr 1;unfold hw;omega
      ·rw[HG.out,wtGo_cons,if_pos hnn]
      ·rcases HRS.out with hr |hr
       ·exact .inl hr
       ·exact .inr ⟨b,o,rfl,by rw[show o+(k+1)*48=o+k*48+48 by omega];exact hr⟩
     case measure=>simp[intOf];omega
   ·have HN:Hid (wtGo rest d n=n):=hdn (by
     cases rest with
     |nil=>rfl
     |cons=>rw[wtGo_cons,if_neg hnn])
    go_wp2_with fail
    all_goals
     go_ret
     exact ⟨ret_int (by rw[HE.out,HG.out,HN.out]<;>omega),HB.out⟩
theorem weight_any (l:SL) (p:Option Addr) (c:Nat) (d:Int) (w:World) (hd0:0≤d) (hd1:d≤41) (hl:sLies w p l):
  Calls Tryz.prog 16 #[.slice p l.len c,.int .i64 d] w fun e w'=>e= .returned (.int .i64 (wt l d))∧Below w.heap.size w w':=
 (SL.all (P:=wtOk) (fun l h p c d w a b hl=>weight_one l h p c d w a b hl) l).1 p c d w hd0 hd1 hl
end Sc
end Go.Proofs.YtcehbcnloiooaaaGreatDoor
namespace Go.Proofs.YtcehbcnloiooaaaGreatDoor
open Go.RowKit Go.Sort
namespace Pa
open Pr (St Res th noTm noPth noVl noCd noHd th_ok)
section
variable (l:List Tx.Sg)
abbrev ts:List Pr.Tk:=l.map Pr.tk
def sg (i:Nat):Tx.Sg:=l.getD i ⟨0,0,ByteArray.empty,0⟩
def name (u:St):Res Tx.Sg:=if (sg l u.i).kind=1 then .ok (sg l u.i,u.go) else .error (5,u.i)
def hops:Nat→List Hp→St→Res (List Hp)
 |0,acc,u=>if Pr.is (ts l) u.i ⟨#[45,62]⟩ then .error (11,u.i) else .ok (acc,u)
 |n+1,acc,u=>if Pr.is (ts l) u.i ⟨#[45,62]⟩ then (th (name l u.go) fun x v=>hops n (acc++ [⟨x.text,(sg l u.i).pos⟩]) v) else .ok (acc,u)
def path (u:St):Res Pth:=
 th (name l u) fun x u=>
 th (hops l 8 [] u) fun l u=>
 .ok (⟨x.text,x.pos,⟨none,0,l⟩⟩,u)
def term (u:St):Res Tm:=
 if (sg l u.i).kind=2 then .ok (⟨ByteArray.empty,(sg l u.i).num,(sg l u.i).pos⟩,u.go)
 else
  th (name l u) fun x u=>
  .ok (⟨x.text,0,x.pos⟩,u)
def side (u:St):Res Vl:=
 if Pr.is (ts l) u.i ⟨#[110,117,108,108]⟩ then .ok ({noVl with pos:=(sg l u.i).pos},u.go)
 else if (sg l u.i).kind=2 then
  th (term l u) fun x v=>
  .ok ({noVl with kind:=4,pos:=(sg l u.i).pos,left:=x},v)
 else
  th (path l u) fun x v=>
  .ok ({noVl with kind:=1,pos:=(sg l u.i).pos,path:=x},v)
def sum (u:St):Res Vl:=
 th (term l u) fun x v=>
 th (term l v.go) fun y z=>
 .ok ({noVl with kind:=if Pr.is (ts l) v.i ⟨#[45]⟩ then 6 else 5,pos:=(sg l u.i).pos,left:=x,right:=y},z)
def value (u:St):Res Vl:=
 if Pr.is (ts l) u.i ⟨#[110,101,119]⟩ then
  th (name l u.go) fun x v=>
  .ok ({noVl with kind:=2,pos:=(sg l u.i).pos,type:=x.text},v)
 else if Pr.is (ts l) u.i ⟨#[105,110,112,117,116]⟩ then .ok ({noVl with kind:=3,pos:=(sg l u.i).pos},u.go)
 else if Pr.sums (ts l) u then sum l u else side l u
def cond (u:St):Res Cd:=
 if Pr.is (ts l) u.i ⟨#[63]⟩ then .ok ({noCd with pos:=(sg l u.i).pos},u.go)
 else
  th (side l u) fun x v=>
  th (Pr.relation (ts l) v) fun k v=>
  th (side l v) fun y v=>
  .ok (⟨k,(sg l u.i).pos,x,y⟩,v)
def held (u:St):Res Cd:=
 th (Pr.must (ts l) ⟨#[40]⟩ u) fun _ u=>
 th (cond l u) fun c u=>
 th (Pr.must (ts l) ⟨#[41]⟩ u) fun _ u=>
 .ok (c,u)
def pointer (u:St):Res Dc:=
 th (name l u) fun x u=>
 th (Pr.must (ts l) ⟨#[42]⟩ u) fun _ u=>
 th (name l u) fun y u=>
 .ok (⟨x.text,y.text,y.pos⟩,u)
def variable_ (u:St):Res Dc:=
 if Pr.is (ts l) u.i ⟨#[105,110,116]⟩ then
  th (name l u.go) fun x u=>
  .ok (⟨ByteArray.empty,x.text,x.pos⟩,u)
 else pointer l u
def decl (u:St):Res Dc:=
 th (variable_ l u) fun d u=>
 th (Pr.must (ts l) ⟨#[59]⟩ u) fun _ u=>
 .ok (d,u)
def block (rec:St→Res SL) (u:St):Res SL:=Pr.block (ts l) rec u
def free (u:St):Res Hd:=
 th (Pr.must (ts l) ⟨#[102,114,101,101]⟩ u) fun _ v=>
 th (Pr.must (ts l) ⟨#[40]⟩ v) fun _ v=>
 th (path l v) fun x v=>
 th (Pr.must (ts l) ⟨#[41]⟩ v) fun _ v=>
 th (Pr.must (ts l) ⟨#[59]⟩ v) fun _ v=>
 .ok ({noHd with kind:=2,pos:=(sg l u.i).pos,place:=x},v)
def branch (rec:St→Res SL) (u:St):Res (Hd×SL×SL):=
 th (Pr.must (ts l) ⟨#[105,102]⟩ u) fun _ v=>
 th (held l v) fun c v=>
 th (block l rec v) fun a v=>
 if Pr.is (ts l) v.i ⟨#[101,108,115,101]⟩ then
  th (block l rec v.go) fun e v=>
  .ok (({noHd with kind:=4,pos:=(sg l u.i).pos,cond:=c,both:=true},a,e),v)
 else .ok (({noHd with kind:=4,pos:=(sg l u.i).pos,cond:=c},a,.nil),v)
def loop (rec:St→Res SL) (u:St):Res (Hd×SL×SL):=
 th (Pr.must (ts l) ⟨#[119,104,105,108,101]⟩ u) fun _ v=>
 th (held l v) fun c v=>
 th (block l rec v) fun a v=>
 .ok (({noHd with kind:=5,pos:=(sg l u.i).pos,cond:=c},a,.nil),v)
def named (u:St):Res Hd:=
 if Pr.is (ts l) (u.i+1) ⟨#[40]⟩ then
  th (name l u) fun x v=>
  th (Pr.listed (ts l) (side l) v) fun a v=>
  th (Pr.must (ts l) ⟨#[59]⟩ v) fun _ v=>
  .ok ({noHd with kind:=3,pos:=(sg l u.i).pos,name:=x.text,args:=⟨none,0,a⟩},v)
 else
  th (path l u) fun x v=>
  th (Pr.must (ts l) ⟨#[61]⟩ v) fun _ v=>
  th (value l v) fun y v=>
  th (Pr.must (ts l) ⟨#[59]⟩ v) fun _ v=>
  .ok ({noHd with kind:=1,pos:=(sg l u.i).pos,place:=x,value:=y},v)
def stmt (rec:St→Res SL) (u:St):Res (Hd×SL×SL):=
 th (Pr.count (ts l) u) fun _ u=>
 if Pr.is (ts l) u.i ⟨#[59]⟩ then .ok (({noHd with pos:=(sg l u.i).pos},.nil,.nil),u.go)
 else if Pr.is (ts l) u.i ⟨#[123]⟩ then
  th (block l rec u) fun a v=>
  .ok (({noHd with kind:=6,pos:=(sg l u.i).pos},a,.nil),v)
 else if Pr.is (ts l) u.i ⟨#[102,114,101,101]⟩ then
  th (free l u) fun h u=>
  .ok ((h,.nil,.nil),u)
 else if Pr.is (ts l) u.i ⟨#[105,102]⟩ then branch l rec u
 else if Pr.is (ts l) u.i ⟨#[119,104,105,108,101]⟩ then loop l rec u
 else
  th (named l u) fun h u=>
  .ok ((h,.nil,.nil),u)
def stmts:Nat→St→Res SL
 |0,_=> .error (0,0)
 |n+1,u=>
  if Pr.begins (ts l) u then
   th (stmt l (stmts n) u) fun (h,a,e) u=>
   th (stmts n u) fun r u=>
   .ok (.cons h none 0 a none 0 e r,u)
  else .ok (.nil,u)
def fields:Nat→List Dc→St→Res (List Dc)
 |0,_,_=> .error (0,0)
 |n+1,acc,u=>
  if Pr.is (ts l) u.i ⟨#[125]⟩ then .ok (acc,u.go)
  else
   th (pointer l u) fun d u=>
   th (Pr.must (ts l) ⟨#[59]⟩ u) fun _ u=>
   fields n (acc++ [d]) u
def structure_ (u:St):Res Sr:=
 th (Pr.must (ts l) ⟨#[115,116,114,117,99,116]⟩ u) fun _ u=>
 th (name l u) fun x u=>
 th (Pr.must (ts l) ⟨#[123]⟩ u) fun _ u=>
 th (fields l ((ts l).length+1) [] u) fun a u=>
 .ok (⟨x.text,x.pos,⟨none,0,a⟩⟩,u)
def locals:Nat→List Dc→St→Res (List Dc)
 |0,_,_=> .error (0,0)
 |n+1,acc,u=>if Pr.declares (ts l) u then (th (decl l u) fun d u=>locals n (acc++ [d]) u) else .ok (acc,u)
end
def Like {α β:Type} (f:α→β) (r:Res α) (s:Res β):Prop:=
 match r,s with
 |.ok (a,u),.ok (b,v)=>f a=b∧u=v
 |.error e,.error e'=>e=e'
 |_,_=>False
theorem Like.th {α β γ δ:Type} {f:α→β} {g:γ→δ} {r:Res α} {s:Res β} {h:α→St→Res γ} {k:β→St→Res δ} (h1:Like f r s) (h2: ∀a u,Like g (h a u) (k (f a) u)):Like g (Pr.th r h) (Pr.th s k):=by
 unfold Like at h1
 split at h1
 ·obtain ⟨rfl,rfl⟩:=h1;exact h2 _ _
 ·subst h1;exact rfl
 ·exact h1.elim
theorem Like.id {α:Type} (r:Res α):Like (fun a=>a) r r:=by
 cases r with
 |error e=>exact rfl
 |ok x=>exact ⟨rfl,rfl⟩
theorem Like.ok {α β:Type} {f:α→β} {a:α} {b:β} {u:St} (h:f a=b):Like f (.ok (a,u)) (.ok (b,u)):=⟨h,rfl⟩
theorem Like.ite {α β:Type} {f:α→β} {c:Prop} [Decidable c] {r1 r2:Res α} {s1 s2:Res β} (h1:Like f r1 s1) (h2:Like f r2 s2):Like f (if c then r1 else r2) (if c then s1 else s2):=by
 split
 ·exact h1
 ·exact h2
section
variable {l:List Tx.Sg}
theorem sg_tk (i:Nat):Pr.tk (sg l i)=Pr.sg (ts l) i:=by
 unfold sg Pr.sg
 rw[List.getD_eq_getElem?_getD,List.getD_eq_getElem?_getD,List.getElem?_map]
 cases l[i]? <;>rfl
theorem kind_tk (i:Nat):(sg l i).kind=(Pr.sg (ts l) i).kind:=by rw[←sg_tk];rfl
theorem num_tk (i:Nat):(sg l i).num=(Pr.sg (ts l) i).num:=by rw[←sg_tk];rfl
theorem name_er (u:St):Like Pr.tk (name l u) (Pr.name (ts l) u):=by
 unfold name Pr.name
 rw[kind_tk]
 exact Like.ite (Like.ok (sg_tk _)) rfl
theorem hops_er: ∀(n:Nat) (acc:List Hp) (u:St),Like (List.map Hp.er) (hops l n acc u) (Pr.hops (ts l) n (acc.map Hp.er) u)
 |0,acc,u=>by
  unfold hops Pr.hops
  exact Like.ite rfl (Like.ok rfl)
 |n+1,acc,u=>by
  unfold hops Pr.hops
  refine Like.ite (Like.th (name_er _) fun x v=> ?_) (Like.ok rfl)
  have:=hops_er n (acc++ [⟨x.text,(sg l u.i).pos⟩]) v
  rw[List.map_append] at this
  exact this
theorem path_er (u:St):Like Pth.er (path l u) (Pr.path (ts l) u):=
 Like.th (name_er u) fun _ v=>Like.th (hops_er 8 [] v) fun _ _=>Like.ok rfl
theorem term_er (u:St):Like Tm.er (term l u) (Pr.term (ts l) u):=by
 unfold term Pr.term
 rw[kind_tk]
 refine Like.ite (Like.ok ?_) (Like.th (name_er u) fun _ _=>Like.ok rfl)
 show (⟨_,_,_⟩:Tm)=⟨_,_,_⟩
 rw[←num_tk]
theorem side_er (u:St):Like Vl.er (side l u) (Pr.side (ts l) u):=by
 unfold side Pr.side
 rw[kind_tk]
 exact Like.ite (Like.ok rfl) (Like.ite (Like.th (term_er u) fun _ _=>Like.ok rfl) (Like.th (path_er u) fun _ _=>Like.ok rfl))
theorem must_er (x:ByteArray) (u:St):Like (fun a=>a) (Pr.must (ts l) x u) (Pr.must (ts l) x u):=Like.id _
theorem sum_er (u:St):Like Vl.er (sum l u) (Pr.sum (ts l) u):=by
 unfold sum Pr.sum
 refine Like.th (term_er u) fun _ v=>Like.th (term_er v.go) fun _ _=>Like.ok ?_
 rfl
theorem value_er (u:St):Like Vl.er (value l u) (Pr.value (ts l) u):=by
 unfold value Pr.value
 exact Like.ite (Like.th (name_er u.go) fun _ _=>Like.ok rfl) (Like.ite (Like.ok rfl) (Like.ite (sum_er u) (side_er u)))
theorem cond_er (u:St):Like Cd.er (cond l u) (Pr.cond (ts l) u):=by
 unfold cond Pr.cond
 exact Like.ite (Like.ok rfl) (Like.th (side_er u) fun _ v=>Like.th (Like.id (Pr.relation (ts l) v)) fun _ v=>Like.th (side_er v) fun _ _=>Like.ok rfl)
theorem held_er (u:St):Like Cd.er (held l u) (Pr.held (ts l) u):=
 Like.th (must_er _ u) fun _ v=>Like.th (cond_er v) fun _ v=>Like.th (must_er _ v) fun _ _=>Like.ok rfl
theorem pointer_er (u:St):Like Dc.er (pointer l u) (Pr.pointer (ts l) u):=
 Like.th (name_er u) fun _ v=>Like.th (must_er _ v) fun _ v=>Like.th (name_er v) fun _ _=>Like.ok rfl
theorem variable_er (u:St):Like Dc.er (variable_ l u) (Pr.variable_ (ts l) u):=by
 unfold variable_ Pr.variable_
 exact Like.ite (Like.th (name_er u.go) fun _ _=>Like.ok rfl) (pointer_er u)
theorem decl_er (u:St):Like Dc.er (decl l u) (Pr.decl (ts l) u):=
 Like.th (variable_er u) fun _ v=>Like.th (must_er _ v) fun _ _=>Like.ok rfl
theorem more_er {α β:Type} {f:α→β} {item:St→Res α} {jtem:St→Res β} (h: ∀u,Like f (item u) (jtem u)): ∀(n:Nat) (acc:List α) (u:St),Like (List.map f) (Pr.more (ts l) item n acc u) (Pr.more (ts l) jtem n (acc.map f) u)
 |0,_,_=>rfl
 |n+1,acc,u=>by
  unfold Pr.more
  refine Like.ite (Like.th (h _) fun x v=> ?_) (Like.th (must_er _ u) fun _ _=>Like.ok rfl)
  have:=more_er h n (acc++ [x]) v
  rw[List.map_append] at this
  exact this
theorem listed_er {α β:Type} {f:α→β} {item:St→Res α} {jtem:St→Res β} (h: ∀u,Like f (item u) (jtem u)) (u:St):Like (List.map f) (Pr.listed (ts l) item u) (Pr.listed (ts l) jtem u):=by
 unfold Pr.listed
 exact Like.th (must_er _ u) fun _ v=>Like.ite (Like.ok rfl) (Like.th (h v) fun x v=>more_er h _ [x] v)
section
variable {rec rec':St→Res SL} (h: ∀u,Like SL.er (rec u) (rec' u))
include h
theorem block_er (u:St):Like SL.er (block l rec u) (Pr.block (ts l) rec' u):=by
 unfold block Pr.block
 exact Like.th (Like.id _) fun _ v=>Like.th (must_er _ v) fun _ v=>Like.th (h _) fun _ v=>Like.th (must_er _ v) fun _ _=>Like.ok rfl
def er3 (x:Hd×SL×SL):Hd×SL×SL:=(x.1.er,x.2.1.er,x.2.2.er)
omit h in
theorem free_er (u:St):Like Hd.er (free l u) (Pr.free (ts l) u):=
 Like.th (must_er _ u) fun _ v=>Like.th (must_er _ v) fun _ v=>Like.th (path_er v) fun _ v=>Like.th (must_er _ v) fun _ v=>Like.th (must_er _ v) fun _ _=>Like.ok rfl
theorem branch_er (u:St):Like er3 (branch l rec u) (Pr.branch (ts l) rec' u):=by
 unfold branch Pr.branch
 exact Like.th (must_er _ u) fun _ v=>Like.th (held_er v) fun _ v=>Like.th (block_er h v) fun _ v=>Like.ite (Like.th (block_er h v.go) fun _ _=>Like.ok rfl) (Like.ok rfl)
theorem loop_er (u:St):Like er3 (loop l rec u) (Pr.loop (ts l) rec' u):=
 Like.th (must_er _ u) fun _ v=>Like.th (held_er v) fun _ v=>Like.th (block_er h v) fun _ _=>Like.ok rfl
omit h in
theorem named_er (u:St):Like Hd.er (named l u) (Pr.named (ts l) u):=by
 unfold named Pr.named
 exact Like.ite (Like.th (name_er u) fun _ v=>Like.th (listed_er side_er v) fun _ v=>Like.th (must_er _ v) fun _ _=>Like.ok rfl)
  (Like.th (path_er u) fun _ v=>Like.th (must_er _ v) fun _ v=>Like.th (value_er v) fun _ v=>Like.th (must_er _ v) fun _ _=>Like.ok rfl)
theorem stmt_er (u:St):Like er3 (stmt l rec u) (Pr.stmt (ts l) rec' u):=by
 unfold stmt Pr.stmt
 exact Like.th (Like.id _) fun _ v=>Like.ite (Like.ok rfl) (Like.ite (Like.th (block_er h v) fun _ _=>Like.ok rfl) (Like.ite (Like.th (free_er v) fun _ _=>Like.ok rfl)
  (Like.ite (branch_er h v) (Like.ite (loop_er h v) (Like.th (named_er v) fun _ _=>Like.ok rfl)))))
end
theorem stmts_er: ∀(n:Nat) (u:St),Like SL.er (stmts l n u) (Pr.stmts (ts l) n u)
 |0,_=>rfl
 |n+1,u=>by
  unfold stmts Pr.stmts
  exact Like.ite (Like.th (stmt_er (stmts_er n) u) fun _ v=>Like.th (stmts_er n v) fun _ _=>Like.ok rfl) (Like.ok rfl)
theorem fields_er: ∀(n:Nat) (acc:List Dc) (u:St),Like (List.map Dc.er) (fields l n acc u) (Pr.fields (ts l) n (acc.map Dc.er) u)
 |0,_,_=>rfl
 |n+1,acc,u=>by
  unfold fields Pr.fields
  refine Like.ite (Like.ok rfl) (Like.th (pointer_er u) fun d v=>Like.th (must_er _ v) fun _ v=> ?_)
  have:=fields_er n (acc++ [d]) v
  rw[List.map_append] at this
  exact this
theorem structure_er (u:St):Like Sr.er (structure_ l u) (Pr.structure_ (ts l) u):=
 Like.th (must_er _ u) fun _ v=>Like.th (name_er v) fun _ v=>Like.th (must_er _ v) fun _ v=>Like.th (fields_er _ [] v) fun _ _=>Like.ok rfl
theorem locals_er: ∀(n:Nat) (acc:List Dc) (u:St),Like (List.map Dc.er) (locals l n acc u) (Pr.locals (ts l) n (acc.map Dc.er) u)
 |0,_,_=>rfl
 |n+1,acc,u=>by
  unfold locals Pr.locals
  refine Like.ite (Like.th (decl_er u) fun d v=> ?_) (Like.ok rfl)
  have:=locals_er n (acc++ [d]) v
  rw[List.map_append] at this
  exact this
end
section
variable (l:List Tx.Sg)
def proc (u:St):Res Pc:=
 th (Pr.must (ts l) ⟨#[118,111,105,100]⟩ u) fun _ u=>
 th (name l u) fun x u=>
 th (Pr.listed (ts l) (variable_ l) u) fun ps u=>
 th (Pr.must (ts l) ⟨#[123]⟩ u) fun _ u=>
 th (locals l ((ts l).length+1) [] u) fun ls u=>
 th (stmts l ((ts l).length+1) u) fun body v=>
 th (Pr.must (ts l) ⟨#[125]⟩ v) fun _ z=>
 .ok (⟨x.text,x.pos,(sg l v.i).pos,⟨none,0,ps⟩,⟨none,0,ls⟩,none,0,body⟩,z)
def program:Nat→List Sr→List Dc→List Pc→St→Res Pg
 |0,_,_,_,_=> .error (0,0)
 |n+1,ss,gs,ps,u=>
  if (sg l u.i).kind=0 then .ok (⟨⟨none,0,ss⟩,⟨none,0,gs⟩,⟨none,0,ps⟩⟩,u)
  else if Pr.is (ts l) u.i ⟨#[115,116,114,117,99,116]⟩ then (th (structure_ l u) fun x u=>program n (ss++ [x]) gs ps u)
  else if Pr.is (ts l) u.i ⟨#[118,111,105,100]⟩ then (th (proc l u) fun x u=>program n ss gs (ps++ [x]) u)
  else (th (decl l u) fun x u=>program n ss (gs++ [x]) ps u)
theorem proc_er (u:St):Like Pc.er (proc l u) (Pr.proc (ts l) u):=
 Like.th (must_er _ u) fun _ v=>Like.th (name_er v) fun _ v=>Like.th (listed_er variable_er v) fun _ v=>Like.th (must_er _ v) fun _ v=>Like.th (locals_er _ [] v) fun _ v=>Like.th (stmts_er _ v) fun _ v=>Like.th (must_er _ v) fun _ _=>Like.ok rfl
theorem program_er: ∀(n:Nat) (ss:List Sr) (gs:List Dc) (ps:List Pc) (u:St),Like Pg.er (program l n ss gs ps u) (Pr.program (ts l) n (ss.map Sr.er) (gs.map Dc.er) (ps.map Pc.er) u)
 |0,_,_,_,_=>rfl
 |n+1,ss,gs,ps,u=>by
  unfold program Pr.program
  rw[kind_tk]
  refine Like.ite (Like.ok rfl) (Like.ite (Like.th (structure_er u) fun x v=> ?_) (Like.ite (Like.th (proc_er l u) fun x v=> ?_) (Like.th (decl_er u) fun x v=> ?_)))
  ·have:=program_er n (ss++ [x]) gs ps v;rw[List.map_append] at this;exact this
  ·have:=program_er n ss gs (ps++ [x]) v;rw[List.map_append] at this;exact this
  ·have:=program_er n ss (gs++ [x]) ps v;rw[List.map_append] at this;exact this
end
end Pa
end Go.Proofs.YtcehbcnloiooaaaGreatDoor
namespace Go.Proofs.YtcehbcnloiooaaaGreatDoor
open Go.RowKit Go.Sort
namespace Pa
def KindOk (k:Int) (a:List UInt8):Prop:=
 (k=0∧a= [])∨(k=1∧(∃b r,a=b::r∧Tx.ltr (b.toNat:Int)=true)∧Tx.isKeyL a=false)∨(k=2∧∃b r,a=b::r∧Tx.ltr (b.toNat:Int)=false∧Tx.dgt (b.toNat:Int)=true)∨
 (k=3∧Tx.isKeyL a=true∧∃b r,a=b::r∧Tx.ltr (b.toNat:Int)=true)∨(k=4∧∃b r,a=b::r∧Tx.ltr (b.toNat:Int)=false∧Tx.dgt (b.toNat:Int)=false)
theorem tokL_kind (D:List UInt8):KindOk (Tx.tokL D).kind (D.take (Tx.tokL D).len):=by
 cases D with
 |nil=>exact .inl ⟨rfl,rfl⟩
 |cons b l=>
  rw[Tx.tokL_cons]
  by_cases hl:Tx.ltr (b.toNat:Int)=true
  ·rw[if_pos hl]
   by_cases h16:16<Tx.run Tx.wrd (b::l)
   ·rw[if_pos h16];exact .inl ⟨rfl,rfl⟩
   ·rw[if_neg h16]
    have hw:Tx.wrd (b.toNat:Int)=true:=by unfold Tx.wrd;rw[hl];rfl
    have hrun:Tx.run Tx.wrd (b::l)=Tx.run Tx.wrd l+1:=by simp only[Tx.run,hw,if_true]
    by_cases hk:Tx.isKeyL ((b::l).take (Tx.run Tx.wrd (b::l)))=true
    ·rw[if_pos hk]
     exact .inr (.inr (.inr (.inl ⟨rfl,hk,b,_,by rw[hrun,List.take_succ_cons],hl⟩)))
    ·rw[if_neg hk]
     exact .inr (.inl ⟨rfl,⟨b,_,by rw[hrun,List.take_succ_cons],hl⟩,by simpa using hk⟩)
  ·rw[if_neg hl]
   have hl':Tx.ltr (b.toNat:Int)=false:=by simpa using hl
   by_cases hg:Tx.dgt (b.toNat:Int)=true
   ·rw[if_pos hg]
    by_cases h9:9<Tx.run Tx.dgt (b::l)
    ·rw[if_pos h9];exact .inl ⟨rfl,rfl⟩
    ·rw[if_neg h9]
     have hrun:Tx.run Tx.dgt (b::l)=Tx.run Tx.dgt l+1:=by simp only[Tx.run,hg,if_true]
     exact .inr (.inr (.inl ⟨rfl,b,_,by rw[hrun,List.take_succ_cons],hl',hg⟩))
   ·rw[if_neg hg]
    have hg':Tx.dgt (b.toNat:Int)=false:=by simpa using hg
    split
    ·exact .inl ⟨rfl,rfl⟩
    ·rename_i h0
     refine .inr (.inr (.inr (.inr ⟨rfl,b, ?_, ?_,hl',hg'⟩)))
     ·exact l.take (Tx.mkl (b::l)-1)
     ·rw[show Tx.mkl (b::l)=(Tx.mkl (b::l)-1)+1 by omega,List.take_succ_cons];rfl
theorem nx_kind (s:ByteArray) (i:Nat):KindOk (Tx.nx s i).sg.kind (Tx.nx s i).sg.text.data.toList:=by
 have h:=Tx.nx_list s i
 have hp:=Tx.part_take s (Tx.skp s i) (Tx.tokL (s.data.toList.drop (Tx.skp s i))).len
 have hg:=tokL_kind (s.data.toList.drop (Tx.skp s i))
 rw[←hp] at hg
 rw[h];exact hg
theorem chain_kind: ∀(l:List Tx.Sg) (s:ByteArray) (i:Nat),Tx.Chain s i l→∀a∈l,KindOk a.kind a.text.data.toList
 | [],s,i,h=>h.elim
 |b::l,s,i,h=>by
  obtain ⟨_,rfl,h1⟩:=h
  intro a ha
  rcases List.mem_cons.1 ha with rfl |ha
  ·exact nx_kind s i
  ·rcases h1 with ⟨_,rfl⟩|⟨_,hc⟩
   ·simp at ha
   ·exact chain_kind l s _ hc a ha
def Gk (l:List Tx.Sg):Prop:= ∀a∈l,KindOk a.kind a.text.data.toList
theorem alls_kind (s:ByteArray) (h:(Tx.alls s).2.2=0):Gk (Tx.alls s).1:=chain_kind _ s 0 (Tx.alls_chain s h)
theorem key_letter {a:List UInt8} (h:Tx.isKeyL a=true): ∃b r,a=b::r∧Tx.ltr (b.toNat:Int)=true:=by
 unfold Tx.isKeyL at h
 obtain ⟨x,hx,he⟩:=List.any_eq_true.1 h
 rw[beq_iff_eq] at he
 subst he
 simp only[Tx.kw,List.mem_cons,List.not_mem_nil,or_false] at hx
 rcases hx with rfl |rfl |rfl |rfl |rfl |rfl |rfl |rfl |rfl |rfl<;>exact ⟨_,_,rfl,by rfl⟩
def lit (a:List UInt8):Bool:=Tx.isKeyL a ||(match a with | []=>false |b::_=> !Tx.ltr (b.toNat:Int) && !Tx.dgt (b.toNat:Int))
def litM (a:List UInt8):Bool:=match a with | []=>false |b::_=> !Tx.ltr (b.toNat:Int) && !Tx.dgt (b.toNat:Int)
theorem kind_mark {k:Int} {a:List UInt8} (h:KindOk k a) (ha:litM a=true):k=4:=by
 rcases h with ⟨_,rfl⟩|⟨_,⟨b,r,rfl,hb⟩,_⟩|⟨_,b,r,rfl,_,hb⟩|⟨_,_,b,r,rfl,hb⟩|⟨h,_⟩
 ·cases ha
 ·simp[litM,hb] at ha
 ·simp[litM,hb] at ha
 ·simp[litM,hb] at ha
 ·exact h
theorem kind_lit {k:Int} {a:List UInt8} (h:KindOk k a) (ha:lit a=true):k=3∨k=4:=by
 unfold lit at ha
 rw[Bool.or_eq_true] at ha
 rcases ha with hk |hm
 ·rcases h with ⟨_,rfl⟩|⟨_,_,hn⟩|⟨_,b,r,rfl,hl,hb⟩|⟨h,_⟩|⟨h,_⟩
  ·exact absurd hk (by decide)
  ·rw[hk] at hn;cases hn
  ·obtain ⟨b',r',he,hb'⟩:=key_letter hk
   injection he with he;subst he;rw[hl] at hb';cases hb'
  ·exact .inl h
  ·exact .inr h
 ·exact .inr (kind_mark h (by unfold litM;exact hm))
end Pa
end Go.Proofs.YtcehbcnloiooaaaGreatDoor
namespace Go.Proofs.YtcehbcnloiooaaaGreatDoor
open Go.RowKit Go.Sort
structure RS (w:World) (rb sb cap:Nat) (l:List Tx.Sg) (k:Nat) (o b a e:Int):Prop where
 blk:Bk w rb 81 #[.slice (some ⟨sb,0,none⟩) l.length cap,.int .i64 k,.int .i64 o,.int .i64 b,.int .i64 a,.int .i64 e]
 row: ∀j x,l[j]? =some x→w.rangeAt sb (j*4) [.int .i64 x.kind,.int .i64 x.pos,.string x.text,.int .i64 x.num]
 ne:sb≠rb
 pos:0<l.length
 len:l.length≤70000
 kb:k≤1000000
theorem RS.rb_lt {w:World} {rb sb cap:Nat} {l:List Tx.Sg} {k:Nat} {o b a e:Int} (h:RS w rb sb cap l k o b a e):rb<w.heap.size:=(Array.getElem?_eq_some_iff.1 h.blk).1
theorem RS.below {w w':World} {rb sb cap:Nat} {l:List Tx.Sg} {k:Nat} {o b a e:Int} (h:RS w rb sb cap l k o b a e) (hb:Below w.heap.size w w'):RS w' rb sb cap l k o b a e:=
 ⟨h.blk.below hb h.rb_lt,fun j x hx=>rangeAt_below (h.row j x hx) hb,h.ne,h.pos,h.len,h.kb⟩
theorem RS.sb_lt {w:World} {rb sb cap:Nat} {l:List Tx.Sg} {k:Nat} {o b a e:Int} (h:RS w rb sb cap l k o b a e):sb<w.heap.size:=by
 have h0:=h.row 0 (l[0]'h.pos) (List.getElem?_eq_getElem h.pos)
 have:=cell_at h0 0 _ rfl
 exact World.block_lt_of_cell? w _ this
def rsg (l:List Tx.Sg) (k:Nat):Tx.Sg:=Pa.sg l (min k (l.length-1))
theorem rsg_mem {l:List Tx.Sg} (k:Nat) (h:0<l.length):l[min k (l.length-1)]? =some (rsg l k):=by
 unfold rsg Pa.sg
 rw[List.getD_eq_getElem?_getD,List.getElem?_eq_getElem (by omega)];rfl
theorem rsg_lt {l:List Tx.Sg} {k:Nat} (h:k<l.length):rsg l k=Pa.sg l k:=by unfold rsg;rw[Nat.min_eq_left (by omega)]
theorem sign_at {w:World} {sb j:Nat} {x:Tx.Sg} (h:w.rangeAt sb (j*4) [.int .i64 x.kind,.int .i64 x.pos,.string x.text,.int .i64 x.num]):
  w.cell? ⟨sb,j*4,none⟩=some (.int .i64 x.kind)∧w.cell? ⟨sb,j*4+1,none⟩=some (.int .i64 x.pos)∧w.cell? ⟨sb,j*4+2,none⟩=some (.string x.text)∧w.cell? ⟨sb,j*4+3,none⟩=some (.int .i64 x.num):=
 ⟨by have:=cell_at h 0 _ rfl;rwa[Nat.add_zero] at this,cell_at h 1 _ rfl,cell_at h 2 _ rfl,cell_at h 3 _ rfl⟩
theorem size72:(Tryz.prog.info? 83).map (·.size)=some 4:=by kernel_rfl
theorem below_rp {w0 w w':World} {g:Nat} (h:Below w0.heap.size w0 w) (hg:w.grownBy w' (some g)) (hB:w0.heap.size≤g):Below w0.heap.size w0 w':=
 ⟨hg.os.trans h.os,hg.tape.trans h.tape,hg.output.trans h.output,Nat.le_trans h.size hg.size,fun i hi=>(hg.block i (Nat.lt_of_lt_of_le hi h.size) (by intro e;injection e with e;omega)).trans (h.block i hi)⟩
theorem sign_put {w:World} {A:Nat} {k p:Int} {t:ByteArray} {n:Int} {u0 u1 u2 u3:Value} (h:Bk w A 83 #[u0,u1,u2,u3]):
  Bk ((((w.setCell ⟨A,0,none⟩ (.int .i64 k)).setCell ⟨A,1,none⟩ (.int .i64 p)).setCell ⟨A,2,none⟩ (.string t)).setCell ⟨A,3,none⟩ (.int .i64 n)) A 83 #[.int .i64 k,.int .i64 p,.string t,.int .i64 n]∧
  w.grownBy ((((w.setCell ⟨A,0,none⟩ (.int .i64 k)).setCell ⟨A,1,none⟩ (.int .i64 p)).setCell ⟨A,2,none⟩ (.string t)).setCell ⟨A,3,none⟩ (.int .i64 n)) (some A):=
 ⟨(((h.set_ 0 _).set_ 1 _).set_ 2 _).set_ 3 _,grownBy_tr (grownBy_tr (grownBy_tr (grownBy_setC _ ⟨A,0,none⟩ _) (grownBy_setC _ ⟨A,1,none⟩ _)) (grownBy_setC _ ⟨A,2,none⟩ _)) (grownBy_setC _ ⟨A,3,none⟩ _)⟩
theorem now_any {rb sb cap:Nat} {l:List Tx.Sg} {k:Nat} {o b a e:Int} (w:World) (h:RS w rb sb cap l k o b a e):
  Calls Tryz.prog 25 #[.pointer (some ⟨rb,0,none⟩)] w fun en w'=>en= .returned (.agg #[.int .i64 (rsg l k).kind,.int .i64 (rsg l k).pos,.string (rsg l k).text,.int .i64 (rsg l k).num])∧Below w.heap.size w w':=by
 obtain ⟨wA,hwA⟩: ∃wA:World,wA=w.alloc (.cells #[.int .i64 0,.int .i64 0,.string ByteArray.empty,.int .i64 0] 83):=⟨_,rfl⟩
 have HBA:Hid (Below w.heap.size w wA):=hdn (by rw[hwA];exact (Below.refl _ _).alloc (Nat.le_refl _) _)
 have HKA:Hid (Bk wA w.heap.size 83 #[.int .i64 0,.int .i64 0,.string ByteArray.empty,.int .i64 0]):=hdn (by rw[hwA];exact heap_alloc_new _ _)
 have h1:=h.below HBA.out
 have c0:wA.drew.cell? ⟨rb,0,none⟩=some (.slice (some ⟨sb,0,none⟩) l.length cap):=h1.blk.cell 0
 have c1:wA.drew.cell? ⟨rb,1,none⟩=some (.int .i64 k):=h1.blk.cell 1
 obtain ⟨j,hj⟩: ∃j,j=min k (l.length-1):=⟨_,rfl⟩
 obtain ⟨s0,s1,s2,s3⟩:=sign_at (w:=wA.drew) (h1.row _ _ (rsg_mem k h.pos))
 rw[←hj] at s0 s1 s2 s3
 have hl:=h.len;have hp:=h.pos;have hkb:=h.kb
 have hmin:min (k:Int) ((l.length:Int)-1)=(j:Int):=by omega
 have hj0:(0:Int)≤(j:Int):=Int.natCast_nonneg _
 have hj1:(j:Int)<(l.length:Int):=by omega
 have hk0:(0:Int)≤(k:Int):=Int.natCast_nonneg _
 have hk1:(k:Int)≤1000000:=by omega
 have hl1:(l.length:Int)≤70000:=by omega
 have hl0:(1:Int)≤(l.length:Int):=by omega
 have hA0:wA.drew.cell? ⟨w.heap.size,0,none⟩=some (.int .i64 0):=HKA.out.cell 0
 have hA1:wA.drew.cell? ⟨w.heap.size,1,none⟩=some (.int .i64 0):=HKA.out.cell 1
 have hA2:wA.drew.cell? ⟨w.heap.size,2,none⟩=some (.string ByteArray.empty):=HKA.out.cell 2
 have hA3:wA.drew.cell? ⟨w.heap.size,3,none⟩=some (.int .i64 0):=HKA.out.cell 3
 have f0:wA.drew.frozen? ⟨w.heap.size,0,none⟩=false:=HKA.out.frozen 0
 have f1:wA.drew.frozen? ⟨w.heap.size,1,none⟩=false:=HKA.out.frozen 1
 have f2:wA.drew.frozen? ⟨w.heap.size,2,none⟩=false:=HKA.out.frozen 2
 have f3:wA.drew.frozen? ⟨w.heap.size,3,none⟩=false:=HKA.out.frozen 3
 have gA0:wA.cell? ⟨w.heap.size,0,none⟩=some (.int .i64 0):=HKA.out.cell 0
 have g0:wA.frozen? ⟨w.heap.size,0,none⟩=false:=HKA.out.frozen 0
 have gA1:wA.cell? ⟨w.heap.size,1,none⟩=some (.int .i64 0):=HKA.out.cell 1
 have g1:wA.frozen? ⟨w.heap.size,1,none⟩=false:=HKA.out.frozen 1
 have gA2:wA.cell? ⟨w.heap.size,2,none⟩=some (.string ByteArray.empty):=HKA.out.cell 2
 have g2:wA.frozen? ⟨w.heap.size,2,none⟩=false:=HKA.out.frozen 2
 have gA3:wA.cell? ⟨w.heap.size,3,none⟩=some (.int .i64 0):=HKA.out.cell 3
 have g3:wA.frozen? ⟨w.heap.size,3,none⟩=false:=HKA.out.frozen 3
 generalize rsg l k=x at*
 clear h h1 hj
 go_enter Tryz.func25,Tryz.ntmps25
 go_upto_region 1 with fail
 rw[show w.alloc (.cells #[.int .i64 0,.int .i64 0,.string ⟨#[]⟩,.int .i64 0] 83)=wA from hwA.symm]
 clear hwA
 obtain ⟨A,hA⟩: ∃A,A=w.heap.size:=⟨_,rfl⟩
 rw[←hA] at HKA hA0 hA1 hA2 hA3 f0 f1 f2 f3 gA0 gA1 gA2 gA3 g0 g1 g2 g3 ⊢
 have HA:=hdn hA
 clear hA
 have hB:=hdn (sign_put (k:=x.kind) (p:=x.pos) (t:=x.text) (n:=x.num) HKA.out)
 go_region
 generalize ((((wA.setCell ⟨A,0,none⟩ (.int .i64 x.kind)).setCell ⟨A,1,none⟩ (.int .i64 x.pos)).setCell ⟨A,2,none⟩ (.string x.text)).setCell ⟨A,3,none⟩ (.int .i64 x.num))=wZ at hB ⊢
 go_wp2_with fail
 exact bodyPost_ret (results_cell_row Tryz.results25 _ _ A 83 #[.int .i64 x.kind,.int .i64 x.pos,.string x.text,.int .i64 x.num] (0,0) _ rfl hB.out.1 Tryz.underlying83 rfl size72) rfl ⟨rfl,below_drew (below_rp HBA.out hB.out.2 (by rw[HA.out];exact Nat.le_refl _))⟩
theorem later_any {rb sb cap:Nat} {l:List Tx.Sg} {k:Nat} {o b a e:Int} (w:World) (h:RS w rb sb cap l k o b a e):
  Calls Tryz.prog 56 #[.pointer (some ⟨rb,0,none⟩)] w fun en w'=>en= .returned (.agg #[.int .i64 (rsg l (k+1)).kind,.int .i64 (rsg l (k+1)).pos,.string (rsg l (k+1)).text,.int .i64 (rsg l (k+1)).num])∧Below w.heap.size w w':=by
 obtain ⟨wA,hwA⟩: ∃wA:World,wA=w.alloc (.cells #[.int .i64 0,.int .i64 0,.string ByteArray.empty,.int .i64 0] 83):=⟨_,rfl⟩
 have HBA:Hid (Below w.heap.size w wA):=hdn (by rw[hwA];exact (Below.refl _ _).alloc (Nat.le_refl _) _)
 have HKA:Hid (Bk wA w.heap.size 83 #[.int .i64 0,.int .i64 0,.string ByteArray.empty,.int .i64 0]):=hdn (by rw[hwA];exact heap_alloc_new _ _)
 have h1:=h.below HBA.out
 have c0:wA.drew.cell? ⟨rb,0,none⟩=some (.slice (some ⟨sb,0,none⟩) l.length cap):=h1.blk.cell 0
 have c1:wA.drew.cell? ⟨rb,1,none⟩=some (.int .i64 k):=h1.blk.cell 1
 obtain ⟨j,hj⟩: ∃j,j=min (k+1) (l.length-1):=⟨_,rfl⟩
 obtain ⟨s0,s1,s2,s3⟩:=sign_at (w:=wA.drew) (h1.row _ _ (rsg_mem (k+1) h.pos))
 rw[←hj] at s0 s1 s2 s3
 have hl:=h.len;have hp:=h.pos;have hkb:=h.kb
 have hmin:min ((k:Int)+1) ((l.length:Int)-1)=(j:Int):=by omega
 have hj0:(0:Int)≤(j:Int):=Int.natCast_nonneg _
 have hj1:(j:Int)<(l.length:Int):=by omega
 have hk0:(0:Int)≤(k:Int):=Int.natCast_nonneg _
 have hk1:(k:Int)≤1000000:=by omega
 have hl1:(l.length:Int)≤70000:=by omega
 have hl0:(1:Int)≤(l.length:Int):=by omega
 have hA0:wA.drew.cell? ⟨w.heap.size,0,none⟩=some (.int .i64 0):=HKA.out.cell 0
 have hA1:wA.drew.cell? ⟨w.heap.size,1,none⟩=some (.int .i64 0):=HKA.out.cell 1
 have hA2:wA.drew.cell? ⟨w.heap.size,2,none⟩=some (.string ByteArray.empty):=HKA.out.cell 2
 have hA3:wA.drew.cell? ⟨w.heap.size,3,none⟩=some (.int .i64 0):=HKA.out.cell 3
 have f0:wA.drew.frozen? ⟨w.heap.size,0,none⟩=false:=HKA.out.frozen 0
 have f1:wA.drew.frozen? ⟨w.heap.size,1,none⟩=false:=HKA.out.frozen 1
 have f2:wA.drew.frozen? ⟨w.heap.size,2,none⟩=false:=HKA.out.frozen 2
 have f3:wA.drew.frozen? ⟨w.heap.size,3,none⟩=false:=HKA.out.frozen 3
 have gA0:wA.cell? ⟨w.heap.size,0,none⟩=some (.int .i64 0):=HKA.out.cell 0
 have g0:wA.frozen? ⟨w.heap.size,0,none⟩=false:=HKA.out.frozen 0
 have gA1:wA.cell? ⟨w.heap.size,1,none⟩=some (.int .i64 0):=HKA.out.cell 1
 have g1:wA.frozen? ⟨w.heap.size,1,none⟩=false:=HKA.out.frozen 1
 have gA2:wA.cell? ⟨w.heap.size,2,none⟩=some (.string ByteArray.empty):=HKA.out.cell 2
 have g2:wA.frozen? ⟨w.heap.size,2,none⟩=false:=HKA.out.frozen 2
 have gA3:wA.cell? ⟨w.heap.size,3,none⟩=some (.int .i64 0):=HKA.out.cell 3
 have g3:wA.frozen? ⟨w.heap.size,3,none⟩=false:=HKA.out.frozen 3
 generalize rsg l (k+1)=x at*
 clear h h1 hj
 go_enter Tryz.func56,Tryz.ntmps56
 go_upto_region 1 with fail
 rw[show w.alloc (.cells #[.int .i64 0,.int .i64 0,.string ⟨#[]⟩,.int .i64 0] 83)=wA from hwA.symm]
 clear hwA
 obtain ⟨A,hA⟩: ∃A,A=w.heap.size:=⟨_,rfl⟩
 rw[←hA] at HKA hA0 hA1 hA2 hA3 f0 f1 f2 f3 gA0 gA1 gA2 gA3 g0 g1 g2 g3 ⊢
 have HA:=hdn hA
 clear hA
 have hB:=hdn (sign_put (k:=x.kind) (p:=x.pos) (t:=x.text) (n:=x.num) HKA.out)
 go_region
 generalize ((((wA.setCell ⟨A,0,none⟩ (.int .i64 x.kind)).setCell ⟨A,1,none⟩ (.int .i64 x.pos)).setCell ⟨A,2,none⟩ (.string x.text)).setCell ⟨A,3,none⟩ (.int .i64 x.num))=wZ at hB ⊢
 go_wp2_with fail
 exact bodyPost_ret (results_cell_row Tryz.results56 _ _ A 83 #[.int .i64 x.kind,.int .i64 x.pos,.string x.text,.int .i64 x.num] (0,0) _ rfl hB.out.1 Tryz.underlying83 rfl size72) rfl ⟨rfl,below_drew (below_rp HBA.out hB.out.2 (by rw[HA.out];exact Nat.le_refl _))⟩
end Go.Proofs.YtcehbcnloiooaaaGreatDoor
namespace Go.Proofs.YtcehbcnloiooaaaGreatDoor
open Go.RowKit Go.Sort
def isNx (l:List Tx.Sg) (k:Nat) (s:ByteArray):Bool:=(rsg l k).text.toList==s.toList
theorem isNx_pr {l:List Tx.Sg} {k:Nat} (h:k<l.length) (s:ByteArray):isNx l k s=Pr.is (Pa.ts l) k s:=by
 unfold isNx Pr.is
 rw[rsg_lt h,←Pa.sg_tk];rfl
theorem rsg_kind {l:List Tx.Sg} (hk:Pa.Gk l) (k:Nat) (h:0<l.length):Pa.KindOk (rsg l k).kind (rsg l k).text.data.toList:=hk _ (List.mem_of_getElem? (rsg_mem k h))
theorem isNx_kind {l:List Tx.Sg} {k:Nat} {s:ByteArray} (hk:Pa.Gk l) (h:0<l.length) (hs:Pa.lit s.data.toList=true) (hi:isNx l k s=true):(rsg l k).kind=3∨(rsg l k).kind=4:=by
 unfold isNx at hi
 rw[beq_iff_eq,Lib.toList_data,Lib.toList_data] at hi
 exact Pa.kind_lit (rsg_kind hk k h) (by rw[hi];exact hs)
theorem is_any {rb sb cap:Nat} {l:List Tx.Sg} {k:Nat} {o b a e:Int} (s:ByteArray) (w:World) (h:RS w rb sb cap l k o b a e) (hk:Pa.Gk l) (hs:Pa.lit s.data.toList=true):
  Calls Tryz.prog 54 #[.pointer (some ⟨rb,0,none⟩),.string s] w fun en w'=>en= .returned (.bool (decide (e=0) && isNx l k s))∧Below w.heap.size w w':=by
 have CN:=now_any w h
 have HKD:Hid (isNx l k s=true→(rsg l k).kind=3∨(rsg l k).kind=4):=hdn (isNx_kind hk h.pos hs)
 obtain ⟨bo,hbo⟩: ∃bo,bo=isNx l k s:=⟨_,rfl⟩
 rw[←hbo] at HKD ⊢
 have HBO:Hid (((rsg l k).text.toList==s.toList)=bo):=hdn hbo.symm
 have HRS:=hdn h
 clear hbo h
 generalize rsg l k=x at*
 go_enter Tryz.func54,Tryz.ntmps54
 go_upto_region 2 with (go_at_call 25;refine CN.mono ?_;rintro en w1 ⟨rfl,hb⟩;have HB1:=hdn hb;clear hb)
 have hm:Below w1.heap.size w1 (w1.alloc (.cells #[.int .i64 x.kind,.int .i64 x.pos,.string x.text,.int .i64 x.num] 83)):=(Below.refl _ _).alloc (Nat.le_refl _) _
 have HF:Hid (Bk (w1.alloc (.cells #[.int .i64 x.kind,.int .i64 x.pos,.string x.text,.int .i64 x.num] 83)) w1.heap.size 83 #[.int .i64 x.kind,.int .i64 x.pos,.string x.text,.int .i64 x.num]):=hdn (heap_alloc_new _ _)
 have HB2:=hdn (HB1.out.trans (hm.mono HB1.out.size))
 have HR2:=hdn (HRS.out.below HB2.out)
 generalize w1.alloc (.cells #[.int .i64 x.kind,.int .i64 x.pos,.string x.text,.int .i64 x.num] 83)=w2 at HF HB2 HR2 ⊢
 have c5:w2.cell? ⟨rb,5,none⟩=some (.int .i64 e):=HR2.out.blk.cell 5
 have t0:w2.cell? ⟨w1.heap.size,0,none⟩=some (.int .i64 x.kind):=HF.out.cell 0
 have t2:w2.cell? ⟨w1.heap.size,2,none⟩=some (.string x.text):=HF.out.cell 2
 clear CN hm
 by_cases he:e=0
 ·subst he
  have q1:=HBO.out
  cases bo with
  |false=>
   by_cases k3:x.kind=3
   ·go_wp2_with fail
    go_ret
    exact ⟨rfl,HB2.out⟩
   ·have k3':(x.kind==3)=false:=by rw[beq_eq_false_iff_ne];exact k3
    by_cases k4:x.kind=4
    ·go_wp2_with fail
     go_ret
     exact ⟨rfl,HB2.out⟩
    ·have k4':(x.kind==4)=false:=by rw[beq_eq_false_iff_ne];exact k4
     go_wp2_with fail
     go_ret
     exact ⟨rfl,HB2.out⟩
  |true=>
   rcases HKD.out rfl with k3 |k4
   ·go_wp2_with fail
    go_ret
    exact ⟨rfl,HB2.out⟩
   ·go_wp2_with fail
    go_ret
    exact ⟨rfl,HB2.out⟩
 ·have he':(e==0)=false:=by rw[beq_eq_false_iff_ne];exact he
  have hd:decide (e=0)=false:=decide_eq_false he
  have HDE:=hdn hd
  clear he hd
  go_wp2_with fail
  go_ret
  exact ⟨ret_bool (by rw[HDE.out];rfl),HB2.out⟩
theorem RS.go {w:World} {rb sb cap:Nat} {l:List Tx.Sg} {k:Nat} {o b a e:Int} (h:RS w rb sb cap l k o b a e) (hk:k<1000000):RS (w.setCell ⟨rb,1,none⟩ (.int .i64 ((k:Int)+1))) rb sb cap l (k+1) o b a e:=
 ⟨by have:=h.blk.set_ 1 (.int .i64 ((k:Int)+1));simpa using this,fun j x hx=>range_grown (h.row j x hx) (grownBy_setC w ⟨rb,1,none⟩ _) h.ne,h.ne,h.pos,h.len,by omega⟩
theorem take_yes {rb sb cap:Nat} {l:List Tx.Sg} {k:Nat} {o b a:Int} (s:ByteArray) (w:World) (h:RS w rb sb cap l k o b a 0) (hk:Pa.Gk l) (hs:Pa.lit s.data.toList=true) (hi:isNx l k s=true) (hk1:k<1000000):
  Calls Tryz.prog 26 #[.pointer (some ⟨rb,0,none⟩),.string s] w fun en w'=>en= .returned (.bool true)∧RS w' rb sb cap l (k+1) o b a 0∧w.grownBy w' (some rb):=by
 have CI:=is_any s w h hk hs
 rw[hi] at CI
 have HRS:=hdn h
 have hk0:(0:Int)≤(k:Int):=Int.natCast_nonneg _
 have hk2:(k:Int)<1000000:=by omega
 clear h hi
 go_enter Tryz.func26,Tryz.ntmps26
 go_wp2_with (go_at_call 54;refine CI.mono ?_;rintro en w1 ⟨rfl,hb⟩;have HR1:=hdn (HRS.out.below hb);have HB1:=hdn hb;have c1:w1.cell? ⟨rb,1,none⟩=some (.int .i64 k):=HR1.out.blk.cell 1;have f1:=HR1.out.blk.frozen 1;clear hb)
 go_ret
 exact ⟨rfl,HR1.out.go hk1,grownBy_above HB1.out (grownBy_setC w1 ⟨rb,1,none⟩ _)⟩
theorem take_no {rb sb cap:Nat} {l:List Tx.Sg} {k:Nat} {o b a e:Int} (s:ByteArray) (w:World) (h:RS w rb sb cap l k o b a e) (hk:Pa.Gk l) (hs:Pa.lit s.data.toList=true) (hi:(decide (e=0) && isNx l k s)=false):
  Calls Tryz.prog 26 #[.pointer (some ⟨rb,0,none⟩),.string s] w fun en w'=>en= .returned (.bool false)∧Below w.heap.size w w':=by
 have CI:=is_any s w h hk hs
 rw[hi] at CI
 clear h hi
 go_enter Tryz.func26,Tryz.ntmps26
 go_wp2_with (go_at_call 54;refine CI.mono ?_;rintro en w1 ⟨rfl,hb⟩;have HB1:=hdn hb;clear hb)
 go_ret
 exact ⟨rfl,HB1.out⟩
theorem RS.stop {w:World} {rb sb cap:Nat} {l:List Tx.Sg} {k:Nat} {o b a e:Int} (h:RS w rb sb cap l k o b a e) (p n:Int):RS ((w.setCell ⟨rb,4,none⟩ (.int .i64 p)).setCell ⟨rb,5,none⟩ (.int .i64 n)) rb sb cap l k o b p n:=
 ⟨by have:=(h.blk.set_ 4 (.int .i64 p)).set_ 5 (.int .i64 n);simpa using this,
 fun j x hx=>range_grown (range_grown (h.row j x hx) (grownBy_setC w ⟨rb,4,none⟩ _) h.ne) (grownBy_setC _ ⟨rb,5,none⟩ _) h.ne,h.ne,h.pos,h.len,h.kb⟩
theorem stop_one {rb sb cap:Nat} {l:List Tx.Sg} {k:Nat} {o b a:Int} (p n:Int) (w:World) (h:RS w rb sb cap l k o b a 0):
  Calls Tryz.prog 58 #[.pointer (some ⟨rb,0,none⟩),.int .i64 p,.int .i64 n] w fun en w'=>en= .returned (.tuple #[])∧RS w' rb sb cap l k o b p n∧w.grownBy w' (some rb):=by
 have c5:w.cell? ⟨rb,5,none⟩=some (.int .i64 0):=h.blk.cell 5
 have c4:w.cell? ⟨rb,4,none⟩=some (.int .i64 a):=h.blk.cell 4
 have f4:=h.blk.frozen 4
 have f5:=h.blk.frozen 5
 have HRS:=hdn h
 clear h
 go_enter Tryz.func58,Tryz.ntmps58
 go_wp2_with fail
 go_end0
 exact ⟨rfl,HRS.out.stop p n,grownBy_tr (grownBy_setC w ⟨rb,4,none⟩ _) (grownBy_setC _ ⟨rb,5,none⟩ _)⟩
theorem stop_err {rb sb cap:Nat} {l:List Tx.Sg} {k:Nat} {o b a e:Int} (p n:Int) (w:World) (h:RS w rb sb cap l k o b a e) (he:e≠0):
  Calls Tryz.prog 58 #[.pointer (some ⟨rb,0,none⟩),.int .i64 p,.int .i64 n] w fun en w'=>en= .returned (.tuple #[])∧w=w':=by
 have c5:w.cell? ⟨rb,5,none⟩=some (.int .i64 e):=h.blk.cell 5
 have he':(e==0)=false:=by rw[beq_eq_false_iff_ne];exact he
 clear h he
 go_enter Tryz.func58,Tryz.ntmps58
 go_wp2_with fail
 go_end0
 exact ⟨rfl,rfl⟩
end Go.Proofs.YtcehbcnloiooaaaGreatDoor
namespace Go.Proofs.YtcehbcnloiooaaaGreatDoor
open Go.RowKit Go.Sort
theorem field72_0 (k:Int) (b c d:Value) (w:World):(Instr.field 83 (.agg #[.int .i64 k,b,c,d]) 0).run Tryz.prog w= .ok (.int .i64 k) w:=by kernel_rfl
theorem field72_1 (k:Int) (a c d:Value) (w:World):(Instr.field 83 (.agg #[a,.int .i64 k,c,d]) 1).run Tryz.prog w= .ok (.int .i64 k) w:=by kernel_rfl
theorem field72_2 (s:ByteArray) (a b d:Value) (w:World):(Instr.field 83 (.agg #[a,b,.string s,d]) 2).run Tryz.prog w= .ok (.string s) w:=by kernel_rfl
theorem field72_3 (k:Int) (a b c:Value) (w:World):(Instr.field 83 (.agg #[a,b,c,.int .i64 k]) 3).run Tryz.prog w= .ok (.int .i64 k) w:=by kernel_rfl
attribute [local go_sem] field72_0 field72_1 field72_2 field72_3
section
variable {rb sb cap:Nat} {l:List Tx.Sg} {k:Nat} {o b a:Int}
theorem want_yes (s:ByteArray) (w:World) (h:RS w rb sb cap l k o b a 0) (hk:Pa.Gk l) (hs:Pa.lit s.data.toList=true) (hi:isNx l k s=true) (hk1:k<1000000):
  Calls Tryz.prog 30 #[.pointer (some ⟨rb,0,none⟩),.string s] w fun en w'=>en= .returned (.tuple #[])∧RS w' rb sb cap l (k+1) o b a 0∧w.grownBy w' (some rb):=by
 have CT:=take_yes s w h hk hs hi hk1
 clear h hi
 go_enter Tryz.func30,Tryz.ntmps30
 go_wp2_with (go_at_call 26;refine CT.mono ?_;rintro en w1 ⟨rfl,h1,hg⟩;have HR1:=hdn h1;have HG1:=hdn hg;clear h1 hg)
 go_end0
 exact ⟨rfl,HR1.out,HG1.out⟩
theorem want_no (s:ByteArray) (w:World) (h:RS w rb sb cap l k o b a 0) (hk:Pa.Gk l) (hs:Pa.lit s.data.toList=true) (hi:isNx l k s=false):
  Calls Tryz.prog 30 #[.pointer (some ⟨rb,0,none⟩),.string s] w fun en w'=>en= .returned (.tuple #[])∧RS w' rb sb cap l k o b (rsg l k).pos 5∧w.grownBy w' (some rb):=by
 have CT:=take_no s w h hk hs (by rw[hi];rfl)
 have HRS:=hdn h
 have CN:Hid (∀w',RS w' rb sb cap l k o b a 0→Calls Tryz.prog 25 #[.pointer (some ⟨rb,0,none⟩)] w' fun en w''=>en= .returned (.agg #[.int .i64 (rsg l k).kind,.int .i64 (rsg l k).pos,.string (rsg l k).text,.int .i64 (rsg l k).num])∧Below w'.heap.size w' w''):=hdn (fun w' h'=>now_any w' h')
 have CS:Hid (∀w',RS w' rb sb cap l k o b a 0→Calls Tryz.prog 58 #[.pointer (some ⟨rb,0,none⟩),.int .i64 (rsg l k).pos,.int .i64 5] w' fun en w''=>en= .returned (.tuple #[])∧RS w'' rb sb cap l k o b (rsg l k).pos 5∧w'.grownBy w'' (some rb)):=hdn (fun w' h'=>stop_one _ 5 w' h')
 generalize rsg l k=x at*
 clear h hi
 go_enter Tryz.func30,Tryz.ntmps30
 go_wp2_with (first |(go_at_call 26;refine CT.mono ?_;rintro en w1 ⟨rfl,hb⟩;have HR1:=hdn (HRS.out.below hb);have HB1:=hdn hb;clear hb)|(go_at_call 25;refine (CN.out _ HR1.out).mono ?_;rintro en w2 ⟨rfl,hb⟩;have HR2:=hdn (HR1.out.below hb);have HB2:=hdn (HB1.out.trans (hb.mono HB1.out.size));clear hb)|(go_at_call 58;refine (CS.out _ HR2.out).mono ?_;rintro en w3 ⟨rfl,h3,hg⟩;have HR3:=hdn h3;have HG3:=hdn (grownBy_above HB2.out hg);clear h3 hg))
 go_end0
 exact ⟨rfl,HR3.out,HG3.out⟩
theorem want_err {e:Int} (s:ByteArray) (w:World) (h:RS w rb sb cap l k o b a e) (hk:Pa.Gk l) (hs:Pa.lit s.data.toList=true) (he:e≠0):
  Calls Tryz.prog 30 #[.pointer (some ⟨rb,0,none⟩),.string s] w fun en w'=>en= .returned (.tuple #[])∧Below w.heap.size w w':=by
 have CT:=take_no s w h hk hs (by rw[decide_eq_false he];rfl)
 have HRS:=hdn h
 have CN:Hid (∀w',RS w' rb sb cap l k o b a e→Calls Tryz.prog 25 #[.pointer (some ⟨rb,0,none⟩)] w' fun en w''=>en= .returned (.agg #[.int .i64 (rsg l k).kind,.int .i64 (rsg l k).pos,.string (rsg l k).text,.int .i64 (rsg l k).num])∧Below w'.heap.size w' w''):=hdn (fun w' h'=>now_any w' h')
 have CS:Hid (∀w',RS w' rb sb cap l k o b a e→Calls Tryz.prog 58 #[.pointer (some ⟨rb,0,none⟩),.int .i64 (rsg l k).pos,.int .i64 5] w' fun en w''=>en= .returned (.tuple #[])∧w'=w''):=hdn (fun w' h'=>stop_err _ 5 w' h' he)
 generalize rsg l k=x at*
 clear h he
 go_enter Tryz.func30,Tryz.ntmps30
 go_wp2_with (first |(go_at_call 26;refine CT.mono ?_;rintro en w1 ⟨rfl,hb⟩;have HR1:=hdn (HRS.out.below hb);have HB1:=hdn hb;clear hb)|(go_at_call 25;refine (CN.out _ HR1.out).mono ?_;rintro en w2 ⟨rfl,hb⟩;have HR2:=hdn (HR1.out.below hb);have HB2:=hdn (HB1.out.trans (hb.mono HB1.out.size));clear hb)|(go_at_call 58;refine (CS.out _ HR2.out).mono ?_;rintro en w3 ⟨rfl,rfl⟩))
 go_end0
 exact ⟨rfl,HB2.out⟩
def RName (w:World) (rb sb cap:Nat) (l:List Tx.Sg) (k:Nat) (o b a e:Int) (en:Ending) (w':World):Prop:=
 w.grownBy w' (some rb)∧
 if e=0∧(rsg l k).kind=1 then en= .returned (.tuple #[.string (rsg l k).text,.int .i64 (rsg l k).pos])∧RS w' rb sb cap l (k+1) o b a 0
 else en= .returned (.tuple #[.string ByteArray.empty,.int .i64 0])∧∃a' e':Int,e'≠0∧RS w' rb sb cap l k o b a' e'
theorem rname_any {e:Int} (w:World) (h:RS w rb sb cap l k o b a e) (hk1:k<1000000):
  Calls Tryz.prog 55 #[.pointer (some ⟨rb,0,none⟩)] w (RName w rb sb cap l k o b a e):=by
 have CN:=now_any w h
 have HRS:=hdn h
 have CS:Hid (∀w',RS w' rb sb cap l k o b a 0→Calls Tryz.prog 58 #[.pointer (some ⟨rb,0,none⟩),.int .i64 (rsg l k).pos,.int .i64 5] w' fun en w''=>en= .returned (.tuple #[])∧RS w'' rb sb cap l k o b (rsg l k).pos 5∧w'.grownBy w'' (some rb)):=hdn (fun w' h'=>stop_one _ 5 w' h')
 have CE:Hid (∀w',e≠0→RS w' rb sb cap l k o b a e→Calls Tryz.prog 58 #[.pointer (some ⟨rb,0,none⟩),.int .i64 (rsg l k).pos,.int .i64 5] w' fun en w''=>en= .returned (.tuple #[])∧w'=w''):=hdn (fun w' he h'=>stop_err _ 5 w' h' he)
 have hk0:(0:Int)≤(k:Int):=Int.natCast_nonneg _
 have hk2:(k:Int)<1000000:=by omega
 obtain ⟨Q,hQ⟩: ∃Q,Q=RName w rb sb cap l k o b a e:=⟨_,rfl⟩
 have HQ:=hdn hQ
 rw[←hQ]
 clear hQ
 unfold RName at HQ
 generalize rsg l k=x at*
 clear h
 go_enter Tryz.func55,Tryz.ntmps55
 go_upto_region 2 with (go_at_call 25;refine CN.mono ?_;rintro en w1 ⟨rfl,hb⟩;have HB1:=hdn hb;clear hb)
 have hm:Below w1.heap.size w1 (w1.alloc (.cells #[.int .i64 x.kind,.int .i64 x.pos,.string x.text,.int .i64 x.num] 83)):=(Below.refl _ _).alloc (Nat.le_refl _) _
 have HF:Hid (Bk (w1.alloc (.cells #[.int .i64 x.kind,.int .i64 x.pos,.string x.text,.int .i64 x.num] 83)) w1.heap.size 83 #[.int .i64 x.kind,.int .i64 x.pos,.string x.text,.int .i64 x.num]):=hdn (heap_alloc_new _ _)
 have HB2:=hdn (HB1.out.trans (hm.mono HB1.out.size))
 have HR2:=hdn (HRS.out.below HB2.out)
 have HNE:Hid (w1.heap.size≠rb):=hdn (by have:=HRS.out.rb_lt;have:=HB1.out.size;omega)
 generalize w1.alloc (.cells #[.int .i64 x.kind,.int .i64 x.pos,.string x.text,.int .i64 x.num] 83)=w2 at HF HB2 HR2 ⊢
 generalize w1.heap.size=F at*
 have t0:w2.cell? ⟨F,0,none⟩=some (.int .i64 x.kind):=HF.out.cell 0
 have t1:w2.cell? ⟨F,1,none⟩=some (.int .i64 x.pos):=HF.out.cell 1
 clear CN hm
 by_cases k1:x.kind=1
 ·by_cases he:e=0
  ·subst he
   have c5:w2.cell? ⟨rb,5,none⟩=some (.int .i64 0):=HR2.out.blk.cell 5
   have c1:w2.cell? ⟨rb,1,none⟩=some (.int .i64 k):=HR2.out.blk.cell 1
   have f1:=HR2.out.blk.frozen 1
   have HK1:=hdn k1
   have hg:=grownBy_setC w2 ⟨rb,1,none⟩ (.int .i64 ((k:Int)+1))
   have HR3:=hdn (HR2.out.go hk1)
   have HF3:=hdn (HF.out.kept hg HNE.out)
   have HG3:=hdn (grownBy_above HB2.out hg)
   clear hg
   go_upto_region 7 with fail
   clear t0 t1 c5 c1 f1 k1
   generalize w2.setCell ⟨rb,1,none⟩ (.int .i64 ((k:Int)+1))=w3 at HR3 HF3 HG3 ⊢
   have t2:w3.cell? ⟨F,2,none⟩=some (.string x.text):=HF3.out.cell 2
   have t1:w3.cell? ⟨F,1,none⟩=some (.int .i64 x.pos):=HF3.out.cell 1
   go_quiet (fail)
   have HR4:=hdn (HR3.out.below (below_drewN_ (Below.refl _ _) nq))
   have HG4:=hdn (grownBy_below HG3.out (below_drewN_ (Below.refl _ _) nq))
   generalize w3.drewN nq=w4 at HR4 HG4 ⊢
   go_wp2_with fail
   rw[HQ.out]
   refine ⟨HG4.out, ?_⟩
   rw[if_pos ⟨by first |rfl |trivial,HK1.out⟩]
   exact ⟨rfl,HR4.out⟩
  ·have c5:w2.cell? ⟨rb,5,none⟩=some (.int .i64 e):=HR2.out.blk.cell 5
   have he':(e !=0)=true:=by rw[bne_iff_ne];exact he
   have HE:=hdn he
   clear he
   go_wp2_with fail
   rw[HQ.out]
   refine ⟨grownBy_of HB2.out _, ?_⟩
   rw[if_neg (fun hh=>HE.out hh.1)]
   exact ⟨by first |rfl |trivial,a,e,HE.out,HR2.out⟩
 ·have k1':(x.kind !=1)=true:=by rw[bne_iff_ne];exact k1
  have HK1:=hdn k1
  clear k1
  by_cases he:e=0
  ·subst he
   go_upto_region 4 with (go_at_call 58;refine (CS.out _ HR2.out).mono ?_;rintro en w3 ⟨rfl,h3,hg⟩;have HR3:=hdn h3;have HG3:=hdn (grownBy_above HB2.out hg);clear h3 hg)
   have c5:w3.cell? ⟨rb,5,none⟩=some (.int .i64 5):=HR3.out.blk.cell 5
   go_wp2_with fail
   rw[HQ.out]
   refine ⟨HG3.out, ?_⟩
   rw[if_neg (fun hh=>HK1.out hh.2)]
   exact ⟨by first |rfl |trivial,_,5,by decide,HR3.out⟩
  ·have HE:=hdn he
   have c5:w2.cell? ⟨rb,5,none⟩=some (.int .i64 e):=HR2.out.blk.cell 5
   have he':(e !=0)=true:=by rw[bne_iff_ne];exact he
   clear he
   go_wp2_with (go_at_call 58;refine (CE.out _ HE.out HR2.out).mono ?_;rintro en w3 ⟨rfl,rfl⟩)
   rw[HQ.out]
   refine ⟨grownBy_of HB2.out _, ?_⟩
   rw[if_neg (fun hh=>HE.out hh.1)]
   exact ⟨by first |rfl |trivial,a,e,HE.out,HR2.out⟩
end
end Go.Proofs.YtcehbcnloiooaaaGreatDoor
namespace Go.Proofs.YtcehbcnloiooaaaGreatDoor
open Go.RowKit Go.Sort
def RErr (w:World) (rb sb cap:Nat) (l:List Tx.Sg) (N:Nat):Prop:= ∃(k:Nat) (o b a e:Int),e≠0∧k≤N∧RS w rb sb cap l k o b a e
def ROk (w:World) (rb sb cap:Nat) (l:List Tx.Sg) (u:Pr.St):Prop:=RS w rb sb cap l u.i u.o u.b 0 0∧u.i<l.length
def RO {α:Type} (K:World→Value→α→Prop) (G:Value→Prop) (w:World) (rb sb cap:Nat) (l:List Tx.Sg) (N:Nat) (r:Pr.Res α) (en:Ending) (w':World):Prop:=
 w.grownBy w' (some rb)∧∃v,en= .returned v∧match r with
 |.ok (x,u)=>K w' v x∧ROk w' rb sb cap l u
 |.error _=>G v∧RErr w' rb sb cap l N
theorem RO.ok {α:Type} {K:World→Value→α→Prop} {G:Value→Prop} {w w':World} {rb sb cap:Nat} {l:List Tx.Sg} {N:Nat} {r:Pr.Res α} {x:α} {u:Pr.St} {v:Value} (hr:r= .ok (x,u)) (hg:w.grownBy w' (some rb)) (hk:K w' v x) (h:ROk w' rb sb cap l u):RO K G w rb sb cap l N r (.returned v) w':=by
 subst hr;exact ⟨hg,v,rfl,hk,h⟩
theorem RO.err {α:Type} {K:World→Value→α→Prop} {G:Value→Prop} {w w':World} {rb sb cap:Nat} {l:List Tx.Sg} {N:Nat} {r:Pr.Res α} {n:Int×Nat} {v:Value} (hr:r= .error n) (hg:w.grownBy w' (some rb)) (hv:G v) (h:RErr w' rb sb cap l N):RO K G w rb sb cap l N r (.returned v) w':=by
 subst hr;exact ⟨hg,v,rfl,hv,h⟩
theorem RErr.below {w w':World} {rb sb cap:Nat} {l:List Tx.Sg} {N:Nat} (h:RErr w rb sb cap l N) (hb:Below w.heap.size w w'):RErr w' rb sb cap l N:=by
 obtain ⟨k,o,b,a,e,he,hk,hr⟩:=h;exact ⟨k,o,b,a,e,he,hk,hr.below hb⟩
theorem ROk.below {w w':World} {rb sb cap:Nat} {l:List Tx.Sg} {u:Pr.St} (h:ROk w rb sb cap l u) (hb:Below w.heap.size w w'):ROk w' rb sb cap l u:=⟨h.1.below hb,h.2⟩
theorem RS.far {w w':World} {rb sb cap:Nat} {l:List Tx.Sg} {k:Nat} {o b a e:Int} {R:Nat} (h:RS w rb sb cap l k o b a e) (hg:w.grownBy w' (some R)) (h1:R≠rb) (h2:R≠sb):RS w' rb sb cap l k o b a e:=
 ⟨h.blk.kept hg (fun e=>h1 e.symm),fun j x hx=>range_grown (h.row j x hx) hg (fun e=>h2 e.symm),h.ne,h.pos,h.len,h.kb⟩
def RTerm (w:World) (rb sb cap:Nat) (l:List Tx.Sg) (k:Nat) (o b a e:Int) (en:Ending) (w':World):Prop:=
 w.grownBy w' (some rb)∧
 if e=0∧(rsg l k).kind=2 then en= .returned (.agg #[.string ByteArray.empty,.int .i64 (rsg l k).num,.int .i64 (rsg l k).pos])∧RS w' rb sb cap l (k+1) o b a 0
 else if e=0∧(rsg l k).kind=1 then en= .returned (.agg #[.string (rsg l k).text,.int .i64 0,.int .i64 (rsg l k).pos])∧RS w' rb sb cap l (k+1) o b a 0
 else en= .returned (.agg #[.string ByteArray.empty,.int .i64 0,.int .i64 0])∧∃a' e':Int,e'≠0∧RS w' rb sb cap l k o b a' e'
section
variable {rb sb cap:Nat} {l:List Tx.Sg} {k:Nat} {o b a:Int}
theorem rterm_any {e:Int} (w:World) (h:RS w rb sb cap l k o b a e) (hk1:k<1000000):
  Calls Tryz.prog 134 #[.pointer (some ⟨rb,0,none⟩)] w (RTerm w rb sb cap l k o b a e):=by
 obtain ⟨wA,hwA⟩: ∃wA:World,wA=w.alloc (.cells #[.string ByteArray.empty,.int .i64 0,.int .i64 0] 56):=⟨_,rfl⟩
 have HBA:Hid (Below w.heap.size w wA):=hdn (by rw[hwA];exact (Below.refl _ _).alloc (Nat.le_refl _) _)
 have HKA:Hid (Bk wA w.heap.size 56 #[.string ByteArray.empty,.int .i64 0,.int .i64 0]):=hdn (by rw[hwA];exact heap_alloc_new _ _)
 have HRA:=hdn (h.below HBA.out)
 have CN:=now_any wA HRA.out
 have HNA:Hid (w.heap.size≠rb∧w.heap.size≠sb):=hdn ⟨by have:=h.rb_lt;omega,by have:=h.sb_lt;omega⟩
 have CM:Hid (∀w',RS w' rb sb cap l k o b a e→Calls Tryz.prog 55 #[.pointer (some ⟨rb,0,none⟩)] w' (RName w' rb sb cap l k o b a e)):=hdn (fun w' h'=>rname_any w' h' hk1)
 have hk0:(0:Int)≤(k:Int):=Int.natCast_nonneg _
 have hk2:(k:Int)<1000000:=by omega
 obtain ⟨Q,hQ⟩: ∃Q,Q=RTerm w rb sb cap l k o b a e:=⟨_,rfl⟩
 have HQ:=hdn hQ
 rw[←hQ]
 clear hQ h
 unfold RTerm at HQ
 unfold RName at CM
 generalize rsg l k=x at*
 go_enter Tryz.func134,Tryz.ntmps134
 go_upto_region 1 with fail
 rw[show w.alloc (.cells #[.string ⟨#[]⟩,.int .i64 0,.int .i64 0] 56)=wA from hwA.symm]
 clear hwA
 obtain ⟨A,hA⟩: ∃A,A=w.heap.size:=⟨_,rfl⟩
 have HA:=hdn hA
 rw[←hA] at HKA HNA ⊢
 clear hA
 go_upto_region 2 with (go_at_call 25;refine CN.mono ?_;rintro en w1 ⟨rfl,hb⟩;have HB1:=hdn hb;clear hb)
 have hm:Below w1.heap.size w1 (w1.alloc (.cells #[.int .i64 x.kind,.int .i64 x.pos,.string x.text,.int .i64 x.num] 83)):=(Below.refl _ _).alloc (Nat.le_refl _) _
 have HF:Hid (Bk (w1.alloc (.cells #[.int .i64 x.kind,.int .i64 x.pos,.string x.text,.int .i64 x.num] 83)) w1.heap.size 83 #[.int .i64 x.kind,.int .i64 x.pos,.string x.text,.int .i64 x.num]):=hdn (heap_alloc_new _ _)
 have HB2:=hdn (HB1.out.trans (hm.mono HB1.out.size))
 have HR2:=hdn (HRA.out.below HB2.out)
 have HK2:=hdn (HKA.out.below HB2.out HKA.out.lt)
 have HNE:Hid (w1.heap.size≠rb∧w1.heap.size≠A):=hdn ⟨by have:=HRA.out.rb_lt;have:=HB1.out.size;omega,by have:=HKA.out.lt;have:=HB1.out.size;omega⟩
 have HG2:Hid (w.grownBy (w1.alloc (.cells #[.int .i64 x.kind,.int .i64 x.pos,.string x.text,.int .i64 x.num] 83)) (some rb)):=hdn (grownBy_of (HBA.out.trans (HB2.out.mono HBA.out.size)) _)
 generalize w1.alloc (.cells #[.int .i64 x.kind,.int .i64 x.pos,.string x.text,.int .i64 x.num] 83)=w2 at HF HB2 HR2 HK2 HG2 ⊢
 generalize w1.heap.size=F at*
 have t0:w2.cell? ⟨F,0,none⟩=some (.int .i64 x.kind):=HF.out.cell 0
 clear CN hm
 by_cases hc:e=0∧x.kind=2
 ·obtain ⟨rfl,k2⟩:=hc
  have c5:w2.cell? ⟨rb,5,none⟩=some (.int .i64 0):=HR2.out.blk.cell 5
  have c1:w2.cell? ⟨rb,1,none⟩=some (.int .i64 k):=HR2.out.blk.cell 1
  have f1:=HR2.out.blk.frozen 1
  have HK2':=hdn k2
  have hg:=grownBy_setC w2 ⟨rb,1,none⟩ (.int .i64 ((k:Int)+1))
  have HR3:=hdn (HR2.out.go hk1)
  have HF3:=hdn (HF.out.kept hg HNE.out.1)
  have HK3:=hdn (HK2.out.kept hg HNA.out.1)
  have HG3:=hdn (grownBy_tr HG2.out hg)
  clear hg
  go_upto_region 4 with fail
  clear t0 c5 c1 f1 k2
  generalize w2.setCell ⟨rb,1,none⟩ (.int .i64 ((k:Int)+1))=w3 at HR3 HF3 HK3 HG3 ⊢
  have t3:w3.cell? ⟨F,3,none⟩=some (.int .i64 x.num):=HF3.out.cell 3
  have t1:w3.cell? ⟨F,1,none⟩=some (.int .i64 x.pos):=HF3.out.cell 1
  have r0:w3.cell? ⟨A,0,none⟩=some (.string ByteArray.empty):=HK3.out.cell 0
  have r1:w3.cell? ⟨A,1,none⟩=some (.int .i64 0):=HK3.out.cell 1
  have r2:w3.cell? ⟨A,2,none⟩=some (.int .i64 0):=HK3.out.cell 2
  have f0:=HK3.out.frozen 0
  have f1:=HK3.out.frozen 1
  have f2:=HK3.out.frozen 2
  go_wp2_with fail
  clear t3 t1 r0 r1 r2 f0 f1 f2
  obtain ⟨hB,hF⟩:=term_result (n:=⟨#[]⟩) (k:=x.num) (p:=x.pos) HK3.out
  generalize ((w3.setCell ⟨A,0,none⟩ (.string ⟨#[]⟩)).setCell ⟨A,1,none⟩ (.int .i64 x.num)).setCell ⟨A,2,none⟩ (.int .i64 x.pos)=w4 at hB hF ⊢
  have e0:=hB.cell 0
  have e1:=hB.cell 1
  have e2:=hB.cell 2
  refine bodyPost_ret (v:= .agg #[.string ⟨#[]⟩,.int .i64 x.num,.int .i64 x.pos]) (by simp[results,Tryz.results134,go_sem,e0,e1,e2]) rfl ?_
  rw[HQ.out]
  refine ⟨grownBy_mine HG3.out (by rw[HA.out] at hF;exact hF), ?_⟩
  rw[if_pos ⟨by first |rfl |trivial,HK2'.out⟩]
  exact ⟨rfl,HR3.out.far hF HNA.out.1 HNA.out.2⟩
 ·have HC:=hdn hc
  have hstep:Hid (e=0∧x.kind≠2∨e≠0∧x.kind=2∨e≠0∧x.kind≠2):=hdn (by
   rcases Classical.em (e=0) with h1 |h1
   ·exact .inl ⟨h1,fun h2=>hc ⟨h1,h2⟩⟩
   ·rcases Classical.em (x.kind=2) with h2 |h2
    ·exact .inr (.inl ⟨h1,h2⟩)
    ·exact .inr (.inr ⟨h1,h2⟩))
  clear hc
  have c5:w2.cell? ⟨rb,5,none⟩=some (.int .i64 e):=HR2.out.blk.cell 5
  have CM2:=hdn (CM.out _ HR2.out)
  clear CM
  have CM3:Hid (Calls Tryz.prog 55 #[.pointer (some ⟨rb,0,none⟩)] w2 fun en w3=> ∃(n:ByteArray) (p:Int),en= .returned (.tuple #[.string n,.int .i64 p])∧w2.grownBy w3 (some rb)∧∀w4,w3.grownBy w4 (some A)→Q (.returned (.agg #[.string n,.int .i64 0,.int .i64 p])) w4):=hdn (by
   refine CM2.out.mono ?_
   rintro en w3 ⟨hg,hh⟩
   have hq: ∀w4,w3.grownBy w4 (some A)→w.grownBy w4 (some rb):=fun w4 h4=>grownBy_mine (grownBy_tr HG2.out hg) (by rw[HA.out] at h4;exact h4)
   by_cases h1:e=0∧x.kind=1
   ·rw[if_pos h1] at hh
    obtain ⟨he,hr⟩:=hh
    refine ⟨_,_,he,hg,fun w4 h4=> ?_⟩
    rw[HQ.out]
    refine ⟨hq w4 h4, ?_⟩
    rw[if_neg HC.out,if_pos h1]
    exact ⟨rfl,hr.far h4 HNA.out.1 HNA.out.2⟩
   ·rw[if_neg h1] at hh
    obtain ⟨he,a',e',hn,hr⟩:=hh
    refine ⟨_,_,he,hg,fun w4 h4=> ?_⟩
    rw[HQ.out]
    refine ⟨hq w4 h4, ?_⟩
    rw[if_neg HC.out,if_neg h1]
    exact ⟨rfl,a',e',hn,hr.far h4 HNA.out.1 HNA.out.2⟩)
  clear CM2
  by_cases k2:x.kind=2
  ·have e2':(e==0)=false:=by
    rcases hstep.out with h |h |h
    ·exact absurd k2 h.2
    ·simpa using h.1
    ·exact absurd k2 h.2
   go_upto_region 5 with fail
   clear t0 c5 k2 e2'
   go_upto_region 6 with (go_at_call 55;refine CM3.out.mono ?_;rintro en w3 ⟨n,p,rfl,hg,hq⟩;have HK3:=hdn (HK2.out.kept hg HNA.out.1);have HQ3:=hdn hq;clear hg hq)
   have r0:w3.cell? ⟨A,0,none⟩=some (.string ByteArray.empty):=HK3.out.cell 0
   have r1:w3.cell? ⟨A,1,none⟩=some (.int .i64 0):=HK3.out.cell 1
   have r2:w3.cell? ⟨A,2,none⟩=some (.int .i64 0):=HK3.out.cell 2
   have f0:=HK3.out.frozen 0
   have f1:=HK3.out.frozen 1
   have f2:=HK3.out.frozen 2
   go_wp2_with fail
   clear r0 r1 r2 f0 f1 f2
   obtain ⟨hB,hF⟩:=term_result (n:=n) (k:=0) (p:=p) HK3.out
   generalize ((w3.setCell ⟨A,0,none⟩ (.string n)).setCell ⟨A,1,none⟩ (.int .i64 0)).setCell ⟨A,2,none⟩ (.int .i64 p)=w4 at hB hF ⊢
   have e0:=hB.cell 0
   have e1:=hB.cell 1
   have e2:=hB.cell 2
   exact bodyPost_ret (v:= .agg #[.string n,.int .i64 0,.int .i64 p]) (by simp[results,Tryz.results134,go_sem,e0,e1,e2]) rfl (HQ3.out w4 hF)
  ·have k2':(x.kind==2)=false:=by simpa using k2
   go_upto_region 5 with fail
   clear t0 c5 k2 k2'
   go_upto_region 6 with (go_at_call 55;refine CM3.out.mono ?_;rintro en w3 ⟨n,p,rfl,hg,hq⟩;have HK3:=hdn (HK2.out.kept hg HNA.out.1);have HQ3:=hdn hq;clear hg hq)
   have r0:w3.cell? ⟨A,0,none⟩=some (.string ByteArray.empty):=HK3.out.cell 0
   have r1:w3.cell? ⟨A,1,none⟩=some (.int .i64 0):=HK3.out.cell 1
   have r2:w3.cell? ⟨A,2,none⟩=some (.int .i64 0):=HK3.out.cell 2
   have f0:=HK3.out.frozen 0
   have f1:=HK3.out.frozen 1
   have f2:=HK3.out.frozen 2
   go_wp2_with fail
   clear r0 r1 r2 f0 f1 f2
   obtain ⟨hB,hF⟩:=term_result (n:=n) (k:=0) (p:=p) HK3.out
   generalize ((w3.setCell ⟨A,0,none⟩ (.string n)).setCell ⟨A,1,none⟩ (.int .i64 0)).setCell ⟨A,2,none⟩ (.int .i64 p)=w4 at hB hF ⊢
   have e0:=hB.cell 0
   have e1:=hB.cell 1
   have e2:=hB.cell 2
   exact bodyPost_ret (v:= .agg #[.string n,.int .i64 0,.int .i64 p]) (by simp[results,Tryz.results134,go_sem,e0,e1,e2]) rfl (HQ3.out w4 hF)
end
end Go.Proofs.YtcehbcnloiooaaaGreatDoor
