/-
  The walk of besides at a statement that sets. The walks of the document's "may it be?": numbers, paths, terms. The walks of the document's "may it be?": values. The walks of the document's "may it be?": sums; values. The walks of the document's "may it be?": sides, conditions. The walks of the docum
-/
import Derived.Test.YtcehbcnloiooaaaGreatDoorM06
import Derived.Test.YtcehbcnloiooaaaGreatDoorM05
import Derived.Test.YtcehbcnloiooaaaGreatDoorM02
set_option maxHeartbeats 6400000
set_option maxRecDepth 100000
namespace Go.Proofs.YtcehbcnloiooaaaGreatDoor
open Go.RowKit Go.Sort
def It.bare1 (x:It):It:= {x with h:= {x.h with kind:=0,place:=Pr.noPth,value:=Pr.noVl}}
theorem zPth_built:Tryz.prog.built 40 []=some (Pth.cells Pr.noPth).toArray:=by kernel_rfl
theorem zVl_built:Tryz.prog.built 58 []=some (Vl.cells Pr.noVl).toArray:=by kernel_rfl
theorem size45p:(Tryz.prog.info? 40).map (·.size)=some (Pth.cells Pr.noPth).toArray.size:=by kernel_rfl
theorem size49v:(Tryz.prog.info? 58).map (·.size)=some (Vl.cells Pr.noVl).toArray.size:=by kernel_rfl
theorem zVl_one:(Vl.cells Pr.noVl).toArray.all (·.oneCell')=true:=by simp[Vl.cells,Value.oneCell']
theorem zPth_one:(Pth.cells Pr.noPth).toArray.all (·.oneCell')=true:=by simp[Pth.cells,Value.oneCell']
theorem below_by {w0 w w':World} {g:Nat} (h:Below w0.heap.size w0 w) (hg:w.grownBy w' (some g)) (hB:w0.heap.size≤g):Below w0.heap.size w0 w':=below_par h hg hB
theorem Bk.setArr {w:World} {g:Nat} {t:TypeId} {l:List Value} (h:Bk w g t l.toArray) (i:Nat) (u:Value):Bk (w.setCell ⟨g,i,none⟩ u) g t (l.set i u).toArray:=by
 have:=h.set_ i u
 simpa using this
theorem besides1 (x:It) (cs:Array Value) (hcs:cs=x.cells.toArray) (w:World) (k:x.h.kind=1):
  Calls Tryz.prog 138 #[.agg cs] w fun e w'=>e= .returned (.agg x.bare1.cells.toArray)∧Below w.heap.size w w':=by
 obtain ⟨wA,hwA⟩: ∃wA:World,wA=(w.alloc (.cells cs 63)).alloc (.cells zIt.cells.toArray 63):=⟨_,rfl⟩
 have HBA:Hid (Below w.heap.size w wA):=hdn (by rw[hwA];exact ((Below.refl _ _).alloc (Nat.le_refl _) _).alloc (by simp) _)
 have HK:Hid (Bk wA w.heap.size 63 x.cells.toArray):=hdn (by rw[hwA,←hcs];exact heap_alloc2_old _ _ _)
 have HKR:Hid (Bk wA (w.heap.size+1) 63 zIt.cells.toArray):=hdn (by rw[hwA];exact heap_alloc2_new _ _ _)
 have Z_k:=hdn k
 clear k hcs
 go_enter Tryz.func138,Tryz.ntmps138
 go_upto_region 1 with fail
 change Code.wp _ _ _ _ ((w.alloc (.cells cs 63)).alloc (.cells zIt.cells.toArray 63))
 rw[←hwA]
 clear hwA
 obtain ⟨A,hA⟩: ∃A,A=w.heap.size:=⟨_,rfl⟩
 rw[←hA] at HK HKR HBA ⊢
 have HA:=hdn hA
 clear hA
 have c0:wA.cell? ⟨A,0,none⟩=some (.int .i64 x.h.kind):=HK.out.cell 0
 rw[Z_k.out] at c0
 go_upto_region 16 with (first |((with_reducible show wpList _ _ _ (Oper.mk (some 7) _ _ _ _ _::_) _ _);refine wpList_zero rfl 40 rfl (some 7) rfl _ zPth_built ?_)|((with_reducible show wpList _ _ _ (Oper.mk (some 8) _ _ _ _ _::_) _ _);refine wpList_zero rfl 58 rfl (some 8) rfl _ zVl_built ?_)|((with_reducible show wpList _ _ _ (Oper.mk none (Op.store 40 _ _) _ _ _ _::_) _ _);refine wpList_store_part rfl 40 (.tmp 9) (.tmp 7) rfl A 2 63 x.cells (Pth.cells Pr.noPth) rfl rfl HK.out size45p (by show 2+3≤48;decide) zPth_one ?_;intro w1 hk1 hg1;have HK1:=hdn hk1;have HG1:=hdn hg1;clear hk1 hg1 c0)|((with_reducible show wpList _ _ _ (Oper.mk none (Op.store 58 _ _) _ _ _ _::_) _ _);refine wpList_store_part rfl 58 (.tmp 10) (.tmp 8) rfl A 5 63 _ (Vl.cells Pr.noVl) rfl rfl HK1.out size49v (by show 5+12≤48;decide) zVl_one ?_;intro w2 hk2 hg2;have HK2:=hdn hk2;have HG2:=hdn hg2;clear hk2 hg2))
 have d0:w2.cell? ⟨A,0,none⟩=some (.int .i64 x.h.kind):=HK2.out.cell 0
 have f0:=HK2.out.frozen 0
 have gS:=grownBy_setC w2 ⟨A,0,none⟩ (.int .i64 0)
 have HK3:Hid (Bk (w2.setCell ⟨A,0,none⟩ (.int .i64 0)) A 63 x.bare1.cells.toArray):=hdn (HK2.out.setArr 0 (.int .i64 0))
 have HR3:=hdn (((HKR.out.kept HG1.out (by omega)).kept HG2.out (by omega)).kept gS (by show A+1≠A;omega))
 have HB3:Hid (Below w.heap.size w (w2.setCell ⟨A,0,none⟩ (.int .i64 0))):=hdn (below_by (below_by (below_by (by rw[←HA.out];exact HBA.out) HG1.out (by rw[HA.out];exact Nat.le_refl _)) HG2.out (by rw[HA.out];exact Nat.le_refl _)) gS (by rw[HA.out];exact Nat.le_refl _))
 clear gS
 go_wp2_with (first |((with_reducible show wpList _ _ _ (Oper.mk (some 37) _ _ _ _ _::_) _ _);refine wpList_load_bk rfl 63 (.tmp 1) rfl A 63 x.bare1.cells.toArray rfl _ HK3.out Tryz.underlying63 rfl size57 ?_)|((with_reducible show wpList _ _ _ (Oper.mk none (Op.store 63 _ _) _ _ _ _::_) _ _);refine wpList_store_bk rfl 63 (.tmp 2) (.tmp 37) rfl (A+1) 63 _ x.bare1.cells.toArray rfl rfl HR3.out size57 rfl (scells_one _ _ _ _ _ _ _) ?_;intro wZ hZ hF))
 exact bodyPost_ret (results_cell_row Tryz.results138 _ wZ (A+1) 63 x.bare1.cells.toArray (0,0) _ rfl hZ Tryz.underlying63 rfl size57) rfl ⟨rfl,below_by HB3.out hF (by rw[HA.out];exact Nat.le_succ _)⟩
end Go.Proofs.YtcehbcnloiooaaaGreatDoor
namespace Go.Proofs.YtcehbcnloiooaaaGreatDoor
open Go.RowKit Go.Sort
end Go.Proofs.YtcehbcnloiooaaaGreatDoor
namespace Go.Proofs.YtcehbcnloiooaaaGreatDoor
open Go.RowKit Go.Sort
theorem e_txt {x:ByteArray} (h:Pn.txt x= []):(x.toList== [])=true:=by
 rw[Lib.toList_data,show x.data.toList= [] from h];rfl
end Go.Proofs.YtcehbcnloiooaaaGreatDoor
namespace Go.Proofs.YtcehbcnloiooaaaGreatDoor
open Go.RowKit Go.Sort
end Go.Proofs.YtcehbcnloiooaaaGreatDoor
namespace Go.Proofs.YtcehbcnloiooaaaGreatDoor
open Go.RowKit Go.Sort
end Go.Proofs.YtcehbcnloiooaaaGreatDoor
namespace Go.Proofs.YtcehbcnloiooaaaGreatDoor
open Go.RowKit Go.Sort
theorem wpList_load_arr_g {P:Program} {ops:Array Oper} {rest:List Oper} {op:Oper} {a:Act} {w:World} {Q:Exit→Act→World→Prop} (ty:TypeId) (x:Operand) (hw:Region.wanted op (yielded ops a.tmps)=true) (ho:op.op= .load ty x)
  (b o:Nat) (hx:a.eval x= .pointer (some ⟨b,o,none⟩)) (cs:Array Value) (d:TypeDesc) (hc:w.rangeAt b o cs.toList)
  (hu:P.underlying ty=some d) (hd:d.isRow=true) (hi:(P.info? ty).map (·.size)=some cs.size)
  (h:wpList P ops Q rest (a.put op.dst (.agg cs)) w):wpList P ops Q (op::rest) a w:=
 wpList_step fun K hK=>by rw[if_pos hw];exact wp_load_mid ty x ho b o hx cs.toList d hc hu hd (by simpa using hi) (hK _ _ (by simpa using h))
end Go.Proofs.YtcehbcnloiooaaaGreatDoor
namespace Go.Proofs.YtcehbcnloiooaaaGreatDoor
open Go.RowKit Go.Sort
theorem wpList_build1_g {P:Program} {ops:Array Oper} {rest:List Oper} {op:Oper} {a:Act} {w:World} {Q:Exit→Act→World→Prop} (t:TypeId) (i:Nat) (x:Operand) (v:Value) (hw:Region.wanted op (yielded ops a.tmps)=true) (ho:op.op= .build t #[(i,x)])
  (hx:a.eval x=v) (cells:Array Value) (hf:P.built t [(i,v)]=some cells)
  (h:wpList P ops Q rest (a.put op.dst (.agg cells)) w):wpList P ops Q (op::rest) a w:=
 wpList_step fun K hK=>by
  rw[if_pos hw]
  unfold Oper.wp execOp
  have hr:=run_build (P:=P) w t #[(i,v)] cells (by simpa using hf)
  simp only[ho,Sem.run_bind,List.map_toArray,List.map_cons,List.map_nil,hx,hr,Result.andThen_ok]
  exact hK _ _ (by simpa using h)
theorem size49c:(Tryz.prog.info? 58).map (·.size)=some 12:=by kernel_rfl
end Go.Proofs.YtcehbcnloiooaaaGreatDoor
namespace Go.Proofs.YtcehbcnloiooaaaGreatDoor
namespace Pn
open Pr (th St Res)
def toTk (k:K):Pr.Tk:=⟨k.1,⟨k.2.1.toArray⟩,k.2.2⟩
def Rs (t:List Pr.Tk) (i:Nat) (ks:List K):Prop:=t.drop i=ks.map toTk
def hd:List K→List UInt8
 | []=> []
 |x::_=>x.2.1
def kd:List K→Int
 | []=>0
 |x::_=>x.1
section
variable {t:List Pr.Tk}
theorem Rs.sg {i:Nat} {x:K} {r:List K} (h:Rs t i (x::r)):Pr.sg t i=toTk x∧Rs t (i+1) r:=by
 unfold Rs at h ⊢
 constructor
 ·unfold Pr.sg
  rw[List.getD_eq_getElem?_getD,←List.head?_drop,h];rfl
 ·rw[←List.drop_drop,h];rfl
theorem Rs.sg_nil {i:Nat} (h:Rs t i []):Pr.sg t i=⟨0,ByteArray.empty,0⟩:=by
 unfold Rs at h;unfold Pr.sg
 rw[List.getD_eq_getElem?_getD,←List.head?_drop,h];rfl
theorem Rs.is {i:Nat} {ks:List K} (h:Rs t i ks) (s:ByteArray):Pr.is t i s=decide (hd ks=s.data.toList):=by
 unfold Pr.is
 rw[Lib.toList_data,Lib.toList_data]
 cases ks with
 |nil=>rw[h.sg_nil];exact Bool.beq_eq_decide_eq _ _
 |cons x r=>rw[h.sg.1];show ((x.2.1.toArray.toList==s.data.toList))=_;exact Bool.beq_eq_decide_eq _ _
theorem Rs.is_no {i:Nat} {ks:List K} (h:Rs t i ks) {s:ByteArray} (e:hd ks≠s.data.toList):Pr.is t i s=false:=by rw[h.is];exact decide_eq_false e
theorem Rs.kind {i:Nat} {ks:List K} (h:Rs t i ks):(Pr.sg t i).kind=kd ks:=by
 cases ks with
 |nil=>rw[h.sg_nil];rfl
 |cons x r=>rw[h.sg.1];rfl
def Bk (t:List Pr.Tk) {α:Type} (res:Res α) (a:α) (o b:Int) (r:List K):Prop:= ∃i,res= .ok (a,⟨i,o,b⟩)∧Rs t i r
theorem Bk.th {α β:Type} {res:Res α} {a:α} {o b o' b':Int} {r q:List K} {f:α→St→Res β} {c:β} (h:Bk t res a o b r) (g: ∀i,Rs t i r→Bk t (f a ⟨i,o,b⟩) c o' b' q):Bk t (th res f) c o' b' q:=by
 obtain ⟨i,rfl,hi⟩:=h
 exact g i hi
theorem Bk.ok {α:Type} {a:α} {i:Nat} {o b:Int} {r:List K} (h:Rs t i r):Bk t (.ok (a,⟨i,o,b⟩)) a o b r:=⟨i,rfl,h⟩
theorem nm_text (x:ByteArray):(toTk (nm x)).text=x:=by
 show (⟨(x.data.toList).toArray⟩:ByteArray)=x
 rw[Array.toArray_toList]
theorem empty_of {x:ByteArray} (h:txt x= []):x=ByteArray.empty:=by
 have:x=⟨(txt x).toArray⟩:=(nm_text x).symm
 rw[this,h];rfl
theorem okN_ne {x:ByteArray} (h:okN x=true) {a:List UInt8} (ha:Tx.isKeyL a=true∨∀b l,a=b::l→Tx.wrd (b.toNat:Int)=false):txt x≠a:=by
 intro e
 obtain ⟨⟨⟨b,l,hb,hl⟩,hw,_⟩,h2⟩:=okN_word h
 rcases ha with ha |ha
 ·rw[e,ha] at h2;cases h2
 ·have h3:=ha b l (e.symm.trans hb)
  rw[hw b (by rw[hb];exact List.mem_cons_self)] at h3;cases h3
theorem noP_er {w:Pth} (h:noP w=true):w.er=Pr.noPth:=by
 unfold noP at h
 simp only[Bool.and_eq_true,decide_eq_true_eq] at h
 unfold Pth.er Sl.er
 rw[empty_of h.1,h.2];rfl
theorem noT_er {x:Tm} (h:noT x=true):x.er=Pr.noTm:=by
 unfold noT at h
 simp only[Bool.and_eq_true,decide_eq_true_eq] at h
 unfold Tm.er
 rw[empty_of h.1,h.2];rfl
theorem noVal_er {v:Vl} (h:noVal v=true):v.er=Pr.noVl:=by
 unfold noVal okVal at h
 simp only[Bool.and_eq_true,decide_eq_true_eq] at h
 obtain ⟨h0,h⟩:=h
 rw[if_pos (.inl h0)] at h
 simp only[Bool.and_eq_true,decide_eq_true_eq] at h
 unfold Vl.er
 rw[h0,noP_er h.1.1.1,noT_er h.1.1.2,noT_er h.1.2,empty_of h.2];rfl
theorem noCond_er {c:Cd} (h:noCond c=true):c.er=Pr.noCd:=by
 unfold noCond at h
 simp only[Bool.and_eq_true,decide_eq_true_eq] at h
 unfold Cd.er
 rw[h.1.1,noVal_er h.1.2,noVal_er h.2];rfl
end
end Pn
end Go.Proofs.YtcehbcnloiooaaaGreatDoor
namespace Go.Proofs.YtcehbcnloiooaaaGreatDoor
namespace Pn
open Pr (th St Res)
section
variable {t:List Pr.Tk}
theorem Rs.no {i:Nat} {x:K} {r:List K} (h:Rs t i (x::r)) {s:ByteArray} (e:x.2.1≠s.data.toList):Pr.is t i s=false:=Rs.is_no (ks:=x::r) h e
theorem Rs.len {i:Nat} {ks:List K} (h:Rs t i ks):ks.length≤t.length:=by
 have:=congrArg List.length h
 rw[List.length_drop,List.length_map] at this;omega
def NoDecl (r:List K):Prop:=hd r≠tInt∧(kd r≠1∨hd r.tail≠ [42])
theorem Rs.declares {i:Nat} {r:List K} {o b:Int} (h:Rs t i r) (hr:NoDecl r):Pr.declares t ⟨i,o,b⟩=false:=by
 unfold Pr.declares
 rw[h.is_no (s:=⟨#[105,110,116]⟩) hr.1,h.kind]
 rcases hr.2 with h2 |h2
 ·have:(kd r==1)=false:=by rw[beq_eq_false_iff_ne];exact h2
  rw[this];rfl
 ·cases r with
  |nil=>rfl
  |cons x r=>rw[h.sg.2.is_no (s:=⟨#[42]⟩) h2];simp
end
end Pn
end Go.Proofs.YtcehbcnloiooaaaGreatDoor
namespace Go.Proofs.YtcehbcnloiooaaaGreatDoor
namespace Pn
open Pr (th St Res)
def cnt:SL→Int
 |.nil=>0
 |.cons _ _ _ t _ _ e r=>1+cnt t+cnt e+cnt r
def dp:SL→Int
 |.nil=>0
 |.cons h _ _ t _ _ e r=>max (if 4≤h.kind then 1+max (dp t) (dp e) else 0) (dp r)
theorem cnt_nn: ∀l:SL,0≤cnt l
 |.nil=>Int.le_refl _
 |.cons _ _ _ t _ _ e r=>by have:=cnt_nn t;have:=cnt_nn e;have:=cnt_nn r;simp only[cnt];omega
theorem dp_nn: ∀l:SL,0≤dp l
 |.nil=>Int.le_refl _
 |.cons _ _ _ t _ _ e r=>by have:=dp_nn r;simp only[dp];omega
theorem nil_of {l:SL} (h:isNil l=true):l= .nil:=by cases l with
 |nil=>rfl
 |cons=>cases h
theorem noCall_er {h:Hd} (hc:noCall h=true):h.name=ByteArray.empty∧h.args.er Vl.er=⟨none,0,[]⟩:=by
 unfold noCall at hc
 simp only[Bool.and_eq_true,decide_eq_true_eq] at hc
 refine ⟨empty_of hc.1, ?_⟩
 unfold Sl.er;rw[hc.2];rfl
section
variable {t:List Pr.Tk}
theorem stK_app (h:Hd) (a e k q:List K):stK h a e k++q=stK h a e (k++q):=by
 unfold stK
 split
 ·rfl
 split
 ·simp
 split
 ·simp
 split
 ·simp
 split
 ·split<;>simp
 split
 ·simp
 ·simp
end
end Pn
end Go.Proofs.YtcehbcnloiooaaaGreatDoor
namespace Go.Proofs.YtcehbcnloiooaaaGreatDoor
namespace Pn
open Pr (th St Res)
section
variable {t:List Pr.Tk}
def cntP:List Pc→Int
 | []=>0
 |x::l=>cnt x.body+cntP l
theorem cntP_nn: ∀l:List Pc,0≤cntP l
 | []=>Int.le_refl _
 |x::l=>by have:=cnt_nn x.body;have:=cntP_nn l;simp only[cntP];omega
theorem fieldsK_app: ∀(l:List Dc) (k q:List K),fieldsK l k++q=fieldsK l (k++q)
 | [],k,q=>rfl
 |y::l,k,q=>by simp only[fieldsK,List.append_assoc,List.cons_append,fieldsK_app l k q]
end
def right (p:Pg):Bool:=okProg p && p.procs.l.all (fun q=>decide (dp q.body≤20)) && decide (cntP p.procs.l≤400)
theorem structsK_app: ∀(l:List Sr) (k q:List K),structsK l k++q=structsK l (k++q)
 | [],k,q=>rfl
 |y::l,k,q=>by simp only[structsK,List.cons_append,fieldsK_app,structsK_app l k q]
end Pn
end Go.Proofs.YtcehbcnloiooaaaGreatDoor
namespace Go.Proofs.YtcehbcnloiooaaaGreatDoor
namespace Pn
theorem hopsT_er: ∀l:List Hp,hopsT (l.map Hp.er)=hopsT l
 | []=>rfl
 |h::l=>by simp only[List.map_cons,hopsT,hopsT_er l];rfl
theorem pathT_er (w:Pth):pathT w.er=pathT w:=by unfold pathT;show _++hopsT (w.hops.l.map Hp.er)=_;rw[hopsT_er];rfl
theorem okPath_er (w:Pth):okPath w.er=okPath w:=by
 unfold okPath
 show (okN w.name && decide ((w.hops.l.map Hp.er).length≤8) && (w.hops.l.map Hp.er).all fun h=>okN h.name)=_
 rw[List.length_map,List.all_map];rfl
theorem noP_er' (w:Pth):noP w.er=noP w:=by
 unfold noP
 show (decide (txt w.name= []) && decide (w.hops.l.map Hp.er= []))=_
 simp only[List.map_eq_nil_iff]
theorem valT_er (v:Vl):valT v.er=valT v:=by
 unfold valT
 show (if v.kind=0 then tNull else if v.kind=1 then pathT v.path.er else _)=_
 rw[pathT_er];rfl
theorem okVal_er (v:Vl):okVal v.er=okVal v:=by
 unfold okVal
 show (if v.kind=0∨v.kind=3 then noP v.path.er && _ && _ && _ else if v.kind=1 then _ && _ && _ && okPath v.path.er else if v.kind=2 then noP v.path.er && _ && _ && _ else if v.kind=4 then noP v.path.er && _ && _ && _ && _ else if v.kind=5∨v.kind=6 then noP v.path.er && _ && _ && _ else false)=_
 rw[noP_er',okPath_er];rfl
theorem okSide_er (v:Vl):okSide v.er=okSide v:=by unfold okSide;rw[okVal_er];rfl
theorem noVal_er' (v:Vl):noVal v.er=noVal v:=by unfold noVal;rw[okVal_er];rfl
theorem condT_er (c:Cd):condT c.er=condT c:=by
 unfold condT
 show (if c.kind=0 then _ else valT c.left.er++_++_++_++valT c.right.er)=_
 rw[valT_er,valT_er];rfl
theorem noCond_er' (c:Cd):noCond c.er=noCond c:=by
 unfold noCond
 show (_ && noVal c.left.er && noVal c.right.er)=_
 rw[noVal_er',noVal_er'];rfl
theorem okCond_er (c:Cd):okCond c.er=okCond c:=by
 unfold okCond
 rw[noCond_er']
 show (if c.kind=0 then _ else _ && _ && okSide c.left.er && okSide c.right.er)=_
 rw[okSide_er,okSide_er];rfl
theorem commaT_er {α:Type} {f:α→List UInt8} {e:α→α} (h: ∀a,f (e a)=f a): ∀l:List α,commaT f (l.map e)=commaT f l
 | []=>rfl
 | [a]=>h a
 |a::b::l=>by
  have:=commaT_er h (b::l)
  simp only[List.map_cons] at this ⊢
  simp only[commaT,this,h a]
theorem stT_er (h:Hd) (t e:List UInt8) (d:Nat) (k:List UInt8):stT h.er t e d k=stT h t e d k:=by
 unfold stT
 show (if h.kind=0 then _ else if h.kind=1 then pathT h.place.er++32::61::32::(valT h.value.er++_) else if h.kind=2 then tFree++40::(pathT h.place.er++_) else if h.kind=3 then txt h.name++40::(commaT valT (h.args.l.map Vl.er)++_) else if h.kind=4 then tIf++32::40::(condT h.cond.er++_) else if h.kind=5 then tWhile++32::40::(condT h.cond.er++_) else _)=_
 rw[pathT_er,valT_er,commaT_er valT_er,condT_er];rfl
theorem linesT_er: ∀(l:SL) (d:Nat),linesT l.er d=linesT l d
 |.nil,_=>rfl
 |.cons h _ _ t _ _ e r,d=>by simp only[SL.er,linesT,stT_er,linesT_er t,linesT_er e,linesT_er r]
theorem noCall_er' (h:Hd):noCall h.er=noCall h:=by
 unfold noCall
 show (decide (txt h.name= []) && decide (h.args.l.map Vl.er= []))=_
 simp only[List.map_eq_nil_iff]
theorem all_er {α:Type} {f:α→Bool} {e:α→α} (h: ∀a,f (e a)=f a) (l:List α):(l.map e).all f=l.all f:=by
 rw[List.all_map];congr 1;funext a;exact h a
theorem okStmt_er (h:Hd) (t0 e0:Bool):okStmt h.er t0 e0=okStmt h t0 e0:=by
 unfold okStmt
 rw[noCall_er']
 show (if h.kind=0 then noP h.place.er && noVal h.value.er && noCond h.cond.er && _ && _ && _ && _ else if h.kind=1 then okPath h.place.er && okVal h.value.er && noCond h.cond.er && _ && _ && _ && _ else if h.kind=2 then okPath h.place.er && noVal h.value.er && noCond h.cond.er && _ && _ && _ && _
  else if h.kind=3 then (h.args.l.map Vl.er).all okSide && noP h.place.er && noVal h.value.er && noCond h.cond.er && _ && _ && _ && _ else if h.kind=4 then noP h.place.er && noVal h.value.er && okCond h.cond.er && _ && _ else if h.kind=5 then noP h.place.er && noVal h.value.er && okCond h.cond.er && _ && _ && _ else if h.kind=6 then noP h.place.er && noVal h.value.er && noCond h.cond.er && _ && _ && _ else false)=_
 rw[noP_er',noVal_er',noCond_er',okPath_er,okVal_er,okCond_er,all_er okSide_er];rfl
theorem isNil_er (l:SL):isNil l.er=isNil l:=by cases l<;>rfl
theorem okList_er: ∀l:SL,okList l.er=okList l
 |.nil=>rfl
 |.cons h _ _ t _ _ e r=>by simp only[SL.er,okList,okStmt_er,isNil_er,okList_er t,okList_er e,okList_er r]
theorem cnt_er: ∀l:SL,cnt l.er=cnt l
 |.nil=>rfl
 |.cons h _ _ t _ _ e r=>by simp only[SL.er,cnt,cnt_er t,cnt_er e,cnt_er r]
theorem dp_er: ∀l:SL,dp l.er=dp l
 |.nil=>rfl
 |.cons h _ _ t _ _ e r=>by simp only[SL.er,dp,dp_er t,dp_er e,dp_er r,Hd.er]
theorem declT_er (d:Dc):declT d.er=declT d:=rfl
theorem okDecl_er (d:Dc):okDecl d.er=okDecl d:=rfl
theorem fieldsT_er (n:Nat) (k:List UInt8): ∀l:List Dc,fieldsT n (l.map Dc.er) k=fieldsT n l k
 | []=>rfl
 |x::l=>by simp only[List.map_cons,fieldsT,fieldsT_er n k l];rfl
theorem structsT_er (k:List UInt8): ∀l:List Sr,structsT (l.map Sr.er) k=structsT l k
 | []=>rfl
 |x::l=>by
  simp only[List.map_cons,structsT,structsT_er k l]
  show tStruct++32::(txt x.name++32::123::10::fieldsT 1 (x.fields.l.map Dc.er) _)=_
  rw[fieldsT_er]
theorem procsT_er: ∀l:List Pc,procsT (l.map Pc.er)=procsT l
 | []=>rfl
 |x::l=>by
  simp only[List.map_cons,procsT,procsT_er l]
  show tVoid++32::(txt x.name++40::(commaT declT (x.params.l.map Dc.er)++41::32::123::10::fieldsT 1 (x.locals_.l.map Dc.er) (linesT x.body.er 1++_)))=_
  rw[commaT_er declT_er,fieldsT_er,linesT_er]
theorem progT_er (p:Pg):progT p.er=progT p:=by
 unfold progT
 show structsT (p.structs.l.map Sr.er) (fieldsT 0 (p.globals.l.map Dc.er) (procsT (p.procs.l.map Pc.er)))=_
 rw[structsT_er,fieldsT_er,procsT_er]
theorem okStruct_er (x:Sr):okStruct x.er=okStruct x:=by
 unfold okStruct
 show (okN x.name && (x.fields.l.map Dc.er).all okField)=_
 rw[all_er (f:=okField) (e:=Dc.er) (fun _=>rfl)]
theorem okProc_er (x:Pc):okProc x.er=okProc x:=by
 unfold okProc
 show (okN x.name && (x.params.l.map Dc.er).all okDecl && (x.locals_.l.map Dc.er).all okDecl && okList x.body.er)=_
 rw[all_er okDecl_er,all_er okDecl_er,okList_er]
theorem cntP_er: ∀l:List Pc,cntP (l.map Pc.er)=cntP l
 | []=>rfl
 |x::l=>by simp only[List.map_cons,cntP,cntP_er l];show cnt x.body.er+_=_;rw[cnt_er]
theorem right_er (p:Pg):right p.er=right p:=by
 unfold right okProg
 show ((p.structs.l.map Sr.er).all okStruct && (p.globals.l.map Dc.er).all okDecl && (p.procs.l.map Pc.er).all okProc && (p.procs.l.map Pc.er).all (fun q=>decide (dp q.body≤20)) && decide (cntP (p.procs.l.map Pc.er)≤400))=_
 rw[all_er okStruct_er,all_er okDecl_er,all_er okProc_er,all_er (f:=fun q:Pc=>decide (dp q.body≤20)) (e:=Pc.er) (fun q=>by show decide (dp q.body.er≤20)=_;rw[dp_er]),cntP_er]
end Pn
end Go.Proofs.YtcehbcnloiooaaaGreatDoor
namespace Go.Proofs.YtcehbcnloiooaaaGreatDoor
open Go.RowKit Go.Sort
theorem okN_ne {y:ByteArray} (h:Pn.okN y=true):(y.toList== [])=false:=by
 rw[Bool.eq_false_iff];intro e
 have e2:Pn.txt y= []:=by rw[beq_iff_eq,Lib.toList_data] at e;exact e
 unfold Pn.okN at h
 rw[e2] at h
 cases h
end Go.Proofs.YtcehbcnloiooaaaGreatDoor
namespace Go.Proofs.YtcehbcnloiooaaaGreatDoor
open Go.RowKit Go.Sort
theorem isName_ok (n:ByteArray) (w:World) (hg:Gl w) (hn:Pn.okN n=true):Calls Tryz.prog 114 #[.string n] w fun e w'=>e= .returned (.bool true)∧w=w':=by
 obtain ⟨hs,hb⟩:=Pn.okN_nameB hn
 have CN:=isNameLex_any n w (by omega) hg
 rwa[hb] at CN
theorem isHop_any (x:Hp) (b o:Nat) (w:World) (hg:Gl w) (ho:Pn.okN x.name=true) (hr:w.rangeAt b o x.cells):
  Calls Tryz.prog 170 #[.pointer (some ⟨b,o,none⟩)] w fun e w'=>e= .returned (.bool true)∧w=w':=by
 have c0:w.cell? ⟨b,o,none⟩=some (.string x.name):=cell_at hr 0 _ rfl
 have CN:=isName_ok x.name w hg ho
 clear hg ho hr
 go_enter Tryz.func170,Tryz.ntmps170
 go_wp2_with (go_at_call 114;refine CN.mono ?_;rintro e w1 ⟨rfl,rfl⟩)
 go_ret
 exact ⟨rfl,rfl⟩
theorem enters174: ∀args w,(callFunc 170 args).run Tryz.prog w= .ok (.enter 170 args) w:=enters Tryz.func170 (by kernel_rfl) rfl
theorem allHp_any (l:List Hp) (p:Option Addr) (c:Nat) (w:World) (hg:Gl w) (h1:Lay 2 Hp.cells triv w p l) (ho: ∀x∈l,Pn.okN x.name=true):
  Calls Tryz.prog 169 #[.slice p l.length c,.func (.func 170) #[] #[]] w fun e w'=>e= .returned (.bool true)∧w=w':=by
 obtain ⟨hl,h1⟩:=h1
 have H1:=hdn h1;have HO:=hdn ho;have HG:=hdn hg
 clear h1 ho hg
 have hcl:=enters174
 go_enter Tryz.func169,Tryz.ntmps169
 go_wp2_with fail
 go_loop [8] (fun i=> ∃n:Nat,n≤l.length∧i= .int .i64 n) (fun i=>l.length-(intOf i).toNat)
 case atStart=>exact ⟨0,Nat.zero_le _,rfl⟩
 case round=>
  obtain ⟨n,hn,rfl⟩:=hrel
  by_cases hnl:n<l.length
  ·obtain ⟨b1,o1,rfl,hx⟩: ∃b o,p=some ⟨b,o,none⟩∧∀k x,l[k]? =some x→w.rangeAt b (o+k*2) (Hp.cells x)∧triv w x:=by
    rcases H1.out with h |h
    ·rw[h] at hnl;simp at hnl
    ·exact h
   have hxn:=hx n l[n] (List.getElem?_eq_getElem hnl)
   have hok:=HO.out l[n] (List.getElem_mem hnl)
   generalize l[n]=x at hxn hok
   have HC:=hdn (isHop_any x b1 (o1+n*2) w HG.out hok hxn.1)
   have hn0:(0:Int)≤(n:Int):=Int.natCast_nonneg _
   have hn1:(n:Int)<(l.length:Int):=by omega
   clear hx hxn hok
   go_wp2_with fail
   refine HC.out.mono ?_;rintro e w1 ⟨rfl,rfl⟩
   go_wp2_with fail
   go_round
   case rel=>exact ⟨n+1,by omega,by go_num⟩
   case measure=>simp[intOf];omega
  ·obtain rfl:n=l.length:=by omega
   go_wp2_with fail
   go_ret
   exact ⟨rfl,rfl⟩
theorem isPath_any (x:Pth) (b o:Nat) (w:World) (hg:Gl w) (ho:Pn.okPath x=true) (hr:w.rangeAt b o x.cells) (hl:pthLies w x):
  Calls Tryz.prog 156 #[.pointer (some ⟨b,o,none⟩)] w fun e w'=>e= .returned (.bool true)∧w=w':=by
 unfold Pn.okPath at ho
 simp only[Bool.and_eq_true,decide_eq_true_eq,List.all_eq_true] at ho
 obtain ⟨⟨h1,h8⟩,h2⟩:=ho
 have CN:=isName_ok x.name w hg h1
 have CH:=allHp_any x.hops.l x.hops.p x.hops.cap w hg (Lay.of_sl hl (by decide)) h2
 have c0:w.cell? ⟨b,o,none⟩=some (.string x.name):=cell_at hr 0 _ rfl
 have c2:w.cell? ⟨b,o+2,none⟩=some (.slice x.hops.p x.hops.l.length x.hops.cap):=cell_at hr 2 _ rfl
 have hle:(x.hops.l.length:Int)≤8:=by omega
 clear hg h1 h2 hr hl
 go_enter Tryz.func156,Tryz.ntmps156
 go_wp2_with (first |(go_at_call 114;refine CN.mono ?_;rintro e w1 ⟨rfl,rfl⟩)|(go_at_call 169;refine CH.mono ?_;rintro e w2 ⟨rfl,rfl⟩))
 go_ret
 exact ⟨rfl,rfl⟩
theorem isNumber_any (n:Int) (w:World) (ho:Pn.okNum n=true):Calls Tryz.prog 171 #[.int .i64 n] w fun e w'=>e= .returned (.bool true)∧w=w':=by
 unfold Pn.okNum at ho
 simp only[Bool.and_eq_true,decide_eq_true_eq] at ho
 obtain ⟨h0,h1⟩:=ho
 go_enter Tryz.func171,Tryz.ntmps171
 go_wp2_with fail
 go_ret
 exact ⟨rfl,rfl⟩
theorem isTerm_any (x:Tm) (b o:Nat) (w:World) (hg:Gl w) (ho:Pn.okTerm x=true) (hr:w.rangeAt b o x.cells):
  Calls Tryz.prog 172 #[.pointer (some ⟨b,o,none⟩)] w fun e w'=>e= .returned (.bool true)∧w=w':=by
 have c0:w.cell? ⟨b,o,none⟩=some (.string x.name):=cell_at hr 0 _ rfl
 have c1:w.cell? ⟨b,o+1,none⟩=some (.int .i64 x.n):=cell_at hr 1 _ rfl
 unfold Pn.okTerm at ho
 by_cases h0:Pn.txt x.name= []
 ·rw[if_pos h0] at ho
  have CN:=isNumber_any x.n w ho
  have he:=e_txt h0
  clear hg ho hr h0
  go_enter Tryz.func172,Tryz.ntmps172
  go_wp2_with (go_at_call 171;refine CN.mono ?_;rintro e w1 ⟨rfl,rfl⟩)
  go_ret
  exact ⟨rfl,rfl⟩
 ·rw[if_neg h0] at ho
  simp only[Bool.and_eq_true,decide_eq_true_eq] at ho
  have he:=okN_ne ho.1
  have CN:=isName_ok x.name w hg ho.1
  have hz:=ho.2
  clear hg ho hr h0
  go_enter Tryz.func172,Tryz.ntmps172
  go_wp2_with (go_at_call 114;refine CN.mono ?_;rintro e w1 ⟨rfl,rfl⟩)
  go_ret
  exact ⟨rfl,rfl⟩
theorem isPointer_any (x:Dc) (b o:Nat) (w:World) (hg:Gl w) (ho:Pn.okField x=true) (hr:w.rangeAt b o x.cells):
  Calls Tryz.prog 115 #[.pointer (some ⟨b,o,none⟩)] w fun e w'=>e= .returned (.bool true)∧w=w':=by
 have c0:w.cell? ⟨b,o,none⟩=some (.string x.type):=cell_at hr 0 _ rfl
 have c1:w.cell? ⟨b,o+1,none⟩=some (.string x.name):=cell_at hr 1 _ rfl
 unfold Pn.okField Pn.okDecl at ho
 simp only[Bool.and_eq_true,Bool.or_eq_true,decide_eq_true_eq,Bool.not_eq_true',decide_eq_false_iff_not] at ho
 have CT:=isName_ok x.type w hg (ho.1.2.resolve_left ho.2)
 have CN:=isName_ok x.name w hg ho.1.1
 clear hg ho hr
 go_enter Tryz.func115,Tryz.ntmps115
 go_wp2_with (first |(go_at_call 114;(with_reducible refine CT.mono ?_);rintro e w1 ⟨rfl,rfl⟩)|(go_at_call 114;(with_reducible refine CN.mono ?_);rintro e w1 ⟨rfl,rfl⟩))
 go_ret
 exact ⟨rfl,rfl⟩
theorem isPointer_no (x:Dc) (b o:Nat) (w:World) (hg:Gl w) (ht:Pn.txt x.type= []) (hr:w.rangeAt b o x.cells):
  Calls Tryz.prog 115 #[.pointer (some ⟨b,o,none⟩)] w fun e w'=>e= .returned (.bool false)∧w=w':=by
 have c0:w.cell? ⟨b,o,none⟩=some (.string x.type):=cell_at hr 0 _ rfl
 have hz:x.type.size=0:=by
  have h2:(Pn.txt x.type).length=x.type.size:=Tx.len_eq _
  rw[ht] at h2;simpa using h2.symm
 have CT:=isNameLex_any x.type w (by omega) hg
 rw[show Tx.nameB x.type=false by rw[Tx.empty_of x.type hz];rfl] at CT
 clear hg ht hr hz
 go_enter Tryz.func115,Tryz.ntmps115
 go_wp2_with (go_at_call 114;refine CT.mono ?_;rintro e w1 ⟨rfl,rfl⟩)
 go_ret
 exact ⟨rfl,rfl⟩
theorem isDecl_any (x:Dc) (b o:Nat) (w:World) (hg:Gl w) (ho:Pn.okDecl x=true) (hr:w.rangeAt b o x.cells):
  Calls Tryz.prog 85 #[.pointer (some ⟨b,o,none⟩)] w fun e w'=>e= .returned (.bool true)∧w=w':=by
 have c0:w.cell? ⟨b,o,none⟩=some (.string x.type):=cell_at hr 0 _ rfl
 have c1:w.cell? ⟨b,o+1,none⟩=some (.string x.name):=cell_at hr 1 _ rfl
 by_cases h0:Pn.txt x.type= []
 ·have CP:=isPointer_no x b o w hg h0 hr
  unfold Pn.okDecl at ho
  simp only[Bool.and_eq_true] at ho
  have CN:=isName_ok x.name w hg ho.1
  have he:=e_txt h0
  clear hg ho hr h0
  go_enter Tryz.func85,Tryz.ntmps85
  go_wp2_with (first |(go_at_call 115;refine CP.mono ?_;rintro e w1 ⟨rfl,rfl⟩)|(go_at_call 114;refine CN.mono ?_;rintro e w1 ⟨rfl,rfl⟩))
  go_ret
  exact ⟨rfl,rfl⟩
 ·have CP:=isPointer_any x b o w hg (by unfold Pn.okField;rw[ho,decide_eq_false h0];rfl) hr
  clear hg ho hr h0
  go_enter Tryz.func85,Tryz.ntmps85
  go_wp2_with (go_at_call 115;refine CP.mono ?_;rintro e w1 ⟨rfl,rfl⟩)
  go_ret
  exact ⟨rfl,rfl⟩
theorem enters39: ∀args w,(callFunc 85 args).run Tryz.prog w= .ok (.enter 85 args) w:=enters Tryz.func85 (by kernel_rfl) rfl
theorem allDc_any (l:List Dc) (p:Option Addr) (c:Nat) (w:World) (hg:Gl w) (h1:Lay 3 Dc.cells triv w p l) (ho: ∀x∈l,Pn.okDecl x=true):
  Calls Tryz.prog 84 #[.slice p l.length c,.func (.func 85) #[] #[]] w fun e w'=>e= .returned (.bool true)∧w=w':=by
 obtain ⟨hl,h1⟩:=h1
 have H1:=hdn h1;have HO:=hdn ho;have HG:=hdn hg
 clear h1 ho hg
 have hcl:=enters39
 go_enter Tryz.func84,Tryz.ntmps84
 go_wp2_with fail
 go_loop [8] (fun i=> ∃n:Nat,n≤l.length∧i= .int .i64 n) (fun i=>l.length-(intOf i).toNat)
 case atStart=>exact ⟨0,Nat.zero_le _,rfl⟩
 case round=>
  obtain ⟨n,hn,rfl⟩:=hrel
  by_cases hnl:n<l.length
  ·obtain ⟨b1,o1,rfl,hx⟩: ∃b o,p=some ⟨b,o,none⟩∧∀k x,l[k]? =some x→w.rangeAt b (o+k*3) (Dc.cells x)∧triv w x:=by
    rcases H1.out with h |h
    ·rw[h] at hnl;simp at hnl
    ·exact h
   have hxn:=hx n l[n] (List.getElem?_eq_getElem hnl)
   have hok:=HO.out l[n] (List.getElem_mem hnl)
   generalize l[n]=x at hxn hok
   have HC:=hdn (isDecl_any x b1 (o1+n*3) w HG.out hok hxn.1)
   have hn0:(0:Int)≤(n:Int):=Int.natCast_nonneg _
   have hn1:(n:Int)<(l.length:Int):=by omega
   clear hx hxn hok
   go_wp2_with fail
   refine HC.out.mono ?_;rintro e w1 ⟨rfl,rfl⟩
   go_wp2_with fail
   go_round
   case rel=>exact ⟨n+1,by omega,by go_num⟩
   case measure=>simp[intOf];omega
  ·obtain rfl:n=l.length:=by omega
   go_wp2_with fail
   go_ret
   exact ⟨rfl,rfl⟩
theorem enters80: ∀args w,(callFunc 115 args).run Tryz.prog w= .ok (.enter 115 args) w:=enters Tryz.func115 (by kernel_rfl) rfl
theorem allFd_any (l:List Dc) (p:Option Addr) (c:Nat) (w:World) (hg:Gl w) (h1:Lay 3 Dc.cells triv w p l) (ho: ∀x∈l,Pn.okField x=true):
  Calls Tryz.prog 84 #[.slice p l.length c,.func (.func 115) #[] #[]] w fun e w'=>e= .returned (.bool true)∧w=w':=by
 obtain ⟨hl,h1⟩:=h1
 have H1:=hdn h1;have HO:=hdn ho;have HG:=hdn hg
 clear h1 ho hg
 have hcl:=enters80
 go_enter Tryz.func84,Tryz.ntmps84
 go_wp2_with fail
 go_loop [8] (fun i=> ∃n:Nat,n≤l.length∧i= .int .i64 n) (fun i=>l.length-(intOf i).toNat)
 case atStart=>exact ⟨0,Nat.zero_le _,rfl⟩
 case round=>
  obtain ⟨n,hn,rfl⟩:=hrel
  by_cases hnl:n<l.length
  ·obtain ⟨b1,o1,rfl,hx⟩: ∃b o,p=some ⟨b,o,none⟩∧∀k x,l[k]? =some x→w.rangeAt b (o+k*3) (Dc.cells x)∧triv w x:=by
    rcases H1.out with h |h
    ·rw[h] at hnl;simp at hnl
    ·exact h
   have hxn:=hx n l[n] (List.getElem?_eq_getElem hnl)
   have hok:=HO.out l[n] (List.getElem_mem hnl)
   generalize l[n]=x at hxn hok
   have HC:=hdn (isPointer_any x b1 (o1+n*3) w HG.out hok hxn.1)
   have hn0:(0:Int)≤(n:Int):=Int.natCast_nonneg _
   have hn1:(n:Int)<(l.length:Int):=by omega
   clear hx hxn hok
   go_wp2_with fail
   refine HC.out.mono ?_;rintro e w1 ⟨rfl,rfl⟩
   go_wp2_with fail
   go_round
   case rel=>exact ⟨n+1,by omega,by go_num⟩
   case measure=>simp[intOf];omega
  ·obtain rfl:n=l.length:=by omega
   go_wp2_with fail
   go_ret
   exact ⟨rfl,rfl⟩
theorem isStruct_any (x:Sr) (b o:Nat) (w:World) (hg:Gl w) (ho:Pn.okStruct x=true) (hr:w.rangeAt b o x.cells) (hl:declsLie w x.fields):
  Calls Tryz.prog 83 #[.pointer (some ⟨b,o,none⟩)] w fun e w'=>e= .returned (.bool true)∧w=w':=by
 have c0:w.cell? ⟨b,o,none⟩=some (.string x.name):=cell_at hr 0 _ rfl
 have c2:w.cell? ⟨b,o+2,none⟩=some (.slice x.fields.p x.fields.l.length x.fields.cap):=cell_at hr 2 _ rfl
 unfold Pn.okStruct at ho
 simp only[Bool.and_eq_true,List.all_eq_true] at ho
 have CN:=isName_ok x.name w hg ho.1
 have CF:=allFd_any x.fields.l x.fields.p x.fields.cap w hg (Lay.of_sl (R:=triv) hl (by decide)) ho.2
 clear hg ho hr hl
 go_enter Tryz.func83,Tryz.ntmps83
 go_wp2_with (first |(go_at_call 114;refine CN.mono ?_;rintro e w1 ⟨rfl,rfl⟩)|(go_at_call 84;refine CF.mono ?_;rintro e w1 ⟨rfl,rfl⟩))
 go_ret
 exact ⟨rfl,rfl⟩
theorem enters37: ∀args w,(callFunc 83 args).run Tryz.prog w= .ok (.enter 83 args) w:=enters Tryz.func83 (by kernel_rfl) rfl
theorem allSr_any (l:List Sr) (p:Option Addr) (c:Nat) (w:World) (hg:Gl w) (h1:Lay 3 Sr.cells (fun w (x:Sr)=>declsLie w x.fields) w p l) (ho: ∀x∈l,Pn.okStruct x=true):
  Calls Tryz.prog 82 #[.slice p l.length c,.func (.func 83) #[] #[]] w fun e w'=>e= .returned (.bool true)∧w=w':=by
 obtain ⟨hl,h1⟩:=h1
 have H1:=hdn h1;have HO:=hdn ho;have HG:=hdn hg
 clear h1 ho hg
 have hcl:=enters37
 go_enter Tryz.func82,Tryz.ntmps82
 go_wp2_with fail
 go_loop [8] (fun i=> ∃n:Nat,n≤l.length∧i= .int .i64 n) (fun i=>l.length-(intOf i).toNat)
 case atStart=>exact ⟨0,Nat.zero_le _,rfl⟩
 case round=>
  obtain ⟨n,hn,rfl⟩:=hrel
  by_cases hnl:n<l.length
  ·obtain ⟨b1,o1,rfl,hx⟩: ∃b o,p=some ⟨b,o,none⟩∧∀k x,l[k]? =some x→w.rangeAt b (o+k*3) (Sr.cells x)∧(fun w (x:Sr)=>declsLie w x.fields) w x:=by
    rcases H1.out with h |h
    ·rw[h] at hnl;simp at hnl
    ·exact h
   have hxn:=hx n l[n] (List.getElem?_eq_getElem hnl)
   have hok:=HO.out l[n] (List.getElem_mem hnl)
   generalize l[n]=x at hxn hok
   have HC:=hdn (isStruct_any x b1 (o1+n*3) w HG.out hok hxn.1 hxn.2)
   have hn0:(0:Int)≤(n:Int):=Int.natCast_nonneg _
   have hn1:(n:Int)<(l.length:Int):=by omega
   clear hx hxn hok
   go_wp2_with fail
   refine HC.out.mono ?_;rintro e w1 ⟨rfl,rfl⟩
   go_wp2_with fail
   go_round
   case rel=>exact ⟨n+1,by omega,by go_num⟩
   case measure=>simp[intOf];omega
  ·obtain rfl:n=l.length:=by omega
   go_wp2_with fail
   go_ret
   exact ⟨rfl,rfl⟩
end Go.Proofs.YtcehbcnloiooaaaGreatDoor
namespace Go.Proofs.YtcehbcnloiooaaaGreatDoor
open Go.RowKit Go.Sort
def valIt (v:Vl):It:= {zIt with h:= {Pr.noHd with value:=v}}
theorem valIt_built (v:Vl):Tryz.prog.built 63 [(3,.agg (Vl.cells v).toArray)]=some (valIt v).cells.toArray:=by kernel_rfl
theorem noVal_hops {v:Vl} (h:Pn.noVal v=true):v.path.hops.l= []:=by
 have e:=Pn.noVal_er h
 have:v.path.er.hops.l= []:=by rw[show v.path.er=v.er.path from rfl,e];rfl
 exact List.map_eq_nil_iff.1 this
theorem nil_lies {α:Type} (w:World) (n b:Nat) (f:α→List Value) (R:α→Prop) {s:Sl α} (h:s.l= []):slLies w n b f R s:=⟨by rw[h];simp,.inl h⟩
theorem noName:ByteArray.empty.size≤maxLen:=by decide
theorem noLen:SL.nil.len*608≤140737488351232:=by decide
theorem valIt_lies (v:Vl) (w:World) (h:v.path.hops.l= []):itLies w (valIt v):=
 ⟨⟨no_lies ..,nil_lies _ _ _ _ _ h,no_lies ..,no_lies ..,no_lies ..,noName⟩,⟨noLen,.inl rfl⟩,⟨noLen,.inl rfl⟩⟩
theorem valIt_same (v:Vl) (h:Pn.noVal v=true):sameSL zIt.one (valIt v).one=true:=by
 have e:(valIt v).one.er=zIt.one.er:=by
  show SL.cons {Pr.noHd.er with value:=v.er} none 0 SL.nil none 0 SL.nil SL.nil=_
  rw[Pn.noVal_er h];rfl
 rw[sameSL_er,e];exact sameSL_refl _
theorem zTm_built:Tryz.prog.built 56 []=some (Tm.cells Pr.noTm).toArray:=by kernel_rfl
theorem size47v:(Tryz.prog.info? 56).map (·.size)=some (Tm.cells Pr.noTm).toArray.size:=by kernel_rfl
theorem zTm_one:(Tm.cells Pr.noTm).toArray.all (·.oneCell')=true:=by simp[Tm.cells,Value.oneCell']
theorem isVal0 (x:Vl) (b o:Nat) (w:World) (hg:Gl w) (hr:w.rangeAt b o x.cells) (hl:vlLies w x) (k:x.kind=0) (hv:Pn.noVal {x with kind:=0}=true):
  Calls Tryz.prog 157 #[.pointer (some ⟨b,o,none⟩)] w fun e w'=>e= .returned (.bool true)∧Below w.heap.size w w':=by
 obtain ⟨vs,hvs⟩: ∃vs,vs=(Vl.cells x).toArray:=⟨_,rfl⟩
 have HR:Hid (w.rangeAt b o vs.toList):=hdn (by rw[hvs];exact hr)
 have HSI:Hid ((Tryz.prog.info? 58).map (·.size)=some vs.size):=hdn (by rw[hvs];exact size49c)
 have HZ:Hid (12=vs.size):=hdn (by rw[hvs];rfl)
 have HON:Hid (vs.all (·.oneCell')=true):=hdn (by rw[hvs];simp[Value.oneCell'])
 obtain ⟨vF,hvF⟩: ∃vF,vF=(Vl.cells {x with kind:=0}).toArray:=⟨_,rfl⟩
 have HSF:Hid ((Tryz.prog.info? 58).map (·.size)=some vF.size):=hdn (by rw[hvF];exact size49c)
 have HVF:=hdn hvF
 obtain ⟨cF,hcF⟩: ∃cF,cF=(valIt {x with kind:=0}).cells.toArray:=⟨_,rfl⟩
 have HBL:Hid (Tryz.prog.built 63 [(3,.agg vF)]=some cF):=hdn (by rw[hvF,hcF];exact valIt_built _)
 have HNT:Hid (∀w,Calls Tryz.prog 137 #[.agg cF] w fun e w'=>e= .returned (.bool true)∧Below w.heap.size w w'):=hdn (fun w=>by
  have:=isNothing_any (valIt {x with kind:=0}) cF hcF w (valIt_lies _ w (noVal_hops hv))
  rwa[valIt_same _ hv] at this)
 clear hv hvF hcF
 obtain ⟨wA,hwA⟩: ∃wA:World,wA=w.alloc (.cells vs 58):=⟨_,rfl⟩
 have HBA:Hid (Below w.heap.size w wA):=hdn (by rw[hwA];exact (Below.refl _ _).alloc (Nat.le_refl _) _)
 have HK:Hid (Bk wA w.heap.size 58 vs):=hdn (by rw[hwA];exact heap_alloc_new _ _)
 have HW:=hdn hwA
 have HV:=hdn hvs
 have HR0:=hdn hr;have HG0:=hdn hg;have HL0:=hdn hl
 have c0:=cell_at hr 0 _ rfl
 rw[k] at c0
 clear hwA hr hvs hg hl k
 go_enter Tryz.func157,Tryz.ntmps157
 go_upto_region 2 with (first |((with_reducible show wpList _ _ _ (Oper.mk (some 7) _ _ _ _ _::_) _ _);refine wpList_load_arr rfl 58 (.tmp 6) rfl b o rfl vs _ HR.out Tryz.underlying58 rfl HSI.out ?_)|((with_reducible show wpList _ _ _ (Oper.mk none (Op.store 58 _ _) _ _ _ _::_) _ _);refine wpList_store_new rfl 58 (.tmp 3) (.tmp 7) rfl _ vs rfl rfl HSI.out HZ.out HON.out ?_))
 rw[←HW.out]
 obtain ⟨A,hA⟩: ∃A,A=w.heap.size:=⟨_,rfl⟩
 rw[←hA] at HK HBA ⊢
 have HA:=hdn hA
 clear hA
 have d0:wA.cell? ⟨A,0,none⟩=some (.int .i64 x.kind):=by have:=HK.out;rw[HV.out] at this;exact this.cell 0
 have f0:=HK.out.frozen 0
 have gS:=grownBy_setC wA ⟨A,0,none⟩ (.int .i64 0)
 have HK2:Hid (Bk (wA.setCell ⟨A,0,none⟩ (.int .i64 0)) A 58 (Vl.cells {x with kind:=0}).toArray):=hdn (by
  have:=HK.out
  rw[HV.out] at this
  exact this.setArr 0 (.int .i64 0))
 have HB2:Hid (Below w.heap.size w (wA.setCell ⟨A,0,none⟩ (.int .i64 0))):=hdn (below_by (by rw[←HA.out];exact HBA.out) gS (by rw[HA.out];exact Nat.le_refl _))
 have e0:(wA.setCell ⟨A,0,none⟩ (.int .i64 0)).cell? ⟨b,o,none⟩=some (.int .i64 0):=by
  have hlt:=World.block_lt_of_cell? w _ c0
  have h1:Below w.heap.size w (wA.setCell ⟨A,0,none⟩ (.int .i64 0)):=HB2.out
  exact (h1.cell (p:=⟨b,o,none⟩) hlt).trans c0
 clear gS c0
 go_upto_region 3 with fail
 clear d0 f0
 generalize wA.setCell ⟨A,0,none⟩ (.int .i64 0)=w2 at HK2 HB2 e0 ⊢
 have HKX:Hid (Bk w2 A 58 vF):=hdn (by rw[HVF.out];exact HK2.out)
 go_wp2_with (first |((with_reducible show wpList _ _ _ (Oper.mk (some 61) _ _ _ _ _::_) _ _);refine wpList_load_arr_g 58 (.tmp 3) rfl rfl A 0 rfl vF _ HKX.out.range Tryz.underlying58 rfl HSF.out ?_)|((with_reducible show wpList _ _ _ (Oper.mk (some 62) _ _ _ _ _::_) _ _);refine wpList_build1_g 63 3 (.tmp 61) (.agg vF) rfl rfl rfl _ HBL.out ?_)|(go_at_call 137;refine (HNT.out _).mono ?_;rintro e w9 ⟨rfl,hb⟩;have HB9:=hdn (HB2.out.trans (hb.mono HB2.out.size));clear hb))
 go_ret
 exact ⟨rfl,HB9.out⟩
theorem isVal3 (x:Vl) (b o:Nat) (w:World) (hg:Gl w) (hr:w.rangeAt b o x.cells) (hl:vlLies w x) (k:x.kind=3) (hv:Pn.noVal {x with kind:=0}=true):
  Calls Tryz.prog 157 #[.pointer (some ⟨b,o,none⟩)] w fun e w'=>e= .returned (.bool true)∧Below w.heap.size w w':=by
 obtain ⟨vs,hvs⟩: ∃vs,vs=(Vl.cells x).toArray:=⟨_,rfl⟩
 have HR:Hid (w.rangeAt b o vs.toList):=hdn (by rw[hvs];exact hr)
 have HSI:Hid ((Tryz.prog.info? 58).map (·.size)=some vs.size):=hdn (by rw[hvs];exact size49c)
 have HZ:Hid (12=vs.size):=hdn (by rw[hvs];rfl)
 have HON:Hid (vs.all (·.oneCell')=true):=hdn (by rw[hvs];simp[Value.oneCell'])
 obtain ⟨vF,hvF⟩: ∃vF,vF=(Vl.cells {x with kind:=0}).toArray:=⟨_,rfl⟩
 have HSF:Hid ((Tryz.prog.info? 58).map (·.size)=some vF.size):=hdn (by rw[hvF];exact size49c)
 have HVF:=hdn hvF
 obtain ⟨cF,hcF⟩: ∃cF,cF=(valIt {x with kind:=0}).cells.toArray:=⟨_,rfl⟩
 have HBL:Hid (Tryz.prog.built 63 [(3,.agg vF)]=some cF):=hdn (by rw[hvF,hcF];exact valIt_built _)
 have HNT:Hid (∀w,Calls Tryz.prog 137 #[.agg cF] w fun e w'=>e= .returned (.bool true)∧Below w.heap.size w w'):=hdn (fun w=>by
  have:=isNothing_any (valIt {x with kind:=0}) cF hcF w (valIt_lies _ w (noVal_hops hv))
  rwa[valIt_same _ hv] at this)
 clear hv hvF hcF
 obtain ⟨wA,hwA⟩: ∃wA:World,wA=w.alloc (.cells vs 58):=⟨_,rfl⟩
 have HBA:Hid (Below w.heap.size w wA):=hdn (by rw[hwA];exact (Below.refl _ _).alloc (Nat.le_refl _) _)
 have HK:Hid (Bk wA w.heap.size 58 vs):=hdn (by rw[hwA];exact heap_alloc_new _ _)
 have HW:=hdn hwA
 have HV:=hdn hvs
 have HR0:=hdn hr;have HG0:=hdn hg;have HL0:=hdn hl
 have c0:=cell_at hr 0 _ rfl
 rw[k] at c0
 clear hwA hr hvs hg hl k
 go_enter Tryz.func157,Tryz.ntmps157
 go_upto_region 2 with (first |((with_reducible show wpList _ _ _ (Oper.mk (some 7) _ _ _ _ _::_) _ _);refine wpList_load_arr rfl 58 (.tmp 6) rfl b o rfl vs _ HR.out Tryz.underlying58 rfl HSI.out ?_)|((with_reducible show wpList _ _ _ (Oper.mk none (Op.store 58 _ _) _ _ _ _::_) _ _);refine wpList_store_new rfl 58 (.tmp 3) (.tmp 7) rfl _ vs rfl rfl HSI.out HZ.out HON.out ?_))
 rw[←HW.out]
 obtain ⟨A,hA⟩: ∃A,A=w.heap.size:=⟨_,rfl⟩
 rw[←hA] at HK HBA ⊢
 have HA:=hdn hA
 clear hA
 have d0:wA.cell? ⟨A,0,none⟩=some (.int .i64 x.kind):=by have:=HK.out;rw[HV.out] at this;exact this.cell 0
 have f0:=HK.out.frozen 0
 have gS:=grownBy_setC wA ⟨A,0,none⟩ (.int .i64 0)
 have HK2:Hid (Bk (wA.setCell ⟨A,0,none⟩ (.int .i64 0)) A 58 (Vl.cells {x with kind:=0}).toArray):=hdn (by
  have:=HK.out
  rw[HV.out] at this
  exact this.setArr 0 (.int .i64 0))
 have HB2:Hid (Below w.heap.size w (wA.setCell ⟨A,0,none⟩ (.int .i64 0))):=hdn (below_by (by rw[←HA.out];exact HBA.out) gS (by rw[HA.out];exact Nat.le_refl _))
 have e0:(wA.setCell ⟨A,0,none⟩ (.int .i64 0)).cell? ⟨b,o,none⟩=some (.int .i64 3):=by
  have hlt:=World.block_lt_of_cell? w _ c0
  have h1:Below w.heap.size w (wA.setCell ⟨A,0,none⟩ (.int .i64 0)):=HB2.out
  exact (h1.cell (p:=⟨b,o,none⟩) hlt).trans c0
 clear gS c0
 go_upto_region 3 with fail
 clear d0 f0
 generalize wA.setCell ⟨A,0,none⟩ (.int .i64 0)=w2 at HK2 HB2 e0 ⊢
 have HKX:Hid (Bk w2 A 58 vF):=hdn (by rw[HVF.out];exact HK2.out)
 go_wp2_with (first |((with_reducible show wpList _ _ _ (Oper.mk (some 61) _ _ _ _ _::_) _ _);refine wpList_load_arr_g 58 (.tmp 3) rfl rfl A 0 rfl vF _ HKX.out.range Tryz.underlying58 rfl HSF.out ?_)|((with_reducible show wpList _ _ _ (Oper.mk (some 62) _ _ _ _ _::_) _ _);refine wpList_build1_g 63 3 (.tmp 61) (.agg vF) rfl rfl rfl _ HBL.out ?_)|(go_at_call 137;refine (HNT.out _).mono ?_;rintro e w9 ⟨rfl,hb⟩;have HB9:=hdn (HB2.out.trans (hb.mono HB2.out.size));clear hb))
 go_ret
 exact ⟨rfl,HB9.out⟩
theorem isVal1 (x:Vl) (b o:Nat) (w:World) (hg:Gl w) (hr:w.rangeAt b o x.cells) (hl:vlLies w x) (k:x.kind=1) (hp:Pn.okPath x.path=true) (hv:Pn.noVal {x with kind:=0,path:=Pr.noPth}=true):
  Calls Tryz.prog 157 #[.pointer (some ⟨b,o,none⟩)] w fun e w'=>e= .returned (.bool true)∧Below w.heap.size w w':=by
 obtain ⟨vs,hvs⟩: ∃vs,vs=(Vl.cells x).toArray:=⟨_,rfl⟩
 have HR:Hid (w.rangeAt b o vs.toList):=hdn (by rw[hvs];exact hr)
 have HSI:Hid ((Tryz.prog.info? 58).map (·.size)=some vs.size):=hdn (by rw[hvs];exact size49c)
 have HZ:Hid (12=vs.size):=hdn (by rw[hvs];rfl)
 have HON:Hid (vs.all (·.oneCell')=true):=hdn (by rw[hvs];simp[Value.oneCell'])
 obtain ⟨vF,hvF⟩: ∃vF,vF=(Vl.cells {x with kind:=0,path:=Pr.noPth}).toArray:=⟨_,rfl⟩
 have HSF:Hid ((Tryz.prog.info? 58).map (·.size)=some vF.size):=hdn (by rw[hvF];exact size49c)
 have HVF:=hdn hvF
 obtain ⟨cF,hcF⟩: ∃cF,cF=(valIt {x with kind:=0,path:=Pr.noPth}).cells.toArray:=⟨_,rfl⟩
 have HBL:Hid (Tryz.prog.built 63 [(3,.agg vF)]=some cF):=hdn (by rw[hvF,hcF];exact valIt_built _)
 have HNT:Hid (∀w,Calls Tryz.prog 137 #[.agg cF] w fun e w'=>e= .returned (.bool true)∧Below w.heap.size w w'):=hdn (fun w=>by
  have:=isNothing_any (valIt {x with kind:=0,path:=Pr.noPth}) cF hcF w (valIt_lies _ w (noVal_hops hv))
  rwa[valIt_same _ hv] at this)
 clear hv hvF hcF
 obtain ⟨wA,hwA⟩: ∃wA:World,wA=w.alloc (.cells vs 58):=⟨_,rfl⟩
 have HBA:Hid (Below w.heap.size w wA):=hdn (by rw[hwA];exact (Below.refl _ _).alloc (Nat.le_refl _) _)
 have HK:Hid (Bk wA w.heap.size 58 vs):=hdn (by rw[hwA];exact heap_alloc_new _ _)
 have HW:=hdn hwA
 have HV:=hdn hvs
 have HR0:=hdn hr;have HG0:=hdn hg;have HL0:=hdn hl
 have c0:=cell_at hr 0 _ rfl
 rw[k] at c0
 have HP:=hdn hp
 clear hp
 clear hwA hr hvs hg hl k
 go_enter Tryz.func157,Tryz.ntmps157
 go_upto_region 2 with (first |((with_reducible show wpList _ _ _ (Oper.mk (some 7) _ _ _ _ _::_) _ _);refine wpList_load_arr rfl 58 (.tmp 6) rfl b o rfl vs _ HR.out Tryz.underlying58 rfl HSI.out ?_)|((with_reducible show wpList _ _ _ (Oper.mk none (Op.store 58 _ _) _ _ _ _::_) _ _);refine wpList_store_new rfl 58 (.tmp 3) (.tmp 7) rfl _ vs rfl rfl HSI.out HZ.out HON.out ?_))
 rw[←HW.out]
 obtain ⟨A,hA⟩: ∃A,A=w.heap.size:=⟨_,rfl⟩
 rw[←hA] at HK HBA ⊢
 have HA:=hdn hA
 clear hA
 have d0:wA.cell? ⟨A,0,none⟩=some (.int .i64 x.kind):=by have:=HK.out;rw[HV.out] at this;exact this.cell 0
 have f0:=HK.out.frozen 0
 have gS:=grownBy_setC wA ⟨A,0,none⟩ (.int .i64 0)
 have HK2:Hid (Bk (wA.setCell ⟨A,0,none⟩ (.int .i64 0)) A 58 (Vl.cells {x with kind:=0}).toArray):=hdn (by
  have:=HK.out
  rw[HV.out] at this
  exact this.setArr 0 (.int .i64 0))
 have HB2:Hid (Below w.heap.size w (wA.setCell ⟨A,0,none⟩ (.int .i64 0))):=hdn (below_by (by rw[←HA.out];exact HBA.out) gS (by rw[HA.out];exact Nat.le_refl _))
 have e0:(wA.setCell ⟨A,0,none⟩ (.int .i64 0)).cell? ⟨b,o,none⟩=some (.int .i64 1):=by
  have hlt:=World.block_lt_of_cell? w _ c0
  have h1:Below w.heap.size w (wA.setCell ⟨A,0,none⟩ (.int .i64 0)):=HB2.out
  exact (h1.cell (p:=⟨b,o,none⟩) hlt).trans c0
 clear gS c0
 go_upto_region 3 with fail
 clear d0 f0
 generalize wA.setCell ⟨A,0,none⟩ (.int .i64 0)=w2 at HK2 HB2 e0 ⊢
 go_upto_region 9 with (first |((with_reducible show wpList _ _ _ (Oper.mk (some 18) _ _ _ _ _::_) _ _);refine wpList_zero rfl 40 rfl (some 18) rfl _ zPth_built ?_)|((with_reducible show wpList _ _ _ (Oper.mk none (Op.store 40 _ _) _ _ _ _::_) _ _);refine wpList_store_part rfl 40 (.tmp 19) (.tmp 18) rfl A 2 58 (Vl.cells {x with kind:=0}) (Pth.cells Pr.noPth) rfl rfl HK2.out size45p (by show 2+3≤12;decide) zPth_one ?_;intro w3 hk3 hg3;have HK3:Hid (Bk w3 A 58 (Vl.cells {x with kind:=0,path:=Pr.noPth}).toArray):=hdn hk3;have HG3:=hdn hg3;clear hk3 hg3 e0))
 have HB3:Hid (Below w.heap.size w w3):=hdn (below_by HB2.out HG3.out (by rw[HA.out];exact Nat.le_refl _))
 have HC:=hdn (isPath_any x.path b (o+2) w3 (HG0.out.below HB3.out HG0.out.two) HP.out (rangeAt_sub (rangeAt_below HR0.out HB3.out) 2 3 rfl) (pthLies_below (pthLies_of HL0.out) HB3.out))
 have HKX:Hid (Bk w3 A 58 vF):=hdn (by rw[HVF.out];exact HK3.out)
 go_wp2_with (first |(go_at_call 156;refine HC.out.mono ?_;rintro e w4 ⟨rfl,rfl⟩)|((with_reducible show wpList _ _ _ (Oper.mk (some 61) _ _ _ _ _::_) _ _);refine wpList_load_arr_g 58 (.tmp 3) rfl rfl A 0 rfl vF _ HKX.out.range Tryz.underlying58 rfl HSF.out ?_)|((with_reducible show wpList _ _ _ (Oper.mk (some 62) _ _ _ _ _::_) _ _);refine wpList_build1_g 63 3 (.tmp 61) (.agg vF) rfl rfl rfl _ HBL.out ?_)|(go_at_call 137;refine (HNT.out _).mono ?_;rintro e w9 ⟨rfl,hb⟩;have HB9:=hdn (HB3.out.trans (hb.mono HB3.out.size));clear hb))
 go_ret
 exact ⟨rfl,HB9.out⟩
theorem isVal2 (x:Vl) (b o:Nat) (w:World) (hg:Gl w) (hr:w.rangeAt b o x.cells) (hl:vlLies w x) (k:x.kind=2) (ht:Pn.okN x.type=true) (hv:Pn.noVal {x with kind:=0,type:=ByteArray.empty}=true):
  Calls Tryz.prog 157 #[.pointer (some ⟨b,o,none⟩)] w fun e w'=>e= .returned (.bool true)∧Below w.heap.size w w':=by
 obtain ⟨vs,hvs⟩: ∃vs,vs=(Vl.cells x).toArray:=⟨_,rfl⟩
 have HR:Hid (w.rangeAt b o vs.toList):=hdn (by rw[hvs];exact hr)
 have HSI:Hid ((Tryz.prog.info? 58).map (·.size)=some vs.size):=hdn (by rw[hvs];exact size49c)
 have HZ:Hid (12=vs.size):=hdn (by rw[hvs];rfl)
 have HON:Hid (vs.all (·.oneCell')=true):=hdn (by rw[hvs];simp[Value.oneCell'])
 obtain ⟨vF,hvF⟩: ∃vF,vF=(Vl.cells {x with kind:=0,type:=ByteArray.empty}).toArray:=⟨_,rfl⟩
 have HSF:Hid ((Tryz.prog.info? 58).map (·.size)=some vF.size):=hdn (by rw[hvF];exact size49c)
 have HVF:=hdn hvF
 obtain ⟨cF,hcF⟩: ∃cF,cF=(valIt {x with kind:=0,type:=ByteArray.empty}).cells.toArray:=⟨_,rfl⟩
 have HBL:Hid (Tryz.prog.built 63 [(3,.agg vF)]=some cF):=hdn (by rw[hvF,hcF];exact valIt_built _)
 have HNT:Hid (∀w,Calls Tryz.prog 137 #[.agg cF] w fun e w'=>e= .returned (.bool true)∧Below w.heap.size w w'):=hdn (fun w=>by
  have:=isNothing_any (valIt {x with kind:=0,type:=ByteArray.empty}) cF hcF w (valIt_lies _ w (noVal_hops hv))
  rwa[valIt_same _ hv] at this)
 clear hv hvF hcF
 obtain ⟨wA,hwA⟩: ∃wA:World,wA=w.alloc (.cells vs 58):=⟨_,rfl⟩
 have HBA:Hid (Below w.heap.size w wA):=hdn (by rw[hwA];exact (Below.refl _ _).alloc (Nat.le_refl _) _)
 have HK:Hid (Bk wA w.heap.size 58 vs):=hdn (by rw[hwA];exact heap_alloc_new _ _)
 have HW:=hdn hwA
 have HV:=hdn hvs
 have HR0:=hdn hr;have HG0:=hdn hg;have HL0:=hdn hl
 have c0:=cell_at hr 0 _ rfl
 rw[k] at c0
 have HT:=hdn ht
 clear ht
 clear hwA hr hvs hg hl k
 go_enter Tryz.func157,Tryz.ntmps157
 go_upto_region 2 with (first |((with_reducible show wpList _ _ _ (Oper.mk (some 7) _ _ _ _ _::_) _ _);refine wpList_load_arr rfl 58 (.tmp 6) rfl b o rfl vs _ HR.out Tryz.underlying58 rfl HSI.out ?_)|((with_reducible show wpList _ _ _ (Oper.mk none (Op.store 58 _ _) _ _ _ _::_) _ _);refine wpList_store_new rfl 58 (.tmp 3) (.tmp 7) rfl _ vs rfl rfl HSI.out HZ.out HON.out ?_))
 rw[←HW.out]
 obtain ⟨A,hA⟩: ∃A,A=w.heap.size:=⟨_,rfl⟩
 rw[←hA] at HK HBA ⊢
 have HA:=hdn hA
 clear hA
 have d0:wA.cell? ⟨A,0,none⟩=some (.int .i64 x.kind):=by have:=HK.out;rw[HV.out] at this;exact this.cell 0
 have f0:=HK.out.frozen 0
 have gS:=grownBy_setC wA ⟨A,0,none⟩ (.int .i64 0)
 have HK2:Hid (Bk (wA.setCell ⟨A,0,none⟩ (.int .i64 0)) A 58 (Vl.cells {x with kind:=0}).toArray):=hdn (by
  have:=HK.out
  rw[HV.out] at this
  exact this.setArr 0 (.int .i64 0))
 have HB2:Hid (Below w.heap.size w (wA.setCell ⟨A,0,none⟩ (.int .i64 0))):=hdn (below_by (by rw[←HA.out];exact HBA.out) gS (by rw[HA.out];exact Nat.le_refl _))
 have e0:(wA.setCell ⟨A,0,none⟩ (.int .i64 0)).cell? ⟨b,o,none⟩=some (.int .i64 2):=by
  have hlt:=World.block_lt_of_cell? w _ c0
  have h1:Below w.heap.size w (wA.setCell ⟨A,0,none⟩ (.int .i64 0)):=HB2.out
  exact (h1.cell (p:=⟨b,o,none⟩) hlt).trans c0
 clear gS c0
 go_upto_region 3 with fail
 clear d0 f0
 generalize wA.setCell ⟨A,0,none⟩ (.int .i64 0)=w2 at HK2 HB2 e0 ⊢
 have d5:w2.cell? ⟨A,5,none⟩=some (.string x.type):=HK2.out.cell 5
 have f5:=HK2.out.frozen 5
 have gS:=grownBy_setC w2 ⟨A,5,none⟩ (.string ByteArray.empty)
 have HK3:Hid (Bk (w2.setCell ⟨A,5,none⟩ (.string ByteArray.empty)) A 58 (Vl.cells {x with kind:=0,type:=ByteArray.empty}).toArray):=hdn (HK2.out.setArr 5 (.string ByteArray.empty))
 have HB3:Hid (Below w.heap.size w (w2.setCell ⟨A,5,none⟩ (.string ByteArray.empty))):=hdn (below_by HB2.out gS (by rw[HA.out];exact Nat.le_refl _))
 clear gS
 go_upto_region 12 with fail
 change Code.wp _ _ _ _ (w2.setCell ⟨A,5,none⟩ (.string ByteArray.empty))
 clear d5 f5 e0
 generalize w2.setCell ⟨A,5,none⟩ (.string ByteArray.empty)=w3 at HK3 HB3 ⊢
 have q5:w3.cell? ⟨b,o+5,none⟩=some (.string x.type):=cell_at (rangeAt_below HR0.out HB3.out) 5 _ rfl
 have HC:=hdn (isName_ok x.type w3 (HG0.out.below HB3.out HG0.out.two) HT.out)
 have HKX:Hid (Bk w3 A 58 vF):=hdn (by rw[HVF.out];exact HK3.out)
 go_wp2_with (first |(go_at_call 114;refine HC.out.mono ?_;rintro e w4 ⟨rfl,rfl⟩)|((with_reducible show wpList _ _ _ (Oper.mk (some 61) _ _ _ _ _::_) _ _);refine wpList_load_arr_g 58 (.tmp 3) rfl rfl A 0 rfl vF _ HKX.out.range Tryz.underlying58 rfl HSF.out ?_)|((with_reducible show wpList _ _ _ (Oper.mk (some 62) _ _ _ _ _::_) _ _);refine wpList_build1_g 63 3 (.tmp 61) (.agg vF) rfl rfl rfl _ HBL.out ?_)|(go_at_call 137;refine (HNT.out _).mono ?_;rintro e w9 ⟨rfl,hb⟩;have HB9:=hdn (HB3.out.trans (hb.mono HB3.out.size));clear hb))
 go_ret
 exact ⟨rfl,HB9.out⟩
theorem isVal4 (x:Vl) (b o:Nat) (w:World) (hg:Gl w) (hr:w.rangeAt b o x.cells) (hl:vlLies w x) (k:x.kind=4) (hn:Pn.okNum x.left.n=true) (hv:Pn.noVal {x with kind:=0,left:= {x.left with n:=0}}=true):
  Calls Tryz.prog 157 #[.pointer (some ⟨b,o,none⟩)] w fun e w'=>e= .returned (.bool true)∧Below w.heap.size w w':=by
 obtain ⟨vs,hvs⟩: ∃vs,vs=(Vl.cells x).toArray:=⟨_,rfl⟩
 have HR:Hid (w.rangeAt b o vs.toList):=hdn (by rw[hvs];exact hr)
 have HSI:Hid ((Tryz.prog.info? 58).map (·.size)=some vs.size):=hdn (by rw[hvs];exact size49c)
 have HZ:Hid (12=vs.size):=hdn (by rw[hvs];rfl)
 have HON:Hid (vs.all (·.oneCell')=true):=hdn (by rw[hvs];simp[Value.oneCell'])
 obtain ⟨vF,hvF⟩: ∃vF,vF=(Vl.cells {x with kind:=0,left:= {x.left with n:=0}}).toArray:=⟨_,rfl⟩
 have HSF:Hid ((Tryz.prog.info? 58).map (·.size)=some vF.size):=hdn (by rw[hvF];exact size49c)
 have HVF:=hdn hvF
 obtain ⟨cF,hcF⟩: ∃cF,cF=(valIt {x with kind:=0,left:= {x.left with n:=0}}).cells.toArray:=⟨_,rfl⟩
 have HBL:Hid (Tryz.prog.built 63 [(3,.agg vF)]=some cF):=hdn (by rw[hvF,hcF];exact valIt_built _)
 have HNT:Hid (∀w,Calls Tryz.prog 137 #[.agg cF] w fun e w'=>e= .returned (.bool true)∧Below w.heap.size w w'):=hdn (fun w=>by
  have:=isNothing_any (valIt {x with kind:=0,left:= {x.left with n:=0}}) cF hcF w (valIt_lies _ w (noVal_hops hv))
  rwa[valIt_same _ hv] at this)
 clear hv hvF hcF
 obtain ⟨wA,hwA⟩: ∃wA:World,wA=w.alloc (.cells vs 58):=⟨_,rfl⟩
 have HBA:Hid (Below w.heap.size w wA):=hdn (by rw[hwA];exact (Below.refl _ _).alloc (Nat.le_refl _) _)
 have HK:Hid (Bk wA w.heap.size 58 vs):=hdn (by rw[hwA];exact heap_alloc_new _ _)
 have HW:=hdn hwA
 have HV:=hdn hvs
 have HR0:=hdn hr;have HG0:=hdn hg;have HL0:=hdn hl
 have c0:=cell_at hr 0 _ rfl
 rw[k] at c0
 have HN:=hdn hn
 clear hn
 clear hwA hr hvs hg hl k
 go_enter Tryz.func157,Tryz.ntmps157
 go_upto_region 2 with (first |((with_reducible show wpList _ _ _ (Oper.mk (some 7) _ _ _ _ _::_) _ _);refine wpList_load_arr rfl 58 (.tmp 6) rfl b o rfl vs _ HR.out Tryz.underlying58 rfl HSI.out ?_)|((with_reducible show wpList _ _ _ (Oper.mk none (Op.store 58 _ _) _ _ _ _::_) _ _);refine wpList_store_new rfl 58 (.tmp 3) (.tmp 7) rfl _ vs rfl rfl HSI.out HZ.out HON.out ?_))
 rw[←HW.out]
 obtain ⟨A,hA⟩: ∃A,A=w.heap.size:=⟨_,rfl⟩
 rw[←hA] at HK HBA ⊢
 have HA:=hdn hA
 clear hA
 have d0:wA.cell? ⟨A,0,none⟩=some (.int .i64 x.kind):=by have:=HK.out;rw[HV.out] at this;exact this.cell 0
 have f0:=HK.out.frozen 0
 have gS:=grownBy_setC wA ⟨A,0,none⟩ (.int .i64 0)
 have HK2:Hid (Bk (wA.setCell ⟨A,0,none⟩ (.int .i64 0)) A 58 (Vl.cells {x with kind:=0}).toArray):=hdn (by
  have:=HK.out
  rw[HV.out] at this
  exact this.setArr 0 (.int .i64 0))
 have HB2:Hid (Below w.heap.size w (wA.setCell ⟨A,0,none⟩ (.int .i64 0))):=hdn (below_by (by rw[←HA.out];exact HBA.out) gS (by rw[HA.out];exact Nat.le_refl _))
 have e0:(wA.setCell ⟨A,0,none⟩ (.int .i64 0)).cell? ⟨b,o,none⟩=some (.int .i64 4):=by
  have hlt:=World.block_lt_of_cell? w _ c0
  have h1:Below w.heap.size w (wA.setCell ⟨A,0,none⟩ (.int .i64 0)):=HB2.out
  exact (h1.cell (p:=⟨b,o,none⟩) hlt).trans c0
 clear gS c0
 go_upto_region 3 with fail
 clear d0 f0
 generalize wA.setCell ⟨A,0,none⟩ (.int .i64 0)=w2 at HK2 HB2 e0 ⊢
 have d7:w2.cell? ⟨A,7,none⟩=some (.int .i64 x.left.n):=HK2.out.cell 7
 have f7:=HK2.out.frozen 7
 have gS:=grownBy_setC w2 ⟨A,7,none⟩ (.int .i64 0)
 have HK3:Hid (Bk (w2.setCell ⟨A,7,none⟩ (.int .i64 0)) A 58 (Vl.cells {x with kind:=0,left:= {x.left with n:=0}}).toArray):=hdn (HK2.out.setArr 7 (.int .i64 0))
 have HB3:Hid (Below w.heap.size w (w2.setCell ⟨A,7,none⟩ (.int .i64 0))):=hdn (below_by HB2.out gS (by rw[HA.out];exact Nat.le_refl _))
 clear gS
 go_upto_region 15 with fail
 clear d7 f7 e0
 generalize w2.setCell ⟨A,7,none⟩ (.int .i64 0)=w3 at HK3 HB3 ⊢
 have q7:w3.cell? ⟨b,o+7,none⟩=some (.int .i64 x.left.n):=cell_at (rangeAt_below HR0.out HB3.out) 7 _ rfl
 have HC:=hdn (isNumber_any x.left.n w3 HN.out)
 have HKX:Hid (Bk w3 A 58 vF):=hdn (by rw[HVF.out];exact HK3.out)
 go_wp2_with (first |(go_at_call 171;refine HC.out.mono ?_;rintro e w4 ⟨rfl,rfl⟩)|((with_reducible show wpList _ _ _ (Oper.mk (some 61) _ _ _ _ _::_) _ _);refine wpList_load_arr_g 58 (.tmp 3) rfl rfl A 0 rfl vF _ HKX.out.range Tryz.underlying58 rfl HSF.out ?_)|((with_reducible show wpList _ _ _ (Oper.mk (some 62) _ _ _ _ _::_) _ _);refine wpList_build1_g 63 3 (.tmp 61) (.agg vF) rfl rfl rfl _ HBL.out ?_)|(go_at_call 137;refine (HNT.out _).mono ?_;rintro e w9 ⟨rfl,hb⟩;have HB9:=hdn (HB3.out.trans (hb.mono HB3.out.size));clear hb))
 go_ret
 exact ⟨rfl,HB9.out⟩
theorem isVal5 (x:Vl) (b o:Nat) (w:World) (hg:Gl w) (hr:w.rangeAt b o x.cells) (hl:vlLies w x) (k:x.kind=5) (hs:Pn.okTerm x.left=true) (ht:Pn.okTerm x.right=true) (hv:Pn.noVal {x with kind:=0,left:=Pr.noTm,right:=Pr.noTm}=true):
  Calls Tryz.prog 157 #[.pointer (some ⟨b,o,none⟩)] w fun e w'=>e= .returned (.bool true)∧Below w.heap.size w w':=by
 obtain ⟨vs,hvs⟩: ∃vs,vs=(Vl.cells x).toArray:=⟨_,rfl⟩
 have HR:Hid (w.rangeAt b o vs.toList):=hdn (by rw[hvs];exact hr)
 have HSI:Hid ((Tryz.prog.info? 58).map (·.size)=some vs.size):=hdn (by rw[hvs];exact size49c)
 have HZ:Hid (12=vs.size):=hdn (by rw[hvs];rfl)
 have HON:Hid (vs.all (·.oneCell')=true):=hdn (by rw[hvs];simp[Value.oneCell'])
 obtain ⟨vF,hvF⟩: ∃vF,vF=(Vl.cells {x with kind:=0,left:=Pr.noTm,right:=Pr.noTm}).toArray:=⟨_,rfl⟩
 have HSF:Hid ((Tryz.prog.info? 58).map (·.size)=some vF.size):=hdn (by rw[hvF];exact size49c)
 have HVF:=hdn hvF
 obtain ⟨cF,hcF⟩: ∃cF,cF=(valIt {x with kind:=0,left:=Pr.noTm,right:=Pr.noTm}).cells.toArray:=⟨_,rfl⟩
 have HBL:Hid (Tryz.prog.built 63 [(3,.agg vF)]=some cF):=hdn (by rw[hvF,hcF];exact valIt_built _)
 have HNT:Hid (∀w,Calls Tryz.prog 137 #[.agg cF] w fun e w'=>e= .returned (.bool true)∧Below w.heap.size w w'):=hdn (fun w=>by
  have:=isNothing_any (valIt {x with kind:=0,left:=Pr.noTm,right:=Pr.noTm}) cF hcF w (valIt_lies _ w (noVal_hops hv))
  rwa[valIt_same _ hv] at this)
 clear hv hvF hcF
 obtain ⟨wA,hwA⟩: ∃wA:World,wA=w.alloc (.cells vs 58):=⟨_,rfl⟩
 have HBA:Hid (Below w.heap.size w wA):=hdn (by rw[hwA];exact (Below.refl _ _).alloc (Nat.le_refl _) _)
 have HK:Hid (Bk wA w.heap.size 58 vs):=hdn (by rw[hwA];exact heap_alloc_new _ _)
 have HW:=hdn hwA
 have HV:=hdn hvs
 have HR0:=hdn hr;have HG0:=hdn hg;have HL0:=hdn hl
 have c0:=cell_at hr 0 _ rfl
 rw[k] at c0
 have HS:=hdn hs;have HT:=hdn ht
 clear hs ht
 clear hwA hr hvs hg hl k
 go_enter Tryz.func157,Tryz.ntmps157
 go_upto_region 2 with (first |((with_reducible show wpList _ _ _ (Oper.mk (some 7) _ _ _ _ _::_) _ _);refine wpList_load_arr rfl 58 (.tmp 6) rfl b o rfl vs _ HR.out Tryz.underlying58 rfl HSI.out ?_)|((with_reducible show wpList _ _ _ (Oper.mk none (Op.store 58 _ _) _ _ _ _::_) _ _);refine wpList_store_new rfl 58 (.tmp 3) (.tmp 7) rfl _ vs rfl rfl HSI.out HZ.out HON.out ?_))
 rw[←HW.out]
 obtain ⟨A,hA⟩: ∃A,A=w.heap.size:=⟨_,rfl⟩
 rw[←hA] at HK HBA ⊢
 have HA:=hdn hA
 clear hA
 have d0:wA.cell? ⟨A,0,none⟩=some (.int .i64 x.kind):=by have:=HK.out;rw[HV.out] at this;exact this.cell 0
 have f0:=HK.out.frozen 0
 have gS:=grownBy_setC wA ⟨A,0,none⟩ (.int .i64 0)
 have HK2:Hid (Bk (wA.setCell ⟨A,0,none⟩ (.int .i64 0)) A 58 (Vl.cells {x with kind:=0}).toArray):=hdn (by
  have:=HK.out
  rw[HV.out] at this
  exact this.setArr 0 (.int .i64 0))
 have HB2:Hid (Below w.heap.size w (wA.setCell ⟨A,0,none⟩ (.int .i64 0))):=hdn (below_by (by rw[←HA.out];exact HBA.out) gS (by rw[HA.out];exact Nat.le_refl _))
 have e0:(wA.setCell ⟨A,0,none⟩ (.int .i64 0)).cell? ⟨b,o,none⟩=some (.int .i64 5):=by
  have hlt:=World.block_lt_of_cell? w _ c0
  have h1:Below w.heap.size w (wA.setCell ⟨A,0,none⟩ (.int .i64 0)):=HB2.out
  exact (h1.cell (p:=⟨b,o,none⟩) hlt).trans c0
 clear gS c0
 go_upto_region 3 with fail
 clear d0 f0
 generalize wA.setCell ⟨A,0,none⟩ (.int .i64 0)=w2 at HK2 HB2 e0 ⊢
 go_upto_region 19 with (first |((with_reducible show wpList _ _ _ (Oper.mk (some 45) _ _ _ _ _::_) _ _);refine wpList_zero rfl 56 rfl (some 45) rfl _ zTm_built ?_)|((with_reducible show wpList _ _ _ (Oper.mk (some 46) _ _ _ _ _::_) _ _);refine wpList_zero rfl 56 rfl (some 46) rfl _ zTm_built ?_)|((with_reducible show wpList _ _ _ (Oper.mk none (Op.store 56 _ _) _ _ _ _::_) _ _);refine wpList_store_part rfl 56 (.tmp 47) (.tmp 45) rfl A 6 58 (Vl.cells {x with kind:=0}) (Tm.cells Pr.noTm) rfl rfl HK2.out size47v (by show 6+3≤12;decide) zTm_one ?_;intro w3 hk3 hg3;have HK3:Hid (Bk w3 A 58 (Vl.cells {x with kind:=0,left:=Pr.noTm}).toArray):=hdn hk3;have HG3:=hdn hg3;clear hk3 hg3 e0)|((with_reducible show wpList _ _ _ (Oper.mk none (Op.store 56 _ _) _ _ _ _::_) _ _);refine wpList_store_part rfl 56 (.tmp 48) (.tmp 46) rfl A 9 58 (Vl.cells {x with kind:=0,left:=Pr.noTm}) (Tm.cells Pr.noTm) rfl rfl HK3.out size47v (by show 9+3≤12;decide) zTm_one ?_;intro w4 hk4 hg4;have HK4:Hid (Bk w4 A 58 (Vl.cells {x with kind:=0,left:=Pr.noTm,right:=Pr.noTm}).toArray):=hdn hk4;have HG4:=hdn hg4;clear hk4 hg4))
 have HB3:Hid (Below w.heap.size w w3):=hdn (below_by HB2.out HG3.out (by rw[HA.out];exact Nat.le_refl _))
 have HB4:Hid (Below w.heap.size w w4):=hdn (below_by HB3.out HG4.out (by rw[HA.out];exact Nat.le_refl _))
 have HC1:=hdn (isTerm_any x.left b (o+6) w4 (HG0.out.below HB4.out HG0.out.two) HS.out (rangeAt_sub (rangeAt_below HR0.out HB4.out) 6 3 rfl))
 have HC2:=hdn (isTerm_any x.right b (o+9) w4 (HG0.out.below HB4.out HG0.out.two) HT.out (rangeAt_sub (rangeAt_below HR0.out HB4.out) 9 3 rfl))
 have HKX:Hid (Bk w4 A 58 vF):=hdn (by rw[HVF.out];exact HK4.out)
 go_wp2_with (first |(go_at_call 172;(with_reducible refine HC1.out.mono ?_);rintro e w5 ⟨rfl,rfl⟩)|(go_at_call 172;(with_reducible refine HC2.out.mono ?_);rintro e w5 ⟨rfl,rfl⟩)|((with_reducible show wpList _ _ _ (Oper.mk (some 61) _ _ _ _ _::_) _ _);refine wpList_load_arr_g 58 (.tmp 3) rfl rfl A 0 rfl vF _ HKX.out.range Tryz.underlying58 rfl HSF.out ?_)|((with_reducible show wpList _ _ _ (Oper.mk (some 62) _ _ _ _ _::_) _ _);refine wpList_build1_g 63 3 (.tmp 61) (.agg vF) rfl rfl rfl _ HBL.out ?_)|(go_at_call 137;refine (HNT.out _).mono ?_;rintro e w9 ⟨rfl,hb⟩;have HB9:=hdn (HB4.out.trans (hb.mono HB4.out.size));clear hb))
 go_ret
 exact ⟨rfl,HB9.out⟩
theorem isVal6 (x:Vl) (b o:Nat) (w:World) (hg:Gl w) (hr:w.rangeAt b o x.cells) (hl:vlLies w x) (k:x.kind=6) (hs:Pn.okTerm x.left=true) (ht:Pn.okTerm x.right=true) (hv:Pn.noVal {x with kind:=0,left:=Pr.noTm,right:=Pr.noTm}=true):
  Calls Tryz.prog 157 #[.pointer (some ⟨b,o,none⟩)] w fun e w'=>e= .returned (.bool true)∧Below w.heap.size w w':=by
 obtain ⟨vs,hvs⟩: ∃vs,vs=(Vl.cells x).toArray:=⟨_,rfl⟩
 have HR:Hid (w.rangeAt b o vs.toList):=hdn (by rw[hvs];exact hr)
 have HSI:Hid ((Tryz.prog.info? 58).map (·.size)=some vs.size):=hdn (by rw[hvs];exact size49c)
 have HZ:Hid (12=vs.size):=hdn (by rw[hvs];rfl)
 have HON:Hid (vs.all (·.oneCell')=true):=hdn (by rw[hvs];simp[Value.oneCell'])
 obtain ⟨vF,hvF⟩: ∃vF,vF=(Vl.cells {x with kind:=0,left:=Pr.noTm,right:=Pr.noTm}).toArray:=⟨_,rfl⟩
 have HSF:Hid ((Tryz.prog.info? 58).map (·.size)=some vF.size):=hdn (by rw[hvF];exact size49c)
 have HVF:=hdn hvF
 obtain ⟨cF,hcF⟩: ∃cF,cF=(valIt {x with kind:=0,left:=Pr.noTm,right:=Pr.noTm}).cells.toArray:=⟨_,rfl⟩
 have HBL:Hid (Tryz.prog.built 63 [(3,.agg vF)]=some cF):=hdn (by rw[hvF,hcF];exact valIt_built _)
 have HNT:Hid (∀w,Calls Tryz.prog 137 #[.agg cF] w fun e w'=>e= .returned (.bool true)∧Below w.heap.size w w'):=hdn (fun w=>by
  have:=isNothing_any (valIt {x with kind:=0,left:=Pr.noTm,right:=Pr.noTm}) cF hcF w (valIt_lies _ w (noVal_hops hv))
  rwa[valIt_same _ hv] at this)
 clear hv hvF hcF
 obtain ⟨wA,hwA⟩: ∃wA:World,wA=w.alloc (.cells vs 58):=⟨_,rfl⟩
 have HBA:Hid (Below w.heap.size w wA):=hdn (by rw[hwA];exact (Below.refl _ _).alloc (Nat.le_refl _) _)
 have HK:Hid (Bk wA w.heap.size 58 vs):=hdn (by rw[hwA];exact heap_alloc_new _ _)
 have HW:=hdn hwA
 have HV:=hdn hvs
 have HR0:=hdn hr;have HG0:=hdn hg;have HL0:=hdn hl
 have c0:=cell_at hr 0 _ rfl
 rw[k] at c0
 have HS:=hdn hs;have HT:=hdn ht
 clear hs ht
 clear hwA hr hvs hg hl k
 go_enter Tryz.func157,Tryz.ntmps157
 go_upto_region 2 with (first |((with_reducible show wpList _ _ _ (Oper.mk (some 7) _ _ _ _ _::_) _ _);refine wpList_load_arr rfl 58 (.tmp 6) rfl b o rfl vs _ HR.out Tryz.underlying58 rfl HSI.out ?_)|((with_reducible show wpList _ _ _ (Oper.mk none (Op.store 58 _ _) _ _ _ _::_) _ _);refine wpList_store_new rfl 58 (.tmp 3) (.tmp 7) rfl _ vs rfl rfl HSI.out HZ.out HON.out ?_))
 rw[←HW.out]
 obtain ⟨A,hA⟩: ∃A,A=w.heap.size:=⟨_,rfl⟩
 rw[←hA] at HK HBA ⊢
 have HA:=hdn hA
 clear hA
 have d0:wA.cell? ⟨A,0,none⟩=some (.int .i64 x.kind):=by have:=HK.out;rw[HV.out] at this;exact this.cell 0
 have f0:=HK.out.frozen 0
 have gS:=grownBy_setC wA ⟨A,0,none⟩ (.int .i64 0)
 have HK2:Hid (Bk (wA.setCell ⟨A,0,none⟩ (.int .i64 0)) A 58 (Vl.cells {x with kind:=0}).toArray):=hdn (by
  have:=HK.out
  rw[HV.out] at this
  exact this.setArr 0 (.int .i64 0))
 have HB2:Hid (Below w.heap.size w (wA.setCell ⟨A,0,none⟩ (.int .i64 0))):=hdn (below_by (by rw[←HA.out];exact HBA.out) gS (by rw[HA.out];exact Nat.le_refl _))
 have e0:(wA.setCell ⟨A,0,none⟩ (.int .i64 0)).cell? ⟨b,o,none⟩=some (.int .i64 6):=by
  have hlt:=World.block_lt_of_cell? w _ c0
  have h1:Below w.heap.size w (wA.setCell ⟨A,0,none⟩ (.int .i64 0)):=HB2.out
  exact (h1.cell (p:=⟨b,o,none⟩) hlt).trans c0
 clear gS c0
 go_upto_region 3 with fail
 clear d0 f0
 generalize wA.setCell ⟨A,0,none⟩ (.int .i64 0)=w2 at HK2 HB2 e0 ⊢
 go_upto_region 19 with (first |((with_reducible show wpList _ _ _ (Oper.mk (some 45) _ _ _ _ _::_) _ _);refine wpList_zero rfl 56 rfl (some 45) rfl _ zTm_built ?_)|((with_reducible show wpList _ _ _ (Oper.mk (some 46) _ _ _ _ _::_) _ _);refine wpList_zero rfl 56 rfl (some 46) rfl _ zTm_built ?_)|((with_reducible show wpList _ _ _ (Oper.mk none (Op.store 56 _ _) _ _ _ _::_) _ _);refine wpList_store_part rfl 56 (.tmp 47) (.tmp 45) rfl A 6 58 (Vl.cells {x with kind:=0}) (Tm.cells Pr.noTm) rfl rfl HK2.out size47v (by show 6+3≤12;decide) zTm_one ?_;intro w3 hk3 hg3;have HK3:Hid (Bk w3 A 58 (Vl.cells {x with kind:=0,left:=Pr.noTm}).toArray):=hdn hk3;have HG3:=hdn hg3;clear hk3 hg3 e0)|((with_reducible show wpList _ _ _ (Oper.mk none (Op.store 56 _ _) _ _ _ _::_) _ _);refine wpList_store_part rfl 56 (.tmp 48) (.tmp 46) rfl A 9 58 (Vl.cells {x with kind:=0,left:=Pr.noTm}) (Tm.cells Pr.noTm) rfl rfl HK3.out size47v (by show 9+3≤12;decide) zTm_one ?_;intro w4 hk4 hg4;have HK4:Hid (Bk w4 A 58 (Vl.cells {x with kind:=0,left:=Pr.noTm,right:=Pr.noTm}).toArray):=hdn hk4;have HG4:=hdn hg4;clear hk4 hg4))
 have HB3:Hid (Below w.heap.size w w3):=hdn (below_by HB2.out HG3.out (by rw[HA.out];exact Nat.le_refl _))
 have HB4:Hid (Below w.heap.size w w4):=hdn (below_by HB3.out HG4.out (by rw[HA.out];exact Nat.le_refl _))
 have HC1:=hdn (isTerm_any x.left b (o+6) w4 (HG0.out.below HB4.out HG0.out.two) HS.out (rangeAt_sub (rangeAt_below HR0.out HB4.out) 6 3 rfl))
 have HC2:=hdn (isTerm_any x.right b (o+9) w4 (HG0.out.below HB4.out HG0.out.two) HT.out (rangeAt_sub (rangeAt_below HR0.out HB4.out) 9 3 rfl))
 have HKX:Hid (Bk w4 A 58 vF):=hdn (by rw[HVF.out];exact HK4.out)
 go_wp2_with (first |(go_at_call 172;(with_reducible refine HC1.out.mono ?_);rintro e w5 ⟨rfl,rfl⟩)|(go_at_call 172;(with_reducible refine HC2.out.mono ?_);rintro e w5 ⟨rfl,rfl⟩)|((with_reducible show wpList _ _ _ (Oper.mk (some 61) _ _ _ _ _::_) _ _);refine wpList_load_arr_g 58 (.tmp 3) rfl rfl A 0 rfl vF _ HKX.out.range Tryz.underlying58 rfl HSF.out ?_)|((with_reducible show wpList _ _ _ (Oper.mk (some 62) _ _ _ _ _::_) _ _);refine wpList_build1_g 63 3 (.tmp 61) (.agg vF) rfl rfl rfl _ HBL.out ?_)|(go_at_call 137;refine (HNT.out _).mono ?_;rintro e w9 ⟨rfl,hb⟩;have HB9:=hdn (HB4.out.trans (hb.mono HB4.out.size));clear hb))
 go_ret
 exact ⟨rfl,HB9.out⟩
theorem isValue_any (x:Vl) (b o:Nat) (w:World) (hg:Gl w) (ho:Pn.okVal x=true) (hr:w.rangeAt b o x.cells) (hl:vlLies w x):
  Calls Tryz.prog 157 #[.pointer (some ⟨b,o,none⟩)] w fun e w'=>e= .returned (.bool true)∧Below w.heap.size w w':=by
 unfold Pn.okVal at ho
 have nv: ∀v:Vl,v.kind=0→(Pn.noP v.path && Pn.noT v.left && Pn.noT v.right && decide (Pn.txt v.type= []))=true→Pn.noVal v=true:=fun v h0 h=>by
  unfold Pn.noVal Pn.okVal
  rw[if_pos (.inl h0),h,decide_eq_true h0];rfl
 by_cases k03:x.kind=0∨x.kind=3
 ·rw[if_pos k03] at ho
  have hv:=nv {x with kind:=0} rfl ho
  rcases k03 with k |k
  ·exact isVal0 x b o w hg hr hl k hv
  ·exact isVal3 x b o w hg hr hl k hv
 rw[if_neg k03] at ho
 by_cases k1:x.kind=1
 ·rw[if_pos k1] at ho
  simp only[Bool.and_eq_true] at ho
  exact isVal1 x b o w hg hr hl k1 ho.2 (nv {x with kind:=0,path:=Pr.noPth} rfl (by rw[show Pn.noT x.left=true from ho.1.1.1,show Pn.noT x.right=true from ho.1.1.2,ho.1.2];rfl))
 rw[if_neg k1] at ho
 by_cases k2:x.kind=2
 ·rw[if_pos k2] at ho
  simp only[Bool.and_eq_true] at ho
  exact isVal2 x b o w hg hr hl k2 ho.2 (nv {x with kind:=0,type:=ByteArray.empty} rfl (by rw[show Pn.noP x.path=true from ho.1.1.1,show Pn.noT x.left=true from ho.1.1.2,show Pn.noT x.right=true from ho.1.2];rfl))
 rw[if_neg k2] at ho
 by_cases k4:x.kind=4
 ·rw[if_pos k4] at ho
  simp only[Bool.and_eq_true] at ho
  exact isVal4 x b o w hg hr hl k4 ho.2 (nv {x with kind:=0,left:= {x.left with n:=0}} rfl (by
   rw[show Pn.noP x.path=true from ho.1.1.1.1,show Pn.noT x.right=true from ho.1.1.1.2,ho.1.1.2]
   show (true && Pn.noT {x.left with n:=0} && true && true)=true
   unfold Pn.noT
   rw[ho.1.2];rfl))
 rw[if_neg k4] at ho
 by_cases k56:x.kind=5∨x.kind=6
 ·rw[if_pos k56] at ho
  simp only[Bool.and_eq_true] at ho
  have hv:=nv {x with kind:=0,left:=Pr.noTm,right:=Pr.noTm} rfl (by rw[show Pn.noP x.path=true from ho.1.1.1,ho.1.1.2];rfl)
  rcases k56 with k |k
  ·exact isVal5 x b o w hg hr hl k ho.1.2 ho.2 hv
  ·exact isVal6 x b o w hg hr hl k ho.1.2 ho.2 hv
 ·rw[if_neg k56] at ho;cases ho
theorem isSide_any (x:Vl) (b o:Nat) (w:World) (hg:Gl w) (ho:Pn.okSide x=true) (hr:w.rangeAt b o x.cells) (hl:vlLies w x):
  Calls Tryz.prog 159 #[.pointer (some ⟨b,o,none⟩)] w fun e w'=>e= .returned (.bool true)∧Below w.heap.size w w':=by
 unfold Pn.okSide at ho
 simp only[Bool.and_eq_true,Bool.or_eq_true,decide_eq_true_eq] at ho
 obtain ⟨hv,hk⟩:=ho
 have CV:=hdn (isValue_any x b o w hg hv hr hl)
 have c0:=cell_at hr 0 _ rfl
 rw[Nat.add_zero] at c0
 clear hg hv hr hl
 rcases hk with (k |k)|k
 ·rw[k] at c0
  clear k
  go_enter Tryz.func159,Tryz.ntmps159
  go_wp2_with (go_at_call 157;refine CV.out.mono ?_;rintro e w1 ⟨rfl,hb⟩;have HB1:=hdn hb;clear hb)
  go_ret
  exact ⟨rfl,HB1.out⟩
 ·rw[k] at c0
  clear k
  go_enter Tryz.func159,Tryz.ntmps159
  go_wp2_with (go_at_call 157;refine CV.out.mono ?_;rintro e w1 ⟨rfl,hb⟩;have HB1:=hdn hb;clear hb)
  go_ret
  exact ⟨rfl,HB1.out⟩
 ·rw[k] at c0
  clear k
  go_enter Tryz.func159,Tryz.ntmps159
  go_wp2_with (go_at_call 157;refine CV.out.mono ?_;rintro e w1 ⟨rfl,hb⟩;have HB1:=hdn hb;clear hb)
  go_ret
  exact ⟨rfl,HB1.out⟩
def condIt (c:Cd):It:= {zIt with h:= {Pr.noHd with cond:=c}}
theorem condIt_built (c:Cd):Tryz.prog.built 63 [(4,.agg (Cd.cells c).toArray)]=some (condIt c).cells.toArray:=by kernel_rfl
theorem condIt_lies (c:Cd) (w:World) (h:Pn.noCond c=true):itLies w (condIt c):=by
 unfold Pn.noCond at h
 simp only[Bool.and_eq_true] at h
 exact ⟨⟨no_lies ..,no_lies ..,nil_lies _ _ _ _ _ (noVal_hops h.1.2),nil_lies _ _ _ _ _ (noVal_hops h.2),no_lies ..,noName⟩,⟨noLen,.inl rfl⟩,⟨noLen,.inl rfl⟩⟩
theorem condIt_same (c:Cd) (h:Pn.noCond c=true):sameSL zIt.one (condIt c).one=true:=by
 have e:(condIt c).one.er=zIt.one.er:=by
  show SL.cons {Pr.noHd.er with cond:=c.er} none 0 SL.nil none 0 SL.nil SL.nil=_
  rw[Pn.noCond_er h];rfl
 rw[sameSL_er,e];exact sameSL_refl _
theorem size51c:(Tryz.prog.info? 60).map (·.size)=some 26:=by kernel_rfl
theorem isCond0 (c:Cd) (b o:Nat) (w:World) (hc:Pn.noCond c=true) (hr:w.rangeAt b o c.cells):
  Calls Tryz.prog 160 #[.pointer (some ⟨b,o,none⟩)] w fun e w'=>e= .returned (.bool true)∧Below w.heap.size w w':=by
 obtain ⟨vs,hvs⟩: ∃vs,vs=(Cd.cells c).toArray:=⟨_,rfl⟩
 have HR:Hid (w.rangeAt b o vs.toList):=hdn (by rw[hvs];exact hr)
 have HSI:Hid ((Tryz.prog.info? 60).map (·.size)=some vs.size):=hdn (by rw[hvs];exact size51c)
 obtain ⟨cF,hcF⟩: ∃cF,cF=(condIt c).cells.toArray:=⟨_,rfl⟩
 have HBL:Hid (Tryz.prog.built 63 [(4,.agg vs)]=some cF):=hdn (by rw[hvs,hcF];exact condIt_built _)
 have HNT:Hid (Calls Tryz.prog 137 #[.agg cF] w fun e w'=>e= .returned (.bool true)∧Below w.heap.size w w'):=hdn (by
  have:=isNothing_any (condIt c) cF hcF w (condIt_lies _ w hc)
  rwa[condIt_same _ hc] at this)
 have c0:=cell_at hr 0 _ rfl
 have k:c.kind=0:=by
  unfold Pn.noCond at hc
  simp only[Bool.and_eq_true,decide_eq_true_eq] at hc
  exact hc.1.1
 rw[k,Nat.add_zero] at c0
 clear hc hr hvs hcF k
 go_enter Tryz.func160,Tryz.ntmps160
 go_wp2_with (first |((with_reducible show wpList _ _ _ (Oper.mk (some 11) _ _ _ _ _::_) _ _);refine wpList_load_arr rfl 60 (.tmp 10) rfl b o rfl vs _ HR.out Tryz.underlying60 rfl HSI.out ?_)|((with_reducible show wpList _ _ _ (Oper.mk (some 12) _ _ _ _ _::_) _ _);refine wpList_build1_g 63 4 (.tmp 11) (.agg vs) rfl rfl rfl _ HBL.out ?_)|(go_at_call 137;refine HNT.out.mono ?_;rintro e w9 ⟨rfl,hb⟩;have HB9:=hdn hb;clear hb))
 go_ret
 exact ⟨rfl,HB9.out⟩
theorem isCond_any (c:Cd) (b o:Nat) (w:World) (hg:Gl w) (ho:Pn.okCond c=true) (hr:w.rangeAt b o c.cells) (hl:vlLies w c.left) (hrr:vlLies w c.right):
  Calls Tryz.prog 160 #[.pointer (some ⟨b,o,none⟩)] w fun e w'=>e= .returned (.bool true)∧Below w.heap.size w w':=by
 unfold Pn.okCond at ho
 by_cases k0:c.kind=0
 ·rw[if_pos k0] at ho
  exact isCond0 c b o w ho hr
 rw[if_neg k0] at ho
 simp only[Bool.and_eq_true,decide_eq_true_eq] at ho
 have CL:=hdn (isSide_any c.left b (o+2) w hg ho.1.2 (rangeAt_sub hr 2 12 rfl) hl)
 have CR:Hid (∀w',Below w.heap.size w w'→Calls Tryz.prog 159 #[.pointer (some ⟨b,o+14,none⟩)] w' fun e w''=>e= .returned (.bool true)∧Below w'.heap.size w' w''):=
  hdn (fun w' hb=>isSide_any c.right b (o+14) w' (hg.below hb hg.two) ho.2 (rangeAt_sub (rangeAt_below hr hb) 14 12 rfl) (vlLies_below hrr hb))
 have c0:=cell_at hr 0 _ rfl
 rw[Nat.add_zero] at c0
 have hk:c.kind=1∨c.kind=2∨c.kind=3∨c.kind=4:=by omega
 clear hg hr hl hrr k0 ho
 rcases hk with k |k |k |k
 ·rw[k] at c0
  clear k
  go_enter Tryz.func160,Tryz.ntmps160
  go_wp2_with (first |(go_at_call 159;(with_reducible refine CL.out.mono ?_);rintro e w1 ⟨rfl,hb⟩;have HB1:=hdn hb;clear hb)|(go_at_call 159;(with_reducible refine (CR.out _ HB1.out).mono ?_);rintro e w2 ⟨rfl,hb⟩;have HB2:=hdn (HB1.out.trans (hb.mono HB1.out.size));clear hb))
  go_ret
  exact ⟨rfl,HB2.out⟩
 ·rw[k] at c0
  clear k
  go_enter Tryz.func160,Tryz.ntmps160
  go_wp2_with (first |(go_at_call 159;(with_reducible refine CL.out.mono ?_);rintro e w1 ⟨rfl,hb⟩;have HB1:=hdn hb;clear hb)|(go_at_call 159;(with_reducible refine (CR.out _ HB1.out).mono ?_);rintro e w2 ⟨rfl,hb⟩;have HB2:=hdn (HB1.out.trans (hb.mono HB1.out.size));clear hb))
  go_ret
  exact ⟨rfl,HB2.out⟩
 ·rw[k] at c0
  clear k
  go_enter Tryz.func160,Tryz.ntmps160
  go_wp2_with (first |(go_at_call 159;(with_reducible refine CL.out.mono ?_);rintro e w1 ⟨rfl,hb⟩;have HB1:=hdn hb;clear hb)|(go_at_call 159;(with_reducible refine (CR.out _ HB1.out).mono ?_);rintro e w2 ⟨rfl,hb⟩;have HB2:=hdn (HB1.out.trans (hb.mono HB1.out.size));clear hb))
  go_ret
  exact ⟨rfl,HB2.out⟩
 ·rw[k] at c0
  clear k
  go_enter Tryz.func160,Tryz.ntmps160
  go_wp2_with (first |(go_at_call 159;(with_reducible refine CL.out.mono ?_);rintro e w1 ⟨rfl,hb⟩;have HB1:=hdn hb;clear hb)|(go_at_call 159;(with_reducible refine (CR.out _ HB1.out).mono ?_);rintro e w2 ⟨rfl,hb⟩;have HB2:=hdn (HB1.out.trans (hb.mono HB1.out.size));clear hb))
  go_ret
  exact ⟨rfl,HB2.out⟩
end Go.Proofs.YtcehbcnloiooaaaGreatDoor
namespace Go.Proofs.YtcehbcnloiooaaaGreatDoor
open Go.RowKit Go.Sort
theorem besides0g (x:It) (cs:Array Value) (hcs:cs=x.cells.toArray) (w:World) (k:x.h.kind=0):
  Calls Tryz.prog 138 #[.agg cs] w fun e w'=>e= .returned (.agg (It.cells {x with h:= {x.h with kind:=0}}).toArray)∧Below w.heap.size w w':=by
 obtain ⟨wA,hwA⟩: ∃wA:World,wA=(w.alloc (.cells cs 63)).alloc (.cells zIt.cells.toArray 63):=⟨_,rfl⟩
 have HBA:Hid (Below w.heap.size w wA):=hdn (by rw[hwA];exact ((Below.refl _ _).alloc (Nat.le_refl _) _).alloc (by simp) _)
 have HK:Hid (Bk wA w.heap.size 63 x.cells.toArray):=hdn (by rw[hwA,←hcs];exact heap_alloc2_old _ _ _)
 have HR:Hid (Bk wA (w.heap.size+1) 63 zIt.cells.toArray):=hdn (by rw[hwA];exact heap_alloc2_new _ _ _)
 have Z_k:=hdn k
 clear k hcs
 go_enter Tryz.func138,Tryz.ntmps138
 go_upto_region 1 with fail
 change Code.wp _ _ _ _ ((w.alloc (.cells cs 63)).alloc (.cells zIt.cells.toArray 63))
 rw[←hwA]
 clear hwA
 obtain ⟨A,hA⟩: ∃A,A=w.heap.size:=⟨_,rfl⟩
 rw[←hA] at HK HR HBA ⊢
 have HA:=hdn hA
 clear hA
 have HBw:Hid (Below w.heap.size w wA):=hdn (by rw[←HA.out];exact HBA.out)
 have HKw:Hid (Bk wA A 63 (It.cells x).toArray):=HK
 have c0:wA.cell? ⟨A,0,none⟩=some (.int .i64 x.h.kind):=HK.out.cell 0
 rw[Z_k.out] at c0
 clear HK HBA
 have q0:wA.cell? ⟨A,0,none⟩=some (.int .i64 x.h.kind):=HKw.out.cell 0
 clear c0
 rw[Z_k.out] at q0
 have f0:=HKw.out.frozen 0
 have gS:=grownBy_setC wA ⟨A,0,none⟩ (.int .i64 0)
 have HK3:Hid (Bk (wA.setCell ⟨A,0,none⟩ (.int .i64 0)) A 63 (It.cells {x with h:= {x.h with kind:=0}}).toArray):=hdn (HKw.out.setArr 0 (.int .i64 0))
 have HR3:=hdn (HR.out.kept gS (by show A+1≠A;omega))
 have HB3:Hid (Below w.heap.size w (wA.setCell ⟨A,0,none⟩ (.int .i64 0))):=hdn (below_by HBw.out gS (by rw[HA.out];exact Nat.le_refl _))
 clear gS
 go_wp2_with (first |((with_reducible show wpList _ _ _ (Oper.mk (some 37) _ _ _ _ _::_) _ _);refine wpList_load_bk rfl 63 (.tmp 1) rfl A 63 (It.cells {x with h:= {x.h with kind:=0}}).toArray rfl _ HK3.out Tryz.underlying63 rfl size57 ?_)|((with_reducible show wpList _ _ _ (Oper.mk none (Op.store 63 _ _) _ _ _ _::_) _ _);refine wpList_store_bk rfl 63 (.tmp 2) (.tmp 37) rfl (A+1) 63 _ (It.cells {x with h:= {x.h with kind:=0}}).toArray rfl rfl HR3.out size57 rfl (scells_one _ _ _ _ _ _ _) ?_;intro wZ hZ hF))
 exact bodyPost_ret (results_cell_row Tryz.results138 _ wZ (A+1) 63 (It.cells {x with h:= {x.h with kind:=0}}).toArray (0,0) _ rfl hZ Tryz.underlying63 rfl size57) rfl ⟨rfl,below_by HB3.out hF (by rw[HA.out];exact Nat.le_succ _)⟩
theorem besides2g (x:It) (cs:Array Value) (hcs:cs=x.cells.toArray) (w:World) (k:x.h.kind=2):
  Calls Tryz.prog 138 #[.agg cs] w fun e w'=>e= .returned (.agg (It.cells {x with h:= {x.h with kind:=0,place:=Pr.noPth}}).toArray)∧Below w.heap.size w w':=by
 obtain ⟨wA,hwA⟩: ∃wA:World,wA=(w.alloc (.cells cs 63)).alloc (.cells zIt.cells.toArray 63):=⟨_,rfl⟩
 have HBA:Hid (Below w.heap.size w wA):=hdn (by rw[hwA];exact ((Below.refl _ _).alloc (Nat.le_refl _) _).alloc (by simp) _)
 have HK:Hid (Bk wA w.heap.size 63 x.cells.toArray):=hdn (by rw[hwA,←hcs];exact heap_alloc2_old _ _ _)
 have HR:Hid (Bk wA (w.heap.size+1) 63 zIt.cells.toArray):=hdn (by rw[hwA];exact heap_alloc2_new _ _ _)
 have Z_k:=hdn k
 clear k hcs
 go_enter Tryz.func138,Tryz.ntmps138
 go_upto_region 1 with fail
 change Code.wp _ _ _ _ ((w.alloc (.cells cs 63)).alloc (.cells zIt.cells.toArray 63))
 rw[←hwA]
 clear hwA
 obtain ⟨A,hA⟩: ∃A,A=w.heap.size:=⟨_,rfl⟩
 rw[←hA] at HK HR HBA ⊢
 have HA:=hdn hA
 clear hA
 have HBw:Hid (Below w.heap.size w wA):=hdn (by rw[←HA.out];exact HBA.out)
 have HKw:Hid (Bk wA A 63 (It.cells x).toArray):=HK
 have c0:wA.cell? ⟨A,0,none⟩=some (.int .i64 x.h.kind):=HK.out.cell 0
 rw[Z_k.out] at c0
 clear HK HBA
 go_upto_region 16 with (first |((with_reducible show wpList _ _ _ (Oper.mk (some 13) _ _ _ _ _::_) _ _);refine wpList_zero rfl 40 rfl (some 13) rfl _ zPth_built ?_)|((with_reducible show wpList _ _ _ (Oper.mk none (Op.store 40 _ _) _ _ _ _::_) _ _);refine wpList_store_part rfl 40 (.tmp 14) (.tmp 13) rfl A 2 63 (It.cells x) (Pth.cells Pr.noPth) rfl rfl HKw.out size45p (by show 2+3≤48;decide) zPth_one ?_;intro v1 hk hg;have HKn:Hid (Bk v1 A 63 (It.cells {x with h:= {x.h with place:=Pr.noPth}}).toArray):=hdn hk;have HG:=hdn hg;clear hk hg c0))
 have HBn:Hid (Below w.heap.size w v1):=hdn (below_by HBw.out HG.out (by rw[HA.out];exact Nat.le_refl _))
 have HRn:=hdn (HR.out.kept HG.out (by omega))
 clear HKw HBw HR
 have HKw:=HKn;have HBw:=HBn;have HR:=HRn
 clear HKn HBn HRn
 have q0:v1.cell? ⟨A,0,none⟩=some (.int .i64 x.h.kind):=HKw.out.cell 0
 have f0:=HKw.out.frozen 0
 have gS:=grownBy_setC v1 ⟨A,0,none⟩ (.int .i64 0)
 have HK3:Hid (Bk (v1.setCell ⟨A,0,none⟩ (.int .i64 0)) A 63 (It.cells {x with h:= {x.h with kind:=0,place:=Pr.noPth}}).toArray):=hdn (HKw.out.setArr 0 (.int .i64 0))
 have HR3:=hdn (HR.out.kept gS (by show A+1≠A;omega))
 have HB3:Hid (Below w.heap.size w (v1.setCell ⟨A,0,none⟩ (.int .i64 0))):=hdn (below_by HBw.out gS (by rw[HA.out];exact Nat.le_refl _))
 clear gS
 go_wp2_with (first |((with_reducible show wpList _ _ _ (Oper.mk (some 37) _ _ _ _ _::_) _ _);refine wpList_load_bk rfl 63 (.tmp 1) rfl A 63 (It.cells {x with h:= {x.h with kind:=0,place:=Pr.noPth}}).toArray rfl _ HK3.out Tryz.underlying63 rfl size57 ?_)|((with_reducible show wpList _ _ _ (Oper.mk none (Op.store 63 _ _) _ _ _ _::_) _ _);refine wpList_store_bk rfl 63 (.tmp 2) (.tmp 37) rfl (A+1) 63 _ (It.cells {x with h:= {x.h with kind:=0,place:=Pr.noPth}}).toArray rfl rfl HR3.out size57 rfl (scells_one _ _ _ _ _ _ _) ?_;intro wZ hZ hF))
 exact bodyPost_ret (results_cell_row Tryz.results138 _ wZ (A+1) 63 (It.cells {x with h:= {x.h with kind:=0,place:=Pr.noPth}}).toArray (0,0) _ rfl hZ Tryz.underlying63 rfl size57) rfl ⟨rfl,below_by HB3.out hF (by rw[HA.out];exact Nat.le_succ _)⟩
theorem besides3g (x:It) (cs:Array Value) (hcs:cs=x.cells.toArray) (w:World) (k:x.h.kind=3):
  Calls Tryz.prog 138 #[.agg cs] w fun e w'=>e= .returned (.agg (It.cells {x with h:= {x.h with kind:=0,name:=ByteArray.empty,args:=⟨none,0,[]⟩}}).toArray)∧Below w.heap.size w w':=by
 obtain ⟨wA,hwA⟩: ∃wA:World,wA=(w.alloc (.cells cs 63)).alloc (.cells zIt.cells.toArray 63):=⟨_,rfl⟩
 have HBA:Hid (Below w.heap.size w wA):=hdn (by rw[hwA];exact ((Below.refl _ _).alloc (Nat.le_refl _) _).alloc (by simp) _)
 have HK:Hid (Bk wA w.heap.size 63 x.cells.toArray):=hdn (by rw[hwA,←hcs];exact heap_alloc2_old _ _ _)
 have HR:Hid (Bk wA (w.heap.size+1) 63 zIt.cells.toArray):=hdn (by rw[hwA];exact heap_alloc2_new _ _ _)
 have Z_k:=hdn k
 clear k hcs
 go_enter Tryz.func138,Tryz.ntmps138
 go_upto_region 1 with fail
 change Code.wp _ _ _ _ ((w.alloc (.cells cs 63)).alloc (.cells zIt.cells.toArray 63))
 rw[←hwA]
 clear hwA
 obtain ⟨A,hA⟩: ∃A,A=w.heap.size:=⟨_,rfl⟩
 rw[←hA] at HK HR HBA ⊢
 have HA:=hdn hA
 clear hA
 have HBw:Hid (Below w.heap.size w wA):=hdn (by rw[←HA.out];exact HBA.out)
 have HKw:Hid (Bk wA A 63 (It.cells x).toArray):=HK
 have c0:wA.cell? ⟨A,0,none⟩=some (.int .i64 x.h.kind):=HK.out.cell 0
 rw[Z_k.out] at c0
 clear HK HBA
 have d43:(wA).cell? ⟨A,43,none⟩=some (.string x.h.name):=HKw.out.cell 43
 have f43:=HKw.out.frozen 43
 have g43:=grownBy_setC (wA) ⟨A,43,none⟩ (.string ⟨#[]⟩)
 have HK43:Hid (Bk ((wA).setCell ⟨A,43,none⟩ (.string ⟨#[]⟩)) A 63 (It.cells {x with h:= {x.h with name:=ByteArray.empty}}).toArray):=hdn (HKw.out.setArr 43 (.string ⟨#[]⟩))
 have HR43:=hdn (HR.out.kept g43 (by show A+1≠A;omega))
 have HB43:Hid (Below w.heap.size w ((wA).setCell ⟨A,43,none⟩ (.string ⟨#[]⟩))):=hdn (below_by HBw.out g43 (by rw[HA.out];exact Nat.le_refl _))
 clear g43
 have d44:((wA).setCell ⟨A,43,none⟩ (.string ⟨#[]⟩)).cell? ⟨A,44,none⟩=some (.slice x.h.args.p x.h.args.l.length x.h.args.cap):=HK43.out.cell 44
 have f44:=HK43.out.frozen 44
 have g44:=grownBy_setC ((wA).setCell ⟨A,43,none⟩ (.string ⟨#[]⟩)) ⟨A,44,none⟩ (.slice none 0 0)
 have HK44:Hid (Bk (((wA).setCell ⟨A,43,none⟩ (.string ⟨#[]⟩)).setCell ⟨A,44,none⟩ (.slice none 0 0)) A 63 (It.cells {x with h:= {x.h with name:=ByteArray.empty,args:=⟨none,0,[]⟩}}).toArray):=hdn (HK43.out.setArr 44 (.slice none 0 0))
 have HR44:=hdn (HR43.out.kept g44 (by show A+1≠A;omega))
 have HB44:Hid (Below w.heap.size w (((wA).setCell ⟨A,43,none⟩ (.string ⟨#[]⟩)).setCell ⟨A,44,none⟩ (.slice none 0 0))):=hdn (below_by HB43.out g44 (by rw[HA.out];exact Nat.le_refl _))
 clear g44
 go_upto_region 16 with fail
 clear d43 f43 d44 f44 c0 HKw HBw HR
 clear HK43 HR43 HB43
 change Code.wp _ _ _ _ (((wA).setCell ⟨A,43,none⟩ (.string ⟨#[]⟩)).setCell ⟨A,44,none⟩ (.slice none 0 0))
 generalize hq1:((wA).setCell ⟨A,43,none⟩ (.string ⟨#[]⟩)).setCell ⟨A,44,none⟩ (.slice none 0 0)=v1 at HK44 HB44 HR44 ⊢
 clear hq1
 have HKw:=HK44;have HBw:=HB44;have HR:=HR44
 clear HK44 HB44 HR44
 have q0:v1.cell? ⟨A,0,none⟩=some (.int .i64 x.h.kind):=HKw.out.cell 0
 have f0:=HKw.out.frozen 0
 have gS:=grownBy_setC v1 ⟨A,0,none⟩ (.int .i64 0)
 have HK3:Hid (Bk (v1.setCell ⟨A,0,none⟩ (.int .i64 0)) A 63 (It.cells {x with h:= {x.h with kind:=0,name:=ByteArray.empty,args:=⟨none,0,[]⟩}}).toArray):=hdn (HKw.out.setArr 0 (.int .i64 0))
 have HR3:=hdn (HR.out.kept gS (by show A+1≠A;omega))
 have HB3:Hid (Below w.heap.size w (v1.setCell ⟨A,0,none⟩ (.int .i64 0))):=hdn (below_by HBw.out gS (by rw[HA.out];exact Nat.le_refl _))
 clear gS
 go_wp2_with (first |((with_reducible show wpList _ _ _ (Oper.mk (some 37) _ _ _ _ _::_) _ _);refine wpList_load_bk rfl 63 (.tmp 1) rfl A 63 (It.cells {x with h:= {x.h with kind:=0,name:=ByteArray.empty,args:=⟨none,0,[]⟩}}).toArray rfl _ HK3.out Tryz.underlying63 rfl size57 ?_)|((with_reducible show wpList _ _ _ (Oper.mk none (Op.store 63 _ _) _ _ _ _::_) _ _);refine wpList_store_bk rfl 63 (.tmp 2) (.tmp 37) rfl (A+1) 63 _ (It.cells {x with h:= {x.h with kind:=0,name:=ByteArray.empty,args:=⟨none,0,[]⟩}}).toArray rfl rfl HR3.out size57 rfl (scells_one _ _ _ _ _ _ _) ?_;intro wZ hZ hF))
 exact bodyPost_ret (results_cell_row Tryz.results138 _ wZ (A+1) 63 (It.cells {x with h:= {x.h with kind:=0,name:=ByteArray.empty,args:=⟨none,0,[]⟩}}).toArray (0,0) _ rfl hZ Tryz.underlying63 rfl size57) rfl ⟨rfl,below_by HB3.out hF (by rw[HA.out];exact Nat.le_succ _)⟩
theorem besides6g (x:It) (cs:Array Value) (hcs:cs=x.cells.toArray) (w:World) (k:x.h.kind=6):
  Calls Tryz.prog 138 #[.agg cs] w fun e w'=>e= .returned (.agg (It.cells {x with h:= {x.h with kind:=0},tp:=none,tc:=0,t:= .nil}).toArray)∧Below w.heap.size w w':=by
 obtain ⟨wA,hwA⟩: ∃wA:World,wA=(w.alloc (.cells cs 63)).alloc (.cells zIt.cells.toArray 63):=⟨_,rfl⟩
 have HBA:Hid (Below w.heap.size w wA):=hdn (by rw[hwA];exact ((Below.refl _ _).alloc (Nat.le_refl _) _).alloc (by simp) _)
 have HK:Hid (Bk wA w.heap.size 63 x.cells.toArray):=hdn (by rw[hwA,←hcs];exact heap_alloc2_old _ _ _)
 have HR:Hid (Bk wA (w.heap.size+1) 63 zIt.cells.toArray):=hdn (by rw[hwA];exact heap_alloc2_new _ _ _)
 have Z_k:=hdn k
 clear k hcs
 go_enter Tryz.func138,Tryz.ntmps138
 go_upto_region 1 with fail
 change Code.wp _ _ _ _ ((w.alloc (.cells cs 63)).alloc (.cells zIt.cells.toArray 63))
 rw[←hwA]
 clear hwA
 obtain ⟨A,hA⟩: ∃A,A=w.heap.size:=⟨_,rfl⟩
 rw[←hA] at HK HR HBA ⊢
 have HA:=hdn hA
 clear hA
 have HBw:Hid (Below w.heap.size w wA):=hdn (by rw[←HA.out];exact HBA.out)
 have HKw:Hid (Bk wA A 63 (It.cells x).toArray):=HK
 have c0:wA.cell? ⟨A,0,none⟩=some (.int .i64 x.h.kind):=HK.out.cell 0
 rw[Z_k.out] at c0
 clear HK HBA
 have d45:(wA).cell? ⟨A,45,none⟩=some (.slice x.tp x.t.len x.tc):=HKw.out.cell 45
 have f45:=HKw.out.frozen 45
 have g45:=grownBy_setC (wA) ⟨A,45,none⟩ (.slice none 0 0)
 have HK45:Hid (Bk ((wA).setCell ⟨A,45,none⟩ (.slice none 0 0)) A 63 (It.cells {x with tp:=none,tc:=0,t:= .nil}).toArray):=hdn (HKw.out.setArr 45 (.slice none 0 0))
 have HR45:=hdn (HR.out.kept g45 (by show A+1≠A;omega))
 have HB45:Hid (Below w.heap.size w ((wA).setCell ⟨A,45,none⟩ (.slice none 0 0))):=hdn (below_by HBw.out g45 (by rw[HA.out];exact Nat.le_refl _))
 clear g45
 go_upto_region 16 with fail
 clear d45 f45 c0 HKw HBw HR
 change Code.wp _ _ _ _ ((wA).setCell ⟨A,45,none⟩ (.slice none 0 0))
 generalize hq1:(wA).setCell ⟨A,45,none⟩ (.slice none 0 0)=v1 at HK45 HB45 HR45 ⊢
 clear hq1
 have HKw:=HK45;have HBw:=HB45;have HR:=HR45
 clear HK45 HB45 HR45
 have q0:v1.cell? ⟨A,0,none⟩=some (.int .i64 x.h.kind):=HKw.out.cell 0
 have f0:=HKw.out.frozen 0
 have gS:=grownBy_setC v1 ⟨A,0,none⟩ (.int .i64 0)
 have HK3:Hid (Bk (v1.setCell ⟨A,0,none⟩ (.int .i64 0)) A 63 (It.cells {x with h:= {x.h with kind:=0},tp:=none,tc:=0,t:= .nil}).toArray):=hdn (HKw.out.setArr 0 (.int .i64 0))
 have HR3:=hdn (HR.out.kept gS (by show A+1≠A;omega))
 have HB3:Hid (Below w.heap.size w (v1.setCell ⟨A,0,none⟩ (.int .i64 0))):=hdn (below_by HBw.out gS (by rw[HA.out];exact Nat.le_refl _))
 clear gS
 go_wp2_with (first |((with_reducible show wpList _ _ _ (Oper.mk (some 37) _ _ _ _ _::_) _ _);refine wpList_load_bk rfl 63 (.tmp 1) rfl A 63 (It.cells {x with h:= {x.h with kind:=0},tp:=none,tc:=0,t:= .nil}).toArray rfl _ HK3.out Tryz.underlying63 rfl size57 ?_)|((with_reducible show wpList _ _ _ (Oper.mk none (Op.store 63 _ _) _ _ _ _::_) _ _);refine wpList_store_bk rfl 63 (.tmp 2) (.tmp 37) rfl (A+1) 63 _ (It.cells {x with h:= {x.h with kind:=0},tp:=none,tc:=0,t:= .nil}).toArray rfl rfl HR3.out size57 rfl (scells_one _ _ _ _ _ _ _) ?_;intro wZ hZ hF))
 exact bodyPost_ret (results_cell_row Tryz.results138 _ wZ (A+1) 63 (It.cells {x with h:= {x.h with kind:=0},tp:=none,tc:=0,t:= .nil}).toArray (0,0) _ rfl hZ Tryz.underlying63 rfl size57) rfl ⟨rfl,below_by HB3.out hF (by rw[HA.out];exact Nat.le_succ _)⟩
end Go.Proofs.YtcehbcnloiooaaaGreatDoor
