/-
  The walk of the parser's path. Laws: structs stored whole into a part of a block of one's own. The walk of the parser's side. The walk of the parser's value. The walks of the parser's conditions. Plain: how the plain parser moves on. Laws: an item goes to the end of a row of one's own. The walks of 
-/
import Derived.Test.YtcehbcnloiooaaaGreatDoorM05
import Derived.Deep.RegionLaw
import Derived.Deep.LoopGhost
import Derived.Great.BuildSlice
import Derived.IntWalk
import Derived.Lib.SmallJoins
import Derived.Test.YtcehbcnloiooaaaGreatDoorM02
import Derived.Test.YtcehbcnloiooaaaGreatDoorM04
import Derived.Recover
import Derived.Laws.Pointers
import Derived.Deep.RegionHeld3
set_option maxHeartbeats 6400000
set_option maxRecDepth 100000
namespace Go.Proofs.YtcehbcnloiooaaaGreatDoor
open Go.RowKit Go.Sort
attribute [local go_sem] field79_0 field79_1 field79_2 field79_3
section
variable {pb sb cap:Nat} {l:List Tx.Sg}
theorem own_shape {w:World} {base:Nat} {e:TypeId} {size:Nat} {v:Value} {n:Nat} {xs:List Value} (h:w.ownsRow base e size v n xs): ∃a c,v= .slice a n c:=by
 rcases h.2 with ⟨rfl,h0⟩|⟨g,cap,cur,rfl,hg,hr⟩
 ·subst h0;exact ⟨_,_,rfl⟩
 ·exact ⟨_,_,rfl⟩
theorem zinfoHp:(Tryz.prog.info? 106).map (fun i=>(i.zero,i.size,i.bytes))=some (some (.agg #[.string ByteArray.empty,.int .i64 0]),2,24):=by kernel_rfl
theorem path_result {w2:World} {n:ByteArray} {p:Int} {v s:Value} {R:Nat} {a b:Value} (hk:Bk w2 R 40 #[a,b,s]):
  Bk (((w2.setCell ⟨R,0,none⟩ (.string n)).setCell ⟨R,1,none⟩ (.int .i64 p)).setCell ⟨R,2,none⟩ v) R 40 #[.string n,.int .i64 p,v]∧
  w2.grownBy (((w2.setCell ⟨R,0,none⟩ (.string n)).setCell ⟨R,1,none⟩ (.int .i64 p)).setCell ⟨R,2,none⟩ v) (some R):=
 ⟨((hk.set_ 0 _).set_ 1 _).set_ 2 _,grownBy_tr (grownBy_tr (grownBy_setC _ ⟨R,0,none⟩ _) (grownBy_setC _ ⟨R,1,none⟩ _)) (grownBy_setC _ ⟨R,2,none⟩ _)⟩
end
end Go.Proofs.YtcehbcnloiooaaaGreatDoor
namespace Go.Proofs.YtcehbcnloiooaaaGreatDoor
open Go.RowKit Go.Sort
def putC:List Value→Nat→List Value→List Value
 |l,_,[]=>l
 |l,o,v::r=>putC (l.set o v) (o+1) r
theorem Bk.setCells {C:Nat} {t:TypeId}: ∀(vs:List Value) (o:Nat) (w:World) (old:List Value),Bk w C t old.toArray→Bk (w.setCells C o vs) C t (putC old o vs).toArray∧w.grownBy (w.setCells C o vs) (some C)
 | [],o,w,old,h=>⟨h,⟨rfl,rfl,rfl,Nat.le_refl _,fun _ _ _=>rfl⟩⟩
 |v::r,o,w,old,h=>by
  have h1:Bk (w.setCell ⟨C,o,none⟩ v) C t (old.set o v).toArray:=by have:=h.set_ o v;rwa[List.setIfInBounds_toArray] at this
  have h2:=Bk.setCells r (o+1) (w.setCell ⟨C,o,none⟩ v) (old.set o v) h1
  exact ⟨h2.1,grownBy_tr (grownBy_setC w ⟨C,o,none⟩ v) h2.2⟩
theorem wpList_store_part {P:Program} {ops:Array Oper} {rest:List Oper} {op:Oper} {a:Act} {w:World} {Q:Exit→Act→World→Prop} (hgd:op.guard=none) (ty:TypeId) (x y:Operand) (ho:op.op= .store ty x y)
  (C off:Nat) (t:TypeId) (old cs:List Value) (hx:a.eval x= .pointer (some ⟨C,off,none⟩)) (hy:a.eval y= .agg cs.toArray) (hk:Bk w C t old.toArray) (hi:(P.info? ty).map (·.size)=some cs.toArray.size) (hc:off+cs.length≤old.length) (h1:cs.toArray.all (·.oneCell')=true)
  (h: ∀w',Bk w' C t (putC old off cs).toArray→w.grownBy w' (some C)→wpList P ops Q rest (a.put op.dst undef) w'):wpList P ops Q (op::rest) a w:=
 wpList_plain hgd fun _ hK=>by
  unfold Oper.wp execOp
  have ht:w.there C off cs.toArray.size:=fun j hj=>⟨by rw[hk.cell];rw[List.size_toArray] at hj;simp;omega,hk.frozen _⟩
  simp only[ho,hx,hy,Instr.storeAt,Instr.sureAddr,Sem.run_bind,Sem.run_pure,Result.andThen_ok,run_storeVar_mid w C off ty cs.toArray ht hi h1]
  have hh:=Bk.setCells (C:=C) (t:=t) cs off w old hk
  exact hK _ _ (h _ hh.1 hh.2)
theorem wpList_load_bk {P:Program} {ops:Array Oper} {rest:List Oper} {op:Oper} {a:Act} {w:World} {Q:Exit→Act→World→Prop} (hgd:op.guard=none) (ty:TypeId) (x:Operand) (ho:op.op= .load ty x)
  (C:Nat) (t:TypeId) (cs:Array Value) (hx:a.eval x= .pointer (some ⟨C,0,none⟩)) (d:TypeDesc) (hk:Bk w C t cs)
  (hu:P.underlying ty=some d) (hd:d.isRow=true) (hi:(P.info? ty).map (·.size)=some cs.size)
  (h:wpList P ops Q rest (a.put op.dst (.agg cs)) w):wpList P ops Q (op::rest) a w:=
 wpList_load_arr hgd ty x ho C 0 hx cs d hk.range hu hd hi h
theorem size47:(Tryz.prog.info? 58).map (·.size)=some 12:=by kernel_rfl
theorem size49:(Tryz.prog.info? 60).map (·.size)=some 26:=by kernel_rfl
end Go.Proofs.YtcehbcnloiooaaaGreatDoor
namespace Go.Proofs.YtcehbcnloiooaaaGreatDoor
open Go.RowKit Go.Sort
attribute [local go_sem] field79_0 field79_1 field79_2 field79_3
section
variable {pb sb cap:Nat} {l:List Tx.Sg}
end
end Go.Proofs.YtcehbcnloiooaaaGreatDoor
namespace Go.Proofs.YtcehbcnloiooaaaGreatDoor
open Go.RowKit Go.Sort
attribute [local go_sem] field79_0 field79_1 field79_2 field79_3
section
variable {pb sb cap:Nat} {l:List Tx.Sg}
end
end Go.Proofs.YtcehbcnloiooaaaGreatDoor
namespace Go.Proofs.YtcehbcnloiooaaaGreatDoor
open Go.RowKit Go.Sort
attribute [local go_sem] field79_0 field79_1 field79_2 field79_3
section
variable {pb sb cap:Nat} {l:List Tx.Sg}
theorem cd_set0 {w:World} {C:Nat} {c:Cd} (h:Bk w C 60 (Cd.cells c).toArray) (k:Int):Bk (w.setCell ⟨C,0,none⟩ (.int .i64 k)) C 60 (Cd.cells {c with kind:=k}).toArray:=h.set_ 0 _
theorem cd_put1 {w:World} {C:Nat} {c:Cd} {y:Vl} (h:Bk w C 60 (putC (Cd.cells c) 2 (Vl.cells y)).toArray):Bk w C 60 (Cd.cells {c with left:=y}).toArray:=h
theorem cd_put2 {w:World} {C:Nat} {c:Cd} {y:Vl} (h:Bk w C 60 (putC (Cd.cells c) 14 (Vl.cells y)).toArray):Bk w C 60 (Cd.cells {c with right:=y}).toArray:=h
end
end Go.Proofs.YtcehbcnloiooaaaGreatDoor
namespace Go.Proofs.YtcehbcnloiooaaaGreatDoor
open Go.RowKit Go.Sort
namespace Pr
theorem th_ok {α β:Type} {r:Res α} {f:α→St→Res β} {b:β} {v:St} (h:th r f= .ok (b,v)): ∃a u,r= .ok (a,u)∧f a u= .ok (b,v):=by
 unfold th at h
 split at h
 ·cases h
 ·rename_i x u;exact ⟨x,u,rfl,h⟩
def Fwd (n:Nat) (u v:St):Prop:=u.i+n≤v.i∧v.o=u.o∧v.b=u.b
theorem Fwd.tr {n m:Nat} {u v w:St} (h:Fwd n u v) (k:Fwd m v w):Fwd (n+m) u w:=⟨by have:=h.1;have:=k.1;omega,k.2.1.trans h.2.1,k.2.2.trans h.2.2⟩
theorem Fwd.le {n m:Nat} {u v:St} (h:Fwd n u v) (hm:m≤n):Fwd m u v:=⟨by have:=h.1;omega,h.2⟩
theorem Fwd.go (u:St):Fwd 1 u u.go:=⟨Nat.le_refl _,rfl,rfl⟩
theorem Fwd.refl (u:St):Fwd 0 u u:=⟨Nat.le_refl _,rfl,rfl⟩
section
variable {t:List Tk}
theorem must_fwd {s:ByteArray} {u v:St} {x:Tk} (h:must t s u= .ok (x,v)):Fwd 1 u v:=by
 unfold must at h
 split at h
 ·injection h with h;injection h with _ h;subst h;exact Fwd.go u
 ·cases h
theorem name_fwd {u v:St} {x:Tk} (h:name t u= .ok (x,v)):Fwd 1 u v:=by
 unfold name at h
 split at h
 ·injection h with h;injection h with _ h;subst h;exact Fwd.go u
 ·cases h
theorem hops_fwd: ∀(n:Nat) (acc:List Hp) (u:St) {l:List Hp} {v:St},hops t n acc u= .ok (l,v)→Fwd 0 u v
 |0,acc,u,l,v,h=>by
  unfold hops at h
  split at h
  ·cases h
  ·injection h with h;injection h with _ h;subst h;exact Fwd.refl u
 |n+1,acc,u,l,v,h=>by
  unfold hops at h
  split at h
  ·obtain ⟨x,w,h1,h2⟩:=th_ok h
   exact (((Fwd.go u).tr (name_fwd h1)).tr (hops_fwd n _ w h2)).le (Nat.zero_le _)
  ·injection h with h;injection h with _ h;subst h;exact Fwd.refl u
theorem path_fwd {u v:St} {x:Pth} (h:path t u= .ok (x,v)):Fwd 1 u v:=by
 obtain ⟨a,u1,h1,h⟩:=th_ok h
 obtain ⟨b,u2,h2,h⟩:=th_ok h
 injection h with h;injection h with _ h;subst h
 exact (name_fwd h1).tr (hops_fwd _ _ _ h2)
theorem term_fwd {u v:St} {x:Tm} (h:term t u= .ok (x,v)):Fwd 1 u v:=by
 unfold term at h
 split at h
 ·injection h with h;injection h with _ h;subst h;exact Fwd.go u
 ·obtain ⟨a,u1,h1,h⟩:=th_ok h
  injection h with h;injection h with _ h;subst h
  exact name_fwd h1
theorem side_fwd {u v:St} {x:Vl} (h:side t u= .ok (x,v)):Fwd 1 u v:=by
 unfold side at h
 split at h
 ·injection h with h;injection h with _ h;subst h;exact Fwd.go u
 ·split at h
  ·obtain ⟨a,u1,h1,h⟩:=th_ok h
   injection h with h;injection h with _ h;subst h
   exact term_fwd h1
  ·obtain ⟨a,u1,h1,h⟩:=th_ok h
   injection h with h;injection h with _ h;subst h
   exact path_fwd h1
theorem sum_fwd {u v:St} {x:Vl} (h:sum t u= .ok (x,v)):Fwd 1 u v:=by
 obtain ⟨a,u1,h1,h⟩:=th_ok h
 obtain ⟨b,u2,h2,h⟩:=th_ok h
 injection h with h;injection h with _ h;subst h
 exact (((term_fwd h1).tr (Fwd.go u1)).tr (term_fwd h2)).le (by omega)
theorem value_fwd {u v:St} {x:Vl} (h:value t u= .ok (x,v)):Fwd 1 u v:=by
 unfold value at h
 split at h
 ·obtain ⟨a,u1,h1,h⟩:=th_ok h
  injection h with h;injection h with _ h;subst h
  exact ((Fwd.go u).tr (name_fwd h1)).le (by omega)
 ·split at h
  ·injection h with h;injection h with _ h;subst h;exact Fwd.go u
  ·split at h
   ·exact sum_fwd h
   ·exact side_fwd h
theorem relation_fwd {u v:St} {x:Int} (h:relation t u= .ok (x,v)):Fwd 1 u v:=by
 unfold relation at h
 split at h
 ·injection h with h;injection h with _ h;subst h;exact Fwd.go u
 ·split at h
  ·injection h with h;injection h with _ h;subst h;exact Fwd.go u
  ·split at h
   ·injection h with h;injection h with _ h;subst h;exact Fwd.go u
   ·obtain ⟨a,u1,h1,h⟩:=th_ok h
    injection h with h;injection h with _ h;subst h
    exact must_fwd h1
theorem cond_fwd {u v:St} {x:Cd} (h:cond t u= .ok (x,v)):Fwd 1 u v:=by
 unfold cond at h
 split at h
 ·injection h with h;injection h with _ h;subst h;exact Fwd.go u
 ·obtain ⟨a,u1,h1,h⟩:=th_ok h
  obtain ⟨b,u2,h2,h⟩:=th_ok h
  obtain ⟨c,u3,h3,h⟩:=th_ok h
  injection h with h;injection h with _ h;subst h
  exact (((side_fwd h1).tr (relation_fwd h2)).tr (side_fwd h3)).le (by omega)
theorem held_fwd {u v:St} {x:Cd} (h:held t u= .ok (x,v)):Fwd 1 u v:=by
 obtain ⟨a,u1,h1,h⟩:=th_ok h
 obtain ⟨b,u2,h2,h⟩:=th_ok h
 obtain ⟨c,u3,h3,h⟩:=th_ok h
 injection h with h;injection h with _ h;subst h
 exact (((must_fwd h1).tr (cond_fwd h2)).tr (must_fwd h3)).le (by omega)
theorem more_fwd {α:Type} {item:St→Res α} (hi: ∀u x v,item u= .ok (x,v)→Fwd 1 u v): ∀(n:Nat) (acc:List α) (u:St) {l:List α} {v:St},more t item n acc u= .ok (l,v)→Fwd 1 u v
 |0,acc,u,l,v,h=>by cases h
 |n+1,acc,u,l,v,h=>by
  unfold more at h
  split at h
  ·obtain ⟨x,w,h1,h2⟩:=th_ok h
   exact (((Fwd.go u).tr (hi _ _ _ h1)).tr (more_fwd hi n _ w h2)).le (by omega)
  ·obtain ⟨a,u1,h1,h⟩:=th_ok h
   injection h with h;injection h with _ h;subst h
   exact must_fwd h1
theorem listed_fwd {α:Type} {item:St→Res α} (hi: ∀u x v,item u= .ok (x,v)→Fwd 1 u v) {u v:St} {l:List α} (h:listed t item u= .ok (l,v)):Fwd 1 u v:=by
 obtain ⟨a,u1,h1,h⟩:=th_ok h
 split at h
 ·injection h with h;injection h with _ h;subst h
  exact ((must_fwd h1).tr (Fwd.go u1)).le (by omega)
 ·obtain ⟨b,u2,h2,h⟩:=th_ok h
  exact (((must_fwd h1).tr (hi _ _ _ h2)).tr (more_fwd hi _ _ _ h)).le (by omega)
theorem pointer_fwd {u v:St} {x:Dc} (h:pointer t u= .ok (x,v)):Fwd 1 u v:=by
 obtain ⟨a,u1,h1,h⟩:=th_ok h
 obtain ⟨b,u2,h2,h⟩:=th_ok h
 obtain ⟨c,u3,h3,h⟩:=th_ok h
 injection h with h;injection h with _ h;subst h
 exact (((name_fwd h1).tr (must_fwd h2)).tr (name_fwd h3)).le (by omega)
theorem variable_fwd {u v:St} {x:Dc} (h:variable_ t u= .ok (x,v)):Fwd 1 u v:=by
 unfold variable_ at h
 split at h
 ·obtain ⟨a,u1,h1,h⟩:=th_ok h
  injection h with h;injection h with _ h;subst h
  exact ((Fwd.go u).tr (name_fwd h1)).le (by omega)
 ·exact pointer_fwd h
theorem decl_fwd {u v:St} {x:Dc} (h:decl t u= .ok (x,v)):Fwd 1 u v:=by
 obtain ⟨a,u1,h1,h⟩:=th_ok h
 obtain ⟨b,u2,h2,h⟩:=th_ok h
 injection h with h;injection h with _ h;subst h
 exact ((variable_fwd h1).tr (must_fwd h2)).le (by omega)
def Inv (u:St):Prop:=0≤u.o∧u.o≤20∧0≤u.b∧u.b≤400
def Stp (n:Nat) (u v:St):Prop:=u.i+n≤v.i∧v.o=u.o∧(Inv u→Inv v)
theorem Fwd.stp {n:Nat} {u v:St} (h:Fwd n u v):Stp n u v:=⟨h.1,h.2.1,fun hi=>⟨by rw[h.2.1];exact hi.1,by rw[h.2.1];exact hi.2.1,by rw[h.2.2];exact hi.2.2.1,by rw[h.2.2];exact hi.2.2.2⟩⟩
theorem Fwd.inv {n:Nat} {u v:St} (h:Fwd n u v) (hi:Inv u):Inv v:=h.stp.2.2 hi
theorem Stp.tr {n m:Nat} {u v w:St} (h:Stp n u v) (k:Stp m v w):Stp (n+m) u w:=⟨by have:=h.1;have:=k.1;omega,k.2.1.trans h.2.1,fun hi=>k.2.2 (h.2.2 hi)⟩
theorem Stp.le {n m:Nat} {u v:St} (h:Stp n u v) (hm:m≤n):Stp m u v:=⟨by have:=h.1;omega,h.2⟩
theorem mustHold_ok {u v:St} {x:Unit} (h:mustHold t u= .ok (x,v)):v=u∧(is t u.i ⟨#[123]⟩=true→u.o≠20):=by
 unfold mustHold at h
 split at h
 ·cases h
 ·rename_i hn
  injection h with h;injection h with _ h;subst h
  exact ⟨rfl,fun h1 h2=>hn (by rw[h1,h2];rfl)⟩
theorem count_ok {u v:St} {x:Unit} (h:count t u= .ok (x,v)):v=⟨u.i,u.o,u.b+1⟩∧u.b≠400:=by
 obtain ⟨a,u1,h1,h2⟩:=th_ok h
 clear h
 obtain ⟨rfl,_⟩:=mustHold_ok h1
 split at h2
 ·cases h2
 ·rename_i hn
  injection h2 with h2;injection h2 with _ h2;subst h2
  exact ⟨rfl,hn⟩
theorem must_is {s:ByteArray} {u v:St} {x:Tk} (h:must t s u= .ok (x,v)):is t u.i s=true∧v=u.go:=by
 unfold must at h
 split at h
 ·rename_i hn;injection h with h;injection h with _ h;subst h;exact ⟨hn,rfl⟩
 ·cases h
theorem block_stp {rec:St→Res SL} (hr: ∀u l v,rec u= .ok (l,v)→Stp 0 u v) {u v:St} {l:SL} (h:block t rec u= .ok (l,v)):Stp 1 u v:=by
 obtain ⟨a,u1,h1,h⟩:=th_ok h
 obtain ⟨b,u2,h2,h⟩:=th_ok h
 obtain ⟨c,u3,h3,h⟩:=th_ok h
 obtain ⟨d,u4,h4,h⟩:=th_ok h
 injection h with h;injection h with _ h;subst h
 obtain ⟨rfl,ho⟩:=mustHold_ok h1
 obtain ⟨hs,rfl⟩:=must_is h2
 have hS:=hr _ _ _ h3
 have hF:=must_fwd h4
 have ho20:=ho hs
 refine ⟨?_, ?_,fun hi=> ?_⟩
 ·have:=hS.1;have:=hF.1;simp only[St.go] at*;omega
 ·have:=hS.2.1;have:=hF.2.1;simp only[St.go] at*;omega
 ·have hi2:Inv ⟨u1.go.i,u1.go.o+1,u1.go.b⟩:=⟨by have:=hi.1;simp only[St.go];omega,by have:=hi.2.1;simp only[St.go];omega,hi.2.2⟩
  have hi3:=hF.inv (hS.2.2 hi2)
  have h5:=hF.2.1;have h6:=hS.2.1
  simp only[St.go] at h5 h6
  exact ⟨by have:=hi.1;simp only;omega,by have:=hi.2.1;simp only;omega,hi3.2.2⟩
theorem free_fwd {u v:St} {x:Hd} (h:free t u= .ok (x,v)):Fwd 1 u v:=by
 obtain ⟨a,u1,h1,h⟩:=th_ok h
 obtain ⟨b,u2,h2,h⟩:=th_ok h
 obtain ⟨c,u3,h3,h⟩:=th_ok h
 obtain ⟨d,u4,h4,h⟩:=th_ok h
 obtain ⟨e,u5,h5,h⟩:=th_ok h
 injection h with h;injection h with _ h;subst h
 exact (((((must_fwd h1).tr (must_fwd h2)).tr (path_fwd h3)).tr (must_fwd h4)).tr (must_fwd h5)).le (by omega)
theorem named_fwd {u v:St} {x:Hd} (h:named t u= .ok (x,v)):Fwd 1 u v:=by
 unfold named at h
 split at h
 ·obtain ⟨a,u1,h1,h⟩:=th_ok h
  obtain ⟨b,u2,h2,h⟩:=th_ok h
  obtain ⟨c,u3,h3,h⟩:=th_ok h
  injection h with h;injection h with _ h;subst h
  exact (((name_fwd h1).tr (listed_fwd (fun _ _ _ h=>side_fwd h) h2)).tr (must_fwd h3)).le (by omega)
 ·obtain ⟨a,u1,h1,h⟩:=th_ok h
  obtain ⟨b,u2,h2,h⟩:=th_ok h
  obtain ⟨c,u3,h3,h⟩:=th_ok h
  obtain ⟨d,u4,h4,h⟩:=th_ok h
  injection h with h;injection h with _ h;subst h
  exact ((((path_fwd h1).tr (must_fwd h2)).tr (value_fwd h3)).tr (must_fwd h4)).le (by omega)
theorem branch_stp {rec:St→Res SL} (hr: ∀u l v,rec u= .ok (l,v)→Stp 0 u v) {u v:St} {x:Hd×SL×SL} (h:branch t rec u= .ok (x,v)):Stp 1 u v:=by
 obtain ⟨a,u1,h1,h⟩:=th_ok h
 obtain ⟨b,u2,h2,h⟩:=th_ok h
 obtain ⟨c,u3,h3,h⟩:=th_ok h
 have hs:=(((must_fwd h1).tr (held_fwd h2)).stp).tr (block_stp hr h3)
 split at h
 ·obtain ⟨d,u4,h4,h⟩:=th_ok h
  injection h with h;injection h with _ h;subst h
  exact ((hs.tr (Fwd.go u3).stp).tr (block_stp hr h4)).le (by omega)
 ·injection h with h;injection h with _ h;subst h
  exact hs.le (by omega)
theorem loop_stp {rec:St→Res SL} (hr: ∀u l v,rec u= .ok (l,v)→Stp 0 u v) {u v:St} {x:Hd×SL×SL} (h:loop t rec u= .ok (x,v)):Stp 1 u v:=by
 obtain ⟨a,u1,h1,h⟩:=th_ok h
 obtain ⟨b,u2,h2,h⟩:=th_ok h
 obtain ⟨c,u3,h3,h⟩:=th_ok h
 injection h with h;injection h with _ h;subst h
 exact ((((must_fwd h1).tr (held_fwd h2)).stp).tr (block_stp hr h3)).le (by omega)
theorem count_stp {u v:St} {x:Unit} (h:count t u= .ok (x,v)):Stp 0 u v:=by
 obtain ⟨rfl,hn⟩:=count_ok h
 exact ⟨Nat.le_refl _,rfl,fun hi=>⟨hi.1,hi.2.1,by have:=hi.2.2.1;simp only;omega,by have:=hi.2.2.2;simp only;omega⟩⟩
theorem stmt_stp {rec:St→Res SL} (hr: ∀u l v,rec u= .ok (l,v)→Stp 0 u v) {u v:St} {x:Hd×SL×SL} (h:stmt t rec u= .ok (x,v)):Stp 1 u v:=by
 obtain ⟨a,u1,h1,h⟩:=th_ok h
 have hc:=count_stp h1
 have key:Stp 1 u1 v:=by
  split at h
  ·injection h with h;injection h with _ h;subst h;exact (Fwd.go u1).stp
  ·split at h
   ·obtain ⟨b,u2,h2,h⟩:=th_ok h
    injection h with h;injection h with _ h;subst h;exact block_stp hr h2
   ·split at h
    ·obtain ⟨b,u2,h2,h⟩:=th_ok h
     injection h with h;injection h with _ h;subst h;exact (free_fwd h2).stp
    ·split at h
     ·exact branch_stp hr h
     ·split at h
      ·exact loop_stp hr h
      ·obtain ⟨b,u2,h2,h⟩:=th_ok h
       injection h with h;injection h with _ h;subst h;exact (named_fwd h2).stp
 exact (hc.tr key).le (by omega)
end
end Pr
end Go.Proofs.YtcehbcnloiooaaaGreatDoor
namespace Go.Proofs.YtcehbcnloiooaaaGreatDoor
open Go.RowKit Go.Sort
theorem wpList_one {P:Program} {ops:Array Oper} {rest:List Oper} {o:Oper} {a:Act} {w:World} {Q:Exit→Act→World→Prop} (hg:o.guard=none) (t e:TypeId) (x:Operand) (ho:o.op= .buildSlice t 1 #[(0,x)])
  (cs:Array Value) (hx:a.eval x= .agg cs) (hu:P.underlying t=some (.slice e)) (ie:TypeInfo) (z:Value) (n:Nat) (hie:P.info? e=some ie) (hz:ie.zero=some z) (hn:ie.size=n) (h0:0<n) (h24:n≤16777216) (hcs:n=cs.size)
  (h:wpList P ops Q rest (a.put o.dst (.slice (some ⟨w.heap.size,0,none⟩) 1 1)) (w.alloc (.cells cs e))):wpList P ops Q (o::rest) a w:=by
 subst hn
 refine wpList_buildSlice hg t e 1 #[(0,x)] ho cs ie z hu hie hz (by omega) (by omega) ?_ h
 have hf:=Great.fill_whole h0 [Value.agg cs] ((Array.range (1*ie.size)).map (z.cells[· % z.cells.size]!)) (by intro v hv;rw[List.mem_singleton.1 hv];exact hcs.symm) (by simp)
 simp only[List.zipIdx_cons,List.zipIdx_nil,List.map_cons,List.map_nil] at hf
 simp only[List.map_toArray,List.map_cons,List.map_nil,hx]
 rw[hf]
 simp[Value.cells]
theorem own_one {w:World} {B g:Nat} {e:TypeId} {cs:List Value} (hk:Bk w g e cs.toArray) (hB:B≤g) {n:Nat} (hn:cs.length=n):w.ownsRow B e n (.slice (some ⟨g,0,none⟩) 1 1) 1 cs:=
 ⟨by rw[hn,Nat.one_mul],.inr ⟨g,1,cs.toArray,rfl,hB,hk,Nat.le_refl _,by decide,by simp[hn],by rw[Nat.one_mul,←hn];simp⟩⟩
theorem one_of {cs:List Value} (h:cs.toArray.all (·.oneCell')=true): ∀u∈cs,u.oneCell'=true:=fun u hu=>(Array.all_eq_true_iff_forall_mem.1 h) u (by simpa using hu)
namespace Kd
variable {α:Type} (K:Kd α)
theorem Gr.one {B g:Nat} {w:World} {y:α} (hk:Bk w g K.T (K.cells y).toArray) (hB:B≤g) (hR:K.R (rest B (some g) w) y):K.Gr B [K.er y] (.slice (some ⟨g,0,none⟩) 1 1) w:=
 ⟨[y],rfl,by rw[List.flatMap_singleton];exact own_one hk hB (K.len y),by intro z hz;rw[List.mem_singleton.1 hz];exact hR⟩
structure Inf (P:Program) (t:TypeId) (i:TypeInfo) (z:Value):Prop where
 und:P.underlying t=some (.slice K.T)
 info:P.info? K.T=some i
 zero:i.zero=some z
 size:i.size=K.size
 bytes:i.bytes=K.bytes
 cells:z.cells.size=K.size
 pos:0<K.size
theorem wp_push {P:Program} {o:Oper} {a:Act} {w:World} {R:Act→World→Prop} {Q:Exit→Act→World→Prop} (t:TypeId) (i:TypeInfo) (z:Value) (hI:K.Inf P t i z) (s x:Operand)
  (ho:o.op= .call {callee:= .builtin .append,args:= #[s,x],argTypes:= #[t,t]})
  (B:Nat) (xs:List α) (v:Value) (hs:a.eval s=v) (hG:K.Gr B xs v w) (hB:B≤w.heap.size) (y:α) (hx:a.eval x= .slice (some ⟨w.heap.size,0,none⟩) 1 1)
  (hR:K.R (rest B v.ownBlock w) y) (h63:xs.length+1≤maxLen) (hb:(xs.length+1)*K.bytes≤140737488355328)
  (h: ∀v' w',K.Gr B (xs++ [K.er y]) v' w'→(∃g cap,v'= .slice (some ⟨g,0,none⟩) (xs.length+1) cap)→w.grownBy w' v.ownBlock→(∀q,v.ownBlock=some q→B≤q)→R (a.put o.dst v') w'):o.wp P a (w.alloc (.cells (K.cells y).toArray K.T)) R Q:=by
 obtain ⟨ys,h1,h2,h3⟩:=hG
 have hm:Below w.heap.size w (w.alloc (.cells (K.cells y).toArray K.T)):=(Below.refl _ _).alloc (Nat.le_refl _) _
 refine wp_append_lies _ s x t ho B K.T i z K.size K.bytes hI.und hI.info hI.zero hI.size hI.bytes hI.cells hI.pos v xs.length _ hs (h2.alloc _) ⟨w.heap.size,0,none⟩ 1 1 (K.cells y) hx (by rw[K.len,Nat.one_mul]) ?_ (one_of (K.one y)) (by decide) h63 hb (Nat.le_trans hB hm.size) _ rfl ?_
 ·have:=World.news_of_block (heap_alloc_new w (.cells (K.cells y).toArray K.T))
  simpa using this
 ·intro g cap w' ho2 hg2 hat hlt
  have hg:=below_grown hm hg2
  refine h _ w' (Kd.add K h1 (fun q hq=>K.ext q (rest_below hm) (h3 q hq)) hg2 hat ho2 (K.ext y (rest_below hm) hR)) ⟨g,cap,rfl⟩ hg (fun q hq=>(h2.lt q hq).1)
theorem wpList_push {P:Program} {ops:Array Oper} {rest:List Oper} {o:Oper} {a:Act} {w:World} {Q:Exit→Act→World→Prop} (hgd:o.guard=none) (t:TypeId) (i:TypeInfo) (z:Value) (hI:K.Inf P t i z) (s x:Operand)
  (ho:o.op= .call {callee:= .builtin .append,args:= #[s,x],argTypes:= #[t,t]})
  (B:Nat) (xs:List α) (v:Value) (hs:a.eval s=v) (hG:K.Gr B xs v w) (hB:B≤w.heap.size) (y:α) (hx:a.eval x= .slice (some ⟨w.heap.size,0,none⟩) 1 1)
  (hR:K.R (YtcehbcnloiooaaaGreatDoor.rest B v.ownBlock w) y) (h63:xs.length+1≤maxLen) (hb:(xs.length+1)*K.bytes≤140737488355328)
  (h: ∀v' w',K.Gr B (xs++ [K.er y]) v' w'→(∃g cap,v'= .slice (some ⟨g,0,none⟩) (xs.length+1) cap)→w.grownBy w' v.ownBlock→(∀q,v.ownBlock=some q→B≤q)→wpList P ops Q rest (a.put o.dst v') w'):wpList P ops Q (o::rest) a (w.alloc (.cells (K.cells y).toArray K.T)):=
 wpList_plain hgd fun _ hK=>K.wp_push t i z hI s x ho B xs v hs hG hB y hx hR h63 hb fun v' w' a b c d=>hK _ _ (h v' w' a b c d)
theorem step_push {P:Program} {ops:Array Oper} {o:Oper} {a:Act} {w:World} {R:Act→World→Prop} {Q:Exit→Act→World→Prop} {E:Prop} (hgd:o.guard=none) (t:TypeId) (i:TypeInfo) (z:Value) (hI:K.Inf P t i z) (s x:Operand)
  (ho:o.op= .call {callee:= .builtin .append,args:= #[s,x],argTypes:= #[t,t]})
  (B:Nat) (xs:List α) (v:Value) (hs:a.eval s=v) (hG:K.Gr B xs v w) (hB:B≤w.heap.size) (y:α) (hx:a.eval x= .slice (some ⟨w.heap.size,0,none⟩) 1 1)
  (hR:K.R (YtcehbcnloiooaaaGreatDoor.rest B v.ownBlock w) y) (h63:xs.length+1≤maxLen) (hb:(xs.length+1)*K.bytes≤140737488355328)
  (h: ∀v' w',K.Gr B (xs++ [K.er y]) v' w'→(∃g cap,v'= .slice (some ⟨g,0,none⟩) (xs.length+1) cap)→w.grownBy w' v.ownBlock→(∀q,v.ownBlock=some q→B≤q)→R (a.put o.dst v') w'):
  if Region.wanted o (yielded ops a.tmps)=true then Oper.wp P o a (w.alloc (.cells (K.cells y).toArray K.T)) R Q else E:=by
 have hw:Region.wanted o (yielded ops a.tmps)=true:=by simp[Region.wanted,hgd]
 rw[if_pos hw]
 exact K.wp_push t i z hI s x ho B xs v hs hG hB y hx hR h63 hb h
end Kd
theorem zinfoVl:(Tryz.prog.info? 58).map (fun i=>(i.zero,i.size,i.bytes))=some (some (.agg #[.int .i64 0,.int .i64 0,.string ByteArray.empty,.int .i64 0,.slice none 0 0,.string ByteArray.empty,.string ByteArray.empty,.int .i64 0,.int .i64 0,.string ByteArray.empty,.int .i64 0,.int .i64 0]),12,144):=by kernel_rfl
theorem infVl: ∃i,kVl.Inf Tryz.prog 61 i (.agg #[.int .i64 0,.int .i64 0,.string ByteArray.empty,.int .i64 0,.slice none 0 0,.string ByteArray.empty,.string ByteArray.empty,.int .i64 0,.int .i64 0,.string ByteArray.empty,.int .i64 0,.int .i64 0]):=by
 obtain ⟨i,h1,h2,h3,h4⟩:=info_parts zinfoVl
 exact ⟨i,Tryz.underlying61,h1,h2,h3,h4,rfl,by decide⟩
theorem zinfoDc:(Tryz.prog.info? 65).map (fun i=>(i.zero,i.size,i.bytes))=some (some (.agg #[.string ByteArray.empty,.string ByteArray.empty,.int .i64 0]),3,40):=by kernel_rfl
theorem zinfoIt:(Tryz.prog.info? 63).map (fun i=>(i.zero,i.size,i.bytes))=some (some (.agg #[.int .i64 0,.int .i64 0,.string ByteArray.empty,.int .i64 0,.slice none 0 0,.int .i64 0,.int .i64 0,.string ByteArray.empty,.int .i64 0,.slice none 0 0,.string ByteArray.empty,.string ByteArray.empty,.int .i64 0,.int .i64 0,.string ByteArray.empty,.int .i64 0,.int .i64 0,.int .i64 0,.int .i64 0,.int .i64 0,.int .i64 0,.string ByteArray.empty,.int .i64 0,.slice none 0 0,.string ByteArray.empty,.string ByteArray.empty,.int .i64 0,.int .i64 0,.string ByteArray.empty,.int .i64 0,.int .i64 0,.int .i64 0,.int .i64 0,.string ByteArray.empty,.int .i64 0,.slice none 0 0,.string ByteArray.empty,.string ByteArray.empty,.int .i64 0,.int .i64 0,.string ByteArray.empty,.int .i64 0,.int .i64 0,.string ByteArray.empty,.slice none 0 0,.slice none 0 0,.slice none 0 0,.bool false]),48,608):=by kernel_rfl
theorem infIt: ∃i,kIt.Inf Tryz.prog 35 i (.agg #[.int .i64 0,.int .i64 0,.string ByteArray.empty,.int .i64 0,.slice none 0 0,.int .i64 0,.int .i64 0,.string ByteArray.empty,.int .i64 0,.slice none 0 0,.string ByteArray.empty,.string ByteArray.empty,.int .i64 0,.int .i64 0,.string ByteArray.empty,.int .i64 0,.int .i64 0,.int .i64 0,.int .i64 0,.int .i64 0,.int .i64 0,.string ByteArray.empty,.int .i64 0,.slice none 0 0,.string ByteArray.empty,.string ByteArray.empty,.int .i64 0,.int .i64 0,.string ByteArray.empty,.int .i64 0,.int .i64 0,.int .i64 0,.int .i64 0,.string ByteArray.empty,.int .i64 0,.slice none 0 0,.string ByteArray.empty,.string ByteArray.empty,.int .i64 0,.int .i64 0,.string ByteArray.empty,.int .i64 0,.int .i64 0,.string ByteArray.empty,.slice none 0 0,.slice none 0 0,.slice none 0 0,.bool false]):=by
 obtain ⟨i,h1,h2,h3,h4⟩:=info_parts zinfoIt
 exact ⟨i,Tryz.underlying35,h1,h2,h3,h4,rfl,by decide⟩
theorem zinfoSr:(Tryz.prog.info? 67).map (fun i=>(i.zero,i.size,i.bytes))=some (some (.agg #[.string ByteArray.empty,.int .i64 0,.slice none 0 0]),3,48):=by kernel_rfl
theorem infSr: ∃i,kSr.Inf Tryz.prog 22 i (.agg #[.string ByteArray.empty,.int .i64 0,.slice none 0 0]):=by
 obtain ⟨i,h1,h2,h3,h4⟩:=info_parts zinfoSr
 exact ⟨i,Tryz.underlying22,h1,h2,h3,h4,rfl,by decide⟩
theorem zinfoPc:(Tryz.prog.info? 37).map (fun i=>(i.zero,i.size,i.bytes))=some (some (.agg #[.string ByteArray.empty,.int .i64 0,.int .i64 0,.slice none 0 0,.slice none 0 0,.slice none 0 0]),6,104):=by kernel_rfl
theorem infPc: ∃i,kPc.Inf Tryz.prog 24 i (.agg #[.string ByteArray.empty,.int .i64 0,.int .i64 0,.slice none 0 0,.slice none 0 0,.slice none 0 0]):=by
 obtain ⟨i,h1,h2,h3,h4⟩:=info_parts zinfoPc
 exact ⟨i,Tryz.underlying24,h1,h2,h3,h4,rfl,by decide⟩
end Go.Proofs.YtcehbcnloiooaaaGreatDoor
namespace Go.Proofs.YtcehbcnloiooaaaGreatDoor
open Go.RowKit Go.Sort
theorem Kd.Gr.lt {α:Type} {K:Kd α} {B:Nat} {xs:List α} {v:Value} {w:World} (h:K.Gr B xs v w): ∀g,v.ownBlock=some g→B≤g∧g<w.heap.size:=by
 obtain ⟨ys,h1,h2,h3⟩:=h
 exact fun g hg=>h2.lt g hg
attribute [local go_sem] field79_0 field79_1 field79_2 field79_3
section
variable {pb sb cap:Nat} {l:List Tx.Sg}
end
end Go.Proofs.YtcehbcnloiooaaaGreatDoor
namespace Go.Proofs.YtcehbcnloiooaaaGreatDoor
open Go.RowKit Go.Sort
structure Gr2 (w w':World) (a b:Nat):Prop where
 os:w'.os=w.os
 tape:w'.tape=w.tape
 output:w'.output=w.output
 size:w.heap.size≤w'.heap.size
 block: ∀i,i<w.heap.size→i≠a→i≠b→w'.heap[i]? =w.heap[i]?
theorem Gr2.refl (w:World) (a b:Nat):Gr2 w w a b:=⟨rfl,rfl,rfl,Nat.le_refl _,fun _ _ _ _=>rfl⟩
theorem Gr2.one {w w1 w2:World} {a b:Nat} (h:Gr2 w w1 a b) (k:w1.grownBy w2 (some a)):Gr2 w w2 a b:=
 ⟨k.os.trans h.os,k.tape.trans h.tape,k.output.trans h.output,Nat.le_trans h.size k.size,fun i hi h1 h2=>(k.block i (Nat.lt_of_lt_of_le hi h.size) (by intro e;injection e with e;exact h1 e)).trans (h.block i hi h1 h2)⟩
theorem Gr2.two {w w1 w2:World} {a b:Nat} (h:Gr2 w w1 a b) (k:w1.grownBy w2 (some b)):Gr2 w w2 a b:=
 ⟨k.os.trans h.os,k.tape.trans h.tape,k.output.trans h.output,Nat.le_trans h.size k.size,fun i hi h1 h2=>(k.block i (Nat.lt_of_lt_of_le hi h.size) (by intro e;injection e with e;exact h2 e)).trans (h.block i hi h1 h2)⟩
theorem Gr2.own {w0 w w':World} {a b:Nat} (h:w0.grownBy w (some a)) (k:Gr2 w w' a b) (hb:w0.heap.size≤b):w0.grownBy w' (some a):=
 ⟨k.os.trans h.os,k.tape.trans h.tape,k.output.trans h.output,Nat.le_trans h.size k.size,fun i hi hne=>(k.block i (Nat.lt_of_lt_of_le hi h.size) (by intro e;exact hne (by rw[e])) (by omega)).trans (h.block i hi hne)⟩
theorem Gr2.bk {w w':World} {a b g:Nat} {t:TypeId} {cs:Array Value} (h:Gr2 w w' a b) (k:Bk w g t cs) (h1:g≠a) (h2:g≠b):Bk w' g t cs:=(h.block g k.lt h1 h2).trans k
theorem putC_eq: ∀(vs l:List Value) (o:Nat),o+vs.length≤l.length→putC l o vs=l.take o++vs++l.drop (o+vs.length)
 | [],l,o,_=>by simp[putC]
 |v::r,l,o,h=>by
  simp only[List.length_cons] at h
  have ho:o<l.length:=by omega
  have hA:(l.take o).length=o:=by rw[List.length_take];omega
  have hs:l.set o v=l.take o++v::l.drop (o+1):=by rw[List.set_eq_take_append_cons_drop,if_pos ho]
  have e1:(l.set o v).take (o+1)=l.take o++ [v]:=by
   rw[hs,List.take_append,hA,List.take_of_length_le (by omega),show o+1-o=1 by omega];rfl
  have e2:(l.set o v).drop (o+1+r.length)=l.drop (o+(r.length+1)):=by
   rw[hs,List.drop_append,hA,List.drop_of_length_le (by omega),List.nil_append,show o+1+r.length-o=r.length+1 by omega,List.drop_succ_cons,List.drop_drop,show o+1+r.length=o+(r.length+1) by omega]
  rw[putC,putC_eq r (l.set o v) (o+1) (by rw[List.length_set];omega),e1,e2]
  simp only[List.length_cons,List.append_assoc,List.singleton_append]
theorem put_place (x:It) (p:Pth):putC x.cells 2 p.cells=It.cells {x with h:= {x.h with place:=p}}:=(putC_eq _ _ _ (show 5≤48 by decide)).trans rfl
theorem put_value (x:It) (p:Vl):putC x.cells 5 p.cells=It.cells {x with h:= {x.h with value:=p}}:=(putC_eq _ _ _ (show 17≤48 by decide)).trans rfl
theorem put_cond (x:It) (p:Cd):putC x.cells 17 p.cells=It.cells {x with h:= {x.h with cond:=p}}:=(putC_eq _ _ _ (show 43≤48 by decide)).trans rfl
def Stc (w0 w:World) (S:Nat) (x:It):Prop:=Bk w S 63 x.cells.toArray∧itLies (fresh w0.heap.size w) x
def it0 (p:Int):It:=⟨{Pr.noHd with pos:=p},none,0,.nil,none,0,.nil⟩
section
variable {w0 w w':World} {S pb:Nat} {x:It}
theorem Stc.par (h:Stc w0 w S x) (g:w.grownBy w' (some pb)) (h1:S≠pb) (h2:pb<w0.heap.size):Stc w0 w' S x:=
 ⟨h.1.kept g h1,itLies_ext (fresh_par g h2) h.2⟩
theorem Stc.kind (h:Stc w0 w S x) (hS:S<w0.heap.size) (k:Int):Stc w0 (w.setCell ⟨S,0,none⟩ (.int .i64 k)) S {x with h:= {x.h with kind:=k}}:=
 ⟨h.1.set_ 0 _,itLies_ext (fresh_par (grownBy_setC w ⟨S,0,none⟩ _) hS) h.2⟩
theorem Stc.name (h:Stc w0 w S x) (hS:S<w0.heap.size) (s:ByteArray) (hs:s.size≤maxLen):Stc w0 (w.setCell ⟨S,43,none⟩ (.string s)) S {x with h:= {x.h with name:=s}}:=
 ⟨h.1.set_ 43 _,by
  have h2:=itLies_ext (fresh_par (grownBy_setC w ⟨S,43,none⟩ (.string s)) hS) h.2
  exact ⟨⟨h2.1.1,h2.1.2.1,h2.1.2.2.1,h2.1.2.2.2.1,h2.1.2.2.2.2.1,hs⟩,h2.2⟩⟩
theorem Stc.both (h:Stc w0 w S x) (hS:S<w0.heap.size) (b:Bool):Stc w0 (w.setCell ⟨S,47,none⟩ (.bool b)) S {x with h:= {x.h with both:=b}}:=
 ⟨h.1.set_ 47 _,itLies_ext (fresh_par (grownBy_setC w ⟨S,47,none⟩ _) hS) h.2⟩
theorem Stc.then_ (h:Stc w0 w S x) (hS:S<w0.heap.size) (p:Option Addr) (c:Nat) (s:SL) (hs:sLies (fresh w0.heap.size w) p s):Stc w0 (w.setCell ⟨S,45,none⟩ (.slice p s.len c)) S {x with tp:=p,tc:=c,t:=s}:=
 ⟨h.1.set_ 45 _,by
  have he:=fresh_par (B:=w0.heap.size) (grownBy_setC w ⟨S,45,none⟩ (.slice p s.len c)) hS
  have h2:=itLies_ext he h.2
  exact ⟨h2.1,sLies_ext he hs,h2.2.2⟩⟩
theorem Stc.else_ (h:Stc w0 w S x) (hS:S<w0.heap.size) (p:Option Addr) (c:Nat) (s:SL) (hs:sLies (fresh w0.heap.size w) p s):Stc w0 (w.setCell ⟨S,46,none⟩ (.slice p s.len c)) S {x with ep:=p,ec:=c,e:=s}:=
 ⟨h.1.set_ 46 _,by
  have he:=fresh_par (B:=w0.heap.size) (grownBy_setC w ⟨S,46,none⟩ (.slice p s.len c)) hS
  have h2:=itLies_ext he h.2
  exact ⟨h2.1,h2.2.1,sLies_ext he hs⟩⟩
theorem Stc.place (h:Stc w0 w S x) (hS:S<w0.heap.size) {p:Pth} (hB:Bk w' S 63 (putC x.cells 2 p.cells).toArray) (hF:w.grownBy w' (some S)) (hs:hopsLie (fresh w0.heap.size w) p.hops):Stc w0 w' S {x with h:= {x.h with place:=p}}:=
 ⟨by rw[←put_place];exact hB,by
  have he:=fresh_par (B:=w0.heap.size) hF hS
  have h2:=itLies_ext he h.2
  exact ⟨⟨hopsLie_ext he hs,h2.1.2⟩,h2.2⟩⟩
theorem Stc.value (h:Stc w0 w S x) (hS:S<w0.heap.size) {p:Vl} (hB:Bk w' S 63 (putC x.cells 5 p.cells).toArray) (hF:w.grownBy w' (some S)) (hs:vlLies (fresh w0.heap.size w) p):Stc w0 w' S {x with h:= {x.h with value:=p}}:=
 ⟨by rw[←put_value];exact hB,by
  have he:=fresh_par (B:=w0.heap.size) hF hS
  have h2:=itLies_ext he h.2
  exact ⟨⟨h2.1.1,vlLies_ext he hs,h2.1.2.2⟩,h2.2⟩⟩
theorem Stc.cond (h:Stc w0 w S x) (hS:S<w0.heap.size) {p:Cd} (hB:Bk w' S 63 (putC x.cells 17 p.cells).toArray) (hF:w.grownBy w' (some S)) (hs:kCd.R (fresh w0.heap.size w) p):Stc w0 w' S {x with h:= {x.h with cond:=p}}:=
 ⟨by rw[←put_cond];exact hB,by
  have he:=fresh_par (B:=w0.heap.size) hF hS
  have h2:=itLies_ext he h.2
  exact ⟨⟨h2.1.1,h2.1.2.1,vlLies_ext he hs.1,vlLies_ext he hs.2,h2.1.2.2.2.2⟩,h2.2⟩⟩
theorem Stc.zero (p:Int) (hB:Bk w S 63 (it0 p).cells.toArray):Stc w0 w S (it0 p):=
 ⟨hB,⟨⟨(show 0*24≤140737488351232 by decide),.inl rfl⟩,⟨(show 0*24≤140737488351232 by decide),.inl rfl⟩,⟨(show 0*24≤140737488351232 by decide),.inl rfl⟩,⟨(show 0*24≤140737488351232 by decide),.inl rfl⟩,⟨(show 0*144≤140737488351232 by decide),.inl rfl⟩,(show 0≤maxLen from Nat.zero_le _)⟩,⟨(show 0*608≤140737488351232 by decide),.inl rfl⟩,⟨(show 0*608≤140737488351232 by decide),.inl rfl⟩⟩
end
def itH (h:Hd):It:=⟨h,none,0,.nil,none,0,.nil⟩
def itB (x:Hd×SL×SL):It:=⟨x.1,none,0,x.2.1,none,0,x.2.2⟩
def Tex (l:List Tx.Sg):Prop:= ∀(k:Nat) (x:Tx.Sg),l[k]? =some x→x.text.size≤maxLen
theorem size43:(Tryz.prog.info? 40).map (·.size)=some 3:=by kernel_rfl
end Go.Proofs.YtcehbcnloiooaaaGreatDoor
namespace Go.Proofs.YtcehbcnloiooaaaGreatDoor
open Go.RowKit Go.Sort
namespace Tx
theorem tok_fin (s:ByteArray) (k:Nat) (he:(tok s k).err=0) (hn:(tok s k).sg.kind=0):(tok s k).sg.text=ByteArray.empty:=by
 unfold tok at he hn ⊢
 split at hn
 ·rename_i h
  rw[dif_pos h] at he ⊢
  split at hn
  ·rename_i hl
   rw[if_pos hl] at he ⊢
   unfold wordA at he hn ⊢
   split at he
   ·exact absurd (show (3:Int)=0 from he) (by decide)
   ·rename_i h16
    rw[if_neg h16] at hn
    exfalso
    have:(if isKey (s.extract k (wend wrd s k))=true then (3:Int) else 1)=0:=hn
    split at this<;>exact absurd this (by decide)
  ·rename_i hl
   rw[if_neg hl] at he ⊢
   split at hn
   ·rename_i hd
    rw[if_pos hd] at he ⊢
    unfold numA at he hn ⊢
    split at he
    ·exact absurd (show (3:Int)=0 from he) (by decide)
    ·rename_i h9
     rw[if_neg h9] at hn
     exact absurd (show (2:Int)=0 from hn) (by decide)
   ·rename_i hd
    rw[if_neg hd] at he ⊢
    unfold markA at he hn ⊢
    split at he
    ·exact absurd (show (4:Int)=0 from he) (by decide)
    ·rename_i hm
     rw[if_neg hm] at hn
     exact absurd (show (4:Int)=0 from hn) (by decide)
 ·rename_i h
  rw[dif_neg h];rfl
theorem ext_size (s:ByteArray) (a b:Nat):(s.extract a b).size≤s.size:=by
 rw[ByteArray.size_extract];omega
theorem tok_text (s:ByteArray) (k:Nat):(tok s k).sg.text.size≤s.size:=by
 unfold tok
 split
 ·split
  ·unfold wordA;split
   ·exact Nat.zero_le _
   ·exact ext_size _ _ _
  ·split
   ·unfold numA;split
    ·exact Nat.zero_le _
    ·exact ext_size _ _ _
   ·unfold markA;split
    ·exact Nat.zero_le _
    ·exact ext_size _ _ _
 ·exact Nat.zero_le _
theorem go_shape: ∀(f:Nat) (s:ByteArray) (i:Nat) (acc:List Sg),i≤s.size→s.size<i+f→(go f s i acc).2.2=0→
  ∃m x,(go f s i acc).1=acc++(m++ [x])∧x.kind=0∧x.text=ByteArray.empty∧(∀y∈m,y.kind≠0)∧(∀y∈m,y.text.size≤s.size)∧m.length+i≤s.size
 |0,s,i,acc,hi,hf,_=>by omega
 |f+1,s,i,acc,hi,hf,he=>by
  unfold go at he ⊢
  split at he
  ·rename_i h0
   rw[if_pos h0]
   split at he
   ·rename_i hk
    rw[if_pos hk]
    exact ⟨[],(nx s i).sg,rfl,hk,tok_fin s _ h0 hk,by simp,by simp,by simpa using hi⟩
   ·rename_i hk
    rw[if_neg hk]
    have hadv:=nx_adv s i h0 hk
    obtain ⟨m,x,h1,h2,h3,h4,h5,h6⟩:=go_shape f s (nx s i).stop (acc++ [(nx s i).sg]) (nx_stop_le s i hi) (by omega) he
    refine ⟨(nx s i).sg::m,x,by rw[h1];simp,h2,h3, ?_, ?_,by simp only[List.length_cons];omega⟩
    ·intro y hy
     rcases List.mem_cons.1 hy with rfl |hy
     ·exact hk
     ·exact h4 y hy
    ·intro y hy
     rcases List.mem_cons.1 hy with rfl |hy
     ·exact tok_text s _
     ·exact h5 y hy
  ·rename_i h0
   exact absurd he h0
theorem alls_shape (s:ByteArray) (he:(alls s).2.2=0): ∃m x,(alls s).1=m++ [x]∧x.kind=0∧x.text=ByteArray.empty∧(∀y∈m,y.kind≠0)∧(∀y∈m,y.text.size≤s.size)∧m.length≤s.size∧s.size≤65536:=by
 unfold alls at he ⊢
 split at he
 ·exact absurd (show (3:Int)=0 from he) (by decide)
 ·rename_i h
  rw[if_neg h]
  obtain ⟨m,x,h1,h2,h3,h4,h5,h6⟩:=go_shape (s.size+1) s 0 [] (Nat.zero_le _) (by omega) he
  exact ⟨m,x,by rw[h1];rfl,h2,h3,h4,h5,by omega,by omega⟩
end Tx
theorem alls_good (s:ByteArray) (he:(Tx.alls s).2.2=0):Good (Tx.alls s).1∧Tex (Tx.alls s).1∧0<(Tx.alls s).1.length:=by
 obtain ⟨m,x,h1,h2,h3,h4,h5,h6,h7⟩:=Tx.alls_shape s he
 rw[h1]
 have hat: ∀(k:Nat) (y:Tx.Sg),(m++ [x])[k]? =some y→(k<m.length∧y∈m)∨(k=m.length∧y=x):=by
  intro k y hk
  by_cases hl:k<m.length
  ·rw[List.getElem?_append_left hl] at hk
   exact .inl ⟨hl,List.mem_of_getElem? hk⟩
  ·rw[List.getElem?_append_right (by omega)] at hk
   have hkl:k=m.length:=by
    have:=(List.getElem?_eq_some_iff.1 hk).1
    simp at this;omega
   subst hkl
   rw[Nat.sub_self] at hk
   injection hk with hk
   exact .inr ⟨rfl,hk.symm⟩
 refine ⟨⟨fun k y hk=> ?_,fun k y hk hl=> ?_,by simp;omega⟩,fun k y hk=> ?_,by simp⟩
 ·rcases hat k y hk with ⟨hl,hm⟩|⟨rfl,rfl⟩
  ·exact ⟨fun h0=>absurd h0 (h4 y hm),fun h0=>by simp at h0;omega⟩
  ·exact ⟨fun _=>by simp,fun _=>h2⟩
 ·rcases hat k y hk with ⟨hl',hm⟩|⟨rfl,rfl⟩
  ·simp at hl;omega
  ·exact h3
 ·rcases hat k y hk with ⟨hl,hm⟩|⟨rfl,rfl⟩
  ·have:=h5 y hm;unfold maxLen;omega
  ·rw[h3];exact Nat.zero_le _
namespace Pr
end Pr
end Go.Proofs.YtcehbcnloiooaaaGreatDoor
namespace Go.Proofs.YtcehbcnloiooaaaGreatDoor
namespace Tx
def isKeyL (l:List UInt8):Bool:=kw.any fun x=>l==x
structure Tk where
 kind:Int
 len:Nat
 num:Int
 err:Int
def tokL:List UInt8→Tk
 | []=>⟨0,0,0,0⟩
 |b::l=>
  if ltr (b.toNat:Int) then
   if 16<run wrd (b::l) then ⟨0,0,0,3⟩ else ⟨if isKeyL ((b::l).take (run wrd (b::l))) then 3 else 1,run wrd (b::l),0,0⟩
  else if dgt (b.toNat:Int) then
   if 9<run dgt (b::l) then ⟨0,0,0,3⟩ else ⟨2,run dgt (b::l),val ((b::l).take (run dgt (b::l))),0⟩
  else if mkl (b::l)=0 then ⟨0,0,0,4⟩ else ⟨4,mkl (b::l),0,0⟩
theorem wend_len (p:Int→Bool) (s:ByteArray) (k:Nat):wend p s k=k+run p (s.data.toList.drop k):=rfl
theorem part_take (s:ByteArray) (k n:Nat):(s.extract k (k+n)).data.toList=(s.data.toList.drop k).take n:=by
 rw[part_list,show k+n-k=n by omega]
theorem tok_list (s:ByteArray) (k:Nat):tok s k=⟨⟨(tokL (s.data.toList.drop k)).kind,k,s.extract k (k+(tokL (s.data.toList.drop k)).len),(tokL (s.data.toList.drop k)).num⟩,k+(tokL (s.data.toList.drop k)).len,(tokL (s.data.toList.drop k)).err⟩:=by
 have hbad: ∀e,An.bad k e=⟨⟨0,k,s.extract k (k+0),0⟩,k+0,e⟩:=by
  intro e;unfold An.bad;rw[Nat.add_zero,cut_none]
 by_cases h:k<s.size
 ·have hd:=drop_at s k h
  cases hl:ltr (s[k].toNat:Int)
  ·cases hg:dgt (s[k].toNat:Int)
   ·rw[tok_mark s k h hl hg]
    unfold markA mrk
    rw[hd]
    simp only[tokL,hl,hg,Bool.false_eq_true,if_false]
    by_cases h0:mkl (s[k]::s.data.toList.drop (k+1))=0
    ·rw[if_pos h0,if_pos h0];exact hbad 4
    ·rw[if_neg h0,if_neg h0];rfl
   ·rw[tok_num s k h hl hg]
    unfold numA
    rw[wend_len,part_take,hd]
    simp only[tokL,hl,hg,Bool.false_eq_true,if_false,if_true]
    rw[show k+run dgt (s[k]::s.data.toList.drop (k+1))-k=run dgt (s[k]::s.data.toList.drop (k+1)) by omega]
    by_cases h9:9<run dgt (s[k]::s.data.toList.drop (k+1))
    ·rw[if_pos h9,if_pos h9];exact hbad 3
    ·rw[if_neg h9,if_neg h9];rfl
  ·rw[tok_word s k h hl]
   unfold wordA isKey
   rw[wend_len,part_take,hd]
   simp only[tokL,hl,if_true]
   rw[show k+run wrd (s[k]::s.data.toList.drop (k+1))-k=run wrd (s[k]::s.data.toList.drop (k+1)) by omega]
   by_cases h16:16<run wrd (s[k]::s.data.toList.drop (k+1))
   ·rw[if_pos h16,if_pos h16];exact hbad 3
   ·rw[if_neg h16,if_neg h16];rfl
 ·rw[tok_end s k h,drop_end s k (by omega)]
  exact hbad 0
theorem sk_zero (b:UInt8) (l:List UInt8) (h1:blk (b.toNat:Int)=false) (h2:b.toNat≠47):sk false (b::l)=0:=by
 simp only[sk,h1,Bool.false_eq_true,if_false]
 rw[if_neg (fun h=>h2 h.1)]
def Chain (s:ByteArray):Nat→List Sg→Prop
 |_,[]=>False
 |i,a::l=>(nx s i).err=0∧(nx s i).sg=a∧((a.kind=0∧l= [])∨(a.kind≠0∧Chain s (nx s i).stop l))
theorem go_chain: ∀(f:Nat) (s:ByteArray) (i:Nat) (acc:List Sg),i≤s.size→s.size<i+f→(go f s i acc).2.2=0→
  ∃l,(go f s i acc).1=acc++l∧Chain s i l∧(go f s i acc).2.1=0
 |0,s,i,acc,hi,hf,_=>absurd hf (by omega)
 |f+1,s,i,acc,hi,hf,he=>by
  unfold go at he ⊢
  by_cases h0:(nx s i).err=0
  ·rw[if_pos h0] at he ⊢
   by_cases hk:(nx s i).sg.kind=0
   ·rw[if_pos hk]
    exact ⟨[(nx s i).sg],rfl,⟨h0,rfl,.inl ⟨hk,rfl⟩⟩,rfl⟩
   ·rw[if_neg hk] at he ⊢
    have h1:=nx_adv s i h0 hk
    have h2:=nx_stop_le s i hi
    obtain ⟨l,e1,e2,e3⟩:=go_chain f s _ _ h2 (by omega) he
    exact ⟨(nx s i).sg::l,by rw[e1,List.append_assoc];rfl,⟨h0,rfl,.inr ⟨hk,e2⟩⟩,e3⟩
  ·rw[if_neg h0] at he;exact absurd he h0
def key (g:Sg):Int×List UInt8×Int:=(g.kind,g.text.data.toList,g.num)
theorem nx_list (s:ByteArray) (i:Nat):nx s i=⟨⟨(tokL (s.data.toList.drop (skp s i))).kind,skp s i,s.extract (skp s i) (skp s i+(tokL (s.data.toList.drop (skp s i))).len),(tokL (s.data.toList.drop (skp s i))).num⟩,skp s i+(tokL (s.data.toList.drop (skp s i))).len,(tokL (s.data.toList.drop (skp s i))).err⟩:=tok_list s (skp s i)
theorem nx_blank (t:ByteArray) (j:Nat) (b:UInt8) (hb:blk (b.toNat:Int)=true) (l:List UInt8) (h:t.data.toList.drop j=b::l):nx t j=nx t (j+1)∧t.data.toList.drop (j+1)=l∧j<t.size:=by
 have hj:j<t.size:=by
  rcases Nat.lt_or_ge j t.size with h1 |h1
  ·exact h1
  ·rw[drop_end t j h1] at h;cases h
 have e:=drop_at t j hj
 rw[h] at e
 injection e with e1 e2
 refine ⟨?_,e2.symm,hj⟩
 unfold nx
 rw[skp_blank t j hj (by rw[←e1];exact hb)]
theorem alls_chain (s:ByteArray) (h:(alls s).2.2=0):Chain s 0 (alls s).1:=by
 unfold alls at h ⊢
 by_cases hl:65536<s.size
 ·rw[if_pos hl] at h;exact absurd h (show¬(3:Int)=0 by decide)
 ·rw[if_neg hl] at h ⊢
  obtain ⟨l,e1,e2,_⟩:=go_chain (s.size+1) s 0 [] (Nat.zero_le _) (by omega) h
  rw[e1];exact e2
def rem:List UInt8:= [47,47,32,109,111,114,101,10,32]
def pre:Nat→List UInt8
 |0=> []
 |n+1=>pre n++rem
end Tx
end Go.Proofs.YtcehbcnloiooaaaGreatDoor
namespace Go.Proofs.YtcehbcnloiooaaaGreatDoor
open Go.RowKit Go.Sort
theorem go_len: ∀(f:Nat) (s:ByteArray) (i:Nat) (acc:List Tx.Sg),acc.length≤i→i≤s.size→(Tx.go f s i acc).1.length≤s.size+1
 |0,s,i,acc,h,hi=>by unfold Tx.go;show acc.length≤_;omega
 |f+1,s,i,acc,h,hi=>by
  unfold Tx.go
  split
  ·rename_i he
   split
   ·show (acc++ [_]).length≤_;simp;omega
   ·rename_i hk
    have h1:=Tx.nx_adv s i he hk
    have h2:=Tx.nx_stop_le s i hi
    exact go_len f s _ _ (by simp;omega) h2
  ·simp
theorem alls_len (s:ByteArray):(Tx.alls s).1.length≤s.size+1:=by
 unfold Tx.alls;split
 ·simp
 ·exact go_len _ s 0 [] (Nat.zero_le _) (Nat.zero_le _)
end Go.Proofs.YtcehbcnloiooaaaGreatDoor
namespace Go.Proofs.YtcehbcnloiooaaaGreatDoor
namespace Tx
inductive Reads (t:ByteArray):Nat→Nat→List (Int×List UInt8×Int)→Prop
 |nil (j:Nat):Reads t j j []
 |blank {j k:Nat} {ts:List (Int×List UInt8×Int)}:nx t j=nx t (j+1)→Reads t (j+1) k ts→Reads t j k ts
 |cons {j k:Nat} {g:Int×List UInt8×Int} {ts:List (Int×List UInt8×Int)}:(nx t j).err=0→(nx t j).sg.kind≠0→key (nx t j).sg=g→Reads t (nx t j).stop k ts→Reads t j k (g::ts)
theorem Reads.trans {t:ByteArray} {i j k:Nat} {ts us:List (Int×List UInt8×Int)} (h:Reads t i j ts) (g:Reads t j k us):Reads t i k (ts++us):=by
 induction h with
 |nil j=>exact g
 |blank e _ ih=>exact .blank e (ih g)
 |cons e0 ek eg _ ih=>exact .cons e0 ek eg (ih g)
theorem Reads.chain {t:ByteArray} {j k:Nat} {ts:List (Int×List UInt8×Int)} (h:Reads t j k ts) (h0:(nx t k).err=0) (hk:(nx t k).sg.kind=0): ∃m,Chain t j m∧m.map key=ts++ [key (nx t k).sg]:=by
 induction h with
 |nil j=>exact ⟨[(nx t j).sg],⟨h0,rfl,.inl ⟨hk,rfl⟩⟩,rfl⟩
 |blank e _ ih=>
  obtain ⟨m,c,e1⟩:=ih h0 hk
  refine ⟨m, ?_,e1⟩
  cases m with
  |nil=>exact c.elim
  |cons b m=>
   obtain ⟨q0,q1,q2⟩:=c
   exact ⟨by rw[e];exact q0,by rw[e];exact q1,by rw[e];exact q2⟩
 |cons e0 ek eg _ ih=>
  obtain ⟨m,c,e1⟩:=ih h0 hk
  exact ⟨_::m,⟨e0,rfl,.inr ⟨ek,c⟩⟩,by simp only[List.map_cons,eg,e1,List.cons_append]⟩
def Lx (a:List UInt8) (ts:List (Int×List UInt8×Int)) (C:List UInt8→Prop):Prop:=
 ∀(t:ByteArray) (j:Nat) (r:List UInt8),C r→t.data.toList.drop j=a++r→∃k,Reads t j k ts∧t.data.toList.drop k=r
def Any (_:List UInt8):Prop:=True
theorem Lx.nil:Lx [] [] Any:=fun _ j _ _ h=>⟨j,.nil j,h⟩
theorem Lx.append {a b:List UInt8} {ts us:List (Int×List UInt8×Int)} {C D:List UInt8→Prop} (h:Lx a ts C) (g:Lx b us D) (hc: ∀r,D r→C (b++r)):Lx (a++b) (ts++us) D:=by
 intro t j r hr ht
 rw[List.append_assoc] at ht
 obtain ⟨k,h1,h2⟩:=h t j (b++r) (hc r hr) ht
 obtain ⟨m,g1,g2⟩:=g t k r hr h2
 exact ⟨m,h1.trans g1,g2⟩
theorem Lx.weak {a:List UInt8} {ts:List (Int×List UInt8×Int)} {C D:List UInt8→Prop} (h:Lx a ts C) (hc: ∀r,D r→C r):Lx a ts D:=fun t j r hr ht=>h t j r (hc r hr) ht
theorem Lx.blank (b:UInt8) (hb:blk (b.toNat:Int)=true):Lx [b] [] Any:=by
 intro t j r _ ht
 obtain ⟨e1,e2,_⟩:=nx_blank t j b hb r ht
 exact ⟨j+1,.blank e1 (.nil _),e2⟩
theorem Lx.tok {a:List UInt8} {kd num:Int} {C:List UInt8→Prop} (hk:kd≠0) (h: ∀r,C r→tokL (a++r)=⟨kd,a.length,num,0⟩∧sk false (a++r)=0):Lx a [(kd,a,num)] C:=by
 intro t j r hr ht
 obtain ⟨h1,h2⟩:=h r hr
 have hs:skp t j=j:=by unfold skp;rw[ht,h2];rfl
 have hn:=nx_list t j
 rw[hs,ht,h1] at hn
 have hp:=part_take t j a.length
 rw[ht,List.take_left' rfl] at hp
 refine ⟨j+a.length,.cons (by rw[hn]) (by rw[hn];exact hk) ?_ (by rw[hn];exact .nil _), ?_⟩
 ·rw[hn];unfold key;rw[hp]
 ·rw[←List.drop_drop,ht,List.drop_left' rfl]
def Clear (r:List UInt8):Prop:= ∀b,r.head? =some b→wrd (b.toNat:Int)=false
def NoPair (c:UInt8) (r:List UInt8):Prop:= ∀b,r.head? =some b→two (c.toNat:Int) (b.toNat:Int)=false
theorem run_all (p:Int→Bool): ∀(a r:List UInt8),(∀b∈a,p (b.toNat:Int)=true)→(∀b,r.head? =some b→p (b.toNat:Int)=false)→run p (a++r)=a.length
 | [],[],_,_=>rfl
 | [],b::r,_,h=>by simp only[List.nil_append,run,h b rfl,Bool.false_eq_true,if_false,List.length_nil]
 |a::l,r,h,g=>by
  have:=run_all p l r (fun b hb=>h b (List.mem_cons_of_mem _ hb)) g
  simp only[List.cons_append,run,h a List.mem_cons_self,if_true,this,List.length_cons]
def isWord (a:List UInt8):Prop:=(∃b l,a=b::l∧ltr (b.toNat:Int)=true)∧(∀b∈a,wrd (b.toNat:Int)=true)∧a.length≤16
theorem ltr_sk {b:UInt8} (h:wrd (b.toNat:Int)=true) (l:List UInt8):sk false (b::l)=0:=by
 refine sk_zero _ _ ?_ ?_
 ·unfold wrd ltr dgt at h;unfold blk;simp at h ⊢;omega
 ·unfold wrd ltr dgt at h;simp at h;omega
theorem tokL_cons (b:UInt8) (l:List UInt8):tokL (b::l)=if ltr (b.toNat:Int) then (if 16<run wrd (b::l) then ⟨0,0,0,3⟩ else ⟨if isKeyL ((b::l).take (run wrd (b::l))) then 3 else 1,run wrd (b::l),0,0⟩) else if dgt (b.toNat:Int) then (if 9<run dgt (b::l) then ⟨0,0,0,3⟩ else ⟨2,run dgt (b::l),val ((b::l).take (run dgt (b::l))),0⟩) else if mkl (b::l)=0 then ⟨0,0,0,4⟩ else ⟨4,mkl (b::l),0,0⟩:=rfl
theorem Lx.word {a:List UInt8} (h:isWord a):Lx a [(if isKeyL a then 3 else 1,a,0)] Clear:=by
 obtain ⟨⟨b,l,rfl,hb⟩,hw,hl⟩:=h
 refine Lx.tok (by split<;>decide) fun r hr=> ?_
 have hrun:=run_all wrd (b::l) r hw hr
 rw[List.cons_append] at hrun ⊢
 refine ⟨?_,ltr_sk (hw b List.mem_cons_self) _⟩
 rw[tokL_cons,if_pos hb,hrun,if_neg (by omega),←List.cons_append,List.take_left' rfl]
theorem Lx.num {a:List UInt8} (h0:a≠ []) (hd: ∀b∈a,dgt (b.toNat:Int)=true) (hl:a.length≤9):Lx a [(2,a,val a)] Clear:=by
 cases a with
 |nil=>exact absurd rfl h0
 |cons b l=>
  refine Lx.tok (by decide) fun r hr=> ?_
  have hb:=hd b List.mem_cons_self
  have hw:wrd (b.toNat:Int)=true:=by unfold wrd;rw[hb,Bool.or_true]
  have hn:ltr (b.toNat:Int)=false:=by unfold dgt at hb;unfold ltr;simp at hb ⊢;omega
  have hrun:=run_all dgt (b::l) r hd (fun c hc=>by have:=hr c hc;unfold wrd at this;simp at this;exact this.2)
  rw[List.cons_append] at hrun ⊢
  refine ⟨?_,ltr_sk hw _⟩
  rw[tokL_cons,if_neg (by rw[hn];decide),if_pos hb,hrun,if_neg (by omega),←List.cons_append,List.take_left' rfl]
theorem Lx.one {c:UInt8} (h:one c.toNat=true):Lx [c] [(4,[c],0)] (NoPair c):=by
 refine Lx.tok (by decide) fun r hr=> ?_
 have h1:ltr (c.toNat:Int)=false:=by unfold Tx.one at h;unfold ltr;simp at h ⊢;omega
 have h2:dgt (c.toNat:Int)=false:=by unfold Tx.one at h;unfold dgt;simp at h ⊢;omega
 have hm:mkl ([c]++r)=1:=by
  cases r with
  |nil=>simp only[List.append_nil,mkl,h,if_true]
  |cons b r=>simp only[List.cons_append,List.nil_append,mkl,hr b rfl,h,Bool.false_eq_true,if_false,if_true]
 refine ⟨?_, ?_⟩
 ·show tokL (c::([]++r))=_
  rw[tokL_cons,if_neg (by rw[h1];decide),if_neg (by rw[h2];decide),show c::([]++r)= [c]++r from rfl,hm,if_neg (by decide)];rfl
 ·refine sk_zero _ _ ?_ ?_
  ·unfold Tx.one at h;unfold blk;simp at h ⊢;omega
  ·unfold Tx.one at h;simp at h;omega
theorem Lx.two {c d:UInt8} (h:two c.toNat d.toNat=true):Lx [c,d] [(4,[c,d],0)] Any:=by
 refine Lx.tok (by decide) fun r _=> ?_
 have h1:ltr (c.toNat:Int)=false:=by unfold Tx.two at h;unfold ltr;simp at h ⊢;omega
 have h2:dgt (c.toNat:Int)=false:=by unfold Tx.two at h;unfold dgt;simp at h ⊢;omega
 have hm:mkl ([c,d]++r)=2:=by simp only[List.cons_append,mkl,h,if_true]
 refine ⟨?_, ?_⟩
 ·show tokL (c::([d]++r))=_
  rw[tokL_cons,if_neg (by rw[h1];decide),if_neg (by rw[h2];decide),show c::([d]++r)= [c,d]++r from rfl,hm,if_neg (by decide)];rfl
 ·refine sk_zero _ _ ?_ ?_
  ·unfold Tx.two at h;unfold blk;simp at h ⊢;omega
  ·unfold Tx.two at h;simp at h;omega
def digits (n:Nat):List UInt8:=if n<10 then [UInt8.ofNat (48+n)] else digits (n/10)++ [UInt8.ofNat (48+n % 10)]
termination_by n
decreasing_by omega
theorem dig_nat (n:Nat) (h:n<10):(UInt8.ofNat (48+n)).toNat=48+n:=by rw[UInt8.toNat_ofNat'];omega
theorem val_snoc (l:List UInt8) (b:UInt8):val (l++ [b])=10*val l+(b.toNat-48):=by unfold val;rw[List.foldl_append];rfl
theorem digits_ok (n:Nat):digits n≠ []∧(∀b∈digits n,dgt (b.toNat:Int)=true)∧val (digits n)=n:=by
 induction n using Nat.strongRecOn with
 |ind n ih=>
  unfold digits
  by_cases h:n<10
  ·rw[if_pos h]
   refine ⟨by simp,fun b hb=> ?_, ?_⟩
   ·rw[List.mem_singleton.1 hb,dig_nat n h];unfold dgt;simp;omega
   ·unfold val;simp only[List.foldl_cons,List.foldl_nil,dig_nat n h];omega
  ·rw[if_neg h]
   obtain ⟨_,h2,h3⟩:=ih (n/10) (by omega)
   refine ⟨by simp,fun b hb=> ?_, ?_⟩
   ·rcases List.mem_append.1 hb with hb |hb
    ·exact h2 b hb
    ·rw[List.mem_singleton.1 hb,dig_nat _ (by omega)];unfold dgt;simp;omega
   ·rw[val_snoc,h3,dig_nat _ (by omega)];omega
theorem digits_len: ∀(k n:Nat),n<10 ^ k→0<k→(digits n).length≤k
 |0,_,_,h=>absurd h (by omega)
 |k+1,n,hn,_=>by
  unfold digits
  by_cases h:n<10
  ·rw[if_pos h];simp
  ·rw[if_neg h,List.length_append]
   have hk:0<k:=by
    rcases Nat.eq_zero_or_pos k with rfl |h'
    ·simp at hn;omega
    ·exact h'
   have:=digits_len k (n/10) (by rw[Nat.pow_succ] at hn;omega) hk
   simp;omega
theorem Lx.digits {n:Nat} (h:n≤999999999):Lx (digits n) [(2,Tx.digits n,(n:Int))] Clear:=by
 obtain ⟨h1,h2,h3⟩:=digits_ok n
 have:=Lx.num h1 h2 (digits_len 9 n (by omega) (by omega))
 rw[h3] at this;exact this
end Tx
end Go.Proofs.YtcehbcnloiooaaaGreatDoor
namespace Go.Proofs.YtcehbcnloiooaaaGreatDoor
namespace Pn
open Tx (Lx Clear NoPair Any)
abbrev K:=Int×List UInt8×Int
def txt (x:ByteArray):List UInt8:=x.data.toList
def nm (x:ByteArray):K:=(1,txt x,0)
def ky (a:List UInt8):K:=(3,a,0)
def mk (a:List UInt8):K:=(4,a,0)
def dg (n:Int):K:=(2,Tx.digits n.toNat,n)
def okN (x:ByteArray):Bool:=(match txt x with | []=>false |b::_=>Tx.ltr (b.toNat:Int)) && (txt x).all (fun b=>Tx.wrd (b.toNat:Int)) && decide ((txt x).length≤16) && !Tx.isKeyL (txt x)
def okNum (n:Int):Bool:=decide (0≤n) && decide (n≤999999999)
def noP (w:Pth):Bool:=decide (txt w.name= []) && decide (w.hops.l= [])
def noT (t:Tm):Bool:=decide (txt t.name= []) && decide (t.n=0)
theorem okN_word {x:ByteArray} (h:okN x=true):Tx.isWord (txt x)∧Tx.isKeyL (txt x)=false:=by
 unfold okN at h
 simp only[Bool.and_eq_true,Bool.not_eq_true',List.all_eq_true,decide_eq_true_eq] at h
 obtain ⟨⟨⟨h1,h2⟩,h3⟩,h4⟩:=h
 refine ⟨⟨?_,h2,h3⟩,h4⟩
 cases ht:txt x with
 |nil=>rw[ht] at h1;simp at h1
 |cons b l=>rw[ht] at h1;exact ⟨b,l,rfl,h1⟩
theorem lx_name {x:ByteArray} (h:okN x=true):Lx (txt x) [nm x] Clear:=by
 obtain ⟨h1,h2⟩:=okN_word h
 have:=Lx.word h1
 rw[if_neg (by rw[h2];decide)] at this;exact this
theorem lx_key {a:List UInt8} (h:Tx.isWord a) (hk:Tx.isKeyL a=true):Lx a [ky a] Clear:=by
 have:=Lx.word h
 rw[if_pos hk] at this;exact this
theorem lx_num {n:Int} (h:okNum n=true):Lx (Tx.digits n.toNat) [dg n] Clear:=by
 unfold okNum at h;simp at h
 have:=Lx.digits (n:=n.toNat) (by omega)
 rw[show ((n.toNat:Nat):Int)=n by omega] at this;exact this
theorem clear_cons {b:UInt8} {l:List UInt8} (h:Tx.wrd (b.toNat:Int)=false):Clear (b::l):=fun c hc=>by
 injection hc with hc;rw[←hc];exact h
theorem nopair_cons {c b:UInt8} {l:List UInt8} (h:Tx.two (c.toNat:Int) (b.toNat:Int)=false):NoPair c (b::l):=fun d hd=>by
 injection hd with hd;rw[←hd];exact h
theorem nopair_any {c:UInt8} (h: ∀b:UInt8,Tx.two (c.toNat:Int) (b.toNat:Int)=false) (r:List UInt8):NoPair c r:=fun b _=>h b
def hopsT:List Hp→List UInt8
 | []=> []
 |h::l=> [45,62]++txt h.name++hopsT l
def hopsK:List Hp→List K
 | []=> []
 |h::l=> [mk [45,62],nm h.name]++hopsK l
def pathT (w:Pth):List UInt8:=txt w.name++hopsT w.hops.l
def pathK (w:Pth):List K:= [nm w.name]++hopsK w.hops.l
def okPath (w:Pth):Bool:=okN w.name && decide (w.hops.l.length≤8) && w.hops.l.all fun h=>okN h.name
theorem hops_clear (l:List Hp) (r:List UInt8) (hr:Clear r):Clear (hopsT l++r):=by
 cases l with
 |nil=>exact hr
 |cons h l=>exact clear_cons (by rfl)
theorem lx_hops: ∀l:List Hp,(∀h∈l,okN h.name=true)→Lx (hopsT l) (hopsK l) Clear
 | [],_=>Lx.nil.weak fun _ _=>trivial
 |h::l,ho=>by
  have h1:=(Lx.two (c:=45) (d:=62) (by rfl)).append (lx_name (ho h List.mem_cons_self)) (fun _ _=>trivial)
  exact h1.append (lx_hops l fun x hx=>ho x (List.mem_cons_of_mem _ hx)) (hops_clear l)
theorem lx_path {w:Pth} (h:okPath w=true):Lx (pathT w) (pathK w) Clear:=by
 unfold okPath at h
 simp only[Bool.and_eq_true,List.all_eq_true] at h
 exact (lx_name h.1.1).append (lx_hops _ h.2) (hops_clear _)
def termT (t:Tm):List UInt8:=if txt t.name= [] then Tx.digits t.n.toNat else txt t.name
def termK (t:Tm):List K:= [if txt t.name= [] then dg t.n else nm t.name]
def okTerm (t:Tm):Bool:=if txt t.name= [] then okNum t.n else okN t.name && decide (t.n=0)
theorem lx_term {t:Tm} (h:okTerm t=true):Lx (termT t) (termK t) Clear:=by
 unfold okTerm at h;unfold termT termK
 by_cases h0:txt t.name= []
 ·rw[if_pos h0] at h;rw[if_pos h0,if_pos h0];exact lx_num h
 ·rw[if_neg h0] at h;rw[if_neg h0,if_neg h0]
  simp only[Bool.and_eq_true] at h;exact lx_name h.1
def tNull:List UInt8:= [110,117,108,108]
def tNew:List UInt8:= [110,101,119]
def tInput:List UInt8:= [105,110,112,117,116]
def valT (v:Vl):List UInt8:=
 if v.kind=0 then tNull else if v.kind=1 then pathT v.path else if v.kind=2 then tNew++ [32]++txt v.type else if v.kind=3 then tInput
 else if v.kind=4 then Tx.digits v.left.n.toNat else if v.kind=5 then termT v.left++ [32]++ [43]++ [32]++termT v.right else termT v.left++ [32]++ [45]++ [32]++termT v.right
def valK (v:Vl):List K:=
 if v.kind=0 then [ky tNull] else if v.kind=1 then pathK v.path else if v.kind=2 then [ky tNew,nm v.type] else if v.kind=3 then [ky tInput]
 else if v.kind=4 then [dg v.left.n] else if v.kind=5 then termK v.left++ [mk [43]]++termK v.right else termK v.left++ [mk [45]]++termK v.right
def okVal (v:Vl):Bool:=
 if v.kind=0∨v.kind=3 then noP v.path && noT v.left && noT v.right && decide (txt v.type= [])
 else if v.kind=1 then noT v.left && noT v.right && decide (txt v.type= []) && okPath v.path
 else if v.kind=2 then noP v.path && noT v.left && noT v.right && okN v.type
 else if v.kind=4 then noP v.path && noT v.right && decide (txt v.type= []) && decide (txt v.left.name= []) && okNum v.left.n
 else if v.kind=5∨v.kind=6 then noP v.path && decide (txt v.type= []) && okTerm v.left && okTerm v.right
 else false
def okSide (v:Vl):Bool:=okVal v && (decide (v.kind=0)||decide (v.kind=1)||decide (v.kind=4))
theorem word_of {a:List UInt8} (h:((match a with | []=>false |b::_=>Tx.ltr (b.toNat:Int)) && a.all (fun b=>Tx.wrd (b.toNat:Int)) && decide (a.length≤16))=true):Tx.isWord a:=by
 simp only[Bool.and_eq_true,List.all_eq_true,decide_eq_true_eq] at h
 obtain ⟨⟨h1,h2⟩,h3⟩:=h
 refine ⟨?_,h2,h3⟩
 cases a with
 |nil=>simp at h1
 |cons b l=>exact ⟨b,l,rfl,h1⟩
theorem lx_null:Lx tNull [ky tNull] Clear:=lx_key (word_of (by decide)) (by decide)
theorem lx_new:Lx tNew [ky tNew] Clear:=lx_key (word_of (by decide)) (by decide)
theorem lx_input:Lx tInput [ky tInput] Clear:=lx_key (word_of (by decide)) (by decide)
theorem lx_sp:Lx [32] [] Any:=Lx.blank 32 (by rfl)
theorem lx_sum {s t:Tm} {c:UInt8} (hs:okTerm s=true) (ht:okTerm t=true) (h1:Tx.one c.toNat=true) (h2:Tx.two c.toNat 32=false):Lx (termT s++ [32]++ [c]++ [32]++termT t) (termK s++ [mk [c]]++termK t) Clear:=by
 have a:=(lx_term hs).append lx_sp (D:=Any) (fun r _=>clear_cons (by rfl))
 have b:=a.append (Lx.one h1) (fun _ _=>trivial)
 have c:=b.append lx_sp (D:=Any) (fun r _=>nopair_cons h2)
 have d:=c.append (lx_term ht) (fun _ _=>trivial)
 simpa [mk] using d
theorem lx_val {v:Vl} (h:okVal v=true):Lx (valT v) (valK v) Clear:=by
 unfold okVal at h;unfold valT valK
 by_cases h0:v.kind=0
 ·rw[if_pos h0,if_pos h0];exact lx_null
 by_cases h1:v.kind=1
 ·rw[if_neg h0,if_neg h0,if_pos h1,if_pos h1]
  rw[if_neg (by omega),if_pos h1] at h
  simp only[Bool.and_eq_true] at h
  exact lx_path h.2
 by_cases h2:v.kind=2
 ·rw[if_neg h0,if_neg h0,if_neg h1,if_neg h1,if_pos h2,if_pos h2]
  rw[if_neg (by omega),if_neg h1,if_pos h2] at h
  simp only[Bool.and_eq_true] at h
  have a:=lx_new.append lx_sp (D:=Any) (fun r _=>clear_cons (by rfl))
  have b:=a.append (lx_name h.2) (fun _ _=>trivial)
  simpa using b
 by_cases h3:v.kind=3
 ·rw[if_neg h0,if_neg h0,if_neg h1,if_neg h1,if_neg h2,if_neg h2,if_pos h3,if_pos h3];exact lx_input
 by_cases h4:v.kind=4
 ·rw[if_neg h0,if_neg h0,if_neg h1,if_neg h1,if_neg h2,if_neg h2,if_neg h3,if_neg h3,if_pos h4,if_pos h4]
  rw[if_neg (by omega),if_neg h1,if_neg h2,if_pos h4] at h
  simp only[Bool.and_eq_true] at h
  exact lx_num h.2
 rw[if_neg (by omega),if_neg h1,if_neg h2,if_neg h4] at h
 rw[if_neg h0,if_neg h0,if_neg h1,if_neg h1,if_neg h2,if_neg h2,if_neg h3,if_neg h3,if_neg h4,if_neg h4]
 by_cases h56:v.kind=5∨v.kind=6
 ·rw[if_pos h56] at h
  simp only[Bool.and_eq_true] at h
  by_cases h5:v.kind=5
  ·rw[if_pos h5,if_pos h5];exact lx_sum h.1.2 h.2 (by rfl) (by rfl)
  ·rw[if_neg h5,if_neg h5];exact lx_sum h.1.2 h.2 (by rfl) (by rfl)
 ·rw[if_neg h56] at h;cases h
def relT (k:Int):List UInt8:=if k=1 then [61,61] else if k=2 then [33,61] else if k=3 then [60] else [62,61]
def condT (c:Cd):List UInt8:=if c.kind=0 then [63] else valT c.left++ [32]++relT c.kind++ [32]++valT c.right
def condK (c:Cd):List K:=if c.kind=0 then [mk [63]] else valK c.left++ [mk (relT c.kind)]++valK c.right
def noVal (v:Vl):Bool:=decide (v.kind=0) && okVal v
def noCond (c:Cd):Bool:=decide (c.kind=0) && noVal c.left && noVal c.right
def okCond (c:Cd):Bool:=if c.kind=0 then noCond c else decide (1≤c.kind) && decide (c.kind≤4) && okSide c.left && okSide c.right
theorem lx_rel (k:Int):Lx (relT k) [mk (relT k)] (fun r=> ∃l,r=32::l):=by
 unfold relT
 split
 ·exact (Lx.two (by rfl)).weak fun _ _=>trivial
 ·split
  ·exact (Lx.two (by rfl)).weak fun _ _=>trivial
  ·split
   ·exact (Lx.one (by rfl)).weak fun _ ⟨l,hl⟩=>by rw[hl];exact nopair_cons (by rfl)
   ·exact (Lx.two (by rfl)).weak fun _ _=>trivial
theorem lx_cond {c:Cd} (h:okCond c=true):Lx (condT c) (condK c) Clear:=by
 unfold okCond at h;unfold condT condK
 by_cases h0:c.kind=0
 ·rw[if_pos h0,if_pos h0]
  exact (Lx.one (c:=63) (by rfl)).weak fun r _=>nopair_any (fun b=>by unfold Tx.two;simp) r
 ·rw[if_neg h0] at h
  rw[if_neg h0,if_neg h0]
  simp only[Bool.and_eq_true,okSide] at h
  have a:=(lx_val h.1.2.1).append lx_sp (D:=Any) (fun r _=>clear_cons (by rfl))
  have b:=a.append (lx_rel c.kind) (fun _ _=>trivial)
  have d:=b.append lx_sp (D:=Any) (fun r _=>⟨r,rfl⟩)
  have e:=d.append (lx_val h.2.1) (fun _ _=>trivial)
  simpa using e
def tInt:List UInt8:= [105,110,116]
def declT (d:Dc):List UInt8:=if txt d.type= [] then tInt++ [32]++txt d.name else txt d.type++ [42]++ [32]++txt d.name
def declK (d:Dc):List K:=if txt d.type= [] then [ky tInt,nm d.name] else [nm d.type,mk [42],nm d.name]
def okDecl (d:Dc):Bool:=okN d.name && (decide (txt d.type= [])||okN d.type)
theorem lx_decl {d:Dc} (h:okDecl d=true):Lx (declT d) (declK d) Clear:=by
 unfold okDecl at h;unfold declT declK
 simp only[Bool.and_eq_true,Bool.or_eq_true,decide_eq_true_eq] at h
 by_cases h0:txt d.type= []
 ·rw[if_pos h0,if_pos h0]
  have a:=(lx_key (a:=tInt) (word_of (by decide)) (by decide)).append lx_sp (D:=Any) (fun r _=>clear_cons (by rfl))
  have b:=a.append (lx_name h.1) (fun _ _=>trivial)
  simpa using b
 ·rw[if_neg h0,if_neg h0]
  have a:=(lx_name (h.2.resolve_left h0)).append (Lx.one (c:=42) (by rfl)) (fun r _=>clear_cons (by rfl))
  have b:=a.append lx_sp (D:=Any) (fun r _=>nopair_cons (by rfl))
  have c:=b.append (lx_name h.1) (fun _ _=>trivial)
  simpa [mk] using c
end Pn
end Go.Proofs.YtcehbcnloiooaaaGreatDoor
namespace Go.Proofs.YtcehbcnloiooaaaGreatDoor
namespace Pn
open Tx (Lx Clear NoPair Any)
theorem lx_b {b:UInt8} {a:List UInt8} {ts:List K} {D:List UInt8→Prop} (hb:Tx.blk (b.toNat:Int)=true) (h:Lx a ts D):Lx (b::a) ts D:=
 (Lx.blank b hb).append h fun _ _=>trivial
theorem lx_m {c:UInt8} {a:List UInt8} {ts:List K} {D:List UInt8→Prop} (h1:Tx.one c.toNat=true) (h2: ∀b:UInt8,Tx.two (c.toNat:Int) (b.toNat:Int)=false) (h:Lx a ts D):Lx (c::a) (mk [c]::ts) D:=
 (Lx.one h1).append h fun _ _=>nopair_any h2 _
theorem lx_m1 {c b:UInt8} {a:List UInt8} {ts:List K} {D:List UInt8→Prop} (h1:Tx.one c.toNat=true) (h2:Tx.two (c.toNat:Int) (b.toNat:Int)=false) (h:Lx (b::a) ts D):Lx (c::b::a) (mk [c]::ts) D:=
 (Lx.one h1).append h fun _ _=>nopair_cons h2
theorem lx_w {a:List UInt8} {b:UInt8} {c:List UInt8} {ts us:List K} {D:List UInt8→Prop} (h:Lx a ts Clear) (g:Lx (b::c) us D) (hb:Tx.wrd (b.toNat:Int)=false):Lx (a++b::c) (ts++us) D:=
 h.append g fun _ _=>clear_cons hb
theorem lx_a {a b:List UInt8} {ts us:List K} {D:List UInt8→Prop} (h:Lx a ts Any) (g:Lx b us D):Lx (a++b) (ts++us) D:=h.append g fun _ _=>trivial
theorem np_semi (b:UInt8):Tx.two ((59:UInt8).toNat:Int) (b.toNat:Int)=false:=by unfold Tx.two;simp
theorem np_open (b:UInt8):Tx.two ((40:UInt8).toNat:Int) (b.toNat:Int)=false:=by unfold Tx.two;simp
theorem np_shut (b:UInt8):Tx.two ((41:UInt8).toNat:Int) (b.toNat:Int)=false:=by unfold Tx.two;simp
theorem np_comma (b:UInt8):Tx.two ((44:UInt8).toNat:Int) (b.toNat:Int)=false:=by unfold Tx.two;simp
theorem np_lb (b:UInt8):Tx.two ((123:UInt8).toNat:Int) (b.toNat:Int)=false:=by unfold Tx.two;simp
theorem np_rb (b:UInt8):Tx.two ((125:UInt8).toNat:Int) (b.toNat:Int)=false:=by unfold Tx.two;simp
def pad:Nat→List UInt8
 |0=> []
 |d+1=>pad d++ [32,32]
theorem lx_pad: ∀d,Lx (pad d) [] Any
 |0=>Lx.nil
 |d+1=>lx_a (lx_pad d) (lx_b (by rfl) lx_sp)
theorem lx_padw (d:Nat) {a:List UInt8} {ts:List K} {D:List UInt8→Prop} (h:Lx a ts D):Lx (pad d++a) ts D:=lx_a (lx_pad d) h
def tFree:List UInt8:= [102,114,101,101]
def tIf:List UInt8:= [105,102]
def tElse:List UInt8:= [101,108,115,101]
def tWhile:List UInt8:= [119,104,105,108,101]
def tStruct:List UInt8:= [115,116,114,117,99,116]
def tVoid:List UInt8:= [118,111,105,100]
theorem lx_free:Lx tFree [ky tFree] Clear:=lx_key (word_of (by decide)) (by decide)
theorem lx_if:Lx tIf [ky tIf] Clear:=lx_key (word_of (by decide)) (by decide)
theorem lx_else:Lx tElse [ky tElse] Clear:=lx_key (word_of (by decide)) (by decide)
theorem lx_while:Lx tWhile [ky tWhile] Clear:=lx_key (word_of (by decide)) (by decide)
theorem lx_struct:Lx tStruct [ky tStruct] Clear:=lx_key (word_of (by decide)) (by decide)
theorem lx_void:Lx tVoid [ky tVoid] Clear:=lx_key (word_of (by decide)) (by decide)
def commaT {α:Type} (f:α→List UInt8):List α→List UInt8
 | []=> []
 | [a]=>f a
 |a::b::l=>f a++44::32::commaT f (b::l)
def commaK {α:Type} (f:α→List K):List α→List K
 | []=> []
 | [a]=>f a
 |a::b::l=>f a++mk [44]::commaK f (b::l)
theorem lx_comma {α:Type} {f:α→List UInt8} {g:α→List K}: ∀l:List α,(∀a∈l,Lx (f a) (g a) Clear)→Lx (commaT f l) (commaK g l) Clear
 | [],_=>Lx.nil.weak fun _ _=>trivial
 | [a],h=>h a List.mem_cons_self
 |a::b::l,h=>lx_w (h a List.mem_cons_self) (lx_m (by rfl) np_comma (lx_b (by rfl) (lx_comma (b::l) fun x hx=>h x (List.mem_cons_of_mem _ hx)))) (by rfl)
def stT (h:Hd) (t e:List UInt8) (d:Nat) (k:List UInt8):List UInt8:=
 if h.kind=0 then 59::10::k
 else if h.kind=1 then pathT h.place++32::61::32::(valT h.value++59::10::k)
 else if h.kind=2 then tFree++40::(pathT h.place++41::59::10::k)
 else if h.kind=3 then txt h.name++40::(commaT valT h.args.l++41::59::10::k)
 else if h.kind=4 then tIf++32::40::(condT h.cond++41::32::123::10::(t++(pad d++125::(if h.both then 32::(tElse++32::123::10::(e++(pad d++125::10::k))) else 10::k))))
 else if h.kind=5 then tWhile++32::40::(condT h.cond++41::32::123::10::(t++(pad d++125::10::k)))
 else 123::10::(t++(pad d++125::10::k))
def stK (h:Hd) (t e k:List K):List K:=
 if h.kind=0 then mk [59]::k
 else if h.kind=1 then pathK h.place++mk [61]::(valK h.value++mk [59]::k)
 else if h.kind=2 then ky tFree::mk [40]::(pathK h.place++mk [41]::mk [59]::k)
 else if h.kind=3 then nm h.name::mk [40]::(commaK valK h.args.l++mk [41]::mk [59]::k)
 else if h.kind=4 then ky tIf::mk [40]::(condK h.cond++mk [41]::mk [123]::(t++mk [125]::(if h.both then ky tElse::mk [123]::(e++mk [125]::k) else k)))
 else if h.kind=5 then ky tWhile::mk [40]::(condK h.cond++mk [41]::mk [123]::(t++mk [125]::k))
 else mk [123]::(t++mk [125]::k)
def linesT:SL→Nat→List UInt8
 |.nil,_=> []
 |.cons h _ _ t _ _ e r,d=>pad d++stT h (linesT t (d+1)) (linesT e (d+1)) d (linesT r d)
def linesK:SL→List K
 |.nil=> []
 |.cons h _ _ t _ _ e r=>stK h (linesK t) (linesK e) (linesK r)
def noCall (h:Hd):Bool:=decide (txt h.name= []) && decide (h.args.l= [])
def okStmt (h:Hd) (t0 e0:Bool):Bool:=
 if h.kind=0 then noP h.place && noVal h.value && noCond h.cond && noCall h && t0 && e0 && !h.both
 else if h.kind=1 then okPath h.place && okVal h.value && noCond h.cond && noCall h && t0 && e0 && !h.both
 else if h.kind=2 then okPath h.place && noVal h.value && noCond h.cond && noCall h && t0 && e0 && !h.both
 else if h.kind=3 then h.args.l.all okSide && noP h.place && noVal h.value && noCond h.cond && okN h.name && t0 && e0 && !h.both
 else if h.kind=4 then noP h.place && noVal h.value && okCond h.cond && noCall h && (h.both ||e0)
 else if h.kind=5 then noP h.place && noVal h.value && okCond h.cond && noCall h && e0 && !h.both
 else if h.kind=6 then noP h.place && noVal h.value && noCond h.cond && noCall h && e0 && !h.both
 else false
def isNil:SL→Bool
 |.nil=>true
 |.cons .. =>false
def okList:SL→Bool
 |.nil=>true
 |.cons h _ _ t _ _ e r=>okStmt h (isNil t) (isNil e) && okList t && okList e && okList r
theorem lx_args {l:List Vl} (h:l.all okSide=true):Lx (commaT valT l) (commaK valK l) Clear:=
 lx_comma l fun a ha=>by
  have:=List.all_eq_true.1 h a ha
  unfold okSide at this
  simp only[Bool.and_eq_true] at this
  exact lx_val this.1
theorem lx_stmt {h:Hd} {t0 e0:Bool} {t e k:List UInt8} {tk ek kk:List K} {d:Nat} (ho:okStmt h t0 e0=true) (ht:Lx t tk Any) (he:Lx e ek Any) (hk:Lx k kk Any):Lx (stT h t e d k) (stK h tk ek kk) Any:=by
 have hend:Lx (10::k) kk Any:=lx_b (by rfl) hk
 have hsemi:Lx (59::10::k) (mk [59]::kk) Any:=lx_m (by rfl) np_semi hend
 have hshut:Lx (41::59::10::k) (mk [41]::mk [59]::kk) Any:=lx_m (by rfl) np_shut hsemi
 have hblk: ∀ {a b:List UInt8} {u v:List K},Lx a u Any→Lx b v Any→Lx (123::10::(a++(pad d++125::b))) (mk [123]::(u++mk [125]::v)) Any:=
  fun ha hb=>lx_m (by rfl) np_lb (lx_b (by rfl) (lx_a ha (lx_padw d (lx_m (by rfl) np_rb hb))))
 unfold okStmt at ho;unfold stT stK
 by_cases h0:h.kind=0
 ·rw[if_pos h0,if_pos h0];exact hsemi
 by_cases h1:h.kind=1
 ·rw[if_neg h0,if_pos h1] at ho
  simp only[Bool.and_eq_true] at ho
  rw[if_neg h0,if_neg h0,if_pos h1,if_pos h1]
  exact lx_w (lx_path ho.1.1.1.1.1.1) (lx_b (by rfl) (lx_m1 (by rfl) (by rfl) (lx_b (by rfl) (lx_w (lx_val ho.1.1.1.1.1.2) hsemi (by rfl))))) (by rfl)
 by_cases h2:h.kind=2
 ·rw[if_neg h0,if_neg h1,if_pos h2] at ho
  simp only[Bool.and_eq_true] at ho
  rw[if_neg h0,if_neg h0,if_neg h1,if_neg h1,if_pos h2,if_pos h2]
  exact lx_w lx_free (lx_m (by rfl) np_open (lx_w (lx_path ho.1.1.1.1.1.1) hshut (by rfl))) (by rfl)
 by_cases h3:h.kind=3
 ·rw[if_neg h0,if_neg h1,if_neg h2,if_pos h3] at ho
  simp only[Bool.and_eq_true] at ho
  rw[if_neg h0,if_neg h0,if_neg h1,if_neg h1,if_neg h2,if_neg h2,if_pos h3,if_pos h3]
  exact lx_w (lx_name ho.1.1.1.2) (lx_m (by rfl) np_open (lx_w (lx_args ho.1.1.1.1.1.1.1) hshut (by rfl))) (by rfl)
 by_cases h4:h.kind=4
 ·rw[if_neg h0,if_neg h1,if_neg h2,if_neg h3,if_pos h4] at ho
  simp only[Bool.and_eq_true] at ho
  rw[if_neg h0,if_neg h0,if_neg h1,if_neg h1,if_neg h2,if_neg h2,if_neg h3,if_neg h3,if_pos h4,if_pos h4]
  refine lx_w lx_if (lx_b (by rfl) (lx_m (by rfl) np_open (lx_w (lx_cond ho.1.1.2) (lx_m (by rfl) np_shut (lx_b (by rfl) (hblk ht ?_))) (by rfl)))) (by rfl)
  by_cases hb:h.both=true
  ·rw[if_pos hb,if_pos hb]
   exact lx_b (by rfl) (lx_w lx_else (lx_b (by rfl) (hblk he hend)) (by rfl))
  ·rw[if_neg hb,if_neg hb];exact hend
 by_cases h5:h.kind=5
 ·rw[if_neg h0,if_neg h1,if_neg h2,if_neg h3,if_neg h4,if_pos h5] at ho
  simp only[Bool.and_eq_true] at ho
  rw[if_neg h0,if_neg h0,if_neg h1,if_neg h1,if_neg h2,if_neg h2,if_neg h3,if_neg h3,if_neg h4,if_neg h4,if_pos h5,if_pos h5]
  exact lx_w lx_while (lx_b (by rfl) (lx_m (by rfl) np_open (lx_w (lx_cond ho.1.1.1.2) (lx_m (by rfl) np_shut (lx_b (by rfl) (hblk ht hend))) (by rfl)))) (by rfl)
 rw[if_neg h0,if_neg h0,if_neg h1,if_neg h1,if_neg h2,if_neg h2,if_neg h3,if_neg h3,if_neg h4,if_neg h4,if_neg h5,if_neg h5]
 exact hblk ht hend
theorem lx_lines: ∀(l:SL) (d:Nat),okList l=true→Lx (linesT l d) (linesK l) Any
 |.nil,_,_=>Lx.nil
 |.cons h _ _ t _ _ e r,d,ho=>by
  simp only[okList,Bool.and_eq_true] at ho
  exact lx_padw d (lx_stmt ho.1.1.1 (lx_lines t (d+1) ho.1.1.2) (lx_lines e (d+1) ho.1.2) (lx_lines r d ho.2))
def fieldsT (d:Nat):List Dc→List UInt8→List UInt8
 | [],k=>k
 |x::l,k=>pad d++(declT x++59::10::fieldsT d l k)
def fieldsK:List Dc→List K→List K
 | [],k=>k
 |x::l,k=>declK x++mk [59]::fieldsK l k
theorem lx_fields {d:Nat} {k:List UInt8} {kk:List K} (hk:Lx k kk Any): ∀l:List Dc,l.all okDecl=true→Lx (fieldsT d l k) (fieldsK l kk) Any
 | [],_=>hk
 |x::l,h=>by
  simp only[List.all_cons,Bool.and_eq_true] at h
  exact lx_padw d (lx_w (lx_decl h.1) (lx_m (by rfl) np_semi (lx_b (by rfl) (lx_fields hk l h.2))) (by rfl))
def structsT:List Sr→List UInt8→List UInt8
 | [],k=>k
 |x::l,k=>tStruct++32::(txt x.name++32::123::10::fieldsT 1 x.fields.l (125::10::structsT l k))
def structsK:List Sr→List K→List K
 | [],k=>k
 |x::l,k=>ky tStruct::nm x.name::mk [123]::fieldsK x.fields.l (mk [125]::structsK l k)
def okField (d:Dc):Bool:=okDecl d && !decide (txt d.type= [])
def okStruct (s:Sr):Bool:=okN s.name && s.fields.l.all okField
theorem fields_decls {l:List Dc} (h:l.all okField=true):l.all okDecl=true:=by
 rw[List.all_eq_true] at h ⊢
 intro x hx
 have:=h x hx
 unfold okField at this
 simp only[Bool.and_eq_true] at this
 exact this.1
theorem lx_structs {k:List UInt8} {kk:List K} (hk:Lx k kk Any): ∀l:List Sr,l.all okStruct=true→Lx (structsT l k) (structsK l kk) Any
 | [],_=>hk
 |x::l,h=>by
  simp only[List.all_cons,Bool.and_eq_true,okStruct] at h
  exact lx_w lx_struct (lx_b (by rfl) (lx_w (lx_name h.1.1) (lx_b (by rfl) (lx_m (by rfl) np_lb (lx_b (by rfl) (lx_fields (lx_m (by rfl) np_rb (lx_b (by rfl) (lx_structs hk l h.2))) _ (fields_decls h.1.2))))) (by rfl))) (by rfl)
def procsT:List Pc→List UInt8
 | []=> []
 |x::l=>tVoid++32::(txt x.name++40::(commaT declT x.params.l++41::32::123::10::fieldsT 1 x.locals_.l (linesT x.body 1++125::10::procsT l)))
def procsK:List Pc→List K
 | []=> []
 |x::l=>ky tVoid::nm x.name::mk [40]::(commaK declK x.params.l++mk [41]::mk [123]::fieldsK x.locals_.l (linesK x.body++mk [125]::procsK l))
def okProc (p:Pc):Bool:=okN p.name && p.params.l.all okDecl && p.locals_.l.all okDecl && okList p.body
theorem lx_procs: ∀l:List Pc,l.all okProc=true→Lx (procsT l) (procsK l) Any
 | [],_=>Lx.nil
 |x::l,h=>by
  simp only[List.all_cons,Bool.and_eq_true,okProc] at h
  have hps:Lx (commaT declT x.params.l) (commaK declK x.params.l) Clear:=lx_comma _ fun a ha=>lx_decl (List.all_eq_true.1 h.1.1.1.2 a ha)
  have hbody:Lx (linesT x.body 1++125::10::procsT l) (linesK x.body++mk [125]::procsK l) Any:=lx_a (lx_lines _ 1 h.1.2) (lx_m (by rfl) np_rb (lx_b (by rfl) (lx_procs l h.2)))
  exact lx_w lx_void (lx_b (by rfl) (lx_w (lx_name h.1.1.1.1) (lx_m (by rfl) np_open (lx_w hps (lx_m (by rfl) np_shut (lx_b (by rfl) (lx_m (by rfl) np_lb (lx_b (by rfl) (lx_fields hbody _ h.1.1.2))))) (by rfl))) (by rfl))) (by rfl)
def progT (p:Pg):List UInt8:=structsT p.structs.l (fieldsT 0 p.globals.l (procsT p.procs.l))
def progK (p:Pg):List K:=structsK p.structs.l (fieldsK p.globals.l (procsK p.procs.l))
def okProg (p:Pg):Bool:=p.structs.l.all okStruct && p.globals.l.all okDecl && p.procs.l.all okProc
theorem lx_prog {p:Pg} (h:okProg p=true):Lx (progT p) (progK p) Any:=by
 simp only[okProg,Bool.and_eq_true] at h
 exact lx_structs (lx_fields (lx_procs _ h.2) _ h.1.2) _ h.1.1
end Pn
end Go.Proofs.YtcehbcnloiooaaaGreatDoor
namespace Go.Proofs.YtcehbcnloiooaaaGreatDoor
open Go.RowKit Go.Sort
namespace Tx
def headL (s:ByteArray):Bool:=if h:0<s.size then ltr (s[0].toNat:Int) else false
def nameB (s:ByteArray):Bool:=decide (s.size≤16) && headL s && decide (wend wrd s 0=s.size) && !isKey s
theorem headL_eq (s:ByteArray) (h:0<s.size):headL s=ltr (s[0].toNat:Int):=by unfold headL;rw[dif_pos h]
end Tx
theorem toList_ne (s:ByteArray) (h:0<s.size):(s.toList== [])=false:=by
 rw[Lib.toList_data]
 rw[Bool.eq_false_iff]
 intro e
 have:=Tx.len_eq s
 rw[beq_iff_eq] at e
 rw[e] at this
 simp at this
 omega
namespace Pn
theorem okN_nameB {x:ByteArray} (h:okN x=true):x.size≤16∧Tx.nameB x=true:=by
 obtain ⟨⟨⟨b,l,e1,e2⟩,e3,e4⟩,e5⟩:=okN_word h
 have hs:x.size≤16:=by have:=Tx.len_eq x;unfold txt at e4;omega
 refine ⟨hs, ?_⟩
 have hr:=Tx.run_all Tx.wrd (txt x) [] e3 (fun b hb=>by cases hb)
 rw[List.append_nil] at hr
 have hlen:(txt x).length=x.size:=Tx.len_eq x
 have h0:0<x.size:=by rw[←hlen,e1];simp
 have hw:Tx.wend Tx.wrd x 0=x.size:=by
  unfold Tx.wend
  rw[List.drop_zero]
  show 0+Tx.run Tx.wrd (txt x)=_
  rw[hr,hlen,Nat.zero_add]
 have hh:Tx.headL x=true:=by
  rw[Tx.headL_eq x h0]
  have:x[0]=b:=by
   have:x.data.toList[0]? =some b:=by show (txt x)[0]? =some b;rw[e1];rfl
   obtain ⟨_,e⟩:=List.getElem?_eq_some_iff.1 this
   rw[ByteArray.getElem_eq_getElem_data,←e];simp
  rw[this];exact e2
 have hk:Tx.isKey x=false:=e5
 unfold Tx.nameB
 rw[decide_eq_true hs,hh,decide_eq_true hw,hk]
 rfl
end Pn
end Go.Proofs.YtcehbcnloiooaaaGreatDoor
namespace Go.Proofs.YtcehbcnloiooaaaGreatDoor
open Go.RowKit Go.Sort
theorem isNameLex_any (s:ByteArray) (w:World) (hs:s.size≤5000000) (hg:Gl w):
  Calls Tryz.prog 114 #[.string s] w fun e w'=>e= .returned (.bool (Tx.nameB s))∧w=w':=by
 by_cases h0:s.size=0
 ·obtain rfl:=Tx.empty_of s h0
  clear h0
  go_enter Tryz.func114,Tryz.ntmps114
  go_wp2
  go_ret
  exact ⟨rfl,rfl⟩
 ·have h1:0<s.size:=by omega
  have hne:=toList_ne s h1
  clear h0
  have hw:=hdn (Tx.headL_eq s h1)
  by_cases h16:s.size≤16
  ·cases hl:Tx.ltr (s[0].toNat:Int)
   ·have HE:Hid (Tx.nameB s=false):=hdn (by unfold Tx.nameB;rw[hw.out,hl];simp)
    go_enter Tryz.func114,Tryz.ntmps114
    go_wp2_with (first |(go_at_call 127;refine (isLetter_any _ _).mono ?_;rintro e w' ⟨rfl,rfl⟩)|(go_at_call 135;refine (wordEnd_any s 0 _ hs (by omega)).mono ?_;rintro e w' ⟨rfl,rfl⟩)|(go_at_call 136;refine (isKeyLex_any _ _ hg).mono ?_;rintro e w' ⟨rfl,rfl⟩))
    go_ret
    exact ⟨ret_bool HE.out.symm,rfl⟩
   ·have h16':=hdn h16
    by_cases hd:Tx.wend Tx.wrd s 0=s.size
    ·have HE:Hid (Tx.nameB s= !Tx.isKey s):=hdn (by unfold Tx.nameB;rw[hw.out,hl,decide_eq_true hd,decide_eq_true h16];simp)
     have hd':decide (Tx.wend Tx.wrd s 0=s.size)=true:=decide_eq_true hd
     have hd2:((Tx.wend Tx.wrd s 0:Int)==(s.size:Int))=true:=by rw[hd];simp
     clear hd
     go_enter Tryz.func114,Tryz.ntmps114
     go_wp2_with (first |(go_at_call 127;refine (isLetter_any _ _).mono ?_;rintro e w' ⟨rfl,rfl⟩)|(go_at_call 135;refine (wordEnd_any s 0 _ hs (by omega)).mono ?_;rintro e w' ⟨rfl,rfl⟩)|(go_at_call 136;refine (isKeyLex_any _ _ hg).mono ?_;rintro e w' ⟨rfl,rfl⟩))
     go_ret
     exact ⟨ret_bool HE.out.symm,rfl⟩
    ·have HE:Hid (Tx.nameB s=false):=hdn (by unfold Tx.nameB;rw[decide_eq_false hd];simp)
     have hd2:((Tx.wend Tx.wrd s 0:Int)==(s.size:Int))=false:=by rw[Bool.eq_false_iff];intro e;rw[beq_iff_eq] at e;exact hd (by omega)
     clear hd
     go_enter Tryz.func114,Tryz.ntmps114
     go_wp2_with (first |(go_at_call 127;refine (isLetter_any _ _).mono ?_;rintro e w' ⟨rfl,rfl⟩)|(go_at_call 135;refine (wordEnd_any s 0 _ hs (by omega)).mono ?_;rintro e w' ⟨rfl,rfl⟩)|(go_at_call 136;refine (isKeyLex_any _ _ hg).mono ?_;rintro e w' ⟨rfl,rfl⟩))
     go_ret
     exact ⟨ret_bool HE.out.symm,rfl⟩
  ·have HE:Hid (Tx.nameB s=false):=hdn (by unfold Tx.nameB;rw[decide_eq_false h16];simp)
   go_enter Tryz.func114,Tryz.ntmps114
   go_wp2_with fail
   go_ret
   exact ⟨ret_bool HE.out.symm,rfl⟩
end Go.Proofs.YtcehbcnloiooaaaGreatDoor
namespace Go.Proofs.YtcehbcnloiooaaaGreatDoor
open Go.RowKit Go.Sort
attribute [local go_sem] field79_0 field79_1 field79_2 field79_3
section
variable {pb sb cap:Nat} {l:List Tx.Sg}
end
end Go.Proofs.YtcehbcnloiooaaaGreatDoor
namespace Go.Proofs.YtcehbcnloiooaaaGreatDoor
open Go.RowKit Go.Sort
attribute [local go_sem] field79_0 field79_1 field79_2 field79_3
section
variable {pb sb cap:Nat} {l:List Tx.Sg}
end
end Go.Proofs.YtcehbcnloiooaaaGreatDoor
namespace Go.Proofs.YtcehbcnloiooaaaGreatDoor
open Go.RowKit Go.Sort
attribute [local go_sem] field79_0 field79_1 field79_2 field79_3
section
variable {pb sb cap:Nat} {l:List Tx.Sg}
end
end Go.Proofs.YtcehbcnloiooaaaGreatDoor
namespace Go.Proofs.YtcehbcnloiooaaaGreatDoor
open Go.RowKit Go.Sort
def SL.onto:List It→SL→SL
 | [],r=>r
 |x::l,r=> .cons x.h x.tp x.tc x.t x.ep x.ec x.e (SL.onto l r)
theorem SL.onto_nil: ∀(l:List It),SL.onto l .nil=SL.of l
 | []=>rfl
 |x::l=>by rw[SL.onto,SL.of,SL.onto_nil l]
theorem SL.onto_app: ∀(l m:List It) (r:SL),SL.onto (l++m) r=SL.onto l (SL.onto m r)
 | [],_,_=>rfl
 |x::l,m,r=>by rw[List.cons_append,SL.onto,SL.onto,SL.onto_app l m r]
theorem SL.of_len: ∀(l:List It),(SL.of l).len=l.length
 | []=>rfl
 |x::l=>by rw[SL.of,SL.len,SL.of_len l,List.length_cons]
def thenOnto (acc:List It) (r:Pr.Res SL):Pr.Res SL:=
 match r with
 |.error e=> .error e
 |.ok (s,v)=> .ok (SL.onto acc s,v)
theorem thenOnto_nil (r:Pr.Res SL):thenOnto [] r=r:=by
 cases r with
 |error e=>rfl
 |ok x=>rfl
theorem thenOnto_app (acc m:List It) (r:Pr.Res SL):thenOnto acc (thenOnto m r)=thenOnto (acc++m) r:=by
 cases r with
 |error e=>rfl
 |ok x=>simp only[thenOnto,SL.onto_app]
theorem lies_ofItems {w:World}: ∀(l:List It) (b o:Nat),(∀(k:Nat) (x:It),l[k]? =some x→w.rangeAt b (o+k*48) x.cells∧itLies w x)→lies w (SL.of l) b o
 | [],_,_,_=>trivial
 |x::l,b,o,h=>by
  obtain ⟨h1,h2⟩:=h 0 x rfl
  rw[Nat.zero_mul,Nat.add_zero] at h1
  exact ⟨h1,h2.1,h2.2.1,h2.2.2,lies_ofItems l b (o+48) fun k y hk=>by
   have:=h (k+1) y hk
   rwa[show o+(k+1)*48=o+48+k*48 by omega] at this⟩
theorem sLies_items {w:World} {p:Option Addr} {l:List It} (h:kIt.Ly w p l):sLies w p (SL.of l):=by
 obtain ⟨h0,h⟩:=h
 refine ⟨by rw[SL.of_len];exact h0, ?_⟩
 rcases h with h |⟨b,o,hp,hx⟩
 ·exact .inl (by rw[h];rfl)
 ·exact .inr ⟨b,o,hp,lies_ofItems l b o hx⟩
attribute [local go_sem] field79_0 field79_1 field79_2 field79_3
section
variable {pb sb cap:Nat} {l:List Tx.Sg}
end
end Go.Proofs.YtcehbcnloiooaaaGreatDoor
namespace Go.Proofs.YtcehbcnloiooaaaGreatDoor
open Go.RowKit Go.Sort
attribute [local go_sem] field79_0 field79_1 field79_2 field79_3
section
variable {pb sb cap:Nat} {l:List Tx.Sg}
end
end Go.Proofs.YtcehbcnloiooaaaGreatDoor
namespace Go.Proofs.YtcehbcnloiooaaaGreatDoor
open Go.RowKit Go.Sort
attribute [local go_sem] field79_0 field79_1 field79_2 field79_3
section
variable {pb sb cap:Nat} {l:List Tx.Sg}
end
end Go.Proofs.YtcehbcnloiooaaaGreatDoor
namespace Go.Proofs.YtcehbcnloiooaaaGreatDoor
open Go.RowKit Go.Sort
namespace Pr
section
variable {t:List Tk}
end
end Pr
def M3 (B:Nat) (r1 r2 r3:Option Nat) (w:World):World:=mask (fun b=>decide (b<B)||(decide (some b=r1)||(decide (some b=r2)||decide (some b=r3)))) w
theorem M3.par {B g:Nat} {r1 r2 r3:Option Nat} {w w':World} (h:w.grownBy w' (some g)) (hg:g<B):Ext (M3 B r1 r2 r3 w) (M3 B r1 r2 r3 w'):=Ext.of_mask fun b hb hlt=>by
 refine ⟨hb,h.block b hlt ?_⟩
 simp only[Bool.or_eq_false_iff,decide_eq_false_iff_not] at hb
 intro e;injection e with e;omega
theorem M3.below {B:Nat} {r1 r2 r3:Option Nat} {w w':World} (h:Below w.heap.size w w'):Ext (M3 B r1 r2 r3 w) (M3 B r1 r2 r3 w'):=Ext.of_mask fun b hb hlt=>⟨hb,h.block b hlt⟩
theorem M3.of_fresh {B B':Nat} {r1 r2 r3:Option Nat} {w:World} (hB:B≤B') (h1: ∀q,r1=some q→q<B') (h2: ∀q,r2=some q→q<B') (h3: ∀q,r3=some q→q<B'):Ext (fresh B' w) (M3 B r1 r2 r3 w):=Ext.of_mask fun b hb _=>by
 simp only[Bool.or_eq_false_iff,decide_eq_false_iff_not] at hb ⊢
 exact ⟨⟨by omega,fun e=>by have:=h1 b e.symm;omega,fun e=>by have:=h2 b e.symm;omega,fun e=>by have:=h3 b e.symm;omega⟩,trivial⟩
theorem M3.fresh {B:Nat} {r1 r2 r3:Option Nat} {w:World}:Ext (M3 B r1 r2 r3 w) (YtcehbcnloiooaaaGreatDoor.fresh B w):=Ext.of_mask fun b hb _=>by
 simp only[Bool.or_eq_false_iff,decide_eq_false_iff_not] at hb ⊢
 exact ⟨hb.1,trivial⟩
theorem M3.push1 {B g:Nat} {r1 r2 r3:Option Nat} {w w':World} (h:w.grownBy w' r1) (hat:r1=some g∨w.heap.size≤g):Ext (M3 B r1 r2 r3 w) (M3 B (some g) r2 r3 w'):=Ext.of_mask fun b hb hlt=>by
 simp only[Bool.or_eq_false_iff,decide_eq_false_iff_not] at hb ⊢
 obtain ⟨h0,h1,h2,h3⟩:=hb
 refine ⟨⟨h0, ?_,h2,h3⟩,h.block b hlt h1⟩
 rcases hat with rfl |hat
 ·exact h1
 ·intro e;injection e with e;omega
theorem M3.push2 {B g:Nat} {r1 r2 r3:Option Nat} {w w':World} (h:w.grownBy w' r2) (hat:r2=some g∨w.heap.size≤g):Ext (M3 B r1 r2 r3 w) (M3 B r1 (some g) r3 w'):=Ext.of_mask fun b hb hlt=>by
 simp only[Bool.or_eq_false_iff,decide_eq_false_iff_not] at hb ⊢
 obtain ⟨h0,h1,h2,h3⟩:=hb
 refine ⟨⟨h0,h1, ?_,h3⟩,h.block b hlt h2⟩
 rcases hat with rfl |hat
 ·exact h2
 ·intro e;injection e with e;omega
theorem M3.push3 {B g:Nat} {r1 r2 r3:Option Nat} {w w':World} (h:w.grownBy w' r3) (hat:r3=some g∨w.heap.size≤g):Ext (M3 B r1 r2 r3 w) (M3 B r1 r2 (some g) w'):=Ext.of_mask fun b hb hlt=>by
 simp only[Bool.or_eq_false_iff,decide_eq_false_iff_not] at hb ⊢
 obtain ⟨h0,h1,h2,h3⟩:=hb
 refine ⟨⟨h0,h1,h2, ?_⟩,h.block b hlt h3⟩
 rcases hat with rfl |hat
 ·exact h3
 ·intro e;injection e with e;omega
def Kd.Row {α:Type} (K:Kd α) (B:Nat) (xs:List α) (v:Value) (wm w:World):Prop:= ∃ys:List α,ys.map K.er=xs∧w.ownsRow B K.T K.size v xs.length (ys.flatMap K.cells)∧∀y∈ys,K.R wm y
theorem Kd.Row.lt {α:Type} {K:Kd α} {B:Nat} {xs:List α} {v:Value} {wm w:World} (h:K.Row B xs v wm w): ∀q,v.ownBlock=some q→B≤q∧q<w.heap.size:=by obtain ⟨ys,_,h,_⟩:=h;exact fun q hq=>h.lt q hq
theorem Kd.Row.shape {α:Type} {K:Kd α} {B:Nat} {xs:List α} {v:Value} {wm w:World} (h:K.Row B xs v wm w): ∃a c,v= .slice a xs.length c:=by obtain ⟨ys,_,h,_⟩:=h;exact own_shape h
theorem Kd.Row.to {α:Type} {K:Kd α} {B:Nat} {xs:List α} {v:Value} {wm w wm' w':World} (h:K.Row B xs v wm w) (hx:Ext wm wm') {r:Option Nat} (hg:w.grownBy w' r) (hr: ∀q,v.ownBlock=some q→r≠some q):K.Row B xs v wm' w':=by
 obtain ⟨ys,h1,h2,h3⟩:=h
 refine ⟨ys,h1,h2.kept hg ?_,fun y hy=>K.ext y hx (h3 y hy)⟩
 cases hv:v.ownBlock with
 |none=>exact .inl rfl
 |some q=>right;intro e;exact hr q hv e.symm
theorem Kd.Row.add {α:Type} {K:Kd α} {B g cap:Nat} {xs ys:List α} {y:α} {wm' w':World} (h1:ys.map K.er=xs) (h3: ∀y∈ys,K.R wm' y) (hy:K.R wm' y)
  (ho:w'.ownsRow B K.T K.size (.slice (some ⟨g,0,none⟩) (xs.length+1) cap) (xs.length+1) (ys.flatMap K.cells++K.cells y)):K.Row B (xs++ [K.er y]) (.slice (some ⟨g,0,none⟩) (xs.length+1) cap) wm' w':=by
 refine ⟨ys++ [y],by rw[List.map_append,h1];rfl,by rw[List.flatMap_append,List.flatMap_singleton,List.length_append,List.length_singleton];exact ho,fun z hz=> ?_⟩
 rcases List.mem_append.1 hz with hz |hz
 ·exact h3 z hz
 ·rw[List.mem_singleton.1 hz];exact hy
theorem Kd.Row.fin {α:Type} {K:Kd α} {B:Nat} {xs:List α} {v:Value} {wm w:World} (hl:xs.length*K.bytes≤140737488351232) (hx:Ext wm (YtcehbcnloiooaaaGreatDoor.fresh B w)) (h:K.Row B xs v wm w):
  ∃s:Sl α,v= .slice s.p s.l.length s.cap∧s.l.map K.er=xs∧K.Ly (YtcehbcnloiooaaaGreatDoor.fresh B w) s.p s.l:=by
 obtain ⟨ys,h1,h2,h3⟩:=h
 subst h1
 rw[List.length_map] at h2 hl
 obtain ⟨p,c,rfl,hp⟩:=own_lies K.len h2
 refine ⟨⟨p,c,ys⟩,rfl,rfl,hl, ?_⟩
 rcases hp with hp |⟨b,o,rfl,hB,_,hk⟩
 ·exact .inl hp
 ·exact .inr ⟨b,o,rfl,fun k x hj=>⟨hk k x hj,K.ext x hx (h3 x (List.mem_of_getElem? hj))⟩⟩
theorem Kd.step_pushR {α:Type} (K:Kd α) {P:Program} {ops:Array Oper} {o:Oper} {a:Act} {w:World} {R:Act→World→Prop} {Q:Exit→Act→World→Prop} {E:Prop} (hgd:o.guard=none) (t:TypeId) (i:TypeInfo) (z:Value) (hI:K.Inf P t i z) (s x:Operand)
  (ho:o.op= .call {callee:= .builtin .append,args:= #[s,x],argTypes:= #[t,t]})
  (B n:Nat) (cs:List Value) (v:Value) (hs:a.eval s=v) (h2:w.ownsRow B K.T K.size v n cs) (hB:B≤w.heap.size) (y:α) (hx:a.eval x= .slice (some ⟨w.heap.size,0,none⟩) 1 1)
  (h63:n+1≤maxLen) (hb:(n+1)*K.bytes≤140737488355328)
  (h: ∀g cap w',w'.ownsRow B K.T K.size (.slice (some ⟨g,0,none⟩) (n+1) cap) (n+1) (cs++K.cells y)→w.grownBy w' v.ownBlock→(v.ownBlock=some g∨w.heap.size≤g)→R (a.put o.dst (.slice (some ⟨g,0,none⟩) (n+1) cap)) w'):
  if Region.wanted o (yielded ops a.tmps)=true then Oper.wp P o a (w.alloc (.cells (K.cells y).toArray K.T)) R Q else E:=by
 have hw:Region.wanted o (yielded ops a.tmps)=true:=by simp[Region.wanted,hgd]
 rw[if_pos hw]
 have hm:Below w.heap.size w (w.alloc (.cells (K.cells y).toArray K.T)):=(Below.refl _ _).alloc (Nat.le_refl _) _
 refine wp_append_lies _ s x t ho B K.T i z K.size K.bytes hI.und hI.info hI.zero hI.size hI.bytes hI.cells hI.pos v n _ hs (h2.alloc _) ⟨w.heap.size,0,none⟩ 1 1 (K.cells y) hx (by rw[K.len,Nat.one_mul]) ?_ (one_of (K.one y)) (by decide) h63 hb (Nat.le_trans hB hm.size) _ rfl ?_
 ·have:=World.news_of_block (heap_alloc_new w (.cells (K.cells y).toArray K.T))
  simpa using this
 ·intro g cap w' ho2 hg2 hat hlt
  exact h g cap w' ho2 (below_grown hm hg2) (hat.imp id (fun e=>by rw[e];simp))
structure P3 (B:Nat) (w:World) (v1 v2 v3:Value) (ss:List Sr) (gs:List Dc) (ps:List Pc):Prop where
 a:kSr.Row B ss v1 (M3 B v1.ownBlock v2.ownBlock v3.ownBlock w) w
 b:kDc.Row B gs v2 (M3 B v1.ownBlock v2.ownBlock v3.ownBlock w) w
 c:kPc.Row B ps v3 (M3 B v1.ownBlock v2.ownBlock v3.ownBlock w) w
 d12: ∀q,v1.ownBlock=some q→v2.ownBlock≠some q
 d13: ∀q,v1.ownBlock=some q→v3.ownBlock≠some q
 d23: ∀q,v2.ownBlock=some q→v3.ownBlock≠some q
section
variable {B:Nat} {w w':World} {v1 v2 v3:Value} {ss:List Sr} {gs:List Dc} {ps:List Pc}
theorem P3.below (h:P3 B w v1 v2 v3 ss gs ps) (hb:Below w.heap.size w w'):P3 B w' v1 v2 v3 ss gs ps:=
 ⟨h.a.to (M3.below hb) (grownBy_of hb none) (fun _ _ e=>by cases e),h.b.to (M3.below hb) (grownBy_of hb none) (fun _ _ e=>by cases e),h.c.to (M3.below hb) (grownBy_of hb none) (fun _ _ e=>by cases e),h.d12,h.d13,h.d23⟩
theorem P3.nil (B:Nat) (w:World):P3 B w (.slice none 0 0) (.slice none 0 0) (.slice none 0 0) [] [] []:=
 ⟨⟨[],rfl,World.ownsRow_nil _ _ _ _,by simp⟩,⟨[],rfl,World.ownsRow_nil _ _ _ _,by simp⟩,⟨[],rfl,World.ownsRow_nil _ _ _ _,by simp⟩,(fun _ h=>by cases h),(fun _ h=>by cases h),(fun _ h=>by cases h)⟩
theorem P3.fresh (h:P3 B w v1 v2 v3 ss gs ps) {B':Nat} (hB:w.heap.size≤B'):Ext (YtcehbcnloiooaaaGreatDoor.fresh B' w') (M3 B v1.ownBlock v2.ownBlock v3.ownBlock w')∨B'<B:=by
 by_cases hl:B'<B
 ·exact .inr hl
 ·exact .inl (M3.of_fresh (by omega) (fun q hq=>by have:=(h.a.lt q hq).2;omega) (fun q hq=>by have:=(h.b.lt q hq).2;omega) (fun q hq=>by have:=(h.c.lt q hq).2;omega))
end
theorem size33:(Tryz.prog.info? 26).map (·.size)=some 3:=by kernel_rfl
end Go.Proofs.YtcehbcnloiooaaaGreatDoor
namespace Go.Proofs.YtcehbcnloiooaaaGreatDoor
open Go.RowKit Go.Sort
attribute [local go_sem] field79_0 field79_1 field79_2 field79_3
section
variable {pb sb cap:Nat} {l:List Tx.Sg}
end
end Go.Proofs.YtcehbcnloiooaaaGreatDoor
namespace Go.Proofs.YtcehbcnloiooaaaGreatDoor
open Go.RowKit Go.Sort
theorem Gr2.drew {w w':World} {a b:Nat} (h:Gr2 w w' a b):Gr2 w w'.drew a b:=⟨h.os,h.tape,h.output,h.size,h.block⟩
end Go.Proofs.YtcehbcnloiooaaaGreatDoor
namespace Go.Proofs.YtcehbcnloiooaaaGreatDoor
open Go.RowKit Go.Sort
attribute [local go_sem] field79_0 field79_1 field79_2 field79_3
theorem below_par {w0 w w':World} {g:Nat} (h:Below w0.heap.size w0 w) (hg:w.grownBy w' (some g)) (hB:w0.heap.size≤g):Below w0.heap.size w0 w':=
 ⟨hg.os.trans h.os,hg.tape.trans h.tape,hg.output.trans h.output,Nat.le_trans h.size hg.size,fun i hi=>(hg.block i (Nat.lt_of_lt_of_le hi h.size) (by intro e;injection e with e;omega)).trans (h.block i hi)⟩
end Go.Proofs.YtcehbcnloiooaaaGreatDoor
namespace Go.Proofs.YtcehbcnloiooaaaGreatDoor
open Go.RowKit Go.Sort
attribute [local go_sem] field79_0 field79_1 field79_2 field79_3
end Go.Proofs.YtcehbcnloiooaaaGreatDoor
namespace Go.Proofs.YtcehbcnloiooaaaGreatDoor
open Go.RowKit Go.Sort
end Go.Proofs.YtcehbcnloiooaaaGreatDoor
namespace Go.Proofs.YtcehbcnloiooaaaGreatDoor
open Go.RowKit Go.Sort
theorem infoParts {e:TypeId} {n:Nat} (h:(Tryz.prog.info? e).map (fun i=>(i.zero.isSome,i.size))=some (true,n)): ∃ie z,Tryz.prog.info? e=some ie∧ie.zero=some z∧ie.size=n:=by
 cases hi:Tryz.prog.info? e with
 |none=>rw[hi] at h;simp at h
 |some ie=>
  rw[hi] at h
  simp only[Option.map_some,Option.some.injEq,Prod.mk.injEq] at h
  obtain ⟨z,hz⟩:=Option.isSome_iff_exists.1 h.1
  exact ⟨ie,z,rfl,hz,h.2⟩
theorem info54:(Tryz.prog.info? 63).map (fun i=>(i.zero.isSome,i.size))=some (true,48):=by kernel_rfl
theorem wpList_zero {P:Program} {ops:Array Oper} {rest:List Oper} {o:Oper} {a:Act} {w:World} {Q:Exit→Act→World→Prop} (hg:o.guard=none) (t:TypeId) (ho:o.op= .build t #[])
  (d:Option Tmp) (hd:o.dst=d) (cells:Array Value) (hf:P.built t []=some cells)
  (h:wpList P ops Q rest (a.put d (.agg cells)) w):wpList P ops Q (o::rest) a w:=
 wpList_buildTo hg t #[] ho d hd cells (by simpa using hf) h
def zIt:It:=⟨Pr.noHd,none,0,.nil,none,0,.nil⟩
def It.one (x:It):SL:= .cons x.h x.tp x.tc x.t x.ep x.ec x.e .nil
theorem zIt_built:Tryz.prog.built 63 []=some zIt.cells.toArray:=by kernel_rfl
theorem no_lies {α:Type} (w:World) (n b:Nat) (f:α→List Value) (R:α→Prop):slLies w n b f R ⟨none,0,[]⟩:=⟨by simp,.inl rfl⟩
theorem zIt_lies (w:World):itLies w zIt:=⟨⟨no_lies ..,no_lies ..,no_lies ..,no_lies ..,no_lies ..,by decide⟩,⟨by decide,.inl rfl⟩,⟨by decide,.inl rfl⟩⟩
theorem one_lies {w:World} {x:It} {b:Nat} (h:itLies w x) (hb:w.heap[b]? =some (.cells x.cells.toArray 63 (0,0))):sLies w (some ⟨b,0,none⟩) x.one:=
 ⟨by show (0+1)*608≤_;decide,.inr ⟨b,0,rfl,range_blockS hb,h.1,h.2.1,h.2.2,trivial⟩⟩
theorem isNothing_any (x:It) (cs:Array Value) (hcs:cs=x.cells.toArray) (w:World) (hx:itLies w x):
  Calls Tryz.prog 137 #[.agg cs] w fun e w'=>e= .returned (.bool (sameSL zIt.one x.one))∧Below w.heap.size w w':=by
 obtain ⟨zs,hzs⟩: ∃zs,zs=zIt.cells.toArray:=⟨_,rfl⟩
 obtain ⟨i1,z1,q1,q2,q3⟩:=infoParts info54
 have HZB:Hid (Tryz.prog.built 63 []=some zs):=hdn (by rw[hzs];exact zIt_built)
 have HSZ:Hid (48=cs.size):=hdn (by rw[hcs];rfl)
 have HSI:Hid ((Tryz.prog.info? 63).map (·.size)=some cs.size):=hdn (by rw[hcs];exact size57)
 have HZZ:Hid (48=zs.size):=hdn (by rw[hzs];rfl)
 have HI:=hdn q1;have HI2:=hdn q2;have HI3:=hdn q3
 obtain ⟨wA,hwA⟩: ∃wA:World,wA=w.alloc (.cells cs 63):=⟨_,rfl⟩
 have HBA:Hid (Below w.heap.size w wA):=hdn (by rw[hwA];exact (Below.refl _ _).alloc (Nat.le_refl _) _)
 have HK:Hid (Bk wA w.heap.size 63 cs):=hdn (by rw[hwA];exact heap_alloc_new _ _)
 obtain ⟨w1,hw1⟩: ∃w1:World,w1=wA.alloc (.cells zs 63):=⟨_,rfl⟩
 have HB1:Hid (Below wA.heap.size wA w1):=hdn (by rw[hw1];exact (Below.refl _ _).alloc (Nat.le_refl _) _)
 have HK1:Hid (Bk w1 wA.heap.size 63 zs):=hdn (by rw[hw1];exact heap_alloc_new _ _)
 have HKA:Hid (Bk w1 w.heap.size 63 cs):=hdn (HK.out.below HB1.out HK.out.lt)
 obtain ⟨w2,hw2⟩: ∃w2:World,w2=w1.alloc (.cells cs 63):=⟨_,rfl⟩
 have HB2:Hid (Below w1.heap.size w1 w2):=hdn (by rw[hw2];exact (Below.refl _ _).alloc (Nat.le_refl _) _)
 have HK2:Hid (Bk w2 w1.heap.size 63 cs):=hdn (by rw[hw2];exact heap_alloc_new _ _)
 have HBB:Hid (Below w.heap.size w w2):=hdn ((HBA.out.trans (HB1.out.mono HBA.out.size)).trans (HB2.out.mono (Nat.le_trans HBA.out.size HB1.out.size)))
 have CS:Calls Tryz.prog 155 #[.slice (some ⟨wA.heap.size,0,none⟩) 1 1,.slice (some ⟨w1.heap.size,0,none⟩) 1 1] w2 fun en w'=>en= .returned (.bool (sameSL zIt.one x.one))∧Below w2.heap.size w2 w':=
  sameList_any zIt.one x.one (some ⟨wA.heap.size,0,none⟩) 1 (some ⟨w1.heap.size,0,none⟩) 1 w2 (one_lies (zIt_lies _) (by have:=HK1.out.below HB2.out HK1.out.lt;rw[hzs] at this;exact this)) (one_lies (itLies_below hx HBB.out) (by have:=HK2.out;rw[hcs] at this;exact this))
 have HCS:=hdn CS
 generalize sameSL zIt.one x.one=bo at*
 have HW1:=hdn hw1;have HW2:=hdn hw2
 clear CS hx hcs hzs q1 q2 q3 hw1 hw2
 go_enter Tryz.func137,Tryz.ntmps137
 go_upto_region 1 with fail
 rw[←hwA]
 clear hwA
 obtain ⟨A,hA⟩: ∃A,A=w.heap.size:=⟨_,rfl⟩
 rw[←hA] at HK HKA ⊢
 clear hA
 go_wp2_with (first |((with_reducible show wpList _ _ _ (Oper.mk (some 3) _ _ _ _ _::_) _ _);refine wpList_zero rfl 63 rfl (some 3) rfl zs HZB.out ?_)|((with_reducible show wpList _ _ _ (Oper.mk (some 4) _ _ _ _ _::_) _ _);refine wpList_one rfl 35 63 (.tmp 3) rfl zs rfl Tryz.underlying35 i1 z1 48 HI.out HI2.out HI3.out (by omega) (by omega) HZZ.out ?_;rw[←HW1.out])|((with_reducible show wpList _ _ _ (Oper.mk (some 5) _ _ _ _ _::_) _ _);refine wpList_load_bk rfl 63 (.tmp 1) rfl A 63 cs rfl _ HKA.out Tryz.underlying63 rfl HSI.out ?_)|((with_reducible show wpList _ _ _ (Oper.mk (some 6) _ _ _ _ _::_) _ _);refine wpList_one rfl 35 63 (.tmp 5) rfl cs rfl Tryz.underlying35 i1 z1 48 HI.out HI2.out HI3.out (by omega) (by omega) HSZ.out ?_;rw[←HW2.out])|(go_at_call 155;refine HCS.out.mono ?_;rintro en w3 ⟨rfl,hb⟩;have HB3:=hdn (HBB.out.trans (hb.mono HBB.out.size));clear hb))
 go_ret
 exact ⟨rfl,HB3.out⟩
end Go.Proofs.YtcehbcnloiooaaaGreatDoor
