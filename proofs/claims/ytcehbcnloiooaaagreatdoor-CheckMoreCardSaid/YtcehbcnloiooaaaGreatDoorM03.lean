/-
  The walks of Set, Free and conditions in a frame. The walk of a call in a frame. The walk of a statement by itself: a call of what an interface has. The walk of a list of statements. The walk of check.Check where print.Right says yes. The document's kind and look. The document's path. The document's
-/
import Derived.Test.YtcehbcnloiooaaaGreatDoorM02
set_option maxHeartbeats 6400000
set_option maxRecDepth 100000
namespace Go.Proofs.YtcehbcnloiooaaaGreatDoor
namespace Sc
open Go.RowKit Go.Sort Go.Maps
def hdOk (w:World) (h:Hd):Prop:=
 pthLies w h.place∧vlOk w h.value∧vlOk w h.cond.left∧vlOk w h.cond.right∧Lay 12 Vl.cells vlOk w h.args.p h.args.l∧h.name.size≤maxLen
theorem hdOk_below {w w':World} {h:Hd} (H:hdOk w h) (hb:Below w.heap.size w w'):hdOk w' h:=
 ⟨pthLies_below H.1 hb,vlOk_below H.2.1 hb,vlOk_below H.2.2.1 hb,vlOk_below H.2.2.2.1 hb,H.2.2.2.2.1.below hb (fun _ h=>vlOk_below h hb),H.2.2.2.2.2⟩
theorem fset_any (x:Pg) (q:Pc) (h:Hd) (tp:Option Addr) (tn tc:Nat) (ep:Option Addr) (en ec:Nat) (b o M F:Nat) (w:World) (hf:FrIs x q M F w) (hr:w.rangeAt b o (scells h tp tn tc ep en ec)) (hv:hdOk w h):
  Calls Tryz.prog 224 #[fptr F,.pointer (some ⟨b,o,none⟩)] w (PPost (if (pathGo x q h.place).2.2=0 then fitE x q h.value (pathGo x q h.place).1 else (pathGo x q h.place).2) w):=by
 have HF:=hdn hf
 have HR:=hdn hr
 have HV:=hdn hv
 have HR1:Hid (w.rangeAt b (o+2) (pthA h.place).toList):=hdn (rangeAt_sub hr 2 3 rfl)
 generalize h1:(pathGo x q h.place).1=r1
 generalize h2:(pathGo x q h.place).2.1=r2
 generalize h3:(pathGo x q h.place).2.2=r3
 have HC:=hdn (fpath_is h1 h2 h3 hf hv.1)
 have HP:Hid ((pathGo x q h.place).2=(r2,r3)):=hdn (by rw[←h2,←h3])
 clear h1 h2 h3 hf hr hv
 by_cases e3:r3=0
 ·subst e3
  have HX:Hid (∀w1,Below w.heap.size w w1→Calls Tryz.prog 228 #[fptr F,.pointer (some ⟨b,o+5,none⟩),.int .i64 r1] w1 (PPost (fitE x q h.value r1) w1)):=hdn (fun w1 hb=>ffit_any x q h.value r1 b (o+5) M F w1 (HF.out.keep hb) (rangeAt_sub (rangeAt_below HR.out hb) 5 12 rfl) (vlOk_below HV.out.2.1 hb))
  rw[if_pos rfl]
  generalize fitE x q h.value r1=r at HX ⊢
  unfold fptr at HC HX ⊢
  go_enter Tryz.func224,Tryz.ntmps224
  go_wp2_with (first |((with_reducible show wpList _ _ _ (Oper.mk _ (Op.load 40 _) _ _ _ _::_) _ _);refine wpList_load_arr rfl 40 _ rfl b (o+2) rfl (pthA h.place) _ HR1.out Tryz.underlying40 rfl size40 ?_))
  refine HC.out.mono ?_;rintro en w2 ⟨rfl,hb2⟩
  have HB2:=hdn hb2
  clear hb2
  go_wp2_with (go_at_call 228;refine (HX.out w2 HB2.out).mono ?_;rintro en w3 ⟨rfl,hb3⟩;have HB3:=hdn hb3;clear hb3)
  go_ret2
  exact ⟨rfl,HB2.out.trans (HB3.out.mono HB2.out.size)⟩
 ·have hne:(r3==0)=false:=by simpa using e3
  have hne2:(r3 !=0)=true:=by simpa using e3
  rw[if_neg e3,HP.out]
  unfold fptr at HC ⊢
  go_enter Tryz.func224,Tryz.ntmps224
  go_wp2_with (first |((with_reducible show wpList _ _ _ (Oper.mk _ (Op.load 40 _) _ _ _ _::_) _ _);refine wpList_load_arr rfl 40 _ rfl b (o+2) rfl (pthA h.place) _ HR1.out Tryz.underlying40 rfl size40 ?_))
  refine HC.out.mono ?_;rintro en w2 ⟨rfl,hb2⟩
  have HB2:=hdn hb2
  clear hb2
  go_wp2_with fail
  go_ret2
  exact ⟨rfl,HB2.out⟩
theorem ffree_any (x:Pg) (q:Pc) (h:Hd) (tp:Option Addr) (tn tc:Nat) (ep:Option Addr) (en ec:Nat) (b o M F:Nat) (w:World) (hf:FrIs x q M F w) (hr:w.rangeAt b o (scells h tp tn tc ep en ec)) (hv:hdOk w h):
  Calls Tryz.prog 223 #[fptr F,.pointer (some ⟨b,o,none⟩)] w (PPost (if (pathGo x q h.place).2.2=0 then mustE (!decide ((pathGo x q h.place).1= -1)) h.place.pos else (pathGo x q h.place).2) w):=by
 have HR:=hdn hr
 have HR1:Hid (w.rangeAt b (o+2) (pthA h.place).toList):=hdn (rangeAt_sub hr 2 3 rfl)
 generalize h1:(pathGo x q h.place).1=r1
 generalize h2:(pathGo x q h.place).2.1=r2
 generalize h3:(pathGo x q h.place).2.2=r3
 have HC:=hdn (fpath_is h1 h2 h3 hf hv.1)
 have HP:Hid ((pathGo x q h.place).2=(r2,r3)):=hdn (by rw[←h2,←h3])
 clear h1 h2 h3 hf hr hv
 by_cases e3:r3=0
 ·subst e3
  rw[if_pos rfl]
  unfold fptr at HC ⊢
  go_enter Tryz.func223,Tryz.ntmps223
  go_wp2_with (first |((with_reducible show wpList _ _ _ (Oper.mk _ (Op.load 40 _) _ _ _ _::_) _ _);refine wpList_load_arr rfl 40 _ rfl b (o+2) rfl (pthA h.place) _ HR1.out Tryz.underlying40 rfl size40 ?_))
  refine HC.out.mono ?_;rintro en w2 ⟨rfl,hb2⟩
  have HB2:=hdn hb2
  have c3:=cell_at (rangeAt_below HR.out hb2) 3 _ rfl
  have c3':w2.cell? ⟨b,o+2+1,none⟩=some (.int .i64 h.place.pos):=c3
  clear hb2
  go_wp2_with (go_at_call 226;refine (must_any _ _ _).mono ?_;rintro en w3 ⟨rfl,rfl⟩)
  go_ret2
  exact ⟨rfl,HB2.out⟩
 ·have hne:(r3==0)=false:=by simpa using e3
  have hne2:(r3 !=0)=true:=by simpa using e3
  rw[if_neg e3,HP.out]
  unfold fptr at HC ⊢
  go_enter Tryz.func223,Tryz.ntmps223
  go_wp2_with (first |((with_reducible show wpList _ _ _ (Oper.mk _ (Op.load 40 _) _ _ _ _::_) _ _);refine wpList_load_arr rfl 40 _ rfl b (o+2) rfl (pthA h.place) _ HR1.out Tryz.underlying40 rfl size40 ?_))
  refine HC.out.mono ?_;rintro en w2 ⟨rfl,hb2⟩
  have HB2:=hdn hb2
  clear hb2
  go_wp2_with fail
  go_ret2
  exact ⟨rfl,HB2.out⟩
theorem fside_is {x:Pg} {q:Pc} {v:Vl} {b o M F:Nat} {w:World} {r1 r2 r3:Int} (h1:(sideGo x q v).1=r1) (h2:(sideGo x q v).2.1=r2) (h3:(sideGo x q v).2.2=r3) (hf:FrIs x q M F w) (hr:w.rangeAt b o (Vl.cells v)) (hv:vlOk w v):
  Calls Tryz.prog 225 #[fptr F,.pointer (some ⟨b,o,none⟩)] w fun en w'=>en= .returned (.tuple #[.int .i64 r1,.int .i64 r2,.int .i64 r3])∧Below w.heap.size w w':=
 (fside_any x q v b o M F w hf hr hv).mono (fun en w' h=>by obtain ⟨a,b⟩:=h;rw[h1,h2,h3] at a;exact ⟨a,b⟩)
theorem fbranch_any (x:Pg) (q:Pc) (h:Hd) (tp:Option Addr) (tn tc:Nat) (ep:Option Addr) (en ec:Nat) (b o M F:Nat) (w:World) (hf:FrIs x q M F w) (hr:w.rangeAt b o (scells h tp tn tc ep en ec)) (hv:hdOk w h):
  Calls Tryz.prog 221 #[fptr F,.pointer (some ⟨b,o,none⟩)] w (PPost (condE x q h.cond) w):=by
 have HF:=hdn hf
 have HR:=hdn hr
 have HV:=hdn hv
 have c17:=cell_at hr 17 _ rfl
 by_cases k0:h.cond.kind=0
 ·have HE:Hid (condE x q h.cond=(0,0)):=hdn (by unfold condE;rw[if_pos k0])
  rw[k0] at c17
  clear hf hr hv
  unfold fptr
  go_enter Tryz.func221,Tryz.ntmps221
  go_wp2_with fail
  go_ret2
  exact ⟨by rw[HE.out];rfl,Below.refl _ _⟩
 have q0:(h.cond.kind==0)=false:=by simpa using k0
 generalize h1:(sideGo x q h.cond.left).1=a1
 generalize h2:(sideGo x q h.cond.left).2.1=a2
 generalize h3:(sideGo x q h.cond.left).2.2=a3
 generalize g1:(sideGo x q h.cond.right).1=b1
 generalize g2:(sideGo x q h.cond.right).2.1=b2
 generalize g3:(sideGo x q h.cond.right).2.2=b3
 have HC:=hdn (fside_is (b:=b) (o:=o+19) h1 h2 h3 hf (rangeAt_sub hr 19 12 rfl) hv.2.2.1)
 have HX:Hid (∀w1,Below w.heap.size w w1→Calls Tryz.prog 225 #[fptr F,.pointer (some ⟨b,o+31,none⟩)] w1 fun en w'=>en= .returned (.tuple #[.int .i64 b1,.int .i64 b2,.int .i64 b3])∧Below w1.heap.size w1 w'):=
  hdn (fun w1 hb=>fside_is (b:=b) (o:=o+31) g1 g2 g3 (HF.out.keep hb) (rangeAt_sub (rangeAt_below HR.out hb) 31 12 rfl) (vlOk_below HV.out.2.2.2.1 hb))
 have HE:Hid (condE x q h.cond=if a3=0 then (if b3=0 then mustE (if h.cond.kind=3∨h.cond.kind=4 then decide (a1= -1) && decide (b1= -1) else alike a1 b1) h.cond.pos else (b2,b3)) else (a2,a3)):=hdn (by
  unfold condE;rw[if_neg k0,h1,h3,g1,g3,←h2,←h3,←g2,←g3])
 clear h1 h2 h3 g1 g2 g3 hf hr hv
 unfold fptr at HC HX ⊢
 by_cases e3:a3=0
 ·subst e3
  rw[if_pos rfl] at HE
  by_cases f3:b3=0
  ·subst f3
   rw[if_pos rfl] at HE
   have HQ3:Hid (∀w1,Below w.heap.size w w1→w1.cell? ⟨b,o+17,none⟩=some (.int .i64 h.cond.kind)∧w1.cell? ⟨b,o+17+1,none⟩=some (.int .i64 h.cond.pos)):=hdn (fun w1 hb=>⟨cell_at (rangeAt_below HR.out hb) 17 _ rfl,cell_at (rangeAt_below HR.out hb) 18 _ rfl⟩)
   by_cases k34:h.cond.kind=3∨h.cond.kind=4
   ·rw[if_pos k34] at HE
    go_enter Tryz.func221,Tryz.ntmps221
    go_wp2_with fail
    refine HC.out.mono ?_;rintro en w2 ⟨rfl,hb2⟩
    have HB2:=hdn hb2
    clear hb2
    go_wp2_with fail
    refine (HX.out w2 HB2.out).mono ?_;rintro en w3 ⟨rfl,hb3⟩
    have HB3:Hid (Below w.heap.size w w3):=hdn (HB2.out.trans (hb3.mono HB2.out.size))
    obtain ⟨d17,d18⟩:=HQ3.out w3 HB3.out
    clear hb3 c17
    have HF1:Hid (∀u v:Bool,u=decide (a1= -1)→v=decide (b1= -1)→condE x q h.cond=mustE (u && v) h.cond.pos):=hdn (fun u v hu hv=>by rw[HE.out,hu,hv])
    clear HE
    by_cases ha:a1= -1
    ·subst ha
     have HG:=hdn (HF1.out true (b1== -1) rfl rfl)
     rcases k34 with k3 |k4
     ·rw[k3] at d17
      clear k0 q0
      go_wp2_with (go_at_call 226;refine (must_any _ _ _).mono ?_;rintro en w4 ⟨rfl,rfl⟩)
      go_ret2
      exact ⟨by rw[HG.out];rfl,HB3.out⟩
     ·rw[k4] at d17
      clear k0 q0
      go_wp2_with (go_at_call 226;refine (must_any _ _ _).mono ?_;rintro en w4 ⟨rfl,rfl⟩)
      go_ret2
      exact ⟨by rw[HG.out];rfl,HB3.out⟩
    ·have hne:(a1== -1)=false:=by simpa using ha
     have HG:=hdn (HF1.out false (b1== -1) (by simpa using ha) rfl)
     rcases k34 with k3 |k4
     ·rw[k3] at d17
      clear k0 q0
      go_wp2_with (go_at_call 226;refine (must_any _ _ _).mono ?_;rintro en w4 ⟨rfl,rfl⟩)
      go_ret2
      exact ⟨by rw[HG.out];rfl,HB3.out⟩
     ·rw[k4] at d17
      clear k0 q0
      go_wp2_with (go_at_call 226;refine (must_any _ _ _).mono ?_;rintro en w4 ⟨rfl,rfl⟩)
      go_ret2
      exact ⟨by rw[HG.out];rfl,HB3.out⟩
   ·rw[if_neg k34] at HE
    have k3:(h.cond.kind==3)=false:=by simp;omega
    have k4:(h.cond.kind==4)=false:=by simp;omega
    go_enter Tryz.func221,Tryz.ntmps221
    go_wp2_with fail
    refine HC.out.mono ?_;rintro en w2 ⟨rfl,hb2⟩
    have HB2:=hdn hb2
    clear hb2
    go_wp2_with fail
    refine (HX.out w2 HB2.out).mono ?_;rintro en w3 ⟨rfl,hb3⟩
    have HB3:Hid (Below w.heap.size w w3):=hdn (HB2.out.trans (hb3.mono HB2.out.size))
    obtain ⟨d17,d18⟩:=HQ3.out w3 HB3.out
    clear hb3 c17
    have CA:=qb_call (wB:=w3) (F:=227) (ar:= #[.int .i64 a1,.int .i64 b1]) (v:= .bool (alike a1 b1)) (fun wr hb=>(alike_any a1 b1 wr).mono (fun en w' h=>by obtain ⟨h1,h2⟩:=h;subst h2;exact ⟨h1,Below.refl _ _⟩))
    generalize alike a1 b1=al at CA HE
    have CM:=qb_call (wB:=w3) (F:=226) (ar:= #[.bool al,.int .i64 h.cond.pos]) (v:= .tuple #[.int .i64 (mustE al h.cond.pos).1,.int .i64 (mustE al h.cond.pos).2]) (fun wr hb=>(must_any al h.cond.pos wr).mono (fun en w' h=>by obtain ⟨h1,h2⟩:=h;subst h2;exact ⟨h1,Below.refl _ _⟩))
    generalize mustE al h.cond.pos=mr at CM HE
    have s18:=cell_regrown d18
    go_wp2_with fail
    refine wp_region_quiet_below (by kernel_rfl) (by kernel_rfl) ?_
    repeat (first |go_big_quiet_step (with_reducible exact CA _ _)|go_big_quiet_step (with_reducible exact CM _ _))
    refine wpQuiet_nil ?_
    intro _ hw'
    obtain ⟨⟨dq,osq⟩,hw''⟩:=hw'
    subst hw''
    have HB4:=hdn (below_regrown w3 dq osq)
    generalize grow (redrawn w3 dq) osq=w4 at HB4 ⊢
    go_wp2_with fail
    go_ret2
    exact ⟨by rw[HE.out];rfl,HB3.out.trans (HB4.out.mono HB3.out.size)⟩
  ·rw[if_neg f3] at HE
   have hne:(b3==0)=false:=by simpa using f3
   have hne2:(b3 !=0)=true:=by simpa using f3
   go_enter Tryz.func221,Tryz.ntmps221
   go_wp2_with fail
   refine HC.out.mono ?_;rintro en w2 ⟨rfl,hb2⟩
   have HB2:=hdn hb2
   clear hb2
   go_wp2_with fail
   refine (HX.out w2 HB2.out).mono ?_;rintro en w3 ⟨rfl,hb3⟩
   have HB3:Hid (Below w.heap.size w w3):=hdn (HB2.out.trans (hb3.mono HB2.out.size))
   clear hb3
   go_wp2_with fail
   go_ret2
   exact ⟨by rw[HE.out];rfl,HB3.out⟩
 ·rw[if_neg e3] at HE
  have hne:(a3==0)=false:=by simpa using e3
  have hne2:(a3 !=0)=true:=by simpa using e3
  go_enter Tryz.func221,Tryz.ntmps221
  go_wp2_with fail
  refine HC.out.mono ?_;rintro en w2 ⟨rfl,hb2⟩
  have HB2:=hdn hb2
  clear hb2
  go_wp2_with fail
  go_ret2
  exact ⟨by rw[HE.out];rfl,HB2.out⟩
end Sc
end Go.Proofs.YtcehbcnloiooaaaGreatDoor
namespace Go.Proofs.YtcehbcnloiooaaaGreatDoor
namespace Sc
open Go.RowKit Go.Sort Go.Maps
theorem numOf_inj {κ:Type} [DecidableEq κ] {l:List κ} {a b:κ} (ha:isIn l a=true) (hb:isIn l b=true):numOf l a=numOf l b↔a=b:=by
 constructor
 ·intro h
  rw[numOf_in ha,numOf_in hb] at h
  have h:placeOf l a=placeOf l b:=by omega
  unfold placeOf at h
  have e1:=List.getElem_idxOf (List.idxOf_lt_length_of_mem (isIn_iff.1 ha))
  have e2:=List.getElem_idxOf (List.idxOf_lt_length_of_mem (isIn_iff.1 hb))
  rw[←e1,←e2]
  congr 1
 ·rintro rfl;rfl
theorem argsE_cons (x:Pg) (q:Pc) {vs:List Vl} {ds:List Dc} {j:Nat} (h1:j<vs.length) (h2:j<ds.length):argsE x q (vs.drop j) (ds.drop j)=thenE (fitE x q vs[j] (kindT x ds[j].type)) (argsE x q (vs.drop (j+1)) (ds.drop (j+1))):=by
 rw[List.drop_eq_getElem_cons h1,List.drop_eq_getElem_cons h2];rfl
theorem argsE_end (x:Pg) (q:Pc) {vs:List Vl} {ds:List Dc} {j:Nat} (h1:vs.length≤j):argsE x q (vs.drop j) (ds.drop j)=(0,0):=by
 rw[List.drop_eq_nil_of_le h1];rfl
theorem fcall_any (x:Pg) (q:Pc) (h:Hd) (tp:Option Addr) (tn tc:Nat) (ep:Option Addr) (en ec:Nat) (b o M F:Nat) (w:World) (hf:FrIs x q M F w) (hr:w.rangeAt b o (scells h tp tn tc ep en ec)) (hv:hdOk w h):
  Calls Tryz.prog 222 #[fptr F,.pointer (some ⟨b,o,none⟩)] w (PPost (callE x q h) w):=by
 have HF:=hdn hf
 have HR:=hdn hr
 have HV:=hdn hv
 have f0:w.cell? ⟨F,0,none⟩=some (tptr M):=hf.bk.cell 0
 have c43:=cell_at hr 43 _ rfl
 have s0:=cell_regrown f0
 have s43:=cell_regrown c43
 have CC:=qb_call (wB:=w) (F:=19) (ar:= #[tptr M,.string h.name]) (v:= .tuple #[.int .i64 (numOf (pNames x.procs.l) h.name),.bool (isIn (pNames x.procs.l) h.name)]) (fun wr hb=>(tab_proc x h.name M wr (HF.out.tab.keep hb) HV.out.2.2.2.2.2).mono (fun en w' h=>by obtain ⟨h1,h2⟩:=h;subst h2;exact ⟨h1,Below.refl _ _⟩))
 clear hf hr hv
 cases hin:isIn (pNames x.procs.l) h.name
 ·have HE:Hid (callE x q h=(h.pos,8)):=hdn (by unfold callE;rw[hin];rfl)
  rw[hin] at CC
  generalize numOf (pNames x.procs.l) h.name=nm at CC
  unfold fptr
  go_enter Tryz.func222,Tryz.ntmps222
  go_wp2_with fail
  refine wp_region_quiet_below (by kernel_rfl) (by kernel_rfl) ?_
  repeat (go_big_quiet_step (with_reducible exact CC _ _))
  refine wpQuiet_nil ?_
  intro _ hw'
  obtain ⟨⟨dq,osq⟩,hw''⟩:=hw'
  subst hw''
  have HB3:=hdn (below_regrown w dq osq)
  generalize grow (redrawn w dq) osq=w3 at HB3 ⊢
  have d1:=cell_at (rangeAt_below HR.out HB3.out) 1 _ rfl
  clear s0 s43 CC f0 c43
  go_wp2_with fail
  go_ret2
  exact ⟨by rw[HE.out];rfl,HB3.out⟩
 have hnum:=numOf_in hin
 have hlt:placeOf (pNames x.procs.l) h.name<x.procs.l.length:=by have:=placeOf_lt hin;simpa [pNames] using this
 obtain ⟨y,hy⟩: ∃y,x.procs.l[placeOf (pNames x.procs.l) h.name]? =some y:=⟨_,List.getElem?_eq_getElem hlt⟩
 have HPO:Hid (paramsOf x h.name=y.params.l):=hdn (by unfold paramsOf;rw[hnum,Int.toNat_natCast,hy];rfl)
 have HMN:Hid ((numOf (pNames x.procs.l) h.name=numOf (pNames x.procs.l) mainN)↔h.name=mainN):=hdn (numOf_inj hin HF.out.hm)
 have HE:Hid (callE x q h=if h.name=mainN∨h.args.l.length≠y.params.l.length then (h.pos,9) else argsE x q h.args.l y.params.l):=hdn (by unfold callE;rw[if_pos hin,HPO.out])
 rw[hin] at CC
 rw[hnum] at CC HMN
 generalize placeOf (pNames x.procs.l) h.name=f at hlt hy CC HMN hnum
 have HY:=hdn hy
 have HLT:=hdn hlt
 clear hin hnum hy hlt HPO
 unfold fptr
 go_enter Tryz.func222,Tryz.ntmps222
 go_wp2_with fail
 refine wp_region_quiet_below (by kernel_rfl) (by kernel_rfl) ?_
 repeat (go_big_quiet_step (with_reducible exact CC _ _))
 refine wpQuiet_nil ?_
 intro _ hw'
 obtain ⟨⟨dq,osq⟩,hw''⟩:=hw'
 subst hw''
 have HB3:=hdn (below_regrown w dq osq)
 generalize grow (redrawn w dq) osq=w3 at HB3 ⊢
 have HF3:=hdn (HF.out.keep HB3.out)
 have HR3:=hdn (rangeAt_below HR.out HB3.out)
 have HV3:=hdn (hdOk_below HV.out HB3.out)
 clear s0 s43 CC f0 c43
 obtain ⟨pb,po,hpp,hpr,hpl⟩:=(Lay.of_sl (bytes:=104) HF3.out.prs).at_ HLT.out
 rw[show x.procs.l[f]'HLT.out=y from by have:=HY.out;rw[List.getElem?_eq_getElem HLT.out] at this;injection this] at hpr hpl
 have HPL:=hdn hpl
 have g1:w3.cell? ⟨F,1,none⟩=some (.slice (some ⟨pb,po,none⟩) x.procs.l.length x.procs.cap):=by rw[←hpp];exact HF3.out.bk.cell 1
 have g8:w3.cell? ⟨F,8,none⟩=some (.int .i64 (numOf (pNames x.procs.l) mainN)):=HF3.out.bk.cell 8
 have g3:=cell_at hpr 3 _ rfl
 have d1:=cell_at HR3.out 1 _ rfl
 have d44:=cell_at HR3.out 44 _ rfl
 have n0:(0:Int)≤(f:Int):=Int.natCast_nonneg _
 have n1:(f:Int)<(x.procs.l.length:Int):=by have:=HLT.out;omega
 generalize numOf (pNames x.procs.l) mainN=mm at HMN g8
 clear hpr hpl hpp
 by_cases hm:(f:Int)=mm
 ·have HE1:Hid (callE x q h=(h.pos,9)):=hdn (by rw[HE.out,if_pos (.inl (HMN.out.1 hm))])
  subst hm
  clear HMN
  go_wp2_with fail
  go_ret2
  exact ⟨by rw[HE1.out];rfl,HB3.out⟩
 have hq:((f:Int)==mm)=false:=by simpa using hm
 have HNM:Hid (¬h.name=mainN):=hdn (fun e=>hm (HMN.out.2 e))
 clear hm HMN
 by_cases hl:h.args.l.length=y.params.l.length
 ·have HE1:Hid (callE x q h=argsE x q h.args.l y.params.l):=hdn (by rw[HE.out,if_neg (by rintro (e |e);exact HNM.out e;exact e hl)])
  clear HE HNM
  have HAL:=hdn HV3.out.2.2.2.2.1
  have HDL:=hdn HPL.out.1
  have hal:h.args.l.length≤1048576:=HAL.out.1
  go_wp2_with fail
  generalize hA:h.args.l=al at HAL hal hl HE1 ⊢
  generalize hD:y.params.l=dl at HDL hl HE1 ⊢
  have HAE:=hdn hA;have HDE:=hdn hD
  clear hA hD
  go_loopw [63] (fun i wr=> ∃j:Nat,i= .int .i64 j∧j≤al.length∧Hid (argsE x q al dl=argsE x q (al.drop j) (dl.drop j))∧Hid (Below w3.heap.size w3 wr)) (fun i _=>al.length-(intOf i).toNat)
  case atStart=>exact ⟨0,rfl,Nat.zero_le _,hdn rfl,hdn (Below.refl _ _)⟩
  case round=>
   obtain ⟨j,rfl,hj,HGO,HBR⟩:=hrel
   by_cases hjl:j<al.length
   ·have hjd:j<dl.length:=by omega
    have HFR:=hdn (HF3.out.keep HBR.out)
    have HGO2:Hid (argsE x q al dl=thenE (fitE x q al[j] (kindT x dl[j].type)) (argsE x q (al.drop (j+1)) (dl.drop (j+1)))):=hdn (by rw[HGO.out,argsE_cons x q hjl hjd])
    obtain ⟨ab,ao,hap,har,hav⟩:=(HAL.out.below HBR.out (fun _ h=>vlOk_below h HBR.out)).at_ hjl
    obtain ⟨db,dof,hdp,hdr,hdo⟩:=(dcsLay HDL.out HBR.out).at_ (show j<y.params.l.length by rw[HDE.out];exact hjd)
    have hdd:y.params.l[j]'(by rw[HDE.out];exact hjd)=dl[j]:=by simp only[HDE.out]
    rw[hdd] at hdr hdo
    clear hdd
    have e0:wr.cell? ⟨F,0,none⟩=some (tptr M):=HFR.out.bk.cell 0
    have e44:wr.cell? ⟨b,o+44,none⟩=some (.slice (some ⟨ab,ao,none⟩) al.length h.args.cap):=by
     have:=cell_at (rangeAt_below HR3.out HBR.out) 44 _ rfl
     rw[this];rw[HAE.out,hap]
    rw[hap] at d44
    rw[hdp]
    have HAV:=hdn hav
    have HAR:=hdn har
    generalize al[j]=a at har hav HGO2 HAV HAR
    generalize dl[j]=d at hdr hdo HGO2
    have HRD:=hdn (qb_range hdr)
    have CC1:=qb_call (wB:=wr) (F:=64) (ar:= #[tptr M,.agg #[.string d.type,.string d.name,.int .i64 d.pos]]) (v:= .int .i64 (kindT x d.type)) (fun wq hb=>typeOf_any x d M wq (HFR.out.tab.keep hb) hdo.1)
    generalize kindT x d.type=kd at CC1 HGO2
    have CC2:=qb_call (wB:=wr) (F:=228) (ar:= #[.pointer (some ⟨F,0,none⟩),.pointer (some ⟨ab,ao+j*12,none⟩),.int .i64 kd]) (v:= .tuple #[.int .i64 (fitE x q a kd).1,.int .i64 (fitE x q a kd).2]) (fun wq hb=>ffit_any x q a kd ab (ao+j*12) M F wq (HFR.out.keep hb) (rangeAt_below HAR.out hb) (vlOk_below HAV.out hb))
    generalize fitE x q a kd=r at CC2 HGO2
    have k0:=cell_regrown e0
    have k44:=cell_regrown e44
    have m0:(0:Int)≤(j:Int):=Int.natCast_nonneg _
    have m1:(j:Int)<(al.length:Int):=by omega
    have m2:(j:Int)<(dl.length:Int):=by omega
    clear hap hdp har hav hdr hdo e0 e44 g1 g3 g8 d1 d44 n0 n1
    go_wp2_with fail
    refine wp_region_quiet_below (by kernel_rfl) (by kernel_rfl) ?_
    repeat (first |((with_reducible show wpQuiet _ _ _ _ (Oper.mk (some 81) _ _ _ _ _::_) _);refine wpQuiet_load rfl 65 (.tmp 80) rfl db (dof+j*3) rfl #[.string d.type,.string d.name,.int .i64 d.pos] _ HRD.out Tryz.underlying65 rfl size46 ?_;simp only[Act.put,List.setIfInBounds_toArray,List.set_cons_succ,List.set_cons_zero])|go_big_quiet_step (with_reducible exact CC1 _ _)|go_big_quiet_step (with_reducible exact CC2 _ _))
    refine wpQuiet_nil ?_
    intro _ hw'
    obtain ⟨⟨dq2,osq2⟩,hw''⟩:=hw'
    subst hw''
    have HB4:=hdn (below_regrown wr dq2 osq2)
    generalize grow (redrawn wr dq2) osq2=w4 at HB4 ⊢
    clear k0 k44 CC1 CC2
    have HBN:Hid (Below w3.heap.size w3 w4):=hdn (HBR.out.trans (HB4.out.mono HBR.out.size))
    by_cases hr0:r.2=0
    ·have HN:Hid (argsE x q al dl=argsE x q (al.drop (j+1)) (dl.drop (j+1))):=hdn (by rw[HGO2.out];unfold thenE;rw[if_pos hr0])
     rw[hr0]
     go_wp2_with fail
     go_roundw
     case rel=>exact ⟨j+1,by go_num,by omega,HN,HBN⟩
     case measure=>simp[intOf];omega
    ·have HN:Hid (argsE x q al dl=r):=hdn (by rw[HGO2.out];unfold thenE;rw[if_neg hr0])
     have hne:(r.2==0)=false:=by simpa using hr0
     have hne2:(r.2 !=0)=true:=by simpa using hr0
     go_wp2_with fail
     go_ret2
     exact ⟨by rw[HE1.out,HN.out];rfl,HB3.out.trans (HBN.out.mono HB3.out.size)⟩
   ·have HG:Hid (argsE x q al dl=(0,0)):=hdn (by rw[HGO.out,argsE_end x q (by omega)])
    go_wp2_with fail
    go_ret2
    exact ⟨by rw[HE1.out,HG.out];rfl,HB3.out.trans (HBR.out.mono HB3.out.size)⟩
 ·have HE1:Hid (callE x q h=(h.pos,9)):=hdn (by rw[HE.out,if_pos (.inr hl)])
  have hq2:((h.args.l.length:Int)==(y.params.l.length:Int))=false:=by simp;omega
  have hq3:((h.args.l.length:Int) !=(y.params.l.length:Int))=true:=by simp;omega
  go_wp2_with fail
  go_ret2
  exact ⟨by rw[HE1.out];rfl,HB3.out⟩
end Sc
end Go.Proofs.YtcehbcnloiooaaaGreatDoor
namespace Go.Proofs.YtcehbcnloiooaaaGreatDoor
namespace Sc
open Go.RowKit Go.Sort Go.Maps
theorem mSet (q:Nat) (w:World):Sem.run Tryz.prog (method 395 71 (.pointer (some ⟨q,0,none⟩)) "umbral/check.set") w= .ok (224,.pointer (some ⟨q,0,none⟩)) w:=by kernel_rfl
theorem mFree (q:Nat) (w:World):Sem.run Tryz.prog (method 395 71 (.pointer (some ⟨q,0,none⟩)) "umbral/check.free") w= .ok (223,.pointer (some ⟨q,0,none⟩)) w:=by kernel_rfl
theorem mCall (q:Nat) (w:World):Sem.run Tryz.prog (method 395 71 (.pointer (some ⟨q,0,none⟩)) "umbral/check.call") w= .ok (222,.pointer (some ⟨q,0,none⟩)) w:=by kernel_rfl
theorem mBranch (q:Nat) (w:World):Sem.run Tryz.prog (method 395 71 (.pointer (some ⟨q,0,none⟩)) "umbral/check.branch") w= .ok (221,.pointer (some ⟨q,0,none⟩)) w:=by kernel_rfl
theorem ent221: ∀args w,(callFunc 221 args).run Tryz.prog w= .ok (.enter 221 args) w:=enters Tryz.func221 (by kernel_rfl) rfl
theorem ent222: ∀args w,(callFunc 222 args).run Tryz.prog w= .ok (.enter 222 args) w:=enters Tryz.func222 (by kernel_rfl) rfl
theorem ent223: ∀args w,(callFunc 223 args).run Tryz.prog w= .ok (.enter 223 args) w:=enters Tryz.func223 (by kernel_rfl) rfl
theorem ent224: ∀args w,(callFunc 224 args).run Tryz.prog w= .ok (.enter 224 args) w:=enters Tryz.func224 (by kernel_rfl) rfl
def rptr (F:Nat):Value:= .iface 71 (.pointer (some ⟨F,0,none⟩))
theorem ask_any (x:Pg) (q:Pc) (h:Hd) (tp:Option Addr) (tn tc:Nat) (ep:Option Addr) (en ec:Nat) (b o M F:Nat) (w:World) (hf:FrIs x q M F w) (hr:w.rangeAt b o (scells h tp tn tc ep en ec)) (hv:hdOk w h):
  Calls Tryz.prog 46 #[rptr F,.pointer (some ⟨b,o,none⟩)] w (PPost (stmtE x q h) w):=by
 have c0:=cell_at hr 0 _ rfl
 rw[Nat.add_zero] at c0
 by_cases k1:h.kind=1
 ·have HE:Hid (stmtE x q h=if (pathGo x q h.place).2.2=0 then fitE x q h.value (pathGo x q h.place).1 else (pathGo x q h.place).2):=hdn (by unfold stmtE;rw[if_pos k1])
  have HC:=hdn (fset_any x q h tp tn tc ep en ec b o M F w hf hr hv)
  rw[←HE.out] at HC
  have hm:=mSet F w
  have he:=ent224
  rw[k1] at c0
  clear hf hr hv
  unfold fptr at HC
  unfold rptr
  go_enter Tryz.func46,Tryz.ntmps46
  go_wp2_with (go_at_call 224;refine HC.out.mono ?_;rintro en w2 ⟨rfl,hb2⟩;have HB2:=hdn hb2;clear hb2)
  go_ret2
  exact ⟨rfl,HB2.out⟩
 by_cases k2:h.kind=2
 ·have HE:Hid (stmtE x q h=if (pathGo x q h.place).2.2=0 then mustE (!decide ((pathGo x q h.place).1= -1)) h.place.pos else (pathGo x q h.place).2):=hdn (by unfold stmtE;rw[if_neg k1,if_pos k2])
  clear k1
  have HC:=hdn (ffree_any x q h tp tn tc ep en ec b o M F w hf hr hv)
  rw[←HE.out] at HC
  have hm:=mFree F w
  have he:=ent223
  rw[k2] at c0
  clear hf hr hv
  unfold fptr at HC
  unfold rptr
  go_enter Tryz.func46,Tryz.ntmps46
  go_wp2_with (go_at_call 223;refine HC.out.mono ?_;rintro en w2 ⟨rfl,hb2⟩;have HB2:=hdn hb2;clear hb2)
  go_ret2
  exact ⟨rfl,HB2.out⟩
 by_cases k3:h.kind=3
 ·have HE:Hid (stmtE x q h=callE x q h):=hdn (by unfold stmtE;rw[if_neg k1,if_neg k2,if_pos k3])
  clear k1 k2
  have HC:=hdn (fcall_any x q h tp tn tc ep en ec b o M F w hf hr hv)
  rw[←HE.out] at HC
  have hm:=mCall F w
  have he:=ent222
  rw[k3] at c0
  clear hf hr hv
  unfold fptr at HC
  unfold rptr
  go_enter Tryz.func46,Tryz.ntmps46
  go_wp2_with (go_at_call 222;refine HC.out.mono ?_;rintro en w2 ⟨rfl,hb2⟩;have HB2:=hdn hb2;clear hb2)
  go_ret2
  exact ⟨rfl,HB2.out⟩
 by_cases k4:h.kind=4
 ·have HE:Hid (stmtE x q h=condE x q h.cond):=hdn (by unfold stmtE;rw[if_neg k1,if_neg k2,if_neg k3,if_pos (.inl k4)])
  clear k1 k2 k3
  have HC:=hdn (fbranch_any x q h tp tn tc ep en ec b o M F w hf hr hv)
  rw[←HE.out] at HC
  have hm:=mBranch F w
  have he:=ent221
  rw[k4] at c0
  clear hf hr hv
  unfold fptr at HC
  unfold rptr
  go_enter Tryz.func46,Tryz.ntmps46
  go_wp2_with (go_at_call 221;refine HC.out.mono ?_;rintro en w2 ⟨rfl,hb2⟩;have HB2:=hdn hb2;clear hb2)
  go_ret2
  exact ⟨rfl,HB2.out⟩
 by_cases k5:h.kind=5
 ·have HE:Hid (stmtE x q h=condE x q h.cond):=hdn (by unfold stmtE;rw[if_neg k1,if_neg k2,if_neg k3,if_pos (.inr k5)])
  clear k1 k2 k3 k4
  have HC:=hdn (fbranch_any x q h tp tn tc ep en ec b o M F w hf hr hv)
  rw[←HE.out] at HC
  have hm:=mBranch F w
  have he:=ent221
  rw[k5] at c0
  clear hf hr hv
  unfold fptr at HC
  unfold rptr
  go_enter Tryz.func46,Tryz.ntmps46
  go_wp2_with (go_at_call 221;refine HC.out.mono ?_;rintro en w2 ⟨rfl,hb2⟩;have HB2:=hdn hb2;clear hb2)
  go_ret2
  exact ⟨rfl,HB2.out⟩
 have HE:Hid (stmtE x q h=(0,0)):=hdn (by unfold stmtE;rw[if_neg k1,if_neg k2,if_neg k3,if_neg (by omega)])
 have q1:(h.kind==1)=false:=by simpa using k1
 have q2:(h.kind==2)=false:=by simpa using k2
 have q3:(h.kind==3)=false:=by simpa using k3
 have q4:(h.kind==4)=false:=by simpa using k4
 have q5:(h.kind==5)=false:=by simpa using k5
 clear hf hr hv
 unfold rptr
 go_enter Tryz.func46,Tryz.ntmps46
 go_wp2_with fail
 go_ret2
 exact ⟨by rw[HE.out];rfl,Below.refl _ _⟩
end Sc
end Go.Proofs.YtcehbcnloiooaaaGreatDoor
namespace Go.Proofs.YtcehbcnloiooaaaGreatDoor
namespace Sc
open Go.RowKit Go.Sort Go.Maps
def lok (w:World):SL→Nat→Nat→Prop
 |.nil,_,_=>True
 |.cons h tp tc t ep ec e r,b,o=>
  w.rangeAt b o (scells h tp t.len tc ep e.len ec)∧hdOk w h∧(t.len≤1048576∧(t= .nil∨∃b' o',tp=some ⟨b',o',none⟩∧lok w t b' o'))∧(e.len≤1048576∧(e= .nil∨∃b' o',ep=some ⟨b',o',none⟩∧lok w e b' o'))∧lok w r b (o+48)
def sok (w:World) (p:Option Addr) (l:SL):Prop:=l.len≤1048576∧(l= .nil∨∃b o,p=some ⟨b,o,none⟩∧lok w l b o)
theorem lok_below {w w':World} (hb:Below w.heap.size w w'): ∀(l:SL) (b o:Nat),lok w l b o→lok w' l b o
 |.nil,_,_,_=>trivial
 |.cons h tp tc t ep ec e r,b,o,H=>by
  obtain ⟨h1,h2,⟨l3,h3⟩,⟨l4,h4⟩,h5⟩:=H
  refine ⟨rangeAt_below h1 hb,hdOk_below h2 hb,⟨l3, ?_⟩,⟨l4, ?_⟩,lok_below hb r b _ h5⟩
  ·rcases h3 with h |⟨b',o',hp,h⟩
   ·exact .inl h
   ·exact .inr ⟨b',o',hp,lok_below hb t b' o' h⟩
  ·rcases h4 with h |⟨b',o',hp,h⟩
   ·exact .inl h
   ·exact .inr ⟨b',o',hp,lok_below hb e b' o' h⟩
theorem sok_below {w w':World} {p:Option Addr} {l:SL} (h:sok w p l) (hb:Below w.heap.size w w'):sok w' p l:=by
 obtain ⟨hl,h⟩:=h
 refine ⟨hl, ?_⟩
 rcases h with h |⟨b,o,hp,h⟩
 ·exact .inl h
 ·exact .inr ⟨b,o,hp,lok_below hb l b o h⟩
theorem thenE_go {a b:Int×Int} (h:a.2=0):thenE a b=b:=by unfold thenE;rw[if_pos h]
theorem thenE_stop {a b:Int×Int} (h: ¬a.2=0):thenE a b=a:=by unfold thenE;rw[if_neg h]
def okE (x:Pg) (q:Pc) (M F:Nat) (l:SL):Prop:=
 ∀(p:Option Addr) (c:Nat) (w:World),FrIs x q M F w→sok w p l→Calls Tryz.prog 20 #[rptr F,.slice p l.len c] w (PPost (listE x q l) w)
theorem each_step (x:Pg) (q:Pc) (M F:Nat) (l:SL) (hl:l.each (okE x q M F)):okE x q M F l:=by
 intro p c w hf hs
 have HF:=hdn hf
 have HS:=hdn hs
 have hlen:l.len≤1048576:=hs.1
 have HI0:Hid ((0:Nat)+l.len=l.len∧l.each (okE x q M F)∧(l= .nil∨∃b o,p=some ⟨b,o,none⟩∧lok w l b (o+0*48))):=hdn ⟨Nat.zero_add _,hl,by rcases hs.2 with h |⟨b,o,h1,h2⟩;exact .inl h;exact .inr ⟨b,o,h1,by rw[Nat.zero_mul,Nat.add_zero];exact h2⟩⟩
 clear hf hs hl
 go_enter Tryz.func20,Tryz.ntmps20
 go_wp2_with fail
 go_loopw [16] (fun i wr=> ∃(k:Nat) (rest:SL),i= .int .i64 k∧k≤l.len∧Hid (k+rest.len=l.len∧rest.each (okE x q M F)∧(rest= .nil∨∃b o,p=some ⟨b,o,none⟩∧lok w rest b (o+k*48)))∧Hid (listE x q l=listE x q rest)∧Hid (Below w.heap.size w wr)) (fun i _=>l.len-(intOf i).toNat)
 case atStart=>exact ⟨0,l,rfl,Nat.zero_le _,HI0,hdn rfl,hdn (Below.refl _ _)⟩
 case round=>
  clear HI0
  obtain ⟨k,rest,rfl,hk,HI,HG,HB⟩:=hrel
  cases rest with
  |nil=>
   have hkl:k=l.len:=by have:=HI.out.1;simpa [SL.len] using this
   subst hkl
   go_wp2_with fail
   go_ret2
   exact ⟨by rw[HG.out];rfl,HB.out⟩
  |cons h tp tc t ep ec e r=>
   have hkl:k<l.len:=by have:=HI.out.1;simp only[SL.len] at this;omega
   obtain ⟨_,⟨ht,he,hr⟩,hx⟩:=HI.out
   obtain ⟨b,o,rfl,hrg,hho,hts,hes,hrs⟩:=hx.resolve_left (by intro h;cases h)
   have HT:=hdn ht;have HE:=hdn he;have HRE:=hdn hr
   have HRG:=hdn hrg;have HHO:=hdn hho;have HTS:Hid (sok w tp t):=hdn hts;have HES:Hid (sok w ep e):=hdn hes;have HRS:=hdn hrs
   clear ht he hr hx hrg hho hts hes hrs
   have HIR:Hid (k+1+r.len=l.len):=hdn (by have:=HI.out.1;simp only[SL.len] at this;omega)
   have HGC:Hid (listE x q l=thenE (stmtE x q h) (thenE (listE x q t) (thenE (listE x q e) (listE x q r)))):=HG
   have HA:=hdn (ask_any x q h tp t.len tc ep e.len ec b (o+k*48) M F wr (HF.out.keep HB.out) (rangeAt_below HRG.out HB.out) (hdOk_below HHO.out HB.out))
   generalize stmtE x q h=r0 at HGC HA
   clear HI HG
   have n0:(0:Int)≤(k:Int):=Int.natCast_nonneg _
   have n1:(k:Int)<(l.len:Int):=by omega
   unfold rptr at HA ⊢
   by_cases e0:r0.2=0
   ·rw[thenE_go e0] at HGC
    go_wp2_with fail
    refine HA.out.mono ?_;rintro en w2 ⟨rfl,hb2⟩
    rw[e0]
    have HB2:Hid (Below w.heap.size w w2):=hdn (HB.out.trans (hb2.mono HB.out.size))
    have c45:=cell_at (rangeAt_below HRG.out HB2.out) 45 _ rfl
    have HT2:=hdn (HT.out tp tc w2 (HF.out.keep HB2.out) (sok_below HTS.out HB2.out))
    clear hb2 HA HT
    generalize listE x q t=r1 at HGC HT2
    unfold rptr at HT2
    by_cases e1:r1.2=0
    ·rw[thenE_go e1] at HGC
     go_wp2_with fail
     refine HT2.out.mono ?_;rintro en w3 ⟨rfl,hb3⟩
     rw[e1]
     have HB3:Hid (Below w.heap.size w w3):=hdn (HB2.out.trans (hb3.mono HB2.out.size))
     have c46:=cell_at (rangeAt_below HRG.out HB3.out) 46 _ rfl
     have HE2:=hdn (HE.out ep ec w3 (HF.out.keep HB3.out) (sok_below HES.out HB3.out))
     clear hb3 HT2 c45 HE
     generalize listE x q e=r2 at HGC HE2
     unfold rptr at HE2
     by_cases e2:r2.2=0
     ·rw[thenE_go e2] at HGC
      go_wp2_with fail
      refine HE2.out.mono ?_;rintro en w4 ⟨rfl,hb4⟩
      rw[e2]
      have HB4:Hid (Below w.heap.size w w4):=hdn (HB3.out.trans (hb4.mono HB3.out.size))
      have HIN:Hid (k+1+r.len=l.len∧r.each (okE x q M F)∧(r= .nil∨∃b' o',some (⟨b,o,none⟩:Addr)=some ⟨b',o',none⟩∧lok w r b' (o'+(k+1)*48))):=hdn ⟨HIR.out,HRE.out,.inr ⟨b,o,rfl,by have:=HRS.out;rwa[show o+k*48+48=o+(k+1)*48 from by omega] at this⟩⟩
      clear hb4 HE2 c46
      go_wp2_with fail
      go_roundw
      case rel=>exact ⟨k+1,r,by go_num,by omega,HIN,HGC,HB4⟩
      case measure=>simp[intOf];omega
     ·have hne:(r2.2==0)=false:=by simpa using e2
      have hne2:(r2.2 !=0)=true:=by simpa using e2
      have HN:Hid (listE x q l=r2):=hdn (by rw[HGC.out,thenE_stop e2])
      go_wp2_with (go_at_call 20;refine HE2.out.mono ?_;rintro en w4 ⟨rfl,hb4⟩;have HB4:=hdn hb4;clear hb4)
      go_ret2
      exact ⟨by rw[HN.out];rfl,HB3.out.trans (HB4.out.mono HB3.out.size)⟩
    ·have hne:(r1.2==0)=false:=by simpa using e1
     have hne2:(r1.2 !=0)=true:=by simpa using e1
     have HN:Hid (listE x q l=r1):=hdn (by rw[HGC.out,thenE_stop e1])
     go_wp2_with (go_at_call 20;refine HT2.out.mono ?_;rintro en w3 ⟨rfl,hb3⟩;have HB3:=hdn hb3;clear hb3)
     go_ret2
     exact ⟨by rw[HN.out];rfl,HB2.out.trans (HB3.out.mono HB2.out.size)⟩
   ·have hne:(r0.2==0)=false:=by simpa using e0
    have hne2:(r0.2 !=0)=true:=by simpa using e0
    have HN:Hid (listE x q l=r0):=hdn (by rw[HGC.out,thenE_stop e0])
    go_wp2_with (go_at_call 46;refine HA.out.mono ?_;rintro en w2 ⟨rfl,hb2⟩;have HB2:=hdn hb2;clear hb2)
    go_ret2
    exact ⟨by rw[HN.out];rfl,HB.out.trans (HB2.out.mono HB.out.size)⟩
theorem each_any (x:Pg) (q:Pc) (M F:Nat) (l:SL):okE x q M F l:=(SL.all (P:=okE x q M F) (fun l h=>each_step x q M F l h) l).1
end Sc
end Go.Proofs.YtcehbcnloiooaaaGreatDoor
namespace Go.Proofs.YtcehbcnloiooaaaGreatDoor
namespace Sc
open Go.RowKit Go.Sort Go.Maps
abbrev pgA (x:Pg):Array Value:= #[.slice x.structs.p x.structs.l.length x.structs.cap,.slice x.globals.p x.globals.l.length x.globals.cap,.slice x.procs.p x.procs.l.length x.procs.cap]
structure AllOk (x:Pg) (w:World):Prop where
 sc:pgLies w x
 body: ∀q∈x.procs.l,sok w q.bp q.body
theorem AllOk.below {x:Pg} {w w':World} (h:AllOk x w) (hb:Below w.heap.size w w'):AllOk x w':=⟨pgLies_below h.sc hb,fun q hq=>sok_below (h.body q hq) hb⟩
theorem procsE_cons (x:Pg) {l:List Pc} {k:Nat} (h:k<l.length):procsE x (l.drop k)=thenE (listE x l[k] l[k].body) (procsE x (l.drop (k+1))):=by
 rw[List.drop_eq_getElem_cons h];rfl
theorem procsE_end (x:Pg) {l:List Pc} {k:Nat} (h:l.length≤k):procsE x (l.drop k)=(0,0):=by rw[List.drop_eq_nil_of_le h];rfl
theorem size26c:(Tryz.prog.info? 26).map (·.size)=some 3:=by kernel_rfl
theorem check_any (x:Pg) (w:World) (hx:AllOk x w) (hrt: ∀w',Below w.heap.size w w'→Calls Tryz.prog 18 #[.agg (pgA x)] w' fun en w''=>en= .returned (.bool true)∧Below w'.heap.size w' w''):
  Calls Tryz.prog 9 #[.agg (pgA x)] w (PPost (checkE x) w):=by
 have HA:Hid (Below w.heap.size w (w.alloc (.cells (pgA x) 26))):=hdn ((Below.refl _ _).alloc (Nat.le_refl _) _)
 have HK:Hid (Bk (w.alloc (.cells (pgA x) 26)) w.heap.size 26 (pgA x)):=hdn (heap_alloc_new w _)
 have HW:Hid (w.heap.size<(w.alloc (.cells (pgA x) 26)).heap.size):=hdn (by simp)
 have HX:=hdn hx
 have HRT:=hdn hrt
 clear hx hrt
 have HRA:Hid ((w.alloc (.cells (pgA x) 26)).rangeAt w.heap.size 0 (pgA x).toList):=hdn (fun i u hu=>by rw[Nat.zero_add];exact (HK.out.cell i).trans (by simpa using hu))
 have HC:=hdn (HRT.out _ HA.out)
 go_enter Tryz.func9,Tryz.ntmps9
 go_wp2_with ((with_reducible show wpList _ _ _ (Oper.mk _ (Op.load 26 _) _ _ _ _::_) _ _);refine wpList_load_arr rfl 26 (.tmp 1) rfl w.heap.size 0 rfl (pgA x) _ HRA.out Tryz.underlying26 rfl size26c ?_)
 generalize w.alloc (.cells (pgA x) 26)=wA at HA HK HW HRA HC ⊢
 refine HC.out.mono ?_;rintro en w1 ⟨rfl,hb1⟩
 have HB1:Hid (Below w.heap.size w w1):=hdn (HA.out.trans (hb1.mono HA.out.size))
 have HK1:=hdn ((show Gr wA w1 (fun _=>False) from Gr.of_below hb1).bk HK.out (fun h=>h))
 have HRA1:Hid (w1.rangeAt w.heap.size 0 (pgA x).toList):=hdn (rangeAt_below HRA.out hb1)
 have HBD:=hdn (build_any x w1 (pgLies_below HX.out.sc HB1.out))
 clear hb1 HC HRA HK HA HW
 go_wp2_with ((with_reducible show wpList _ _ _ (Oper.mk _ (Op.load 26 _) _ _ _ _::_) _ _);refine wpList_load_arr rfl 26 (.tmp 1) rfl w.heap.size 0 rfl (pgA x) _ HRA1.out Tryz.underlying26 rfl size26c ?_)
 refine HBD.out.mono ?_;rintro en w2 ⟨t,rfl,hz,hnz,hb2⟩
 have HB2:Hid (Below w.heap.size w w2):=hdn (HB1.out.trans (hb2.mono HB1.out.size))
 have HK2:=hdn ((show Gr w1 w2 (fun _=>False) from Gr.of_below hb2).bk HK1.out (fun h=>h))
 clear hb2 HBD HRA1 HK1
 by_cases e0:(buildGo x).2=0
 ·obtain ⟨M,rfl,hT,_⟩:=hz e0
  have HT:=hdn hT
  have HE:Hid (checkE x=if isIn (pNames x.procs.l) mainN=true then (if 0<(paramsOf x mainN).length then (((x.procs.l[(numOf (pNames x.procs.l) mainN).toNat]?).map (·.pos)).getD 0,9) else procsE x x.procs.l) else (0,8)):=hdn (by unfold checkE;rw[if_pos e0])
  have HP:=hdn (tab_proc x mainN M w2 hT (by decide))
  rw[e0]
  clear hz hnz hT e0
  cases hin:isIn (pNames x.procs.l) mainN
  ·have HE1:Hid (checkE x=(0,8)):=hdn (by rw[HE.out,hin];rfl)
   rw[hin] at HP
   unfold mainN at HP
   go_wp2_with (go_at_call 19;refine HP.out.mono ?_;rintro en w3 ⟨rfl,rfl⟩)
   go_ret2
   exact ⟨by rw[HE1.out];rfl,HB2.out⟩
  ·have hnum:=numOf_in hin
   have hlt:placeOf (pNames x.procs.l) mainN<x.procs.l.length:=by have:=placeOf_lt hin;simpa [pNames] using this
   obtain ⟨y,hy⟩: ∃y,x.procs.l[placeOf (pNames x.procs.l) mainN]? =some y:=⟨_,List.getElem?_eq_getElem hlt⟩
   have HPO:Hid (paramsOf x mainN=y.params.l):=hdn (by unfold paramsOf;rw[hnum,Int.toNat_natCast,hy];rfl)
   have HE1:Hid (checkE x=if 0<y.params.l.length then (y.pos,9) else procsE x x.procs.l):=hdn (by rw[HE.out,if_pos hin,HPO.out,hnum,Int.toNat_natCast,hy];rfl)
   rw[hin,hnum] at HP
   have HNUM:Hid (numOf (pNames x.procs.l) mainN=(placeOf (pNames x.procs.l) mainN:Int)):=hdn hnum
   have HIN:=hdn hin
   generalize placeOf (pNames x.procs.l) mainN=f at hlt hy HP HNUM hnum
   have HY:=hdn hy
   have HLT:=hdn hlt
   clear hin hnum hy hlt HPO HE
   have HL2:=hdn (pgLies_below HX.out.sc HB2.out)
   obtain ⟨pb,po,hpp,hpr,hpl⟩:=(Lay.of_sl (bytes:=104) HL2.out.2.2).at_ HLT.out
   rw[show x.procs.l[f]'HLT.out=y from by have:=HY.out;rw[List.getElem?_eq_getElem HLT.out] at this;injection this] at hpr hpl
   have HPP:=hdn hpp
   have c2:w2.cell? ⟨w.heap.size,2,none⟩=some (.slice (some ⟨pb,po,none⟩) x.procs.l.length x.procs.cap):=by rw[←hpp];exact HK2.out.cell 2
   have g1:=cell_at hpr 1 _ rfl
   have g3:=cell_at hpr 3 _ rfl
   have n0:(0:Int)≤(f:Int):=Int.natCast_nonneg _
   have n1:(f:Int)<(x.procs.l.length:Int):=by have:=HLT.out;omega
   have hpn:x.procs.l.length≤1048576:=HL2.out.2.2.1
   clear hpr hpl hpp
   unfold mainN at HP
   by_cases hpz:0<y.params.l.length
   ·have HE2:Hid (checkE x=(y.pos,9)):=hdn (by rw[HE1.out,if_pos hpz])
    have hq:(0:Int)<(y.params.l.length:Int):=by omega
    go_wp2_with (go_at_call 19;refine HP.out.mono ?_;rintro en w3 ⟨rfl,rfl⟩)
    go_ret2
    exact ⟨by rw[HE2.out];rfl,HB2.out⟩
   ·have HE2:Hid (checkE x=procsE x x.procs.l):=hdn (by rw[HE1.out,if_neg hpz])
    have hq: ¬(0:Int)<(y.params.l.length:Int):=by omega
    clear HE1
    go_wp2_with (go_at_call 19;refine HP.out.mono ?_;rintro en w3 ⟨rfl,rfl⟩)
    have HW2:Hid (w.heap.size<w2.heap.size):=hdn HK2.out.lt
    have HKN:=hdn hpn
    clear c2 g1 g3 n0 n1 hq hpz HP
    go_loopw [50] (fun i wr=> ∃k:Nat,i= .int .i64 k∧k≤x.procs.l.length∧Hid (procsE x x.procs.l=procsE x (x.procs.l.drop k))∧Hid (Below w2.heap.size w2 wr)) (fun i _=>x.procs.l.length-(intOf i).toNat)
    case atStart=>exact ⟨0,rfl,Nat.zero_le _,hdn rfl,hdn (Below.refl _ _)⟩
    case round=>
     obtain ⟨k,rfl,hk,HG,HB⟩:=hrel
     by_cases hkl:k<x.procs.l.length
     ·have HGC:Hid (procsE x x.procs.l=thenE (listE x x.procs.l[k] x.procs.l[k].body) (procsE x (x.procs.l.drop (k+1)))):=hdn (by rw[HG.out,procsE_cons x hkl])
      obtain ⟨pb',po',hpp',hpr,hpl⟩:=(Lay.of_sl (bytes:=104) (pgLies_below HL2.out HB.out).2.2).at_ hkl
      obtain ⟨rfl,rfl⟩:pb=pb'∧po=po':=by have:=HPP.out;rw[hpp'] at this;injection this with this;injection this with a b;exact ⟨a.symm,b.symm⟩
      have hbd:=HX.out.body x.procs.l[k] (List.getElem_mem hkl)
      have HBW:Hid (Below w.heap.size w wr):=hdn (HB2.out.trans (HB.out.mono HB2.out.size))
      generalize x.procs.l[k]=q at HGC hpr hpl hbd
      have HPR:Hid (wr.rangeAt pb (po+k*6) (pcA q).toList):=hdn hpr
      have HPL:=hdn hpl
      have HBD:=hdn hbd
      have cw2:wr.cell? ⟨w.heap.size,2,none⟩=some (.slice (some ⟨pb,po,none⟩) x.procs.l.length x.procs.cap):=by rw[←HPP.out];exact (HB.out.cell (p:=⟨w.heap.size,2,none⟩) HW2.out).trans (HK2.out.cell 2)
      have HNB:Hid (Bk (wr.alloc (.cells (pcA q) 37)) wr.heap.size 37 (pcA q)):=hdn (heap_alloc_new _ _)
      have HRN:Hid ((wr.alloc (.cells (pcA q) 37)).rangeAt wr.heap.size 0 (pcA q).toList):=hdn (fun i u hu=>by rw[Nat.zero_add];exact (HNB.out.cell i).trans (by simpa using hu))
      have cn2:(wr.alloc (.cells (pcA q) 37)).cell? ⟨w.heap.size,2,none⟩=some (.slice (some ⟨pb,po,none⟩) x.procs.l.length x.procs.cap):=((Below.refl wr.heap.size wr).alloc (Nat.le_refl _) _ |>.cell (p:=⟨w.heap.size,2,none⟩) (World.block_lt_of_cell? wr _ cw2)).trans cw2
      have m0:(0:Int)≤(k:Int):=Int.natCast_nonneg _
      have m1:(k:Int)<(x.procs.l.length:Int):=by omega
      have HFE:Hid ((frA x q M)=(#[.pointer (some ⟨M+4,0,none⟩),.slice (some ⟨pb,po,none⟩) x.procs.l.length x.procs.cap,.string q.name,.int .i64 q.pos,.int .i64 q.fin,.slice q.params.p q.params.l.length q.params.cap,.slice q.locals_.p q.locals_.l.length q.locals_.cap,.slice q.bp q.body.len q.bc,.int .i64 f]:Array Value)):=hdn (by unfold frA;rw[HNUM.out,HPP.out];rfl)
      have HBB:Hid (Below wr.heap.size wr ((wr.alloc (.cells (pcA q) 37)).alloc (.cells #[.pointer (some ⟨M+4,0,none⟩),.slice (some ⟨pb,po,none⟩) x.procs.l.length x.procs.cap,.string q.name,.int .i64 q.pos,.int .i64 q.fin,.slice q.params.p q.params.l.length q.params.cap,.slice q.locals_.p q.locals_.l.length q.locals_.cap,.slice q.bp q.body.len q.bc,.int .i64 f] 73))):=hdn (((Below.refl _ _).alloc (Nat.le_refl _) _).alloc (by simp) _)
      have HFR:Hid (FrIs x q M (wr.heap.size+1) ((wr.alloc (.cells (pcA q) 37)).alloc (.cells #[.pointer (some ⟨M+4,0,none⟩),.slice (some ⟨pb,po,none⟩) x.procs.l.length x.procs.cap,.string q.name,.int .i64 q.pos,.int .i64 q.fin,.slice q.params.p q.params.l.length q.params.cap,.slice q.locals_.p q.locals_.l.length q.locals_.cap,.slice q.bp q.body.len q.bc,.int .i64 f] 73))):=hdn
       ⟨HT.out.keep (HB.out.trans (HBB.out.mono HB.out.size)),by rw[HFE.out];exact heap_alloc2_new wr _ _,pcLies_below HPL.out HBB.out,(pgLies_below HL2.out (HB.out.trans (HBB.out.mono HB.out.size))).2.2,HX.out.sc.1.1,HIN.out⟩
      have HEC:=hdn (each_any x q M (wr.heap.size+1) q.body q.bp q.bc ((wr.alloc (.cells (pcA q) 37)).alloc (.cells #[.pointer (some ⟨M+4,0,none⟩),.slice (some ⟨pb,po,none⟩) x.procs.l.length x.procs.cap,.string q.name,.int .i64 q.pos,.int .i64 q.fin,.slice q.params.p q.params.l.length q.params.cap,.slice q.locals_.p q.locals_.l.length q.locals_.cap,.slice q.bp q.body.len q.bc,.int .i64 f] 73)) HFR.out (sok_below HBD.out (HBW.out.trans (HBB.out.mono HBW.out.size))))
      unfold rptr at HEC
      generalize listE x q q.body=r at HGC HEC
      clear hpr hpl hbd hpp' cw2 HFR
      unfold tptr
      go_wp2_with (first |((with_reducible show wpList _ _ _ (Oper.mk (some 53) _ _ _ _ _::_) _ _);refine wpList_load_arr rfl 37 (.tmp 52) rfl pb (po+k*6) rfl (pcA q) _ HPR.out Tryz.underlying37 rfl size37 ?_)|((with_reducible show wpList _ _ _ (Oper.mk none (Op.store _ _ _) _ _ _ _::_) _ _);refine wpList_store_new rfl 37 (.tmp 10) (.tmp 53) rfl _ (pcA q) rfl rfl size37 rfl rfl ?_)|((with_reducible show wpList _ _ _ (Oper.mk (some 58) _ _ _ _ _::_) _ _);refine wpList_load_arr rfl 37 (.tmp 10) rfl wr.heap.size 0 rfl (pcA q) _ HRN.out Tryz.underlying37 rfl size37 ?_))
      generalize ((wr.alloc (.cells (pcA q) 37)).alloc (.cells #[.pointer (some ⟨M+4,0,none⟩),.slice (some ⟨pb,po,none⟩) x.procs.l.length x.procs.cap,.string q.name,.int .i64 q.pos,.int .i64 q.fin,.slice q.params.p q.params.l.length q.params.cap,.slice q.locals_.p q.locals_.l.length q.locals_.cap,.slice q.bp q.body.len q.bc,.int .i64 f] 73))=wB at HEC HBB ⊢
      refine HEC.out.mono ?_;rintro en w4 ⟨rfl,hb4⟩
      have HB4:Hid (Below w2.heap.size w2 w4):=hdn (HB.out.trans ((HBB.out.trans (hb4.mono HBB.out.size)).mono HB.out.size))
      clear hb4 cn2
      by_cases e1:r.2=0
      ·have HN:Hid (procsE x x.procs.l=procsE x (x.procs.l.drop (k+1))):=hdn (by rw[HGC.out,thenE_go e1])
       rw[e1]
       go_wp2_with fail
       go_roundw
       case rel=>exact ⟨k+1,by go_num,by omega,HN,HB4⟩
       case measure=>simp[intOf];omega
      ·have HN:Hid (procsE x x.procs.l=r):=hdn (by rw[HGC.out,thenE_stop e1])
       have hne:(r.2==0)=false:=by simpa using e1
       have hne2:(r.2 !=0)=true:=by simpa using e1
       go_wp2_with fail
       go_ret2
       exact ⟨by rw[HE2.out,HN.out];rfl,HB2.out.trans (HB4.out.mono HB2.out.size)⟩
     ·have HN:Hid (procsE x x.procs.l=(0,0)):=hdn (by rw[HG.out,procsE_end x (by omega)])
      go_wp2_with fail
      go_ret2
      exact ⟨by rw[HE2.out,HN.out];rfl,HB2.out.trans (HB.out.mono HB2.out.size)⟩
 ·have HE:Hid (checkE x=buildGo x):=hdn (by unfold checkE;rw[if_neg e0])
  have hne:((buildGo x).2==0)=false:=by simpa using e0
  have hne2:((buildGo x).2 !=0)=true:=by simpa using e0
  obtain rfl:=hnz e0
  clear hz hnz
  go_wp2_with fail
  go_ret2
  exact ⟨by rw[HE.out];rfl,HB2.out⟩
end Sc
end Go.Proofs.YtcehbcnloiooaaaGreatDoor
namespace Go.Proofs.YtcehbcnloiooaaaGreatDoor
namespace Sc
open Go.RowKit Go.Sort Go.Maps
end Sc
end Go.Proofs.YtcehbcnloiooaaaGreatDoor
namespace Go.Proofs.YtcehbcnloiooaaaGreatDoor
namespace Sc
open Go.RowKit Go.Sort Go.Maps
structure TbIs (x:Pg) (v:Value) (w:World):Prop where
 pg:pgLies w x
 own: ∃base,w.ownsRow base 102 2 v (endsP x).length (pcells (endsP x))
theorem TbIs.keep {x:Pg} {v:Value} {w w':World} (h:TbIs x v w) (hb:Below w.heap.size w w'):TbIs x v w' where
 pg:=pgLies_below h.pg hb
 own:=by
  obtain ⟨base,ho⟩:=h.own
  have hg:Gr w w' (fun _=>False):=Gr.of_below hb
  exact ⟨base,own_gr ho hg (fun _ _ _ h=>h)⟩
end Sc
end Go.Proofs.YtcehbcnloiooaaaGreatDoor
namespace Go.Proofs.YtcehbcnloiooaaaGreatDoor
namespace Sc
open Go.RowKit Go.Sort Go.Maps
structure TQ (x:Pg) (v:Value) (q:Pc) (w:World):Prop where
 tb:TbIs x v w
 pc:pcLies w q
theorem TQ.keep {x:Pg} {v:Value} {q:Pc} {w w':World} (h:TQ x v q w) (hb:Below w.heap.size w w'):TQ x v q w':=⟨h.tb.keep hb,pcLies_below h.pc hb⟩
structure B3 (x:Pg) (v:Value) (q:Pc) (t:TypeId) (cs:Array Value) (A:Nat) (w:World):Prop where
 k1:Bk w A 46 (tval x v)
 k2:Bk w (A+1) 37 (pcA q)
 k3:Bk w (A+1+1) t cs
theorem B3.keep {x:Pg} {v:Value} {q:Pc} {t:TypeId} {cs:Array Value} {A:Nat} {w w':World} (h:B3 x v q t cs A w) (hb:Below w.heap.size w w'):B3 x v q t cs A w':=
 have g:Gr w w' (fun _=>False):=Gr.of_below hb
 ⟨g.bk h.k1 (fun h=>h),g.bk h.k2 (fun h=>h),g.bk h.k3 (fun h=>h)⟩
theorem B3.pr {x:Pg} {v:Value} {q:Pc} {t:TypeId} {cs:Array Value} {A:Nat} {w:World} (h:B3 x v q t cs A w):w.rangeAt A 0 (pval x).toList:=fun i u hu=>by
 rw[Nat.zero_add,h.k1.cell i]
 match i,hu with
 |0,hu=>exact hu
 |1,hu=>exact hu
 |2,hu=>exact hu
end Sc
end Go.Proofs.YtcehbcnloiooaaaGreatDoor
namespace Go.Proofs.YtcehbcnloiooaaaGreatDoor
namespace Sc
open Go.RowKit Go.Sort Go.Maps
end Sc
end Go.Proofs.YtcehbcnloiooaaaGreatDoor
namespace Go.Proofs.YtcehbcnloiooaaaGreatDoor
namespace Sc
open Go.RowKit Go.Sort Go.Maps
def looks (r a:Int) (any:Bool):Prop:=(r= -2∧a=0∧any=true)∨(r= -1∧a= -1∧any=false)∨(0≤r∧a=r∧any=false)
end Sc
end Go.Proofs.YtcehbcnloiooaaaGreatDoor
namespace Go.Proofs.YtcehbcnloiooaaaGreatDoor
namespace Sc
open Go.RowKit Go.Sort Go.Maps
end Sc
end Go.Proofs.YtcehbcnloiooaaaGreatDoor
namespace Go.Proofs.YtcehbcnloiooaaaGreatDoor
namespace Sc
open Go.RowKit Go.Sort Go.Maps
def ckOk:SL→Prop
 |.nil=>True
 |.cons h _ _ t _ _ e r=>(h.kind=4∨h.kind=5→h.cond.kind≤4)∧ckOk t∧ckOk e∧ckOk r
end Sc
end Go.Proofs.YtcehbcnloiooaaaGreatDoor
namespace Go.Proofs.YtcehbcnloiooaaaGreatDoor
namespace Sc
open Go.RowKit Go.Sort Go.Maps
end Sc
end Go.Proofs.YtcehbcnloiooaaaGreatDoor
namespace Go.Proofs.YtcehbcnloiooaaaGreatDoor
open Go.RowKit Go.Sort
theorem enters93: ∀args w,(callFunc 192 args).run Tryz.prog w= .ok (.enter 192 args) w:=enters Tryz.func192 (by kernel_rfl) rfl
def OkHp (x y:Hp):Prop:= ∀(b1 q1 b2 q2:Nat) (w:World),w.rangeAt b1 q1 (Hp.cells x)→w.rangeAt b2 q2 (Hp.cells y)→triv w x→triv w y→
 Calls Tryz.prog 186 #[.pointer (some ⟨b1,q1,none⟩),.pointer (some ⟨b2,q2,none⟩)] w fun en w'=>en= .returned (.bool (sameHp x y))∧Below w.heap.size w w'
theorem cloFHp (i:Int) (b1 q1 bs bb:Nat) (w:World):
  Calls Tryz.prog 192 #[.bool false,.int .i64 i,.pointer (some ⟨b1,q1,none⟩),.pointer (some ⟨bs,0,none⟩),.pointer (some ⟨bb,0,none⟩)] w fun en w'=>en= .returned (.bool false)∧Below w.heap.size w w':=by
 go_enter Tryz.func192,Tryz.ntmps192
 go_wp2_with fail
 go_quiet (fail)
 go_wp2_with fail
 go_ret
 exact ⟨rfl,below_drewN_ (Below.refl _ _) _⟩
theorem cloTHp (v:Bool) (k n c b1 q1 b2 o2 bs bb:Nat) (w:World) (hk:k<n)
  (hs:w.cell? ⟨bs,0,none⟩=some (.func (.func 186) #[] #[])) (hb:w.cell? ⟨bb,0,none⟩=some (.slice (some ⟨b2,o2,none⟩) n c))
  (hS: ∀w',Below w.heap.size w w'→Calls Tryz.prog 186 #[.pointer (some ⟨b1,q1,none⟩),.pointer (some ⟨b2,o2+k*2,none⟩)] w' fun en w''=>en= .returned (.bool v)∧Below w'.heap.size w' w''):
  Calls Tryz.prog 192 #[.bool true,.int .i64 k,.pointer (some ⟨b1,q1,none⟩),.pointer (some ⟨bs,0,none⟩),.pointer (some ⟨bb,0,none⟩)] w fun en w'=>en= .returned (.bool v)∧Below w.heap.size w w':=by
 have cS: ∀dd os,Calls Tryz.prog 186 #[.pointer (some ⟨b1,q1,none⟩),.pointer (some ⟨b2,o2+k*2,none⟩)] (grow (redrawn w dd) os) fun en w''=>en= .returned (.bool v)∧∃p:Regrown,w''=grow (redrawn w p.d) p.os:=
  fun dd os=>Calls.regrown_of (hS _ (below_regrown _ _ _))
 have ks:=cell_regrown hs
 have kb:=cell_regrown hb
 have hk0:(0:Int)≤(k:Int):=Int.natCast_nonneg _
 have hk1:(k:Int)<(n:Int):=by omega
 clear hS hs hb
 go_enter Tryz.func192,Tryz.ntmps192
 go_wp2_with fail
 refine wp_region_quiet_below (by kernel_rfl) (by kernel_rfl) ?_
 repeat (go_big_quiet_step (with_reducible exact cS _ _))
 refine wpQuiet_nil ?_
 intro _ hw'
 obtain ⟨⟨dq,osq⟩,hw''⟩:=hw'
 subst hw''
 have HB3:=hdn (below_regrown w dq osq)
 generalize grow (redrawn w dq) osq=w3 at HB3 ⊢
 go_wp2_with fail
 go_ret
 exact ⟨rfl,HB3.out⟩
theorem foldHp (l m:List Hp) (p1 p2:Option Addr) (c1 c2 bs bb:Nat) (w:World) (h1:Lay 2 Hp.cells triv w p1 l) (h2:Lay 2 Hp.cells triv w p2 m)
  (hs:w.cell? ⟨bs,0,none⟩=some (.func (.func 186) #[] #[])) (hb:w.cell? ⟨bb,0,none⟩=some (.slice p2 m.length c2)) (hS: ∀x∈l,∀y∈m,OkHp x y):
  Calls Tryz.prog 191 #[.slice p1 l.length c1,.bool ((l.length:Int)==(m.length:Int)),.func (.func 192) #[] #[.pointer (some ⟨bs,0,none⟩),.pointer (some ⟨bb,0,none⟩)]] w fun en w'=>en= .returned (.bool (sameL sameHp l m))∧Below w.heap.size w w':=by
 obtain ⟨hl1,h1⟩:=h1
 obtain ⟨_,h2⟩:=h2
 have H1:=hdn h1
 have H2:=hdn h2
 have HS:=hdn hS
 have HBS:=hdn hs
 have HBB:=hdn hb
 clear h1 h2 hS hs hb
 by_cases he:l.length=m.length
 ·have heq:((l.length:Int)==(m.length:Int))=true:=by rw[he];simp
  rw[heq]
  have HE:=hdn he
  clear he heq
  go_enter Tryz.func191,Tryz.ntmps191
  go_wp2_with fail
  go_loopw [1,10] (fun v i wr=> ∃k:Nat,i= .int .i64 k∧k≤l.length∧v= .bool (sameL sameHp (l.take k) (m.take k))∧Hid (Below w.heap.size w wr)) (fun _ i _=>l.length-(intOf i).toNat)
  case atStart=>exact ⟨0,rfl,Nat.zero_le _,rfl,hdn (Below.refl _ _)⟩
  case round=>
   obtain ⟨k,rfl,hk,rfl,HB⟩:=hrel
   by_cases hkl:k<l.length
   ·have hkm:k<m.length:=by have:=HE.out;omega
    obtain ⟨b1,o1,rfl,hx⟩: ∃b o,p1=some ⟨b,o,none⟩∧∀k x,l[k]? =some x→w.rangeAt b (o+k*2) (Hp.cells x)∧triv w x:=by
     rcases H1.out with h |h
     ·rw[h] at hkl;simp at hkl
     ·exact h
    obtain ⟨b2,o2,rfl,hy⟩: ∃b o,p2=some ⟨b,o,none⟩∧∀k x,m[k]? =some x→w.rangeAt b (o+k*2) (Hp.cells x)∧triv w x:=by
     rcases H2.out with h |h
     ·rw[h] at hkm;simp at hkm
     ·exact h
    have hx1:=hx k l[k] (List.getElem?_eq_getElem hkl)
    have hy1:=hy k m[k] (List.getElem?_eq_getElem hkm)
    have hSS: ∀w',Below wr.heap.size wr w'→Calls Tryz.prog 186 #[.pointer (some ⟨b1,o1+k*2,none⟩),.pointer (some ⟨b2,o2+k*2,none⟩)] w' fun en w''=>en= .returned (.bool (sameHp l[k] m[k]))∧Below w'.heap.size w' w'':=fun w' hb'=>
     have hb2:=HB.out.trans (hb'.mono HB.out.size)
     HS.out l[k] (List.getElem_mem _) m[k] (List.getElem_mem _) _ _ _ _ w' (rangeAt_below hx1.1 hb2) (rangeAt_below hy1.1 hb2) (triv_below hx1.2 hb2) (triv_below hy1.2 hb2)
    have hst:=sameL_step (f:=sameHp) k hkl hkm
    generalize sameHp l[k] m[k]=vb at hSS hst
    have HSS:=hdn hSS
    have HST:=hdn hst
    have HCT:Hid (Calls Tryz.prog 192 #[.bool true,.int .i64 k,.pointer (some ⟨b1,o1+k*2,none⟩),.pointer (some ⟨bs,0,none⟩),.pointer (some ⟨bb,0,none⟩)] wr fun en w'=>en= .returned (.bool vb)∧Below wr.heap.size wr w'):=
     hdn (cloTHp vb k m.length c2 b1 (o1+k*2) b2 o2 bs bb wr hkm ((HB.out.cell (p:=⟨bs,0,none⟩) (World.block_lt_of_cell? w _ HBS.out)).trans HBS.out) ((HB.out.cell (p:=⟨bb,0,none⟩) (World.block_lt_of_cell? w _ HBB.out)).trans HBB.out) HSS.out)
    have hcl:=enters93
    clear hx hy hx1 hy1 hSS hst
    generalize sameL sameHp (l.take k) (m.take k)=sb at HST ⊢
    cases sb
    ·go_wp2_with fail
     refine (cloFHp _ _ _ _ _ _).mono ?_;rintro en w2 ⟨rfl,hb2⟩
     have HB2:Hid (Below w.heap.size w w2):=hdn (HB.out.trans (hb2.mono HB.out.size))
     clear hb2
     go_wp2_with fail
     go_roundw
     case rel=>exact ⟨k+1,by go_num,by omega,by rw[HST.out];rfl,HB2⟩
     case measure=>simp[intOf];omega
    ·go_wp2_with fail
     refine (HCT.out).mono ?_;rintro en w2 ⟨rfl,hb2⟩
     have HB2:Hid (Below w.heap.size w w2):=hdn (HB.out.trans (hb2.mono HB.out.size))
     clear hb2
     go_wp2_with fail
     go_roundw
     case rel=>exact ⟨k+1,by go_num,by omega,by rw[HST.out];rfl,HB2⟩
     case measure=>simp[intOf];omega
   ·have h1:l.take k=l:=List.take_of_length_le (by omega)
    have h2:m.take k=m:=List.take_of_length_le (by have:=HE.out;omega)
    rw[h1,h2]
    clear h1 h2
    go_wp2_with fail
    go_ret
    exact ⟨rfl,HB.out⟩
 ·have heq:((l.length:Int)==(m.length:Int))=false:=by
   rw[Bool.eq_false_iff];intro e;rw[beq_iff_eq] at e;exact he (by omega)
  rw[heq,sameL_len he]
  clear he heq
  go_enter Tryz.func191,Tryz.ntmps191
  go_wp2_with fail
  go_loopw [1,10] (fun v i wr=> ∃k:Nat,i= .int .i64 k∧k≤l.length∧v= .bool false∧Hid (Below w.heap.size w wr)) (fun _ i _=>l.length-(intOf i).toNat)
  case atStart=>exact ⟨0,rfl,Nat.zero_le _,rfl,hdn (Below.refl _ _)⟩
  case round=>
   obtain ⟨k,rfl,hk,rfl,HB⟩:=hrel
   by_cases hkl:k<l.length
   ·obtain ⟨b1,o1,rfl,hx⟩: ∃b o,p1=some ⟨b,o,none⟩∧∀k x,l[k]? =some x→w.rangeAt b (o+k*2) (Hp.cells x)∧triv w x:=by
     rcases H1.out with h |h
     ·rw[h] at hkl;simp at hkl
     ·exact h
    have hcl:=enters93
    clear hx
    go_wp2_with fail
    refine (cloFHp _ _ _ _ _ _).mono ?_;rintro en w2 ⟨rfl,hb2⟩
    have HB2:Hid (Below w.heap.size w w2):=hdn (HB.out.trans (hb2.mono HB.out.size))
    clear hb2
    go_wp2_with fail
    go_roundw
    case rel=>exact ⟨k+1,by go_num,by omega,rfl,HB2⟩
    case measure=>simp[intOf];omega
   ·go_wp2_with fail
    go_ret
    exact ⟨rfl,HB.out⟩
theorem allHp (l m:List Hp) (p1 p2:Option Addr) (c1 c2:Nat) (w:World) (h1:Lay 2 Hp.cells triv w p1 l) (h2:Lay 2 Hp.cells triv w p2 m) (hS: ∀x∈l,∀y∈m,OkHp x y):
  Calls Tryz.prog 185 #[.slice p1 l.length c1,.slice p2 m.length c2,.func (.func 186) #[] #[]] w fun en w'=>en= .returned (.bool (sameL sameHp l m))∧Below w.heap.size w w':=by
 have ha:Below w.heap.size w ((w.alloc (.cells #[.slice p2 m.length c2] 38)).alloc (.cells #[.func (.func 186) #[] #[]] 252)):=((Below.refl _ _).alloc (Nat.le_refl _) _).alloc (by simp) _
 have HF:=hdn (foldHp l m p1 p2 c1 c2 (w.heap.size+1) w.heap.size ((w.alloc (.cells #[.slice p2 m.length c2] 38)).alloc (.cells #[.func (.func 186) #[] #[]] 252)) (h1.below ha (fun _ h=>triv_below h ha)) (h2.below ha (fun _ h=>triv_below h ha))
  (cell_of_row _ _ 0 _ _ _ (heap_alloc2_new w _ _)) (cell_of_row _ _ 0 _ _ _ (heap_alloc2_old w _ _)) hS)
 have HA:=hdn ha
 have hl1:=h1.1
 have hl2:=h2.1
 clear ha h1 h2 hS
 go_enter Tryz.func185,Tryz.ntmps185
 go_wp2_with fail
 refine (HF.out).mono ?_;rintro en w2 ⟨rfl,hb2⟩
 have HB2:Hid (Below w.heap.size w w2):=hdn (HA.out.trans (hb2.mono HA.out.size))
 clear hb2
 go_wp2_with fail
 go_ret
 exact ⟨rfl,HB2.out⟩
end Go.Proofs.YtcehbcnloiooaaaGreatDoor
namespace Go.Proofs.YtcehbcnloiooaaaGreatDoor
open Go.RowKit Go.Sort
theorem hop_any (x y:Hp) (b1 q1 b2 q2:Nat) (w:World) (hx:w.rangeAt b1 q1 (Hp.cells x)) (hy:w.rangeAt b2 q2 (Hp.cells y)) (_rx:triv w x) (_ry:triv w y):
  Calls Tryz.prog 186 #[.pointer (some ⟨b1,q1,none⟩),.pointer (some ⟨b2,q2,none⟩)] w fun en w'=>en= .returned (.bool (sameHp x y))∧Below w.heap.size w w':=by
 have cx0:=cell_at hx 0 _ rfl
 have cy0:=cell_at hy 0 _ rfl
 rw[Nat.add_zero] at cx0 cy0
 have kx0:=cell_regrown cx0
 have ky0:=cell_regrown cy0
 show Calls _ _ _ _ (fun en w'=>en= .returned (.bool ((x.name.toList==y.name.toList)))∧Below w.heap.size w w')
 generalize e0:(x.name.toList==y.name.toList)=v0
 clear hx hy _rx _ry
 cases v0
 ·go_enter Tryz.func186,Tryz.ntmps186
  go_wp2_with fail
  refine wp_region_quiet_below (by kernel_rfl) (by kernel_rfl) ?_
  repeat (go_big_quiet_step (fail))
  refine wpQuiet_nil ?_
  intro _ hw'
  obtain ⟨⟨dq,osq⟩,hw''⟩:=hw'
  subst hw''
  have HB3:=hdn (below_regrown w dq osq)
  generalize grow (redrawn w dq) osq=w3 at HB3 ⊢
  go_wp2_with fail
  go_ret
  exact ⟨rfl,HB3.out⟩
 ·go_enter Tryz.func186,Tryz.ntmps186
  go_wp2_with fail
  refine wp_region_quiet_below (by kernel_rfl) (by kernel_rfl) ?_
  repeat (go_big_quiet_step (fail))
  refine wpQuiet_nil ?_
  intro _ hw'
  obtain ⟨⟨dq,osq⟩,hw''⟩:=hw'
  subst hw''
  have HB3:=hdn (below_regrown w dq osq)
  generalize grow (redrawn w dq) osq=w3 at HB3 ⊢
  go_wp2_with fail
  go_ret
  exact ⟨rfl,HB3.out⟩
theorem okHp (x y:Hp):OkHp x y:=fun b1 q1 b2 q2 w hx hy rx ry=>hop_any x y b1 q1 b2 q2 w hx hy rx ry
theorem termS_any (x y:Tm) (b1 q1 b2 q2:Nat) (w:World) (hx:w.rangeAt b1 q1 (Tm.cells x)) (hy:w.rangeAt b2 q2 (Tm.cells y)) (_rx:triv w x) (_ry:triv w y):
  Calls Tryz.prog 187 #[.pointer (some ⟨b1,q1,none⟩),.pointer (some ⟨b2,q2,none⟩)] w fun en w'=>en= .returned (.bool (sameTm x y))∧Below w.heap.size w w':=by
 have cx0:=cell_at hx 0 _ rfl
 have cy0:=cell_at hy 0 _ rfl
 rw[Nat.add_zero] at cx0 cy0
 have kx0:=cell_regrown cx0
 have ky0:=cell_regrown cy0
 have cx1:=cell_at hx 1 _ rfl
 have cy1:=cell_at hy 1 _ rfl
 have kx1:=cell_regrown cx1
 have ky1:=cell_regrown cy1
 show Calls _ _ _ _ (fun en w'=>en= .returned (.bool ((x.name.toList==y.name.toList) && ((x.n==y.n))))∧Below w.heap.size w w')
 generalize e0:(x.name.toList==y.name.toList)=v0
 generalize e1:(x.n==y.n)=v1
 clear hx hy _rx _ry
 cases v0
 ·go_enter Tryz.func187,Tryz.ntmps187
  go_wp2_with fail
  refine wp_region_quiet_below (by kernel_rfl) (by kernel_rfl) ?_
  repeat (go_big_quiet_step (fail))
  refine wpQuiet_nil ?_
  intro _ hw'
  obtain ⟨⟨dq,osq⟩,hw''⟩:=hw'
  subst hw''
  have HB3:=hdn (below_regrown w dq osq)
  generalize grow (redrawn w dq) osq=w3 at HB3 ⊢
  go_wp2_with fail
  go_ret
  exact ⟨rfl,HB3.out⟩
 ·cases v1
  ·go_enter Tryz.func187,Tryz.ntmps187
   go_wp2_with fail
   refine wp_region_quiet_below (by kernel_rfl) (by kernel_rfl) ?_
   repeat (go_big_quiet_step (fail))
   refine wpQuiet_nil ?_
   intro _ hw'
   obtain ⟨⟨dq,osq⟩,hw''⟩:=hw'
   subst hw''
   have HB3:=hdn (below_regrown w dq osq)
   generalize grow (redrawn w dq) osq=w3 at HB3 ⊢
   go_wp2_with fail
   go_ret
   exact ⟨rfl,HB3.out⟩
  ·go_enter Tryz.func187,Tryz.ntmps187
   go_wp2_with fail
   refine wp_region_quiet_below (by kernel_rfl) (by kernel_rfl) ?_
   repeat (go_big_quiet_step (fail))
   refine wpQuiet_nil ?_
   intro _ hw'
   obtain ⟨⟨dq,osq⟩,hw''⟩:=hw'
   subst hw''
   have HB3:=hdn (below_regrown w dq osq)
   generalize grow (redrawn w dq) osq=w3 at HB3 ⊢
   go_wp2_with fail
   go_ret
   exact ⟨rfl,HB3.out⟩
theorem pathS_any (x y:Pth) (b1 q1 b2 q2:Nat) (w:World) (hx:w.rangeAt b1 q1 (Pth.cells x)) (hy:w.rangeAt b2 q2 (Pth.cells y)) (rx:pthLies w x) (ry:pthLies w y):
  Calls Tryz.prog 179 #[.pointer (some ⟨b1,q1,none⟩),.pointer (some ⟨b2,q2,none⟩)] w fun en w'=>en= .returned (.bool (samePth x y))∧Below w.heap.size w w':=by
 have cx0:=cell_at hx 0 _ rfl
 have cy0:=cell_at hy 0 _ rfl
 rw[Nat.add_zero] at cx0 cy0
 have kx0:=cell_regrown cx0
 have ky0:=cell_regrown cy0
 have C1: ∀w',Below w.heap.size w w'→Calls Tryz.prog 185 #[.slice x.hops.p x.hops.l.length x.hops.cap,.slice y.hops.p y.hops.l.length y.hops.cap,.func (.func 186) #[] #[]] w' fun en w''=>en= .returned (.bool (sameL sameHp x.hops.l y.hops.l))∧Below w'.heap.size w' w'':=fun w' hb=>
  allHp _ _ _ _ _ _ w' (Lay.of_sl (pthLies_below rx hb) (by decide)) (Lay.of_sl (pthLies_below ry hb) (by decide)) (fun a _ b _=>okHp a b)
 have cx1:=cell_at hx 2 _ rfl
 have cy1:=cell_at hy 2 _ rfl
 have kx1:=cell_regrown cx1
 have ky1:=cell_regrown cy1
 show Calls _ _ _ _ (fun en w'=>en= .returned (.bool ((x.name.toList==y.name.toList) && (sameL sameHp x.hops.l y.hops.l)))∧Below w.heap.size w w')
 generalize e0:(x.name.toList==y.name.toList)=v0
 generalize sameL sameHp x.hops.l y.hops.l=v1 at C1 ⊢
 clear hx hy rx ry
 have cC1: ∀dd os,Calls Tryz.prog 185 #[.slice x.hops.p x.hops.l.length x.hops.cap,.slice y.hops.p y.hops.l.length y.hops.cap,.func (.func 186) #[] #[]] (grow (redrawn w dd) os) fun en w''=>en= .returned (.bool v1)∧∃p:Regrown,w''=grow (redrawn w p.d) p.os:=fun dd os=>Calls.regrown_of (C1 _ (below_regrown _ _ _))
 clear C1
 cases v0
 ·go_enter Tryz.func179,Tryz.ntmps179
  go_wp2_with fail
  refine wp_region_quiet_below (by kernel_rfl) (by kernel_rfl) ?_
  repeat (go_big_quiet_step (first |(with_reducible exact cC1 _ _)))
  refine wpQuiet_nil ?_
  intro _ hw'
  obtain ⟨⟨dq,osq⟩,hw''⟩:=hw'
  subst hw''
  have HB3:=hdn (below_regrown w dq osq)
  generalize grow (redrawn w dq) osq=w3 at HB3 ⊢
  go_wp2_with fail
  go_ret
  exact ⟨rfl,HB3.out⟩
 ·cases v1
  ·go_enter Tryz.func179,Tryz.ntmps179
   go_wp2_with fail
   refine wp_region_quiet_below (by kernel_rfl) (by kernel_rfl) ?_
   repeat (go_big_quiet_step (first |(with_reducible exact cC1 _ _)))
   refine wpQuiet_nil ?_
   intro _ hw'
   obtain ⟨⟨dq,osq⟩,hw''⟩:=hw'
   subst hw''
   have HB3:=hdn (below_regrown w dq osq)
   generalize grow (redrawn w dq) osq=w3 at HB3 ⊢
   go_wp2_with fail
   go_ret
   exact ⟨rfl,HB3.out⟩
  ·go_enter Tryz.func179,Tryz.ntmps179
   go_wp2_with fail
   refine wp_region_quiet_below (by kernel_rfl) (by kernel_rfl) ?_
   repeat (go_big_quiet_step (first |(with_reducible exact cC1 _ _)))
   refine wpQuiet_nil ?_
   intro _ hw'
   obtain ⟨⟨dq,osq⟩,hw''⟩:=hw'
   subst hw''
   have HB3:=hdn (below_regrown w dq osq)
   generalize grow (redrawn w dq) osq=w3 at HB3 ⊢
   go_wp2_with fail
   go_ret
   exact ⟨rfl,HB3.out⟩
theorem valueS_any (x y:Vl) (b1 q1 b2 q2:Nat) (w:World) (hx:w.rangeAt b1 q1 (Vl.cells x)) (hy:w.rangeAt b2 q2 (Vl.cells y)) (rx:vlLies w x) (ry:vlLies w y):
  Calls Tryz.prog 180 #[.pointer (some ⟨b1,q1,none⟩),.pointer (some ⟨b2,q2,none⟩)] w fun en w'=>en= .returned (.bool (sameVl x y))∧Below w.heap.size w w':=by
 have cx0:=cell_at hx 0 _ rfl
 have cy0:=cell_at hy 0 _ rfl
 rw[Nat.add_zero] at cx0 cy0
 have kx0:=cell_regrown cx0
 have ky0:=cell_regrown cy0
 have cx1:=cell_at hx 5 _ rfl
 have cy1:=cell_at hy 5 _ rfl
 have kx1:=cell_regrown cx1
 have ky1:=cell_regrown cy1
 have C2: ∀w',Below w.heap.size w w'→Calls Tryz.prog 179 #[.pointer (some ⟨b1,q1+2,none⟩),.pointer (some ⟨b2,q2+2,none⟩)] w' fun en w''=>en= .returned (.bool (samePth x.path y.path))∧Below w'.heap.size w' w'':=fun w' hb=>
  pathS_any _ _ _ _ _ _ w' (rangeAt_below (rangeAt_sub hx 2 3 rfl) hb) (rangeAt_below (rangeAt_sub hy 2 3 rfl) hb) (pthLies_of (vlLies_below rx hb)) (pthLies_of (vlLies_below ry hb))
 have C3: ∀w',Below w.heap.size w w'→Calls Tryz.prog 187 #[.pointer (some ⟨b1,q1+6,none⟩),.pointer (some ⟨b2,q2+6,none⟩)] w' fun en w''=>en= .returned (.bool (sameTm x.left y.left))∧Below w'.heap.size w' w'':=fun w' hb=>
  termS_any _ _ _ _ _ _ w' (rangeAt_below (rangeAt_sub hx 6 3 rfl) hb) (rangeAt_below (rangeAt_sub hy 6 3 rfl) hb) trivial trivial
 have C4: ∀w',Below w.heap.size w w'→Calls Tryz.prog 187 #[.pointer (some ⟨b1,q1+9,none⟩),.pointer (some ⟨b2,q2+9,none⟩)] w' fun en w''=>en= .returned (.bool (sameTm x.right y.right))∧Below w'.heap.size w' w'':=fun w' hb=>
  termS_any _ _ _ _ _ _ w' (rangeAt_below (rangeAt_sub hx 9 3 rfl) hb) (rangeAt_below (rangeAt_sub hy 9 3 rfl) hb) trivial trivial
 show Calls _ _ _ _ (fun en w'=>en= .returned (.bool ((x.kind==y.kind) && ((x.type.toList==y.type.toList) && (samePth x.path y.path && (sameTm x.left y.left && (sameTm x.right y.right))))))∧Below w.heap.size w w')
 generalize e0:(x.kind==y.kind)=v0
 generalize e1:(x.type.toList==y.type.toList)=v1
 generalize samePth x.path y.path=v2 at C2 ⊢
 generalize sameTm x.left y.left=v3 at C3 ⊢
 generalize sameTm x.right y.right=v4 at C4 ⊢
 clear hx hy rx ry
 have cC2: ∀dd os,Calls Tryz.prog 179 #[.pointer (some ⟨b1,q1+2,none⟩),.pointer (some ⟨b2,q2+2,none⟩)] (grow (redrawn w dd) os) fun en w''=>en= .returned (.bool v2)∧∃p:Regrown,w''=grow (redrawn w p.d) p.os:=fun dd os=>Calls.regrown_of (C2 _ (below_regrown _ _ _))
 clear C2
 have cC3: ∀dd os,Calls Tryz.prog 187 #[.pointer (some ⟨b1,q1+6,none⟩),.pointer (some ⟨b2,q2+6,none⟩)] (grow (redrawn w dd) os) fun en w''=>en= .returned (.bool v3)∧∃p:Regrown,w''=grow (redrawn w p.d) p.os:=fun dd os=>Calls.regrown_of (C3 _ (below_regrown _ _ _))
 clear C3
 have cC4: ∀dd os,Calls Tryz.prog 187 #[.pointer (some ⟨b1,q1+9,none⟩),.pointer (some ⟨b2,q2+9,none⟩)] (grow (redrawn w dd) os) fun en w''=>en= .returned (.bool v4)∧∃p:Regrown,w''=grow (redrawn w p.d) p.os:=fun dd os=>Calls.regrown_of (C4 _ (below_regrown _ _ _))
 clear C4
 cases v0
 ·go_enter Tryz.func180,Tryz.ntmps180
  go_wp2_with fail
  refine wp_region_quiet_below (by kernel_rfl) (by kernel_rfl) ?_
  repeat (go_big_quiet_step (first |(with_reducible exact cC2 _ _)|(with_reducible exact cC3 _ _)|(with_reducible exact cC4 _ _)))
  refine wpQuiet_nil ?_
  intro _ hw'
  obtain ⟨⟨dq,osq⟩,hw''⟩:=hw'
  subst hw''
  have HB3:=hdn (below_regrown w dq osq)
  generalize grow (redrawn w dq) osq=w3 at HB3 ⊢
  go_wp2_with fail
  go_ret
  exact ⟨rfl,HB3.out⟩
 ·cases v1
  ·go_enter Tryz.func180,Tryz.ntmps180
   go_wp2_with fail
   refine wp_region_quiet_below (by kernel_rfl) (by kernel_rfl) ?_
   repeat (go_big_quiet_step (first |(with_reducible exact cC2 _ _)|(with_reducible exact cC3 _ _)|(with_reducible exact cC4 _ _)))
   refine wpQuiet_nil ?_
   intro _ hw'
   obtain ⟨⟨dq,osq⟩,hw''⟩:=hw'
   subst hw''
   have HB3:=hdn (below_regrown w dq osq)
   generalize grow (redrawn w dq) osq=w3 at HB3 ⊢
   go_wp2_with fail
   go_ret
   exact ⟨rfl,HB3.out⟩
  ·cases v2
   ·go_enter Tryz.func180,Tryz.ntmps180
    go_wp2_with fail
    refine wp_region_quiet_below (by kernel_rfl) (by kernel_rfl) ?_
    repeat (go_big_quiet_step (first |(with_reducible exact cC2 _ _)|(with_reducible exact cC3 _ _)|(with_reducible exact cC4 _ _)))
    refine wpQuiet_nil ?_
    intro _ hw'
    obtain ⟨⟨dq,osq⟩,hw''⟩:=hw'
    subst hw''
    have HB3:=hdn (below_regrown w dq osq)
    generalize grow (redrawn w dq) osq=w3 at HB3 ⊢
    go_wp2_with fail
    go_ret
    exact ⟨rfl,HB3.out⟩
   ·cases v3
    ·go_enter Tryz.func180,Tryz.ntmps180
     go_wp2_with fail
     refine wp_region_quiet_below (by kernel_rfl) (by kernel_rfl) ?_
     repeat (go_big_quiet_step (first |(with_reducible exact cC2 _ _)|(with_reducible exact cC3 _ _)|(with_reducible exact cC4 _ _)))
     refine wpQuiet_nil ?_
     intro _ hw'
     obtain ⟨⟨dq,osq⟩,hw''⟩:=hw'
     subst hw''
     have HB3:=hdn (below_regrown w dq osq)
     generalize grow (redrawn w dq) osq=w3 at HB3 ⊢
     go_wp2_with fail
     go_ret
     exact ⟨rfl,HB3.out⟩
    ·cases v4
     ·go_enter Tryz.func180,Tryz.ntmps180
      go_wp2_with fail
      refine wp_region_quiet_below (by kernel_rfl) (by kernel_rfl) ?_
      repeat (go_big_quiet_step (first |(with_reducible exact cC2 _ _)|(with_reducible exact cC3 _ _)|(with_reducible exact cC4 _ _)))
      refine wpQuiet_nil ?_
      intro _ hw'
      obtain ⟨⟨dq,osq⟩,hw''⟩:=hw'
      subst hw''
      have HB3:=hdn (below_regrown w dq osq)
      generalize grow (redrawn w dq) osq=w3 at HB3 ⊢
      go_wp2_with fail
      go_ret
      exact ⟨rfl,HB3.out⟩
     ·go_enter Tryz.func180,Tryz.ntmps180
      go_wp2_with fail
      refine wp_region_quiet_below (by kernel_rfl) (by kernel_rfl) ?_
      repeat (go_big_quiet_step (first |(with_reducible exact cC2 _ _)|(with_reducible exact cC3 _ _)|(with_reducible exact cC4 _ _)))
      refine wpQuiet_nil ?_
      intro _ hw'
      obtain ⟨⟨dq,osq⟩,hw''⟩:=hw'
      subst hw''
      have HB3:=hdn (below_regrown w dq osq)
      generalize grow (redrawn w dq) osq=w3 at HB3 ⊢
      go_wp2_with fail
      go_ret
      exact ⟨rfl,HB3.out⟩
def cdLies (w:World) (x:Cd):Prop:=vlLies w x.left∧vlLies w x.right
theorem condS_any (x y:Cd) (b1 q1 b2 q2:Nat) (w:World) (hx:w.rangeAt b1 q1 (Cd.cells x)) (hy:w.rangeAt b2 q2 (Cd.cells y)) (rx:cdLies w x) (ry:cdLies w y):
  Calls Tryz.prog 181 #[.pointer (some ⟨b1,q1,none⟩),.pointer (some ⟨b2,q2,none⟩)] w fun en w'=>en= .returned (.bool (sameCd x y))∧Below w.heap.size w w':=by
 have cx0:=cell_at hx 0 _ rfl
 have cy0:=cell_at hy 0 _ rfl
 rw[Nat.add_zero] at cx0 cy0
 have kx0:=cell_regrown cx0
 have ky0:=cell_regrown cy0
 have C1: ∀w',Below w.heap.size w w'→Calls Tryz.prog 180 #[.pointer (some ⟨b1,q1+2,none⟩),.pointer (some ⟨b2,q2+2,none⟩)] w' fun en w''=>en= .returned (.bool (sameVl x.left y.left))∧Below w'.heap.size w' w'':=fun w' hb=>
  valueS_any _ _ _ _ _ _ w' (rangeAt_below (rangeAt_sub hx 2 12 rfl) hb) (rangeAt_below (rangeAt_sub hy 2 12 rfl) hb) (vlLies_below rx.1 hb) (vlLies_below ry.1 hb)
 have C2: ∀w',Below w.heap.size w w'→Calls Tryz.prog 180 #[.pointer (some ⟨b1,q1+14,none⟩),.pointer (some ⟨b2,q2+14,none⟩)] w' fun en w''=>en= .returned (.bool (sameVl x.right y.right))∧Below w'.heap.size w' w'':=fun w' hb=>
  valueS_any _ _ _ _ _ _ w' (rangeAt_below (rangeAt_sub hx 14 12 rfl) hb) (rangeAt_below (rangeAt_sub hy 14 12 rfl) hb) (vlLies_below rx.2 hb) (vlLies_below ry.2 hb)
 show Calls _ _ _ _ (fun en w'=>en= .returned (.bool ((x.kind==y.kind) && (sameVl x.left y.left && (sameVl x.right y.right))))∧Below w.heap.size w w')
 generalize e0:(x.kind==y.kind)=v0
 generalize sameVl x.left y.left=v1 at C1 ⊢
 generalize sameVl x.right y.right=v2 at C2 ⊢
 clear hx hy rx ry
 have cC1: ∀dd os,Calls Tryz.prog 180 #[.pointer (some ⟨b1,q1+2,none⟩),.pointer (some ⟨b2,q2+2,none⟩)] (grow (redrawn w dd) os) fun en w''=>en= .returned (.bool v1)∧∃p:Regrown,w''=grow (redrawn w p.d) p.os:=fun dd os=>Calls.regrown_of (C1 _ (below_regrown _ _ _))
 clear C1
 have cC2: ∀dd os,Calls Tryz.prog 180 #[.pointer (some ⟨b1,q1+14,none⟩),.pointer (some ⟨b2,q2+14,none⟩)] (grow (redrawn w dd) os) fun en w''=>en= .returned (.bool v2)∧∃p:Regrown,w''=grow (redrawn w p.d) p.os:=fun dd os=>Calls.regrown_of (C2 _ (below_regrown _ _ _))
 clear C2
 cases v0
 ·go_enter Tryz.func181,Tryz.ntmps181
  go_wp2_with fail
  refine wp_region_quiet_below (by kernel_rfl) (by kernel_rfl) ?_
  repeat (go_big_quiet_step (first |(with_reducible exact cC1 _ _)|(with_reducible exact cC2 _ _)))
  refine wpQuiet_nil ?_
  intro _ hw'
  obtain ⟨⟨dq,osq⟩,hw''⟩:=hw'
  subst hw''
  have HB3:=hdn (below_regrown w dq osq)
  generalize grow (redrawn w dq) osq=w3 at HB3 ⊢
  go_wp2_with fail
  go_ret
  exact ⟨rfl,HB3.out⟩
 ·cases v1
  ·go_enter Tryz.func181,Tryz.ntmps181
   go_wp2_with fail
   refine wp_region_quiet_below (by kernel_rfl) (by kernel_rfl) ?_
   repeat (go_big_quiet_step (first |(with_reducible exact cC1 _ _)|(with_reducible exact cC2 _ _)))
   refine wpQuiet_nil ?_
   intro _ hw'
   obtain ⟨⟨dq,osq⟩,hw''⟩:=hw'
   subst hw''
   have HB3:=hdn (below_regrown w dq osq)
   generalize grow (redrawn w dq) osq=w3 at HB3 ⊢
   go_wp2_with fail
   go_ret
   exact ⟨rfl,HB3.out⟩
  ·cases v2
   ·go_enter Tryz.func181,Tryz.ntmps181
    go_wp2_with fail
    refine wp_region_quiet_below (by kernel_rfl) (by kernel_rfl) ?_
    repeat (go_big_quiet_step (first |(with_reducible exact cC1 _ _)|(with_reducible exact cC2 _ _)))
    refine wpQuiet_nil ?_
    intro _ hw'
    obtain ⟨⟨dq,osq⟩,hw''⟩:=hw'
    subst hw''
    have HB3:=hdn (below_regrown w dq osq)
    generalize grow (redrawn w dq) osq=w3 at HB3 ⊢
    go_wp2_with fail
    go_ret
    exact ⟨rfl,HB3.out⟩
   ·go_enter Tryz.func181,Tryz.ntmps181
    go_wp2_with fail
    refine wp_region_quiet_below (by kernel_rfl) (by kernel_rfl) ?_
    repeat (go_big_quiet_step (first |(with_reducible exact cC1 _ _)|(with_reducible exact cC2 _ _)))
    refine wpQuiet_nil ?_
    intro _ hw'
    obtain ⟨⟨dq,osq⟩,hw''⟩:=hw'
    subst hw''
    have HB3:=hdn (below_regrown w dq osq)
    generalize grow (redrawn w dq) osq=w3 at HB3 ⊢
    go_wp2_with fail
    go_ret
    exact ⟨rfl,HB3.out⟩
end Go.Proofs.YtcehbcnloiooaaaGreatDoor
namespace Go.Proofs.YtcehbcnloiooaaaGreatDoor
open Go.RowKit Go.Sort
theorem enters83: ∀args w,(callFunc 189 args).run Tryz.prog w= .ok (.enter 189 args) w:=enters Tryz.func189 (by kernel_rfl) rfl
def OkVl (x y:Vl):Prop:= ∀(b1 q1 b2 q2:Nat) (w:World),w.rangeAt b1 q1 (Vl.cells x)→w.rangeAt b2 q2 (Vl.cells y)→vlLies w x→vlLies w y→
 Calls Tryz.prog 180 #[.pointer (some ⟨b1,q1,none⟩),.pointer (some ⟨b2,q2,none⟩)] w fun en w'=>en= .returned (.bool (sameVl x y))∧Below w.heap.size w w'
theorem cloFVl (i:Int) (b1 q1 bs bb:Nat) (w:World):
  Calls Tryz.prog 189 #[.bool false,.int .i64 i,.pointer (some ⟨b1,q1,none⟩),.pointer (some ⟨bs,0,none⟩),.pointer (some ⟨bb,0,none⟩)] w fun en w'=>en= .returned (.bool false)∧Below w.heap.size w w':=by
 go_enter Tryz.func189,Tryz.ntmps189
 go_wp2_with fail
 go_quiet (fail)
 go_wp2_with fail
 go_ret
 exact ⟨rfl,below_drewN_ (Below.refl _ _) _⟩
theorem cloTVl (v:Bool) (k n c b1 q1 b2 o2 bs bb:Nat) (w:World) (hk:k<n)
  (hs:w.cell? ⟨bs,0,none⟩=some (.func (.func 180) #[] #[])) (hb:w.cell? ⟨bb,0,none⟩=some (.slice (some ⟨b2,o2,none⟩) n c))
  (hS: ∀w',Below w.heap.size w w'→Calls Tryz.prog 180 #[.pointer (some ⟨b1,q1,none⟩),.pointer (some ⟨b2,o2+k*12,none⟩)] w' fun en w''=>en= .returned (.bool v)∧Below w'.heap.size w' w''):
  Calls Tryz.prog 189 #[.bool true,.int .i64 k,.pointer (some ⟨b1,q1,none⟩),.pointer (some ⟨bs,0,none⟩),.pointer (some ⟨bb,0,none⟩)] w fun en w'=>en= .returned (.bool v)∧Below w.heap.size w w':=by
 have cS: ∀dd os,Calls Tryz.prog 180 #[.pointer (some ⟨b1,q1,none⟩),.pointer (some ⟨b2,o2+k*12,none⟩)] (grow (redrawn w dd) os) fun en w''=>en= .returned (.bool v)∧∃p:Regrown,w''=grow (redrawn w p.d) p.os:=
  fun dd os=>Calls.regrown_of (hS _ (below_regrown _ _ _))
 have ks:=cell_regrown hs
 have kb:=cell_regrown hb
 have hk0:(0:Int)≤(k:Int):=Int.natCast_nonneg _
 have hk1:(k:Int)<(n:Int):=by omega
 clear hS hs hb
 go_enter Tryz.func189,Tryz.ntmps189
 go_wp2_with fail
 refine wp_region_quiet_below (by kernel_rfl) (by kernel_rfl) ?_
 repeat (go_big_quiet_step (with_reducible exact cS _ _))
 refine wpQuiet_nil ?_
 intro _ hw'
 obtain ⟨⟨dq,osq⟩,hw''⟩:=hw'
 subst hw''
 have HB3:=hdn (below_regrown w dq osq)
 generalize grow (redrawn w dq) osq=w3 at HB3 ⊢
 go_wp2_with fail
 go_ret
 exact ⟨rfl,HB3.out⟩
theorem foldVl (l m:List Vl) (p1 p2:Option Addr) (c1 c2 bs bb:Nat) (w:World) (h1:Lay 12 Vl.cells vlLies w p1 l) (h2:Lay 12 Vl.cells vlLies w p2 m)
  (hs:w.cell? ⟨bs,0,none⟩=some (.func (.func 180) #[] #[])) (hb:w.cell? ⟨bb,0,none⟩=some (.slice p2 m.length c2)) (hS: ∀x∈l,∀y∈m,OkVl x y):
  Calls Tryz.prog 188 #[.slice p1 l.length c1,.bool ((l.length:Int)==(m.length:Int)),.func (.func 189) #[] #[.pointer (some ⟨bs,0,none⟩),.pointer (some ⟨bb,0,none⟩)]] w fun en w'=>en= .returned (.bool (sameL sameVl l m))∧Below w.heap.size w w':=by
 obtain ⟨hl1,h1⟩:=h1
 obtain ⟨_,h2⟩:=h2
 have H1:=hdn h1
 have H2:=hdn h2
 have HS:=hdn hS
 have HBS:=hdn hs
 have HBB:=hdn hb
 clear h1 h2 hS hs hb
 by_cases he:l.length=m.length
 ·have heq:((l.length:Int)==(m.length:Int))=true:=by rw[he];simp
  rw[heq]
  have HE:=hdn he
  clear he heq
  go_enter Tryz.func188,Tryz.ntmps188
  go_wp2_with fail
  go_loopw [1,10] (fun v i wr=> ∃k:Nat,i= .int .i64 k∧k≤l.length∧v= .bool (sameL sameVl (l.take k) (m.take k))∧Hid (Below w.heap.size w wr)) (fun _ i _=>l.length-(intOf i).toNat)
  case atStart=>exact ⟨0,rfl,Nat.zero_le _,rfl,hdn (Below.refl _ _)⟩
  case round=>
   obtain ⟨k,rfl,hk,rfl,HB⟩:=hrel
   by_cases hkl:k<l.length
   ·have hkm:k<m.length:=by have:=HE.out;omega
    obtain ⟨b1,o1,rfl,hx⟩: ∃b o,p1=some ⟨b,o,none⟩∧∀k x,l[k]? =some x→w.rangeAt b (o+k*12) (Vl.cells x)∧vlLies w x:=by
     rcases H1.out with h |h
     ·rw[h] at hkl;simp at hkl
     ·exact h
    obtain ⟨b2,o2,rfl,hy⟩: ∃b o,p2=some ⟨b,o,none⟩∧∀k x,m[k]? =some x→w.rangeAt b (o+k*12) (Vl.cells x)∧vlLies w x:=by
     rcases H2.out with h |h
     ·rw[h] at hkm;simp at hkm
     ·exact h
    have hx1:=hx k l[k] (List.getElem?_eq_getElem hkl)
    have hy1:=hy k m[k] (List.getElem?_eq_getElem hkm)
    have hSS: ∀w',Below wr.heap.size wr w'→Calls Tryz.prog 180 #[.pointer (some ⟨b1,o1+k*12,none⟩),.pointer (some ⟨b2,o2+k*12,none⟩)] w' fun en w''=>en= .returned (.bool (sameVl l[k] m[k]))∧Below w'.heap.size w' w'':=fun w' hb'=>
     have hb2:=HB.out.trans (hb'.mono HB.out.size)
     HS.out l[k] (List.getElem_mem _) m[k] (List.getElem_mem _) _ _ _ _ w' (rangeAt_below hx1.1 hb2) (rangeAt_below hy1.1 hb2) (vlLies_below hx1.2 hb2) (vlLies_below hy1.2 hb2)
    have hst:=sameL_step (f:=sameVl) k hkl hkm
    generalize sameVl l[k] m[k]=vb at hSS hst
    have HSS:=hdn hSS
    have HST:=hdn hst
    have HCT:Hid (Calls Tryz.prog 189 #[.bool true,.int .i64 k,.pointer (some ⟨b1,o1+k*12,none⟩),.pointer (some ⟨bs,0,none⟩),.pointer (some ⟨bb,0,none⟩)] wr fun en w'=>en= .returned (.bool vb)∧Below wr.heap.size wr w'):=
     hdn (cloTVl vb k m.length c2 b1 (o1+k*12) b2 o2 bs bb wr hkm ((HB.out.cell (p:=⟨bs,0,none⟩) (World.block_lt_of_cell? w _ HBS.out)).trans HBS.out) ((HB.out.cell (p:=⟨bb,0,none⟩) (World.block_lt_of_cell? w _ HBB.out)).trans HBB.out) HSS.out)
    have hcl:=enters83
    clear hx hy hx1 hy1 hSS hst
    generalize sameL sameVl (l.take k) (m.take k)=sb at HST ⊢
    cases sb
    ·go_wp2_with fail
     refine (cloFVl _ _ _ _ _ _).mono ?_;rintro en w2 ⟨rfl,hb2⟩
     have HB2:Hid (Below w.heap.size w w2):=hdn (HB.out.trans (hb2.mono HB.out.size))
     clear hb2
     go_wp2_with fail
     go_roundw
     case rel=>exact ⟨k+1,by go_num,by omega,by rw[HST.out];rfl,HB2⟩
     case measure=>simp[intOf];omega
    ·go_wp2_with fail
     refine (HCT.out).mono ?_;rintro en w2 ⟨rfl,hb2⟩
     have HB2:Hid (Below w.heap.size w w2):=hdn (HB.out.trans (hb2.mono HB.out.size))
     clear hb2
     go_wp2_with fail
     go_roundw
     case rel=>exact ⟨k+1,by go_num,by omega,by rw[HST.out];rfl,HB2⟩
     case measure=>simp[intOf];omega
   ·have h1:l.take k=l:=List.take_of_length_le (by omega)
    have h2:m.take k=m:=List.take_of_length_le (by have:=HE.out;omega)
    rw[h1,h2]
    clear h1 h2
    go_wp2_with fail
    go_ret
    exact ⟨rfl,HB.out⟩
 ·have heq:((l.length:Int)==(m.length:Int))=false:=by
   rw[Bool.eq_false_iff];intro e;rw[beq_iff_eq] at e;exact he (by omega)
  rw[heq,sameL_len he]
  clear he heq
  go_enter Tryz.func188,Tryz.ntmps188
  go_wp2_with fail
  go_loopw [1,10] (fun v i wr=> ∃k:Nat,i= .int .i64 k∧k≤l.length∧v= .bool false∧Hid (Below w.heap.size w wr)) (fun _ i _=>l.length-(intOf i).toNat)
  case atStart=>exact ⟨0,rfl,Nat.zero_le _,rfl,hdn (Below.refl _ _)⟩
  case round=>
   obtain ⟨k,rfl,hk,rfl,HB⟩:=hrel
   by_cases hkl:k<l.length
   ·obtain ⟨b1,o1,rfl,hx⟩: ∃b o,p1=some ⟨b,o,none⟩∧∀k x,l[k]? =some x→w.rangeAt b (o+k*12) (Vl.cells x)∧vlLies w x:=by
     rcases H1.out with h |h
     ·rw[h] at hkl;simp at hkl
     ·exact h
    have hcl:=enters83
    clear hx
    go_wp2_with fail
    refine (cloFVl _ _ _ _ _ _).mono ?_;rintro en w2 ⟨rfl,hb2⟩
    have HB2:Hid (Below w.heap.size w w2):=hdn (HB.out.trans (hb2.mono HB.out.size))
    clear hb2
    go_wp2_with fail
    go_roundw
    case rel=>exact ⟨k+1,by go_num,by omega,rfl,HB2⟩
    case measure=>simp[intOf];omega
   ·go_wp2_with fail
    go_ret
    exact ⟨rfl,HB.out⟩
theorem allVl (l m:List Vl) (p1 p2:Option Addr) (c1 c2:Nat) (w:World) (h1:Lay 12 Vl.cells vlLies w p1 l) (h2:Lay 12 Vl.cells vlLies w p2 m) (hS: ∀x∈l,∀y∈m,OkVl x y):
  Calls Tryz.prog 182 #[.slice p1 l.length c1,.slice p2 m.length c2,.func (.func 180) #[] #[]] w fun en w'=>en= .returned (.bool (sameL sameVl l m))∧Below w.heap.size w w':=by
 have ha:Below w.heap.size w ((w.alloc (.cells #[.slice p2 m.length c2] 61)).alloc (.cells #[.func (.func 180) #[] #[]] 246)):=((Below.refl _ _).alloc (Nat.le_refl _) _).alloc (by simp) _
 have HF:=hdn (foldVl l m p1 p2 c1 c2 (w.heap.size+1) w.heap.size ((w.alloc (.cells #[.slice p2 m.length c2] 61)).alloc (.cells #[.func (.func 180) #[] #[]] 246)) (h1.below ha (fun _ h=>vlLies_below h ha)) (h2.below ha (fun _ h=>vlLies_below h ha))
  (cell_of_row _ _ 0 _ _ _ (heap_alloc2_new w _ _)) (cell_of_row _ _ 0 _ _ _ (heap_alloc2_old w _ _)) hS)
 have HA:=hdn ha
 have hl1:=h1.1
 have hl2:=h2.1
 clear ha h1 h2 hS
 go_enter Tryz.func182,Tryz.ntmps182
 go_wp2_with fail
 refine (HF.out).mono ?_;rintro en w2 ⟨rfl,hb2⟩
 have HB2:Hid (Below w.heap.size w w2):=hdn (HA.out.trans (hb2.mono HA.out.size))
 clear hb2
 go_wp2_with fail
 go_ret
 exact ⟨rfl,HB2.out⟩
theorem okVl (x y:Vl):OkVl x y:=fun b1 q1 b2 q2 w hx hy rx ry=>valueS_any x y b1 q1 b2 q2 w hx hy rx ry
end Go.Proofs.YtcehbcnloiooaaaGreatDoor
