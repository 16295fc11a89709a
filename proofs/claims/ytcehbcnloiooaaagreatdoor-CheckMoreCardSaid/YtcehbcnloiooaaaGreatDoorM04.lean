/-
  The walks of 'are they the same': statements. Plain: a text's bytes, runs of them, blanks and remarks, and the sign at a place. The walks of the small functions: letters, digits, a text's beginning, a byte's place. The walks of the loops over a text: a word's end, digits' end, what digits say. What 
-/
import Derived.Test.YtcehbcnloiooaaaGreatDoorM03
import Derived.Lib.Bytealg
import Derived.Test.YtcehbcnloiooaaaGreatDoorRows
import Derived.Lib.Strings
import Derived.Lib.Slices
import Derived.Lib.Walk
import Derived.WalkKit
import Derived.WalkSpells
import Derived.WalkLawsBesides
import Derived.Deep.QuietTactic
import Derived.BigQuiet
import Derived.Lib.Hide
set_option maxHeartbeats 6400000
set_option maxRecDepth 100000
namespace Go.Proofs.YtcehbcnloiooaaaGreatDoor
open Go.RowKit Go.Sort
theorem enters59: ∀args w,(callFunc 178 args).run Tryz.prog w= .ok (.enter 178 args) w:=enters Tryz.func178 (by kernel_rfl) rfl
def OkIt (x y:It):Prop:= ∀(b1 q1 b2 q2:Nat) (w:World),w.rangeAt b1 q1 (It.cells x)→w.rangeAt b2 q2 (It.cells y)→itLies w x→itLies w y→
 Calls Tryz.prog 168 #[.pointer (some ⟨b1,q1,none⟩),.pointer (some ⟨b2,q2,none⟩)] w fun en w'=>en= .returned (.bool (sameIt x y))∧Below w.heap.size w w'
theorem cloFIt (i:Int) (b1 q1 bs bb:Nat) (w:World):
  Calls Tryz.prog 178 #[.bool false,.int .i64 i,.pointer (some ⟨b1,q1,none⟩),.pointer (some ⟨bs,0,none⟩),.pointer (some ⟨bb,0,none⟩)] w fun en w'=>en= .returned (.bool false)∧Below w.heap.size w w':=by
 go_enter Tryz.func178,Tryz.ntmps178
 go_wp2_with fail
 go_quiet (fail)
 go_wp2_with fail
 go_ret
 exact ⟨rfl,below_drewN_ (Below.refl _ _) _⟩
theorem cloTIt (v:Bool) (k n c b1 q1 b2 o2 bs bb:Nat) (w:World) (hk:k<n)
  (hs:w.cell? ⟨bs,0,none⟩=some (.func (.func 168) #[] #[])) (hb:w.cell? ⟨bb,0,none⟩=some (.slice (some ⟨b2,o2,none⟩) n c))
  (hS: ∀w',Below w.heap.size w w'→Calls Tryz.prog 168 #[.pointer (some ⟨b1,q1,none⟩),.pointer (some ⟨b2,o2+k*48,none⟩)] w' fun en w''=>en= .returned (.bool v)∧Below w'.heap.size w' w''):
  Calls Tryz.prog 178 #[.bool true,.int .i64 k,.pointer (some ⟨b1,q1,none⟩),.pointer (some ⟨bs,0,none⟩),.pointer (some ⟨bb,0,none⟩)] w fun en w'=>en= .returned (.bool v)∧Below w.heap.size w w':=by
 have cS: ∀dd os,Calls Tryz.prog 168 #[.pointer (some ⟨b1,q1,none⟩),.pointer (some ⟨b2,o2+k*48,none⟩)] (grow (redrawn w dd) os) fun en w''=>en= .returned (.bool v)∧∃p:Regrown,w''=grow (redrawn w p.d) p.os:=
  fun dd os=>Calls.regrown_of (hS _ (below_regrown _ _ _))
 have ks:=cell_regrown hs
 have kb:=cell_regrown hb
 have hk0:(0:Int)≤(k:Int):=Int.natCast_nonneg _
 have hk1:(k:Int)<(n:Int):=by omega
 clear hS hs hb
 go_enter Tryz.func178,Tryz.ntmps178
 go_wp2_with fail
 refine wp_region_quiet_below (by kernel_rfl) (by kernel_rfl) ?_
 repeat (go_big_quiet_step (with_reducible exact cS _ _))
 refine wpQuiet_nil ?_
 intro _ hw'
 obtain ⟨⟨dq,osq⟩,hw''⟩:=hw'
 subst hw''
 have HB3:=hdn (below_regrown w dq osq)
 generalize grow (redrawn w dq) osq=w3 at HB3 ⊢
 go_wp2_with fail
 go_ret
 exact ⟨rfl,HB3.out⟩
theorem foldIt (l m:List It) (p1 p2:Option Addr) (c1 c2 bs bb:Nat) (w:World) (h1:Lay 48 It.cells itLies w p1 l) (h2:Lay 48 It.cells itLies w p2 m)
  (hs:w.cell? ⟨bs,0,none⟩=some (.func (.func 168) #[] #[])) (hb:w.cell? ⟨bb,0,none⟩=some (.slice p2 m.length c2)) (hS: ∀x∈l,∀y∈m,OkIt x y):
  Calls Tryz.prog 177 #[.slice p1 l.length c1,.bool ((l.length:Int)==(m.length:Int)),.func (.func 178) #[] #[.pointer (some ⟨bs,0,none⟩),.pointer (some ⟨bb,0,none⟩)]] w fun en w'=>en= .returned (.bool (sameL sameIt l m))∧Below w.heap.size w w':=by
 obtain ⟨hl1,h1⟩:=h1
 obtain ⟨_,h2⟩:=h2
 have H1:=hdn h1
 have H2:=hdn h2
 have HS:=hdn hS
 have HBS:=hdn hs
 have HBB:=hdn hb
 clear h1 h2 hS hs hb
 by_cases he:l.length=m.length
 ·have heq:((l.length:Int)==(m.length:Int))=true:=by rw[he];simp
  rw[heq]
  have HE:=hdn he
  clear he heq
  go_enter Tryz.func177,Tryz.ntmps177
  go_wp2_with fail
  go_loopw [1,10] (fun v i wr=> ∃k:Nat,i= .int .i64 k∧k≤l.length∧v= .bool (sameL sameIt (l.take k) (m.take k))∧Hid (Below w.heap.size w wr)) (fun _ i _=>l.length-(intOf i).toNat)
  case atStart=>exact ⟨0,rfl,Nat.zero_le _,rfl,hdn (Below.refl _ _)⟩
  case round=>
   obtain ⟨k,rfl,hk,rfl,HB⟩:=hrel
   by_cases hkl:k<l.length
   ·have hkm:k<m.length:=by have:=HE.out;omega
    obtain ⟨b1,o1,rfl,hx⟩: ∃b o,p1=some ⟨b,o,none⟩∧∀k x,l[k]? =some x→w.rangeAt b (o+k*48) (It.cells x)∧itLies w x:=by
     rcases H1.out with h |h
     ·rw[h] at hkl;simp at hkl
     ·exact h
    obtain ⟨b2,o2,rfl,hy⟩: ∃b o,p2=some ⟨b,o,none⟩∧∀k x,m[k]? =some x→w.rangeAt b (o+k*48) (It.cells x)∧itLies w x:=by
     rcases H2.out with h |h
     ·rw[h] at hkm;simp at hkm
     ·exact h
    have hx1:=hx k l[k] (List.getElem?_eq_getElem hkl)
    have hy1:=hy k m[k] (List.getElem?_eq_getElem hkm)
    have hSS: ∀w',Below wr.heap.size wr w'→Calls Tryz.prog 168 #[.pointer (some ⟨b1,o1+k*48,none⟩),.pointer (some ⟨b2,o2+k*48,none⟩)] w' fun en w''=>en= .returned (.bool (sameIt l[k] m[k]))∧Below w'.heap.size w' w'':=fun w' hb'=>
     have hb2:=HB.out.trans (hb'.mono HB.out.size)
     HS.out l[k] (List.getElem_mem _) m[k] (List.getElem_mem _) _ _ _ _ w' (rangeAt_below hx1.1 hb2) (rangeAt_below hy1.1 hb2) (itLies_below hx1.2 hb2) (itLies_below hy1.2 hb2)
    have hst:=sameL_step (f:=sameIt) k hkl hkm
    generalize sameIt l[k] m[k]=vb at hSS hst
    have HSS:=hdn hSS
    have HST:=hdn hst
    have HCT:Hid (Calls Tryz.prog 178 #[.bool true,.int .i64 k,.pointer (some ⟨b1,o1+k*48,none⟩),.pointer (some ⟨bs,0,none⟩),.pointer (some ⟨bb,0,none⟩)] wr fun en w'=>en= .returned (.bool vb)∧Below wr.heap.size wr w'):=
     hdn (cloTIt vb k m.length c2 b1 (o1+k*48) b2 o2 bs bb wr hkm ((HB.out.cell (p:=⟨bs,0,none⟩) (World.block_lt_of_cell? w _ HBS.out)).trans HBS.out) ((HB.out.cell (p:=⟨bb,0,none⟩) (World.block_lt_of_cell? w _ HBB.out)).trans HBB.out) HSS.out)
    have hcl:=enters59
    clear hx hy hx1 hy1 hSS hst
    generalize sameL sameIt (l.take k) (m.take k)=sb at HST ⊢
    cases sb
    ·go_wp2_with fail
     refine (cloFIt _ _ _ _ _ _).mono ?_;rintro en w2 ⟨rfl,hb2⟩
     have HB2:Hid (Below w.heap.size w w2):=hdn (HB.out.trans (hb2.mono HB.out.size))
     clear hb2
     go_wp2_with fail
     go_roundw
     case rel=>exact ⟨k+1,by go_num,by omega,by rw[HST.out];rfl,HB2⟩
     case measure=>simp[intOf];omega
    ·go_wp2_with fail
     refine (HCT.out).mono ?_;rintro en w2 ⟨rfl,hb2⟩
     have HB2:Hid (Below w.heap.size w w2):=hdn (HB.out.trans (hb2.mono HB.out.size))
     clear hb2
     go_wp2_with fail
     go_roundw
     case rel=>exact ⟨k+1,by go_num,by omega,by rw[HST.out];rfl,HB2⟩
     case measure=>simp[intOf];omega
   ·have h1:l.take k=l:=List.take_of_length_le (by omega)
    have h2:m.take k=m:=List.take_of_length_le (by have:=HE.out;omega)
    rw[h1,h2]
    clear h1 h2
    go_wp2_with fail
    go_ret
    exact ⟨rfl,HB.out⟩
 ·have heq:((l.length:Int)==(m.length:Int))=false:=by
   rw[Bool.eq_false_iff];intro e;rw[beq_iff_eq] at e;exact he (by omega)
  rw[heq,sameL_len he]
  clear he heq
  go_enter Tryz.func177,Tryz.ntmps177
  go_wp2_with fail
  go_loopw [1,10] (fun v i wr=> ∃k:Nat,i= .int .i64 k∧k≤l.length∧v= .bool false∧Hid (Below w.heap.size w wr)) (fun _ i _=>l.length-(intOf i).toNat)
  case atStart=>exact ⟨0,rfl,Nat.zero_le _,rfl,hdn (Below.refl _ _)⟩
  case round=>
   obtain ⟨k,rfl,hk,rfl,HB⟩:=hrel
   by_cases hkl:k<l.length
   ·obtain ⟨b1,o1,rfl,hx⟩: ∃b o,p1=some ⟨b,o,none⟩∧∀k x,l[k]? =some x→w.rangeAt b (o+k*48) (It.cells x)∧itLies w x:=by
     rcases H1.out with h |h
     ·rw[h] at hkl;simp at hkl
     ·exact h
    have hcl:=enters59
    clear hx
    go_wp2_with fail
    refine (cloFIt _ _ _ _ _ _).mono ?_;rintro en w2 ⟨rfl,hb2⟩
    have HB2:Hid (Below w.heap.size w w2):=hdn (HB.out.trans (hb2.mono HB.out.size))
    clear hb2
    go_wp2_with fail
    go_roundw
    case rel=>exact ⟨k+1,by go_num,by omega,rfl,HB2⟩
    case measure=>simp[intOf];omega
   ·go_wp2_with fail
    go_ret
    exact ⟨rfl,HB.out⟩
theorem allIt (l m:List It) (p1 p2:Option Addr) (c1 c2:Nat) (w:World) (h1:Lay 48 It.cells itLies w p1 l) (h2:Lay 48 It.cells itLies w p2 m) (hS: ∀x∈l,∀y∈m,OkIt x y):
  Calls Tryz.prog 167 #[.slice p1 l.length c1,.slice p2 m.length c2,.func (.func 168) #[] #[]] w fun en w'=>en= .returned (.bool (sameL sameIt l m))∧Below w.heap.size w w':=by
 have ha:Below w.heap.size w ((w.alloc (.cells #[.slice p2 m.length c2] 35)).alloc (.cells #[.func (.func 168) #[] #[]] 236)):=((Below.refl _ _).alloc (Nat.le_refl _) _).alloc (by simp) _
 have HF:=hdn (foldIt l m p1 p2 c1 c2 (w.heap.size+1) w.heap.size ((w.alloc (.cells #[.slice p2 m.length c2] 35)).alloc (.cells #[.func (.func 168) #[] #[]] 236)) (h1.below ha (fun _ h=>itLies_below h ha)) (h2.below ha (fun _ h=>itLies_below h ha))
  (cell_of_row _ _ 0 _ _ _ (heap_alloc2_new w _ _)) (cell_of_row _ _ 0 _ _ _ (heap_alloc2_old w _ _)) hS)
 have HA:=hdn ha
 have hl1:=h1.1
 have hl2:=h2.1
 clear ha h1 h2 hS
 go_enter Tryz.func167,Tryz.ntmps167
 go_wp2_with fail
 refine (HF.out).mono ?_;rintro en w2 ⟨rfl,hb2⟩
 have HB2:Hid (Below w.heap.size w w2):=hdn (HA.out.trans (hb2.mono HA.out.size))
 clear hb2
 go_wp2_with fail
 go_ret
 exact ⟨rfl,HB2.out⟩
def okSL (l:SL):Prop:= ∀(m:SL) (p1:Option Addr) (c1:Nat) (p2:Option Addr) (c2:Nat) (w:World),sLies w p1 l→sLies w p2 m→
 Calls Tryz.prog 155 #[.slice p1 l.len c1,.slice p2 m.len c2] w fun en w'=>en= .returned (.bool (sameSL l m))∧Below w.heap.size w w'
def sameItG (x y:It):Bool:=(x.h.kind==y.h.kind) && ((x.h.name.toList==y.h.name.toList) && ((x.h.both==y.h.both) && (samePth x.h.place y.h.place && (sameVl x.h.value y.h.value && (sameCd x.h.cond y.h.cond && (sameL sameVl x.h.args.l y.h.args.l && (sameSL x.t y.t && (sameSL x.e y.e))))))))
theorem sameIt_flatG (x y:It):sameIt x y=sameItG x y:=by
 unfold sameIt sameHd sameItG
 simp only[Bool.and_assoc]
theorem stmtF_any (x y:It) (hT:okSL x.t) (hE:okSL x.e) (b1 q1 b2 q2:Nat) (w:World) (hx:w.rangeAt b1 q1 (It.cells x)) (hy:w.rangeAt b2 q2 (It.cells y)) (rx:itLies w x) (ry:itLies w y):
  Calls Tryz.prog 168 #[.pointer (some ⟨b1,q1,none⟩),.pointer (some ⟨b2,q2,none⟩)] w fun en w'=>en= .returned (.bool (sameItG x y))∧Below w.heap.size w w':=by
 have cx0:=cell_at hx 0 _ rfl
 have cy0:=cell_at hy 0 _ rfl
 rw[Nat.add_zero] at cx0 cy0
 have kx0:=cell_regrown cx0
 have ky0:=cell_regrown cy0
 have cx1:=cell_at hx 43 _ rfl
 have cy1:=cell_at hy 43 _ rfl
 have kx1:=cell_regrown cx1
 have ky1:=cell_regrown cy1
 have cx2:=cell_at hx 47 _ rfl
 have cy2:=cell_at hy 47 _ rfl
 have kx2:=cell_regrown cx2
 have ky2:=cell_regrown cy2
 have C3: ∀w',Below w.heap.size w w'→Calls Tryz.prog 179 #[.pointer (some ⟨b1,q1+2,none⟩),.pointer (some ⟨b2,q2+2,none⟩)] w' fun en w''=>en= .returned (.bool (samePth x.h.place y.h.place))∧Below w'.heap.size w' w'':=fun w' hb=>
  pathS_any _ _ _ _ _ _ w' (rangeAt_below (rangeAt_sub hx 2 3 rfl) hb) (rangeAt_below (rangeAt_sub hy 2 3 rfl) hb) (pthLies_of (hdLies_below rx.1 hb).1) (pthLies_of (hdLies_below ry.1 hb).1)
 have C4: ∀w',Below w.heap.size w w'→Calls Tryz.prog 180 #[.pointer (some ⟨b1,q1+5,none⟩),.pointer (some ⟨b2,q2+5,none⟩)] w' fun en w''=>en= .returned (.bool (sameVl x.h.value y.h.value))∧Below w'.heap.size w' w'':=fun w' hb=>
  valueS_any _ _ _ _ _ _ w' (rangeAt_below (rangeAt_sub hx 5 12 rfl) hb) (rangeAt_below (rangeAt_sub hy 5 12 rfl) hb) (hdLies_below rx.1 hb).2.1 (hdLies_below ry.1 hb).2.1
 have C5: ∀w',Below w.heap.size w w'→Calls Tryz.prog 181 #[.pointer (some ⟨b1,q1+17,none⟩),.pointer (some ⟨b2,q2+17,none⟩)] w' fun en w''=>en= .returned (.bool (sameCd x.h.cond y.h.cond))∧Below w'.heap.size w' w'':=fun w' hb=>
  condS_any _ _ _ _ _ _ w' (rangeAt_below (rangeAt_sub hx 17 26 rfl) hb) (rangeAt_below (rangeAt_sub hy 17 26 rfl) hb) ⟨(hdLies_below rx.1 hb).2.2.1,(hdLies_below rx.1 hb).2.2.2.1⟩ ⟨(hdLies_below ry.1 hb).2.2.1,(hdLies_below ry.1 hb).2.2.2.1⟩
 have C6: ∀w',Below w.heap.size w w'→Calls Tryz.prog 182 #[.slice x.h.args.p x.h.args.l.length x.h.args.cap,.slice y.h.args.p y.h.args.l.length y.h.args.cap,.func (.func 180) #[] #[]] w' fun en w''=>en= .returned (.bool (sameL sameVl x.h.args.l y.h.args.l))∧Below w'.heap.size w' w'':=fun w' hb=>
  allVl _ _ _ _ _ _ w' (Lay.of_sl (hdLies_below rx.1 hb).2.2.2.2.1 (by decide)) (Lay.of_sl (hdLies_below ry.1 hb).2.2.2.2.1 (by decide)) (fun a _ b _=>okVl a b)
 have cx6:=cell_at hx 44 _ rfl
 have cy6:=cell_at hy 44 _ rfl
 have kx6:=cell_regrown cx6
 have ky6:=cell_regrown cy6
 have C7: ∀w',Below w.heap.size w w'→Calls Tryz.prog 155 #[.slice x.tp x.t.len x.tc,.slice y.tp y.t.len y.tc] w' fun en w''=>en= .returned (.bool (sameSL x.t y.t))∧Below w'.heap.size w' w'':=fun w' hb=>
  hT y.t _ _ _ _ w' (sLies_below rx.2.1 hb) (sLies_below ry.2.1 hb)
 have cx7:=cell_at hx 45 _ rfl
 have cy7:=cell_at hy 45 _ rfl
 have kx7:=cell_regrown cx7
 have ky7:=cell_regrown cy7
 have C8: ∀w',Below w.heap.size w w'→Calls Tryz.prog 155 #[.slice x.ep x.e.len x.ec,.slice y.ep y.e.len y.ec] w' fun en w''=>en= .returned (.bool (sameSL x.e y.e))∧Below w'.heap.size w' w'':=fun w' hb=>
  hE y.e _ _ _ _ w' (sLies_below rx.2.2 hb) (sLies_below ry.2.2 hb)
 have cx8:=cell_at hx 46 _ rfl
 have cy8:=cell_at hy 46 _ rfl
 have kx8:=cell_regrown cx8
 have ky8:=cell_regrown cy8
 show Calls _ _ _ _ (fun en w'=>en= .returned (.bool ((x.h.kind==y.h.kind) && ((x.h.name.toList==y.h.name.toList) && ((x.h.both==y.h.both) && (samePth x.h.place y.h.place && (sameVl x.h.value y.h.value && (sameCd x.h.cond y.h.cond && (sameL sameVl x.h.args.l y.h.args.l && (sameSL x.t y.t && (sameSL x.e y.e))))))))))∧Below w.heap.size w w')
 generalize e0:(x.h.kind==y.h.kind)=v0
 generalize e1:(x.h.name.toList==y.h.name.toList)=v1
 generalize e2:(x.h.both==y.h.both)=v2
 generalize samePth x.h.place y.h.place=v3 at C3 ⊢
 generalize sameVl x.h.value y.h.value=v4 at C4 ⊢
 generalize sameCd x.h.cond y.h.cond=v5 at C5 ⊢
 generalize sameL sameVl x.h.args.l y.h.args.l=v6 at C6 ⊢
 generalize sameSL x.t y.t=v7 at C7 ⊢
 generalize sameSL x.e y.e=v8 at C8 ⊢
 clear hx hy rx ry hT hE
 have cC3: ∀dd os,Calls Tryz.prog 179 #[.pointer (some ⟨b1,q1+2,none⟩),.pointer (some ⟨b2,q2+2,none⟩)] (grow (redrawn w dd) os) fun en w''=>en= .returned (.bool v3)∧∃p:Regrown,w''=grow (redrawn w p.d) p.os:=fun dd os=>Calls.regrown_of (C3 _ (below_regrown _ _ _))
 clear C3
 have cC4: ∀dd os,Calls Tryz.prog 180 #[.pointer (some ⟨b1,q1+5,none⟩),.pointer (some ⟨b2,q2+5,none⟩)] (grow (redrawn w dd) os) fun en w''=>en= .returned (.bool v4)∧∃p:Regrown,w''=grow (redrawn w p.d) p.os:=fun dd os=>Calls.regrown_of (C4 _ (below_regrown _ _ _))
 clear C4
 have cC5: ∀dd os,Calls Tryz.prog 181 #[.pointer (some ⟨b1,q1+17,none⟩),.pointer (some ⟨b2,q2+17,none⟩)] (grow (redrawn w dd) os) fun en w''=>en= .returned (.bool v5)∧∃p:Regrown,w''=grow (redrawn w p.d) p.os:=fun dd os=>Calls.regrown_of (C5 _ (below_regrown _ _ _))
 clear C5
 have cC6: ∀dd os,Calls Tryz.prog 182 #[.slice x.h.args.p x.h.args.l.length x.h.args.cap,.slice y.h.args.p y.h.args.l.length y.h.args.cap,.func (.func 180) #[] #[]] (grow (redrawn w dd) os) fun en w''=>en= .returned (.bool v6)∧∃p:Regrown,w''=grow (redrawn w p.d) p.os:=fun dd os=>Calls.regrown_of (C6 _ (below_regrown _ _ _))
 clear C6
 have cC7: ∀dd os,Calls Tryz.prog 155 #[.slice x.tp x.t.len x.tc,.slice y.tp y.t.len y.tc] (grow (redrawn w dd) os) fun en w''=>en= .returned (.bool v7)∧∃p:Regrown,w''=grow (redrawn w p.d) p.os:=fun dd os=>Calls.regrown_of (C7 _ (below_regrown _ _ _))
 clear C7
 have cC8: ∀dd os,Calls Tryz.prog 155 #[.slice x.ep x.e.len x.ec,.slice y.ep y.e.len y.ec] (grow (redrawn w dd) os) fun en w''=>en= .returned (.bool v8)∧∃p:Regrown,w''=grow (redrawn w p.d) p.os:=fun dd os=>Calls.regrown_of (C8 _ (below_regrown _ _ _))
 clear C8
 cases v0
 ·go_enter Tryz.func168,Tryz.ntmps168
  go_wp2_with fail
  simp only[List.append_eq,List.cons_append,List.nil_append]
  refine wp_region_quiet_below (by kernel_rfl) (by kernel_rfl) ?_
  repeat (go_big_quiet_step (first |(with_reducible exact cC3 _ _)|(with_reducible exact cC4 _ _)|(with_reducible exact cC5 _ _)|(with_reducible exact cC6 _ _)|(with_reducible exact cC7 _ _)|(with_reducible exact cC8 _ _)))
  refine wpQuiet_nil ?_
  intro _ hw'
  obtain ⟨⟨dq,osq⟩,hw''⟩:=hw'
  subst hw''
  have HB3:=hdn (below_regrown w dq osq)
  generalize grow (redrawn w dq) osq=w3 at HB3 ⊢
  go_wp2_with fail
  go_ret
  exact ⟨rfl,HB3.out⟩
 ·cases v1
  ·go_enter Tryz.func168,Tryz.ntmps168
   go_wp2_with fail
   simp only[List.append_eq,List.cons_append,List.nil_append]
   refine wp_region_quiet_below (by kernel_rfl) (by kernel_rfl) ?_
   repeat (go_big_quiet_step (first |(with_reducible exact cC3 _ _)|(with_reducible exact cC4 _ _)|(with_reducible exact cC5 _ _)|(with_reducible exact cC6 _ _)|(with_reducible exact cC7 _ _)|(with_reducible exact cC8 _ _)))
   refine wpQuiet_nil ?_
   intro _ hw'
   obtain ⟨⟨dq,osq⟩,hw''⟩:=hw'
   subst hw''
   have HB3:=hdn (below_regrown w dq osq)
   generalize grow (redrawn w dq) osq=w3 at HB3 ⊢
   go_wp2_with fail
   go_ret
   exact ⟨rfl,HB3.out⟩
  ·cases v2
   ·go_enter Tryz.func168,Tryz.ntmps168
    go_wp2_with fail
    simp only[List.append_eq,List.cons_append,List.nil_append]
    refine wp_region_quiet_below (by kernel_rfl) (by kernel_rfl) ?_
    repeat (go_big_quiet_step (first |(with_reducible exact cC3 _ _)|(with_reducible exact cC4 _ _)|(with_reducible exact cC5 _ _)|(with_reducible exact cC6 _ _)|(with_reducible exact cC7 _ _)|(with_reducible exact cC8 _ _)))
    refine wpQuiet_nil ?_
    intro _ hw'
    obtain ⟨⟨dq,osq⟩,hw''⟩:=hw'
    subst hw''
    have HB3:=hdn (below_regrown w dq osq)
    generalize grow (redrawn w dq) osq=w3 at HB3 ⊢
    go_wp2_with fail
    go_ret
    exact ⟨rfl,HB3.out⟩
   ·cases v3
    ·go_enter Tryz.func168,Tryz.ntmps168
     go_wp2_with fail
     simp only[List.append_eq,List.cons_append,List.nil_append]
     refine wp_region_quiet_below (by kernel_rfl) (by kernel_rfl) ?_
     repeat (go_big_quiet_step (first |(with_reducible exact cC3 _ _)|(with_reducible exact cC4 _ _)|(with_reducible exact cC5 _ _)|(with_reducible exact cC6 _ _)|(with_reducible exact cC7 _ _)|(with_reducible exact cC8 _ _)))
     refine wpQuiet_nil ?_
     intro _ hw'
     obtain ⟨⟨dq,osq⟩,hw''⟩:=hw'
     subst hw''
     have HB3:=hdn (below_regrown w dq osq)
     generalize grow (redrawn w dq) osq=w3 at HB3 ⊢
     go_wp2_with fail
     go_ret
     exact ⟨rfl,HB3.out⟩
    ·cases v4
     ·go_enter Tryz.func168,Tryz.ntmps168
      go_wp2_with fail
      simp only[List.append_eq,List.cons_append,List.nil_append]
      refine wp_region_quiet_below (by kernel_rfl) (by kernel_rfl) ?_
      repeat (go_big_quiet_step (first |(with_reducible exact cC3 _ _)|(with_reducible exact cC4 _ _)|(with_reducible exact cC5 _ _)|(with_reducible exact cC6 _ _)|(with_reducible exact cC7 _ _)|(with_reducible exact cC8 _ _)))
      refine wpQuiet_nil ?_
      intro _ hw'
      obtain ⟨⟨dq,osq⟩,hw''⟩:=hw'
      subst hw''
      have HB3:=hdn (below_regrown w dq osq)
      generalize grow (redrawn w dq) osq=w3 at HB3 ⊢
      go_wp2_with fail
      go_ret
      exact ⟨rfl,HB3.out⟩
     ·cases v5
      ·go_enter Tryz.func168,Tryz.ntmps168
       go_wp2_with fail
       simp only[List.append_eq,List.cons_append,List.nil_append]
       refine wp_region_quiet_below (by kernel_rfl) (by kernel_rfl) ?_
       repeat (go_big_quiet_step (first |(with_reducible exact cC3 _ _)|(with_reducible exact cC4 _ _)|(with_reducible exact cC5 _ _)|(with_reducible exact cC6 _ _)|(with_reducible exact cC7 _ _)|(with_reducible exact cC8 _ _)))
       refine wpQuiet_nil ?_
       intro _ hw'
       obtain ⟨⟨dq,osq⟩,hw''⟩:=hw'
       subst hw''
       have HB3:=hdn (below_regrown w dq osq)
       generalize grow (redrawn w dq) osq=w3 at HB3 ⊢
       go_wp2_with fail
       go_ret
       exact ⟨rfl,HB3.out⟩
      ·cases v6
       ·go_enter Tryz.func168,Tryz.ntmps168
        go_wp2_with fail
        simp only[List.append_eq,List.cons_append,List.nil_append]
        refine wp_region_quiet_below (by kernel_rfl) (by kernel_rfl) ?_
        repeat (go_big_quiet_step (first |(with_reducible exact cC3 _ _)|(with_reducible exact cC4 _ _)|(with_reducible exact cC5 _ _)|(with_reducible exact cC6 _ _)|(with_reducible exact cC7 _ _)|(with_reducible exact cC8 _ _)))
        refine wpQuiet_nil ?_
        intro _ hw'
        obtain ⟨⟨dq,osq⟩,hw''⟩:=hw'
        subst hw''
        have HB3:=hdn (below_regrown w dq osq)
        generalize grow (redrawn w dq) osq=w3 at HB3 ⊢
        go_wp2_with fail
        go_ret
        exact ⟨rfl,HB3.out⟩
       ·cases v7
        ·go_enter Tryz.func168,Tryz.ntmps168
         go_wp2_with fail
         simp only[List.append_eq,List.cons_append,List.nil_append]
         refine wp_region_quiet_below (by kernel_rfl) (by kernel_rfl) ?_
         repeat (go_big_quiet_step (first |(with_reducible exact cC3 _ _)|(with_reducible exact cC4 _ _)|(with_reducible exact cC5 _ _)|(with_reducible exact cC6 _ _)|(with_reducible exact cC7 _ _)|(with_reducible exact cC8 _ _)))
         refine wpQuiet_nil ?_
         intro _ hw'
         obtain ⟨⟨dq,osq⟩,hw''⟩:=hw'
         subst hw''
         have HB3:=hdn (below_regrown w dq osq)
         generalize grow (redrawn w dq) osq=w3 at HB3 ⊢
         go_wp2_with fail
         go_ret
         exact ⟨rfl,HB3.out⟩
        ·cases v8
         ·go_enter Tryz.func168,Tryz.ntmps168
          go_wp2_with fail
          simp only[List.append_eq,List.cons_append,List.nil_append]
          refine wp_region_quiet_below (by kernel_rfl) (by kernel_rfl) ?_
          repeat (go_big_quiet_step (first |(with_reducible exact cC3 _ _)|(with_reducible exact cC4 _ _)|(with_reducible exact cC5 _ _)|(with_reducible exact cC6 _ _)|(with_reducible exact cC7 _ _)|(with_reducible exact cC8 _ _)))
          refine wpQuiet_nil ?_
          intro _ hw'
          obtain ⟨⟨dq,osq⟩,hw''⟩:=hw'
          subst hw''
          have HB3:=hdn (below_regrown w dq osq)
          generalize grow (redrawn w dq) osq=w3 at HB3 ⊢
          go_wp2_with fail
          go_ret
          exact ⟨rfl,HB3.out⟩
         ·go_enter Tryz.func168,Tryz.ntmps168
          go_wp2_with fail
          simp only[List.append_eq,List.cons_append,List.nil_append]
          refine wp_region_quiet_below (by kernel_rfl) (by kernel_rfl) ?_
          repeat (go_big_quiet_step (first |(with_reducible exact cC3 _ _)|(with_reducible exact cC4 _ _)|(with_reducible exact cC5 _ _)|(with_reducible exact cC6 _ _)|(with_reducible exact cC7 _ _)|(with_reducible exact cC8 _ _)))
          refine wpQuiet_nil ?_
          intro _ hw'
          obtain ⟨⟨dq,osq⟩,hw''⟩:=hw'
          subst hw''
          have HB3:=hdn (below_regrown w dq osq)
          generalize grow (redrawn w dq) osq=w3 at HB3 ⊢
          go_wp2_with fail
          go_ret
          exact ⟨rfl,HB3.out⟩
theorem stmtS_any (x y:It) (hT:okSL x.t) (hE:okSL x.e):OkIt x y:=fun b1 q1 b2 q2 w hx hy rx ry=>by
 rw[sameIt_flatG];exact stmtF_any x y hT hE b1 q1 b2 q2 w hx hy rx ry
theorem sameList_one (l:SL) (hP:l.each okSL):okSL l:=by
 intro m p1 c1 p2 c2 w h1 h2
 have HA:=hdn (allIt l.items m.items p1 p2 c1 c2 w (Lay.of_sLies h1) (Lay.of_sLies h2) (fun x hx y _=>stmtS_any x y (SL.each_items hP x hx).1 (SL.each_items hP x hx).2))
 rw[SL.items_len,SL.items_len,←sameSL_items] at HA
 clear h1 h2 hP
 go_enter Tryz.func155,Tryz.ntmps155
 go_wp2_with fail
 refine (HA.out).mono ?_;rintro en w2 ⟨rfl,hb⟩
 have HB:=hdn hb
 clear hb
 go_wp2_with fail
 go_ret
 exact ⟨rfl,HB.out⟩
theorem sameList_any (l:SL):okSL l:=(SL.all sameList_one l).1
end Go.Proofs.YtcehbcnloiooaaaGreatDoor
namespace Go.Proofs.YtcehbcnloiooaaaGreatDoor
namespace Tx
def ltr (c:Int):Bool:=decide ((97≤c∧c≤122)∨(65≤c∧c≤90)∨c=95)
def dgt (c:Int):Bool:=decide (48≤c∧c≤57)
def wrd (c:Int):Bool:=ltr c ||dgt c
def blk (c:Int):Bool:=decide (c=32∨c=9∨c=10∨c=13)
def inl (c:Int):Bool:=decide (c≠10)
def run (p:Int→Bool):List UInt8→Nat
 | []=>0
 |b::l=>if p (b.toNat:Int) then run p l+1 else 0
theorem run_le (p:Int→Bool) (l:List UInt8):run p l≤l.length:=by
 induction l with
 |nil=>exact Nat.le_refl _
 |cons b l ih=>unfold run;split<;>simp<;>omega
def sk:Bool→List UInt8→Nat
 |_,[]=>0
 |false,b::l=>if blk (b.toNat:Int) then sk false l+1 else if b.toNat=47∧l.head? =some 47 then sk true l+1 else 0
 |true,b::l=>if inl (b.toNat:Int) then sk true l+1 else sk false l+1
theorem sk_le: ∀(q:Bool) (l:List UInt8),sk q l≤l.length
 |_,[]=>by simp[sk]
 |false,b::l=>by
  have h1:=sk_le false l;have h2:=sk_le true l
  unfold sk;split
  ·simp;omega
  ·split<;>simp<;>omega
 |true,b::l=>by
  have h1:=sk_le false l;have h2:=sk_le true l
  unfold sk;split<;>simp<;>omega
theorem sk_true: ∀(l:List UInt8),sk true l=run inl l+sk false (l.drop (run inl l))
 | []=>rfl
 |b::l=>by
  have ih:=sk_true l
  by_cases h:inl (b.toNat:Int)=true
  ·simp only[sk,run,h,if_true,List.drop_succ_cons];omega
  ·have hb:blk (b.toNat:Int)=true:=by
    unfold inl at h;unfold blk;simp at h ⊢;omega
   simp only[sk,run,h,hb,if_true,Bool.false_eq_true,if_false,List.drop_zero];omega
def wend (p:Int→Bool) (s:ByteArray) (i:Nat):Nat:=i+run p (s.data.toList.drop i)
def skp (s:ByteArray) (i:Nat):Nat:=i+sk false (s.data.toList.drop i)
theorem len_eq (s:ByteArray):s.data.toList.length=s.size:=by rw[Array.length_toList];rfl
theorem drop_at (s:ByteArray) (i:Nat) (h:i<s.size):s.data.toList.drop i=s[i]::s.data.toList.drop (i+1):=
 List.drop_eq_getElem_cons (by rw[len_eq];exact h)
theorem drop_end (s:ByteArray) (i:Nat) (h:s.size≤i):s.data.toList.drop i= []:=
 List.drop_eq_nil_of_le (by rw[len_eq];exact h)
theorem wend_in (p:Int→Bool) (s:ByteArray) (i:Nat) (h:i<s.size) (hp:p (s[i].toNat:Int)=true):wend p s (i+1)=wend p s i:=by
 unfold wend;rw[drop_at s i h];simp only[run,hp,if_true];omega
theorem wend_out (p:Int→Bool) (s:ByteArray) (i:Nat) (h:i<s.size) (hp:p (s[i].toNat:Int)=false):wend p s i=i:=by
 unfold wend;rw[drop_at s i h];simp only[run,hp,Bool.false_eq_true,if_false];omega
theorem wend_end (p:Int→Bool) (s:ByteArray) (i:Nat) (h:s.size≤i):wend p s i=i:=by
 unfold wend;rw[drop_end s i h];simp[run]
theorem wend_ge (p:Int→Bool) (s:ByteArray) (i:Nat):i≤wend p s i:=by unfold wend;omega
theorem wend_le (p:Int→Bool) (s:ByteArray) (i:Nat) (h:i≤s.size):wend p s i≤s.size:=by
 unfold wend
 have:=run_le p (s.data.toList.drop i)
 rw[List.length_drop,len_eq] at this
 omega
theorem skp_ge (s:ByteArray) (i:Nat):i≤skp s i:=by unfold skp;omega
theorem skp_le (s:ByteArray) (i:Nat) (h:i≤s.size):skp s i≤s.size:=by
 unfold skp
 have:=sk_le false (s.data.toList.drop i)
 rw[List.length_drop,len_eq] at this
 omega
theorem skp_end (s:ByteArray) (i:Nat) (h:s.size≤i):skp s i=i:=by
 unfold skp;rw[drop_end s i h];simp[sk]
theorem skp_blank (s:ByteArray) (i:Nat) (h:i<s.size) (hb:blk (s[i].toNat:Int)=true):skp s (i+1)=skp s i:=by
 unfold skp;rw[drop_at s i h];simp only[sk,hb,if_true];omega
theorem head_next (s:ByteArray) (i:Nat):(s.data.toList.drop i).head? =some 47↔∃h:i<s.size,s[i].toNat=47:=by
 by_cases h:i<s.size
 ·rw[drop_at s i h]
  simp only[List.head?_cons,Option.some.injEq,h,exists_true_left]
  constructor
  ·intro e;rw[e];rfl
  ·intro e;exact UInt8.toNat_inj.1 (by rw[e];rfl)
 ·rw[drop_end s i (by omega)]
  simp[h]
theorem skp_rem (s:ByteArray) (i:Nat) (h:i+1<s.size) (h0:s[i].toNat=47) (h1:s[i+1].toNat=47):skp s (wend inl s i)=skp s i:=by
 have hi:i<s.size:=by omega
 have hn:(s.data.toList.drop (i+1)).head? =some 47:=(head_next s (i+1)).2 ⟨h,h1⟩
 have hnb:blk (s[i].toNat:Int)=false:=by rw[h0];rfl
 have hil:inl (s[i].toNat:Int)=true:=by rw[h0];rfl
 have e1:sk false (s.data.toList.drop i)=sk true (s.data.toList.drop i):=by
  rw[drop_at s i hi]
  simp only[sk,hnb,hil,Bool.false_eq_true,if_false,if_true]
  rw[if_pos ⟨h0,hn⟩]
 unfold skp
 rw[e1,sk_true]
 unfold wend
 rw[List.drop_drop]
 omega
theorem skp_stop (s:ByteArray) (i:Nat) (h:i<s.size) (hb:blk (s[i].toNat:Int)=false) (hr: ¬(s[i].toNat=47∧∃h:i+1<s.size,s[i+1].toNat=47)):skp s i=i:=by
 unfold skp
 rw[drop_at s i h]
 have hn: ¬(s[i].toNat=47∧(s.data.toList.drop (i+1)).head? =some 47):=by
  rw[head_next];exact hr
 simp only[sk,hb,Bool.false_eq_true,if_false]
 rw[if_neg hn]
 omega
def kw:List (List UInt8):= [[115,116,114,117,99,116],[105,110,116],[118,111,105,100],[110,117,108,108],[110,101,119],[102,114,101,101],[105,102],[101,108,115,101],[119,104,105,108,101],[105,110,112,117,116]]
def keyAt (k:Nat):ByteArray:=⟨(kw.getD k []).toArray⟩
def isKey (s:ByteArray):Bool:=kw.any fun l=>s.data.toList==l
theorem keyAt_list (k:Nat):(keyAt k).data.toList=kw.getD k []:=by unfold keyAt;simp
theorem isKey_hit (s:ByteArray) (k:Nat) (hk:k<10) (h:(s.data.toList==(keyAt k).data.toList)=true):isKey s=true:=by
 unfold isKey
 rw[List.any_eq_true]
 refine ⟨kw.getD k [], ?_, ?_⟩
 ·rw[List.getD_eq_getElem?_getD,List.getElem?_eq_getElem (by simp[kw];omega)]
  exact List.getElem_mem _
 ·rw[keyAt_list] at h;exact h
theorem isKey_miss (s:ByteArray) (h: ∀k,k<10→(s.data.toList==(keyAt k).data.toList)=false):isKey s=false:=by
 unfold isKey
 rw[List.any_eq_false]
 intro l hl
 obtain ⟨k,hk,rfl⟩:=List.getElem_of_mem hl
 have:=h k hk
 rw[keyAt_list,List.getD_eq_getElem?_getD,List.getElem?_eq_getElem hk] at this
 simp only[Option.getD_some] at this
 rw[this];simp
def val (l:List UInt8):Int:=l.foldl (fun n b=>10*n+(b.toNat-48)) 0
def two (a b:Int):Bool:=decide ((a=45∧b=62)∨(a=61∧b=61)∨(a=33∧b=61)∨(a=62∧b=61))
def one (a:Int):Bool:=decide (a=123∨a=125∨a=40∨a=41∨a=59∨a=44∨a=42∨a=61∨a=60∨a=43∨a=45∨a=63)
def mkl:List UInt8→Nat
 | []=>0
 | [a]=>if one a.toNat then 1 else 0
 |a::b::_=>if two a.toNat b.toNat then 2 else if one a.toNat then 1 else 0
def mrk (s:ByteArray) (i:Nat):Nat:=mkl (s.data.toList.drop i)
theorem mrk_two (s:ByteArray) (i:Nat) (h:i+1<s.size) (ht:two (s[i].toNat) (s[i+1].toNat)=true):mrk s i=2:=by
 unfold mrk;rw[drop_at s i (by omega),drop_at s (i+1) h];simp[mkl,ht]
theorem mrk_one (s:ByteArray) (i:Nat) (h:i<s.size) (hn: ∀h:i+1<s.size,two (s[i].toNat) (s[i+1].toNat)=false):mrk s i=if one s[i].toNat then 1 else 0:=by
 unfold mrk
 rw[drop_at s i h]
 by_cases h1:i+1<s.size
 ·rw[drop_at s (i+1) h1];simp[mkl,hn h1]
 ·rw[drop_end s (i+1) (by omega)];rfl
theorem mrk_le (s:ByteArray) (i:Nat) (h:i<s.size):i+mrk s i≤s.size:=by
 by_cases h1:i+1<s.size
 ·unfold mrk;rw[drop_at s i h,drop_at s (i+1) h1];simp only[mkl];split
  ·omega
  ·split<;>omega
 ·rw[mrk_one s i h (fun h'=>absurd h' h1)];split<;>omega
structure Sg where
 kind:Int
 pos:Nat
 text:ByteArray
 num:Int
structure An where
 sg:Sg
 stop:Nat
 err:Int
def An.bad (k:Nat) (e:Int):An:=⟨⟨0,k,ByteArray.empty,0⟩,k,e⟩
def An.good (s:ByteArray) (kind:Int) (k e:Nat) (n:Int):An:=⟨⟨kind,k,s.extract k e,n⟩,e,0⟩
def wordA (s:ByteArray) (k:Nat):An:=
 if 16<wend wrd s k-k then .bad k 3 else .good s (if isKey (s.extract k (wend wrd s k)) then 3 else 1) k (wend wrd s k) 0
def numA (s:ByteArray) (k:Nat):An:=
 if 9<wend dgt s k-k then .bad k 3 else .good s 2 k (wend dgt s k) (val (s.extract k (wend dgt s k)).data.toList)
def markA (s:ByteArray) (k:Nat):An:=
 if mrk s k=0 then .bad k 4 else .good s 4 k (k+mrk s k) 0
def tok (s:ByteArray) (k:Nat):An:=
 if h:k<s.size then
  if ltr (s[k].toNat:Int) then wordA s k else if dgt (s[k].toNat:Int) then numA s k else markA s k
 else .bad k 0
def nx (s:ByteArray) (i:Nat):An:=tok s (skp s i)
end Tx
end Go.Proofs.YtcehbcnloiooaaaGreatDoor
namespace Go.Proofs.YtcehbcnloiooaaaGreatDoor
open Go.RowKit
theorem lret_bool {a b:Bool} (h:a=b):Ending.returned (.bool a)= .returned (.bool b):=by rw[h]
theorem lret_int {k:IntKind} {a b:Int} (h:a=b):Ending.returned (.int k a)= .returned (.int k b):=by rw[h]
theorem isLetter_any (c:Int) (w:World):
  Calls Tryz.prog 127 #[.int .u8 c] w fun e w'=>e= .returned (.bool (Tx.ltr c))∧w=w':=by
 go_enter Tryz.func127,Tryz.ntmps127
 go_wp2
 all_goals
  go_ret
  exact ⟨lret_bool (by rw[Bool.eq_iff_iff];simp[Tx.ltr];omega),rfl⟩
theorem letter_any (c:Int) (w:World):
  Calls Tryz.prog 95 #[.int .u8 c] w fun e w'=>e= .returned (.bool (Tx.ltr c))∧w=w':=by
 go_enter Tryz.func95,Tryz.ntmps95
 go_wp2
 all_goals
  go_ret
  exact ⟨lret_bool (by rw[Bool.eq_iff_iff];simp[Tx.ltr];omega),rfl⟩
theorem isDigit_any (c:Int) (w:World):
  Calls Tryz.prog 129 #[.int .u8 c] w fun e w'=>e= .returned (.bool (Tx.dgt c))∧w=w':=by
 go_enter Tryz.func129,Tryz.ntmps129
 go_wp2
 all_goals
  go_ret
  exact ⟨lret_bool (by rw[Bool.eq_iff_iff];simp[Tx.dgt];omega),rfl⟩
theorem digit_any (c:Int) (w:World):
  Calls Tryz.prog 97 #[.int .u8 c] w fun e w'=>e= .returned (.bool (Tx.dgt c))∧w=w':=by
 go_enter Tryz.func97,Tryz.ntmps97
 go_wp2
 all_goals
  go_ret
  exact ⟨lret_bool (by rw[Bool.eq_iff_iff];simp[Tx.dgt];omega),rfl⟩
theorem hasPrefix_any (s p:ByteArray) (w:World):
  Calls Tryz.prog 149 #[.string s,.string p] w fun e w'=>e= .returned (.bool (Lib.hasPrefix s.data.toList p.data.toList))∧w=w':=by
 rw[←Lib.hasPrefix_of_take,←Lib.size_eq,←Lib.size_eq]
 go_enter Tryz.func149,Tryz.ntmps149
 go_wp2
 ·rename_i h
  go_ret
  refine ⟨?_,rfl⟩
  show Ending.returned (Value.bool ((s.extract 0 p.size).toList==p.toList))=_
  rw[Lib.extract_toList,Lib.toList_data]
  simp[h]
 ·rename_i h
  go_ret
  refine ⟨?_,rfl⟩
  show Ending.returned (Value.bool false)=_
  simp[h]
theorem sliteIndexByte_any (s:ByteArray) (c:Int) (w:World):
  Calls Tryz.prog 166 #[.string s,.int .u8 c] w fun e w'=>e= .returned (.int .i64 (Lib.indexByte s.data.toList c.toNat.toUInt8))∧w=w':=by
 go_enter Tryz.func166,Tryz.ntmps166
 go_wp2
 rw[run_callFunc_extern Tryz.func176 (by kernel_rfl) (by kernel_rfl) (by kernel_rfl) (e:=Extern.BytealgIndexByte.indexByte) (by kernel_rfl),Lib.run_indexByteString]
 simp only[Result.andThen]
 rw[Oper.upon_value]
 go_wp2
 go_ret
 exact ⟨rfl,rfl⟩
theorem indexByte_any (s:ByteArray) (c:Int) (w:World):
  Calls Tryz.prog 154 #[.string s,.int .u8 c] w fun e w'=>e= .returned (.int .i64 (Lib.indexByte s.data.toList c.toNat.toUInt8))∧w=w':=by
 go_enter Tryz.func154,Tryz.ntmps154
 go_wp2_with (go_at_call 166;refine (sliteIndexByte_any _ _ _).mono ?_;rintro e w' ⟨rfl,rfl⟩)
 go_ret
 exact ⟨rfl,rfl⟩
end Go.Proofs.YtcehbcnloiooaaaGreatDoor
namespace Go.Proofs.YtcehbcnloiooaaaGreatDoor
open Go.RowKit
theorem wordEnd_any (s:ByteArray) (i:Nat) (w:World) (hs:s.size≤5000000) (hi:i≤s.size):
  Calls Tryz.prog 135 #[.string s,.int .i64 i] w fun e w'=>e= .returned (.int .i64 (Tx.wend Tx.wrd s i))∧w=w':=by
 go_enter Tryz.func135,Tryz.ntmps135
 go_wp2
 go_loop [1] (fun v=> ∃k:Nat,k≤s.size∧v= .int .i64 k∧Hid (Tx.wend Tx.wrd s k=Tx.wend Tx.wrd s i)) (fun v=>s.size-(intOf v).toNat)
 case atStart=>exact ⟨i,hi,rfl,rfl⟩
 case round=>
  obtain ⟨k,hk,rfl,HR⟩:=hrel
  by_cases hlt:k<s.size
  ·cases hl:Tx.ltr (s[k].toNat:Int)
   ·cases hd:Tx.dgt (s[k].toNat:Int)
    ·have HE:=hdn (Tx.wend_out Tx.wrd s k hlt (by unfold Tx.wrd;rw[hl,hd];rfl))
     go_wp2_with (first |(go_at_call 127;refine (isLetter_any _ _).mono ?_;rintro e w' ⟨rfl,rfl⟩)|(go_at_call 129;refine (isDigit_any _ _).mono ?_;rintro e w' ⟨rfl,rfl⟩))
     go_ret
     exact ⟨lret_int (by rw[←HR.out,HE.out]),rfl⟩
    ·have HE:=hdn (Tx.wend_in Tx.wrd s k hlt (by unfold Tx.wrd;rw[hl,hd];rfl))
     go_wp2_with (first |(go_at_call 127;refine (isLetter_any _ _).mono ?_;rintro e w' ⟨rfl,rfl⟩)|(go_at_call 129;refine (isDigit_any _ _).mono ?_;rintro e w' ⟨rfl,rfl⟩))
     go_round
     case rel=>exact ⟨k+1,by omega,by go_num,HE.out.trans HR.out⟩
     case measure=>simp[intOf];omega
   ·have HE:=hdn (Tx.wend_in Tx.wrd s k hlt (by unfold Tx.wrd;rw[hl];rfl))
    go_wp2_with (first |(go_at_call 127;refine (isLetter_any _ _).mono ?_;rintro e w' ⟨rfl,rfl⟩)|(go_at_call 129;refine (isDigit_any _ _).mono ?_;rintro e w' ⟨rfl,rfl⟩))
    go_round
    case rel=>exact ⟨k+1,by omega,by go_num,HE.out.trans HR.out⟩
    case measure=>simp[intOf];omega
  ·have HE:=hdn (Tx.wend_end Tx.wrd s k (by omega))
   go_wp2_with fail
   go_ret
   exact ⟨lret_int (by rw[←HR.out,HE.out]),rfl⟩
theorem digitsEnd_any (s:ByteArray) (i:Nat) (w:World) (hs:s.size≤5000000) (hi:i≤s.size):
  Calls Tryz.prog 152 #[.string s,.int .i64 i] w fun e w'=>e= .returned (.int .i64 (Tx.wend Tx.dgt s i))∧w=w':=by
 go_enter Tryz.func152,Tryz.ntmps152
 go_wp2
 go_loop [1] (fun v=> ∃k:Nat,k≤s.size∧v= .int .i64 k∧Hid (Tx.wend Tx.dgt s k=Tx.wend Tx.dgt s i)) (fun v=>s.size-(intOf v).toNat)
 case atStart=>exact ⟨i,hi,rfl,rfl⟩
 case round=>
  obtain ⟨k,hk,rfl,HR⟩:=hrel
  by_cases hlt:k<s.size
  ·cases hd:Tx.dgt (s[k].toNat:Int)
   ·have HE:=hdn (Tx.wend_out Tx.dgt s k hlt hd)
    go_wp2_with (go_at_call 129;refine (isDigit_any _ _).mono ?_;rintro e w' ⟨rfl,rfl⟩)
    go_ret
    exact ⟨lret_int (by rw[←HR.out,HE.out]),rfl⟩
   ·have HE:=hdn (Tx.wend_in Tx.dgt s k hlt hd)
    go_wp2_with (go_at_call 129;refine (isDigit_any _ _).mono ?_;rintro e w' ⟨rfl,rfl⟩)
    go_round
    case rel=>exact ⟨k+1,by omega,by go_num,HE.out.trans HR.out⟩
    case measure=>simp[intOf];omega
  ·have HE:=hdn (Tx.wend_end Tx.dgt s k (by omega))
   go_wp2_with fail
   go_ret
   exact ⟨lret_int (by rw[←HR.out,HE.out]),rfl⟩
theorem val_take (s:ByteArray) (k:Nat) (h:k<s.size):Tx.val (s.data.toList.take (k+1))=10*Tx.val (s.data.toList.take k)+(s[k].toNat-48):=by
 rw[List.take_succ_eq_append_getElem (by rw[Tx.len_eq];exact h)]
 unfold Tx.val
 rw[List.foldl_append]
 rfl
def digs (l:List UInt8):Prop:= ∀b∈l,Tx.dgt (b.toNat:Int)=true
theorem digs_at {s:ByteArray} (h:digs s.data.toList) (k:Nat) (hk:k<s.size):48≤s[k].toNat∧s[k].toNat≤57:=by
 have:=h s[k] (by
  have:s[k]=s.data.toList[k]'(by rw[Tx.len_eq];exact hk):=by simp;rfl
  rw[this];exact List.getElem_mem _)
 unfold Tx.dgt at this
 simp at this
 omega
theorem val_bd (s:ByteArray) (h:digs s.data.toList): ∀k,k≤s.size→0≤Tx.val (s.data.toList.take k)∧Tx.val (s.data.toList.take k)<10 ^ k
 |0,_=>by simp[Tx.val]
 |k+1,hk=>by
  have ih:=val_bd s h k (by omega)
  have hd:=digs_at h k (by omega)
  rw[val_take s k (by omega)]
  have:(10:Int) ^ (k+1)=10*10 ^ k:=by rw[Int.pow_succ];omega
  omega
theorem val_small (s:ByteArray) (h:digs s.data.toList) (h9:s.size≤9) (k:Nat) (hk:k≤s.size):0≤Tx.val (s.data.toList.take k)∧Tx.val (s.data.toList.take k)<1000000000:=by
 have h1:=val_bd s h k hk
 have h2:(10:Int) ^ k≤10 ^ 9:=by
  have:(10:Nat) ^ k≤10 ^ 9:=Nat.pow_le_pow_right (by decide) (by omega)
  have:=Int.ofNat_le.2 this
  simpa using this
 have h3:(10:Int) ^ 9=1000000000:=by decide
 omega
theorem lvalue_any (s:ByteArray) (w:World) (hd:digs s.data.toList) (h9:s.size≤9):
  Calls Tryz.prog 153 #[.string s] w fun e w'=>e= .returned (.int .i64 (Tx.val s.data.toList))∧w=w':=by
 have HD:=hdn hd
 clear hd
 go_enter Tryz.func153,Tryz.ntmps153
 go_wp2
 go_loop [3,7] (fun n i=> ∃k:Nat,k≤s.size∧i= .int .i64 k∧n= .int .i64 (Tx.val (s.data.toList.take k))) (fun _ i=>s.size-(intOf i).toNat)
 case atStart=>exact ⟨0,Nat.zero_le _,rfl,rfl⟩
 case round=>
  obtain ⟨k,hk,rfl,rfl⟩:=hrel
  by_cases hlt:k<s.size
  ·have hb:=val_small s HD.out h9 k hk
   have hb0:=hb.1
   have hb1:=hb.2
   have hc:=digs_at HD.out k hlt
   have hc0:=hc.1
   have hc1:=hc.2
   have HE:=hdn (val_take s k hlt)
   clear hb hc
   go_wp2_with fail
   go_round
   case rel=>exact ⟨k+1,by omega,by go_num,by rw[HE.out]⟩
   case measure=>simp[intOf];omega
  ·go_wp2_with fail
   go_ret
   exact ⟨lret_int (by rw[List.take_of_length_le (by rw[Tx.len_eq];omega)]),rfl⟩
end Go.Proofs.YtcehbcnloiooaaaGreatDoor
namespace Go.Proofs.YtcehbcnloiooaaaGreatDoor
open Go.RowKit
def Tx.pw:List (List UInt8):= [[45,62],[61,61],[33,61],[62,61]]
def Tx.prAt (k:Nat):ByteArray:=⟨(Tx.pw.getD k []).toArray⟩
structure Gl (w:World):Prop where
 key: ∀k,k<10→w.cell? ⟨1,k,none⟩=some (.string (Tx.keyAt k))
 pair: ∀k,k<4→w.cell? ⟨0,k,none⟩=some (.string (Tx.prAt k))
 two:3≤w.heap.size
theorem Gl.below {w w':World} {B:Nat} (h:Gl w) (hb:Below B w w') (h2:3≤B):Gl w':=
 ⟨fun k hk=>(hb.cell (p:=⟨1,k,none⟩) (by show 1<B;omega)).trans (h.key k hk),fun k hk=>(hb.cell (p:=⟨0,k,none⟩) (by show 0<B;omega)).trans (h.pair k hk),Nat.le_trans h.two hb.size⟩
theorem keys_index: ∀k:Nat,k<10→∀w:World,(Instr.index 225 (.agg #[.string (Tx.keyAt 0),.string (Tx.keyAt 1),.string (Tx.keyAt 2),.string (Tx.keyAt 3),.string (Tx.keyAt 4),.string (Tx.keyAt 5),.string (Tx.keyAt 6),.string (Tx.keyAt 7),.string (Tx.keyAt 8),.string (Tx.keyAt 9)]) (.int .i64 (k:Int))).run Tryz.prog w= .ok (.string (Tx.keyAt k)) w:=by
 have x0: ∀w:World,(Instr.index 225 (.agg #[.string (Tx.keyAt 0),.string (Tx.keyAt 1),.string (Tx.keyAt 2),.string (Tx.keyAt 3),.string (Tx.keyAt 4),.string (Tx.keyAt 5),.string (Tx.keyAt 6),.string (Tx.keyAt 7),.string (Tx.keyAt 8),.string (Tx.keyAt 9)]) (.int .i64 ((0:Nat):Int))).run Tryz.prog w= .ok (.string (Tx.keyAt 0)) w:=fun _=>by kernel_rfl
 have x1: ∀w:World,(Instr.index 225 (.agg #[.string (Tx.keyAt 0),.string (Tx.keyAt 1),.string (Tx.keyAt 2),.string (Tx.keyAt 3),.string (Tx.keyAt 4),.string (Tx.keyAt 5),.string (Tx.keyAt 6),.string (Tx.keyAt 7),.string (Tx.keyAt 8),.string (Tx.keyAt 9)]) (.int .i64 ((1:Nat):Int))).run Tryz.prog w= .ok (.string (Tx.keyAt 1)) w:=fun _=>by kernel_rfl
 have x2: ∀w:World,(Instr.index 225 (.agg #[.string (Tx.keyAt 0),.string (Tx.keyAt 1),.string (Tx.keyAt 2),.string (Tx.keyAt 3),.string (Tx.keyAt 4),.string (Tx.keyAt 5),.string (Tx.keyAt 6),.string (Tx.keyAt 7),.string (Tx.keyAt 8),.string (Tx.keyAt 9)]) (.int .i64 ((2:Nat):Int))).run Tryz.prog w= .ok (.string (Tx.keyAt 2)) w:=fun _=>by kernel_rfl
 have x3: ∀w:World,(Instr.index 225 (.agg #[.string (Tx.keyAt 0),.string (Tx.keyAt 1),.string (Tx.keyAt 2),.string (Tx.keyAt 3),.string (Tx.keyAt 4),.string (Tx.keyAt 5),.string (Tx.keyAt 6),.string (Tx.keyAt 7),.string (Tx.keyAt 8),.string (Tx.keyAt 9)]) (.int .i64 ((3:Nat):Int))).run Tryz.prog w= .ok (.string (Tx.keyAt 3)) w:=fun _=>by kernel_rfl
 have x4: ∀w:World,(Instr.index 225 (.agg #[.string (Tx.keyAt 0),.string (Tx.keyAt 1),.string (Tx.keyAt 2),.string (Tx.keyAt 3),.string (Tx.keyAt 4),.string (Tx.keyAt 5),.string (Tx.keyAt 6),.string (Tx.keyAt 7),.string (Tx.keyAt 8),.string (Tx.keyAt 9)]) (.int .i64 ((4:Nat):Int))).run Tryz.prog w= .ok (.string (Tx.keyAt 4)) w:=fun _=>by kernel_rfl
 have x5: ∀w:World,(Instr.index 225 (.agg #[.string (Tx.keyAt 0),.string (Tx.keyAt 1),.string (Tx.keyAt 2),.string (Tx.keyAt 3),.string (Tx.keyAt 4),.string (Tx.keyAt 5),.string (Tx.keyAt 6),.string (Tx.keyAt 7),.string (Tx.keyAt 8),.string (Tx.keyAt 9)]) (.int .i64 ((5:Nat):Int))).run Tryz.prog w= .ok (.string (Tx.keyAt 5)) w:=fun _=>by kernel_rfl
 have x6: ∀w:World,(Instr.index 225 (.agg #[.string (Tx.keyAt 0),.string (Tx.keyAt 1),.string (Tx.keyAt 2),.string (Tx.keyAt 3),.string (Tx.keyAt 4),.string (Tx.keyAt 5),.string (Tx.keyAt 6),.string (Tx.keyAt 7),.string (Tx.keyAt 8),.string (Tx.keyAt 9)]) (.int .i64 ((6:Nat):Int))).run Tryz.prog w= .ok (.string (Tx.keyAt 6)) w:=fun _=>by kernel_rfl
 have x7: ∀w:World,(Instr.index 225 (.agg #[.string (Tx.keyAt 0),.string (Tx.keyAt 1),.string (Tx.keyAt 2),.string (Tx.keyAt 3),.string (Tx.keyAt 4),.string (Tx.keyAt 5),.string (Tx.keyAt 6),.string (Tx.keyAt 7),.string (Tx.keyAt 8),.string (Tx.keyAt 9)]) (.int .i64 ((7:Nat):Int))).run Tryz.prog w= .ok (.string (Tx.keyAt 7)) w:=fun _=>by kernel_rfl
 have x8: ∀w:World,(Instr.index 225 (.agg #[.string (Tx.keyAt 0),.string (Tx.keyAt 1),.string (Tx.keyAt 2),.string (Tx.keyAt 3),.string (Tx.keyAt 4),.string (Tx.keyAt 5),.string (Tx.keyAt 6),.string (Tx.keyAt 7),.string (Tx.keyAt 8),.string (Tx.keyAt 9)]) (.int .i64 ((8:Nat):Int))).run Tryz.prog w= .ok (.string (Tx.keyAt 8)) w:=fun _=>by kernel_rfl
 have x9: ∀w:World,(Instr.index 225 (.agg #[.string (Tx.keyAt 0),.string (Tx.keyAt 1),.string (Tx.keyAt 2),.string (Tx.keyAt 3),.string (Tx.keyAt 4),.string (Tx.keyAt 5),.string (Tx.keyAt 6),.string (Tx.keyAt 7),.string (Tx.keyAt 8),.string (Tx.keyAt 9)]) (.int .i64 ((9:Nat):Int))).run Tryz.prog w= .ok (.string (Tx.keyAt 9)) w:=fun _=>by kernel_rfl
 intro k hk w
 rcases (show k=0∨k=1∨k=2∨k=3∨k=4∨k=5∨k=6∨k=7∨k=8∨k=9 by omega) with rfl |rfl |rfl |rfl |rfl |rfl |rfl |rfl |rfl |rfl
 ·exact x0 w
 ·exact x1 w
 ·exact x2 w
 ·exact x3 w
 ·exact x4 w
 ·exact x5 w
 ·exact x6 w
 ·exact x7 w
 ·exact x8 w
 ·exact x9 w
theorem beq_swap (a b:List UInt8):(a==b)=(b==a):=by rw[Bool.eq_iff_iff,beq_iff_eq,beq_iff_eq];exact eq_comm
theorem isKeyLex_any (s:ByteArray) (w:World) (hg:Gl w):
  Calls Tryz.prog 136 #[.string s] w fun e w'=>e= .returned (.bool (Tx.isKey s))∧w=w':=by
 have c0:=hg.key 0 (by decide)
 have c1:=hg.key 1 (by decide)
 have c2:=hg.key 2 (by decide)
 have c3:=hg.key 3 (by decide)
 have c4:=hg.key 4 (by decide)
 have c5:=hg.key 5 (by decide)
 have c6:=hg.key 6 (by decide)
 have c7:=hg.key 7 (by decide)
 have c8:=hg.key 8 (by decide)
 have c9:=hg.key 9 (by decide)
 go_enter Tryz.func136,Tryz.ntmps136
 go_wp2
 clear c0 c1 c2 c3 c4 c5 c6 c7 c8 c9
 go_loop [6] (fun i=> ∃k:Nat,k≤10∧i= .int .i64 k∧Hid (∀j,j<k→(s.data.toList==(Tx.keyAt j).data.toList)=false)) (fun i=>10-(intOf i).toNat)
 case atStart=>exact ⟨0,Nat.zero_le _,rfl,hdn (fun j hj=>absurd hj (by omega))⟩
 case round=>
  obtain ⟨k,hk,rfl,HR⟩:=hrel
  by_cases hlt:k<10
  ·have hx:=keys_index k hlt
   cases he:(s.toList==(Tx.keyAt k).toList)
   ·have HE:(s.data.toList==(Tx.keyAt k).data.toList)=false:=by rw[←Lib.toList_data,←Lib.toList_data];exact he
    replace HE:=hdn HE
    go_wp2
    go_round
    case rel=>exact ⟨k+1,by omega,by go_num,hdn (fun j hj=>by
     rcases Nat.lt_or_ge j k with h |h
     ·exact HR.out j h
     ·obtain rfl:j=k:=by omega
      exact HE.out)⟩
    case measure=>simp[intOf];omega
   ·have HE:(s.data.toList==(Tx.keyAt k).data.toList)=true:=by rw[←Lib.toList_data,←Lib.toList_data];exact he
    replace HE:=hdn HE
    go_wp2
    go_ret
    exact ⟨lret_bool (Tx.isKey_hit s k hlt HE.out).symm,rfl⟩
  ·go_wp2
   go_ret
   exact ⟨lret_bool (Tx.isKey_miss s (fun j hj=>HR.out j (by omega))).symm,rfl⟩
theorem isKeyRef_any (s:ByteArray) (w:World):
  Calls Tryz.prog 96 #[.string s] w fun e w'=>e= .returned (.bool (Tx.isKey s))∧Below w.heap.size w w':=by
 go_enter Tryz.func96,Tryz.ntmps96
 go_wp2
 go_loopw [4] (fun i wr=> ∃k:Nat,k≤10∧i= .int .i64 k∧Hid (∀j,j<10→wr.cell? ⟨w.heap.size,j,none⟩=some (.string (Tx.keyAt j)))∧Hid (Below w.heap.size w wr)∧Hid (∀j,j<k→(s.data.toList==(Tx.keyAt j).data.toList)=false)) (fun i _=>10-(Lib.intOf i).toNat)
 case atStart=>
  refine ⟨0,Nat.zero_le _,rfl,hdn ?_,hdn ((Below.refl _ _).alloc (Nat.le_refl _) _),hdn (fun j hj=>absurd hj (by omega))⟩
  intro k hk
  rcases (show k=0∨k=1∨k=2∨k=3∨k=4∨k=5∨k=6∨k=7∨k=8∨k=9 by omega) with rfl |rfl |rfl |rfl |rfl |rfl |rfl |rfl |rfl |rfl<;>(rw[World.cell?_alloc_new];rfl)
 case round=>
  obtain ⟨k,hk,rfl,HC,HB,HR⟩:=hrel
  by_cases hlt:k<10
  ·have hx:=HC.out k hlt
   cases he:(s.toList==(Tx.keyAt k).toList)
   ·have HE:(s.data.toList==(Tx.keyAt k).data.toList)=false:=by rw[←Lib.toList_data,←Lib.toList_data];exact he
    replace HE:=hdn HE
    have he':((Tx.keyAt k).toList==s.toList)=false:=by rw[beq_swap];exact he
    clear he
    go_wp2
    go_roundw
    case rel=>exact ⟨k+1,by omega,by go_num,HC,HB,hdn (fun j hj=>by
     rcases Nat.lt_or_ge j k with h |h
     ·exact HR.out j h
     ·obtain rfl:j=k:=by omega
      exact HE.out)⟩
    case measure=>simp[Lib.intOf];omega
   ·have HE:(s.data.toList==(Tx.keyAt k).data.toList)=true:=by rw[←Lib.toList_data,←Lib.toList_data];exact he
    replace HE:=hdn HE
    have he':((Tx.keyAt k).toList==s.toList)=true:=by rw[beq_swap];exact he
    clear he
    go_wp2
    go_ret
    exact ⟨lret_bool (Tx.isKey_hit s k hlt HE.out).symm,HB.out⟩
  ·go_wp2
   go_ret
   exact ⟨lret_bool (Tx.isKey_miss s (fun j hj=>HR.out j (by omega))).symm,HB.out⟩
end Go.Proofs.YtcehbcnloiooaaaGreatDoor
