/-
  The document's reader: how it stands behind a part; the signs' functions in that form. The document's reader: declarations. The document's reader: paths. The document's reader: sides. The document's reader: values.
-/
import Derived.Test.YtcehbcnloiooaaaGreatDoorM13
import Derived.Test.YtcehbcnloiooaaaGreatDoorM05
import Derived.Test.YtcehbcnloiooaaaGreatDoorM06
import Derived.Deep.LoopGhost
import Derived.Deep.DeepCutAuto
set_option maxHeartbeats 6400000
set_option maxRecDepth 100000
namespace Go.Proofs.YtcehbcnloiooaaaGreatDoor
open Go.RowKit Go.Sort
structure RC (l:List Tx.Sg) (N:Nat):Prop where
 kinds:Pa.Gk l
 good:Good l
 len:l.length≤N
 top:N≤900000
def RM {α:Type} (w:World) (rb sb cap:Nat) (l:List Tx.Sg) (o:Int) (N:Nat) (r:Pr.Res α):Prop:=match r with
 |.ok (_,u)=>RS w rb sb cap l u.i u.o u.b 0 0∧u.i<l.length∧u.o=o∧0≤u.b∧u.b≤400
 |.error _=> ∃(k:Nat) (b a e:Int),e≠0∧k≤N∧0≤b∧b≤400∧RS w rb sb cap l k o b a e
def RP {β:Type} (K:World→Value→β→Prop) (w:World) (rb sb cap:Nat) (l:List Tx.Sg) (o:Int) (N:Nat) (r:Pr.Res β) (en:Ending) (w':World):Prop:=
 w.grownBy w' (some rb)∧∃v x,en= .returned v∧K w' v x∧(∀y u,r= .ok (y,u)→x=y)∧RM w' rb sb cap l o N r
section
variable {α:Type} {rb sb cap:Nat} {l:List Tx.Sg} {o:Int} {N:Nat}
theorem RM.below {w w':World} {r:Pr.Res α} (h:RM w rb sb cap l o N r) (hb:Below w.heap.size w w'):RM w' rb sb cap l o N r:=by
 rcases r with n |⟨x,u⟩
 ·obtain ⟨k,b,a,e,h1,h2,h3,h4,h5⟩:=h;exact ⟨k,b,a,e,h1,h2,h3,h4,h5.below hb⟩
 ·exact ⟨h.1.below hb,h.2⟩
theorem RM.far {w w':World} {r:Pr.Res α} {R:Nat} (h:RM w rb sb cap l o N r) (hg:w.grownBy w' (some R)) (h1:R≠rb) (h2:R≠sb):RM w' rb sb cap l o N r:=by
 rcases r with n |⟨x,u⟩
 ·obtain ⟨k,b,a,e,e1,e2,e3,e4,e5⟩:=h;exact ⟨k,b,a,e,e1,e2,e3,e4,e5.far hg h1 h2⟩
 ·exact ⟨h.1.far hg h1 h2,h.2⟩
theorem RM.rs {w:World} {r:Pr.Res α} (h:RM w rb sb cap l o N r): ∃(k:Nat) (b a e:Int),RS w rb sb cap l k o b a e:=by
 rcases r with n |⟨x,u⟩
 ·obtain ⟨k,b,a,e,e1,e2,e3,e4,e5⟩:=h;exact ⟨k,b,a,e,e5⟩
 ·obtain ⟨h1,h2,rfl,h3⟩:=h;exact ⟨_,_,_,_,h1⟩
theorem RM.rb_lt {w:World} {r:Pr.Res α} (h:RM w rb sb cap l o N r):rb<w.heap.size:=by obtain ⟨k,b,a,e,h⟩:=h.rs;exact h.rb_lt
theorem RM.sb_lt {w:World} {r:Pr.Res α} (h:RM w rb sb cap l o N r):sb<w.heap.size:=by obtain ⟨k,b,a,e,h⟩:=h.rs;exact h.sb_lt
theorem RM.as {β:Type} {w:World} {r:Pr.Res α} (h:RM w rb sb cap l o N r) (s:Pr.Res β) (hs:Pr.th r (fun _ u=> .ok ((),u))=Pr.th s (fun _ u=> .ok ((),u))∨((∃n,r= .error n)∧∃n,s= .error n)):RM w rb sb cap l o N s:=by
 rcases hs with hs |⟨⟨n,rfl⟩,⟨m,rfl⟩⟩
 ·rcases r with n |⟨x,u⟩<;>rcases s with m |⟨y,v⟩
  ·exact h
  ·simp[Pr.th] at hs
  ·simp[Pr.th] at hs
  ·simp only[Pr.th,Except.ok.injEq,Prod.mk.injEq,true_and] at hs;subst hs;exact h
 ·exact h
theorem more_rsg (C:RC l N) {i:Nat} (h:i<l.length) (hk:(rsg l i).kind≠0):i+1<l.length:=by
 have h0:=rsg_mem i (Nat.lt_of_le_of_lt (Nat.zero_le _) h)
 rw[Nat.min_eq_left (by omega)] at h0
 exact C.good.more h0 hk
def KName (_:World) (v:Value) (x:Tx.Sg):Prop:=v= .tuple #[.string x.text,.int .i64 x.pos]
theorem name_m (C:RC l N) (w:World) (r0:Pr.Res α) (h:RM w rb sb cap l o N r0):
  Calls Tryz.prog 55 #[.pointer (some ⟨rb,0,none⟩)] w (RP KName w rb sb cap l o N (Pr.th r0 fun _ u=>Pa.name l u)):=by
 have hN:=C.len;have hT:=C.top
 rcases r0 with n |⟨x,u⟩
 ·obtain ⟨k,b,a,e,he,hk,hb0,hb1,hs⟩:=h
  refine (rname_any w hs (by omega)).mono ?_
  rintro en w1 ⟨hg,hh⟩
  rw[if_neg (fun hc=>he hc.1)] at hh
  obtain ⟨rfl,a',e',he',hs'⟩:=hh
  exact ⟨hg,_,⟨0,0,ByteArray.empty,0⟩,rfl,rfl,(by intro y u hc;cases hc),k,b,a',e',he',hk,hb0,hb1,hs'⟩
 ·obtain ⟨hs,hi,rfl,hb0,hb1⟩:=h
  refine (rname_any w hs (by omega)).mono ?_
  rintro en w1 ⟨hg,hh⟩
  have hx:=rsg_lt hi
  by_cases k1:(rsg l u.i).kind=1
  ·rw[if_pos ⟨rfl,k1⟩] at hh
   obtain ⟨rfl,hs'⟩:=hh
   have hn:Pr.th (.ok (x,u)) (fun _ u=>Pa.name l u)= .ok (rsg l u.i,u.go):=by
    show Pa.name l u=_;unfold Pa.name;rw[←hx,if_pos k1]
   rw[hn]
   exact ⟨hg,_,rsg l u.i,rfl,rfl,(fun y v hc=>by cases hc;rfl),hs',more_rsg C hi (by rw[k1];decide),rfl,hb0,hb1⟩
  ·rw[if_neg (fun hc=>k1 hc.2)] at hh
   obtain ⟨rfl,a',e',he',hs'⟩:=hh
   have hn:Pr.th (.ok (x,u)) (fun _ u=>Pa.name l u)= .error (5,u.i):=by
    show Pa.name l u=_;unfold Pa.name;rw[←hx,if_neg k1]
   rw[hn]
   exact ⟨hg,_,⟨0,0,ByteArray.empty,0⟩,rfl,rfl,(by intro y u hc;cases hc),u.i,u.b,a',e',he',by omega,hb0,hb1,hs'⟩
def QTm (_:World) (v:Value) (x:Tm):Prop:=v= .agg x.cells.toArray
theorem term_m (C:RC l N) (w:World) (r0:Pr.Res α) (h:RM w rb sb cap l o N r0):
  Calls Tryz.prog 134 #[.pointer (some ⟨rb,0,none⟩)] w (RP QTm w rb sb cap l o N (Pr.th r0 fun _ u=>Pa.term l u)):=by
 have hN:=C.len;have hT:=C.top
 rcases r0 with n |⟨x,u⟩
 ·obtain ⟨k,b,a,e,he,hk,hb0,hb1,hs⟩:=h
  refine (rterm_any w hs (by omega)).mono ?_
  rintro en w1 ⟨hg,hh⟩
  rw[if_neg (fun hc=>he hc.1),if_neg (fun hc=>he hc.1)] at hh
  obtain ⟨rfl,a',e',he',hs'⟩:=hh
  exact ⟨hg,_,⟨ByteArray.empty,0,0⟩,rfl,rfl,(by intro y u hc;cases hc),k,b,a',e',he',hk,hb0,hb1,hs'⟩
 ·obtain ⟨hs,hi,rfl,hb0,hb1⟩:=h
  refine (rterm_any w hs (by omega)).mono ?_
  rintro en w1 ⟨hg,hh⟩
  have hx:=rsg_lt hi
  by_cases k2:(rsg l u.i).kind=2
  ·rw[if_pos ⟨rfl,k2⟩] at hh
   obtain ⟨rfl,hs'⟩:=hh
   have hn:Pr.th (.ok (x,u)) (fun _ u=>Pa.term l u)= .ok (⟨ByteArray.empty,(rsg l u.i).num,(rsg l u.i).pos⟩,u.go):=by
    show Pa.term l u=_;unfold Pa.term;rw[←hx,if_pos k2]
   rw[hn]
   exact ⟨hg,_,⟨ByteArray.empty,(rsg l u.i).num,(rsg l u.i).pos⟩,rfl,rfl,(fun y v hc=>by cases hc;rfl),hs',more_rsg C hi (by rw[k2];decide),rfl,hb0,hb1⟩
  ·rw[if_neg (fun hc=>k2 hc.2)] at hh
   by_cases k1:(rsg l u.i).kind=1
   ·rw[if_pos ⟨rfl,k1⟩] at hh
    obtain ⟨rfl,hs'⟩:=hh
    have hn:Pr.th (.ok (x,u)) (fun _ u=>Pa.term l u)= .ok (⟨(rsg l u.i).text,0,(rsg l u.i).pos⟩,u.go):=by
     show Pa.term l u=_;unfold Pa.term Pa.name;rw[←hx,if_neg k2,if_pos k1];rfl
    rw[hn]
    exact ⟨hg,_,⟨(rsg l u.i).text,0,(rsg l u.i).pos⟩,rfl,rfl,(fun y v hc=>by cases hc;rfl),hs',more_rsg C hi (by rw[k1];decide),rfl,hb0,hb1⟩
   ·rw[if_neg (fun hc=>k1 hc.2)] at hh
    obtain ⟨rfl,a',e',he',hs'⟩:=hh
    have hn:Pr.th (.ok (x,u)) (fun _ u=>Pa.term l u)= .error (5,u.i):=by
     show Pa.term l u=_;unfold Pa.term Pa.name;rw[←hx,if_neg k2,if_neg k1];rfl
    rw[hn]
    exact ⟨hg,_,⟨ByteArray.empty,0,0⟩,rfl,rfl,(by intro y u hc;cases hc),u.i,u.b,a',e',he',by omega,hb0,hb1,hs'⟩
theorem want_m (C:RC l N) (s:ByteArray) (hs:Pa.lit s.data.toList=true) (w:World) (r0:Pr.Res α) (h:RM w rb sb cap l o N r0):
  Calls Tryz.prog 30 #[.pointer (some ⟨rb,0,none⟩),.string s] w fun en w'=>en= .returned (.tuple #[])∧w.grownBy w' (some rb)∧RM w' rb sb cap l o N (Pr.th r0 fun _ u=>Pr.must (Pa.ts l) s u):=by
 have hN:=C.len;have hT:=C.top
 rcases r0 with n |⟨x,u⟩
 ·obtain ⟨k,b,a,e,he,hk,hb0,hb1,h5⟩:=h
  refine (want_err s w h5 C.kinds hs he).mono ?_
  rintro en w1 ⟨rfl,hb⟩
  exact ⟨rfl,grownBy_of hb _,k,b,a,e,he,hk,hb0,hb1,h5.below hb⟩
 ·obtain ⟨h5,hi,rfl,hb0,hb1⟩:=h
  rcases q:isNx l u.i s with _ |_
  ·refine (want_no s w h5 C.kinds hs q).mono ?_
   rintro en w1 ⟨rfl,h6,hg⟩
   have hn:Pr.th (.ok (x,u)) (fun _ u=>Pr.must (Pa.ts l) s u)= .error (5,u.i):=by
    show Pr.must _ s u=_;unfold Pr.must;rw[←isNx_pr hi,q,if_neg (by decide)]
   rw[hn]
   exact ⟨rfl,hg,u.i,u.b,_,5,by decide,by omega,hb0,hb1,h6⟩
  ·refine (want_yes s w h5 C.kinds hs q (by omega)).mono ?_
   rintro en w1 ⟨rfl,h6,hg⟩
   have hn:Pr.th (.ok (x,u)) (fun _ u=>Pr.must (Pa.ts l) s u)= .ok (Pr.sg (Pa.ts l) u.i,u.go):=by
    show Pr.must _ s u=_;unfold Pr.must;rw[←isNx_pr hi,q,if_pos rfl]
   rw[hn]
   exact ⟨rfl,hg,h6,more_rsg C hi (by rcases isNx_kind C.kinds h5.pos hs q with hh |hh<;>rw[hh]<;>decide),rfl,hb0,hb1⟩
theorem take_m (C:RC l N) (s:ByteArray) (hs:Pa.lit s.data.toList=true) (w:World) (r0:Pr.Res α) (h:RM w rb sb cap l o N r0):
  Calls Tryz.prog 26 #[.pointer (some ⟨rb,0,none⟩),.string s] w fun en w'=>w.grownBy w' (some rb)∧
   ((en= .returned (.bool true)∧∃x u,r0= .ok (x,u)∧Pr.is (Pa.ts l) u.i s=true∧RM w' rb sb cap l o N (Except.ok (x,u.go):Pr.Res α))∨
   (en= .returned (.bool false)∧(∀x u,r0= .ok (x,u)→Pr.is (Pa.ts l) u.i s=false)∧RM w' rb sb cap l o N r0)):=by
 have hN:=C.len;have hT:=C.top
 rcases r0 with n |⟨x,u⟩
 ·obtain ⟨k,b,a,e,he,hk,hb0,hb1,h5⟩:=h
  refine (take_no s w h5 C.kinds hs (by rw[decide_eq_false he];rfl)).mono ?_
  rintro en w1 ⟨rfl,hb⟩
  exact ⟨grownBy_of hb _,.inr ⟨rfl,(by intro y u hc;cases hc),k,b,a,e,he,hk,hb0,hb1,h5.below hb⟩⟩
 ·obtain ⟨h5,hi,rfl,hb0,hb1⟩:=h
  rcases q:isNx l u.i s with _ |_
  ·refine (take_no s w h5 C.kinds hs (by rw[q];rfl)).mono ?_
   rintro en w1 ⟨rfl,hb⟩
   exact ⟨grownBy_of hb _,.inr ⟨rfl,(by intro y v hc;cases hc;rw[←isNx_pr hi,q]),h5.below hb,hi,rfl,hb0,hb1⟩⟩
  ·refine (take_yes s w h5 C.kinds hs q (by omega)).mono ?_
   rintro en w1 ⟨rfl,h6,hg⟩
   exact ⟨hg,.inl ⟨rfl,x,u,rfl,by rw[←isNx_pr hi,q],h6,more_rsg C hi (by rcases isNx_kind C.kinds h5.pos hs q with hh |hh<;>rw[hh]<;>decide),rfl,hb0,hb1⟩⟩
theorem is_m (C:RC l N) (s:ByteArray) (hs:Pa.lit s.data.toList=true) (w:World) (r0:Pr.Res α) (h:RM w rb sb cap l o N r0):
  Calls Tryz.prog 54 #[.pointer (some ⟨rb,0,none⟩),.string s] w fun en w'=>Below w.heap.size w w'∧
   ((en= .returned (.bool true)∧∃x u,r0= .ok (x,u)∧Pr.is (Pa.ts l) u.i s=true∧u.i+1<l.length)∨
   (en= .returned (.bool false)∧(∀x u,r0= .ok (x,u)→Pr.is (Pa.ts l) u.i s=false))):=by
 rcases r0 with n |⟨x,u⟩
 ·obtain ⟨k,b,a,e,he,hk,hb0,hb1,h5⟩:=h
  refine (is_any s w h5 C.kinds hs).mono ?_
  rintro en w1 ⟨rfl,hb⟩
  exact ⟨hb,.inr ⟨by rw[decide_eq_false he];rfl,by intro y u hc;cases hc⟩⟩
 ·obtain ⟨h5,hi,rfl,hb0,hb1⟩:=h
  refine (is_any s w h5 C.kinds hs).mono ?_
  rintro en w1 ⟨rfl,hb⟩
  refine ⟨hb, ?_⟩
  rcases q:isNx l u.i s with _ |_
  ·exact .inr ⟨rfl,by intro y v hc;cases hc;rw[←isNx_pr hi,q]⟩
  ·exact .inl ⟨rfl,x,u,rfl,by rw[←isNx_pr hi,q],more_rsg C hi (by rcases isNx_kind C.kinds h5.pos hs q with hh |hh<;>rw[hh]<;>decide)⟩
theorem now_m (w:World) (r0:Pr.Res α) (h:RM w rb sb cap l o N r0):
  Calls Tryz.prog 25 #[.pointer (some ⟨rb,0,none⟩)] w fun en w'=>Below w.heap.size w w'∧∃x:Tx.Sg,en= .returned (.agg #[.int .i64 x.kind,.int .i64 x.pos,.string x.text,.int .i64 x.num])∧∀y u,r0= .ok (y,u)→x=Pa.sg l u.i:=by
 rcases r0 with n |⟨x,u⟩
 ·obtain ⟨k,b,a,e,he,hk,hb0,hb1,h5⟩:=h
  refine (now_any w h5).mono ?_
  rintro en w1 ⟨rfl,hb⟩
  exact ⟨hb,_,rfl,by intro y u hc;cases hc⟩
 ·obtain ⟨h5,hi,rfl,hb0,hb1⟩:=h
  refine (now_any w h5).mono ?_
  rintro en w1 ⟨rfl,hb⟩
  exact ⟨hb,_,rfl,by intro y v hc;cases hc;exact rsg_lt hi⟩
theorem stop_m (C:RC l N) (p n:Int) (hn:n≠0) (w:World) (r0:Pr.Res α) (h:RM w rb sb cap l o N r0):
  Calls Tryz.prog 58 #[.pointer (some ⟨rb,0,none⟩),.int .i64 p,.int .i64 n] w fun en w'=>en= .returned (.tuple #[])∧w.grownBy w' (some rb)∧RM w' rb sb cap l o N (Except.error (n,0):Pr.Res α):=by
 have hN:=C.len
 rcases r0 with m |⟨x,u⟩
 ·obtain ⟨k,b,a,e,he,hk,hb0,hb1,h5⟩:=h
  refine (stop_err p n w h5 he).mono ?_
  rintro en w1 ⟨rfl,rfl⟩
  exact ⟨rfl,grownBy_of (Below.refl _ _) _,k,b,a,e,he,hk,hb0,hb1,h5⟩
 ·obtain ⟨h5,hi,rfl,hb0,hb1⟩:=h
  refine (stop_one p n w h5).mono ?_
  rintro en w1 ⟨rfl,h6,hg⟩
  exact ⟨rfl,hg,u.i,u.b,p,n,hn,by omega,hb0,hb1,h6⟩
end
end Go.Proofs.YtcehbcnloiooaaaGreatDoor
namespace Go.Proofs.YtcehbcnloiooaaaGreatDoor
open Go.RowKit Go.Sort
def QDc (_:World) (v:Value) (x:Dc):Prop:=v= .agg #[.string x.type,.string x.name,.int .i64 x.pos]
theorem rdecl_result {w2:World} {t n:ByteArray} {p:Int} {R:Nat} {a b c:Value} (hk:Bk w2 R 65 #[a,b,c]):
  Bk (((w2.setCell ⟨R,0,none⟩ (.string t)).setCell ⟨R,1,none⟩ (.string n)).setCell ⟨R,2,none⟩ (.int .i64 p)) R 65 #[.string t,.string n,.int .i64 p]∧
  w2.grownBy (((w2.setCell ⟨R,0,none⟩ (.string t)).setCell ⟨R,1,none⟩ (.string n)).setCell ⟨R,2,none⟩ (.int .i64 p)) (some R):=
 ⟨((hk.set_ 0 _).set_ 1 _).set_ 2 _,grownBy_tr (grownBy_tr (grownBy_setC _ ⟨R,0,none⟩ _) (grownBy_setC _ ⟨R,1,none⟩ _)) (grownBy_setC _ ⟨R,2,none⟩ _)⟩
section
variable {α:Type} {rb sb cap:Nat} {l:List Tx.Sg} {o:Int} {N:Nat}
theorem decl_m (C:RC l N) (w:World) (r0:Pr.Res α) (h:RM w rb sb cap l o N r0):
  Calls Tryz.prog 29 #[.pointer (some ⟨rb,0,none⟩)] w (RP QDc w rb sb cap l o N (Pr.th r0 fun _ u=>Pa.variable_ l u)):=by
 have HC:=hdn C
 obtain ⟨r,hr⟩: ∃r,r=Pr.th r0 fun _ u=>Pa.variable_ l u:=⟨_,rfl⟩
 rw[←hr]
 have HR:=hdn hr
 have hn:Below w.heap.size w (w.alloc (.cells #[.string ByteArray.empty,.string ByteArray.empty,.int .i64 0] 65)):=(Below.refl _ _).alloc (Nat.le_refl _) _
 have HM:=hdn (h.below hn)
 have HK:Hid (Bk (w.alloc (.cells #[.string ByteArray.empty,.string ByteArray.empty,.int .i64 0] 65)) w.heap.size 65 #[.string ByteArray.empty,.string ByteArray.empty,.int .i64 0]):=hdn (heap_alloc_new _ _)
 have HNE:Hid (w.heap.size≠rb∧w.heap.size≠sb):=hdn ⟨by have:=h.rb_lt;omega,by have:=h.sb_lt;omega⟩
 have HG:Hid (w.grownBy (w.alloc (.cells #[.string ByteArray.empty,.string ByteArray.empty,.int .i64 0] 65)) (some rb)):=hdn (grownBy_of hn _)
 generalize hwA:w.alloc (.cells #[.string ByteArray.empty,.string ByteArray.empty,.int .i64 0] 65)=wA at HM HK HG
 clear h hr hn
 go_enter Tryz.func29,Tryz.ntmps29
 go_upto_region 1 with fail
 rw[show w.alloc (.cells #[.string ⟨#[]⟩,.string ⟨#[]⟩,.int .i64 0] 65)=wA from hwA]
 clear hwA
 obtain ⟨A,hA⟩: ∃A,A=w.heap.size:=⟨_,rfl⟩
 have HA:=hdn hA
 rw[←hA] at HK HNE ⊢
 clear hA
 go_upto_region 2 with fail
 have hn:Below wA.heap.size wA (wA.alloc (.cells #[.string ByteArray.empty,.string ByteArray.empty,.int .i64 0] 65)):=(Below.refl _ _).alloc (Nat.le_refl _) _
 have HM1:=hdn (HM.out.below hn)
 have HK1:=hdn (HK.out.below hn HK.out.lt)
 have HS1:Hid (Bk (wA.alloc (.cells #[.string ByteArray.empty,.string ByteArray.empty,.int .i64 0] 65)) wA.heap.size 65 #[.string ByteArray.empty,.string ByteArray.empty,.int .i64 0]):=hdn (heap_alloc_new _ _)
 have HNS:Hid (wA.heap.size≠rb∧wA.heap.size≠sb∧A≠wA.heap.size∧w.heap.size≤wA.heap.size):=hdn ⟨by have:=HM.out.rb_lt;omega,by have:=HM.out.sb_lt;omega,by have:=HK.out.lt;omega,HG.out.size⟩
 have HG1:=hdn (grownBy_below HG.out hn)
 change Code.wp _ _ _ _ (wA.alloc (.cells #[.string ByteArray.empty,.string ByteArray.empty,.int .i64 0] 65))
 generalize wA.alloc (.cells #[.string ByteArray.empty,.string ByteArray.empty,.int .i64 0] 65)=w1 at HM1 HK1 HS1 HG1 ⊢
 clear hn HM HK HG
 generalize wA.heap.size=S at*
 go_wp2_with fail
 refine (take_m HC.out ⟨#[105,110,116]⟩ (by decide) w1 r0 HM1.out).mono ?_
 rintro en w2 ⟨g2,hh⟩
 have HK2:=hdn (HK1.out.kept g2 HNE.out.1)
 have HS2:=hdn (HS1.out.kept g2 HNS.out.1)
 have HG2:=hdn (grownBy_tr HG1.out g2)
 clear g2 HM1 HK1 HS1 HG1
 rcases hh with ⟨rfl,x,u,hr0,hi,hm⟩|⟨rfl,hf,hm⟩
 ·have HR0:=hdn hr0
  have HI:=hdn hi
  have HM4:=hdn hm
  clear hr0 hi hm
  go_wp2_with fail
  refine (name_m HC.out w2 _ HM4.out).mono ?_
  rintro en w5 ⟨g5,_,y,rfl,rfl,hy,hm⟩
  have HY:=hdn hy
  have HM5:=hdn hm
  have HK5:=hdn (HK2.out.kept g5 HNE.out.1)
  have HS5:=hdn (HS2.out.kept g5 HNS.out.1)
  have HG5:=hdn (grownBy_tr HG2.out g5)
  clear hy hm g5
  have f1:=HS5.out.frozen 1
  have f2:=HS5.out.frozen 2
  have c1:=HS5.out.cell 1
  have c2:=HS5.out.cell 2
  go_upto_region 6 with fail
  clear f1 f2 c1 c2
  have gs:w5.grownBy ((w5.setCell ⟨S,1,none⟩ (.string y.text)).setCell ⟨S,2,none⟩ (.int .i64 y.pos)) (some S):=grownBy_tr (grownBy_setC _ ⟨S,1,none⟩ _) (grownBy_setC _ ⟨S,2,none⟩ _)
  have HS6:Hid (Bk ((w5.setCell ⟨S,1,none⟩ (.string y.text)).setCell ⟨S,2,none⟩ (.int .i64 y.pos)) S 65 #[.string ByteArray.empty,.string y.text,.int .i64 y.pos]):=hdn ((HS5.out.set_ 1 _).set_ 2 _)
  have HM6:=hdn (HM5.out.far gs HNS.out.1 HNS.out.2.1)
  have HK6:=hdn (HK5.out.kept gs HNS.out.2.2.1)
  have HG6:=hdn (grownBy_up HG5.out gs (fun q hq=>by injection hq with hq;have:=HNS.out;omega))
  clear gs
  generalize (w5.setCell ⟨S,1,none⟩ (.string y.text)).setCell ⟨S,2,none⟩ (.int .i64 y.pos)=w6 at HS6 HM6 HK6 HG6 ⊢
  have s0:=HS6.out.cell 0
  have s1:=HS6.out.cell 1
  have s2:=HS6.out.cell 2
  have r0':=HK6.out.cell 0
  have r1':=HK6.out.cell 1
  have r2':=HK6.out.cell 2
  have f0:=HK6.out.frozen 0
  have f1:=HK6.out.frozen 1
  have f2:=HK6.out.frozen 2
  simp only[List.getElem?_toArray,List.getElem?_cons_zero,List.getElem?_cons_succ] at s0 s1 s2 r0' r1' r2'
  go_wp2_with fail
  clear s0 s1 s2 r0' r1' r2' f0 f1 f2
  obtain ⟨hB,hF⟩:=rdecl_result (t:=ByteArray.empty) (n:=y.text) (p:=y.pos) HK6.out
  generalize ((w6.setCell ⟨A,0,none⟩ (.string ByteArray.empty)).setCell ⟨A,1,none⟩ (.string y.text)).setCell ⟨A,2,none⟩ (.int .i64 y.pos)=w7 at hB hF ⊢
  have e0:=hB.cell 0
  have e1:=hB.cell 1
  have e2:=hB.cell 2
  have hm:=HM6.out.far hF HNE.out.1 HNE.out.2
  have hg:=grownBy_up HG6.out hF (fun q hq=>by injection hq with hq;have:=HA.out;omega)
  have hy:=HY.out
  refine bodyPost_ret (v:= .agg #[.string ByteArray.empty,.string y.text,.int .i64 y.pos]) (by simp[results,Tryz.results29,go_sem,e0,e1,e2]) rfl ?_
  rw[HR.out]
  rw[HR0.out]
  have hv:Pr.th (Except.ok (x,u)) (fun _ u=>Pa.variable_ l u)=Pr.th (Pa.name l u.go) (fun x v=> .ok (⟨ByteArray.empty,x.text,x.pos⟩,v)):=by
   show Pa.variable_ l u=_;unfold Pa.variable_;rw[if_pos HI.out]
  rw[hv]
  refine ⟨hg,_,⟨ByteArray.empty,y.text,y.pos⟩,rfl,rfl, ?_, ?_⟩
  ·intro z v hz
   rcases q:Pa.name l u.go with n |⟨b,u2⟩
   ·rw[q] at hz;cases hz
   ·rw[q] at hz;cases hz;rw[hy b _ q]
  ·refine hm.as _ ?_
   show Pr.th (Pa.name l u.go) _=_∨_
   rcases q:Pa.name l u.go with n |⟨b,u2⟩
   ·exact .inl rfl
   ·exact .inl rfl
 ·have HF:=hdn hf
  have HM2:=hdn hm
  clear hf hm
  go_wp2_with fail
  refine (name_m HC.out w2 r0 HM2.out).mono ?_
  rintro en w3 ⟨g3,_,x,rfl,rfl,hx,hm⟩
  have HX:=hdn hx
  have HM3:=hdn hm
  have HK3:=hdn (HK2.out.kept g3 HNE.out.1)
  have HS3:=hdn (HS2.out.kept g3 HNS.out.1)
  have HG3:=hdn (grownBy_tr HG2.out g3)
  clear hx hm g3
  have f0:=HS3.out.frozen 0
  have c0:=HS3.out.cell 0
  go_upto_region 4 with fail
  clear f0 c0
  have gs:w3.grownBy (w3.setCell ⟨S,0,none⟩ (.string x.text)) (some S):=grownBy_setC _ ⟨S,0,none⟩ _
  have HS4:Hid (Bk (w3.setCell ⟨S,0,none⟩ (.string x.text)) S 65 #[.string x.text,.string ByteArray.empty,.int .i64 0]):=hdn (HS3.out.set_ 0 _)
  have HM4:=hdn (HM3.out.far gs HNS.out.1 HNS.out.2.1)
  have HK4:=hdn (HK3.out.kept gs HNS.out.2.2.1)
  have HG4:=hdn (grownBy_up HG3.out gs (fun q hq=>by injection hq with hq;have:=HNS.out;omega))
  clear gs
  generalize w3.setCell ⟨S,0,none⟩ (.string x.text)=w4 at HS4 HM4 HK4 HG4 ⊢
  go_wp2_with fail
  refine (want_m HC.out ⟨#[42]⟩ (by decide) w4 _ HM4.out).mono ?_
  rintro en w8 ⟨rfl,g8,hm⟩
  have HM8:=hdn hm
  have HK8:=hdn (HK4.out.kept g8 HNE.out.1)
  have HS8:=hdn (HS4.out.kept g8 HNS.out.1)
  have HG8:=hdn (grownBy_tr HG4.out g8)
  clear hm g8
  go_wp2_with fail
  refine (name_m HC.out w8 _ HM8.out).mono ?_
  rintro en w5 ⟨g5,_,y,rfl,rfl,hy,hm⟩
  have HY:=hdn hy
  have HM5:=hdn hm
  have HK5:=hdn (HK8.out.kept g5 HNE.out.1)
  have HS5:=hdn (HS8.out.kept g5 HNS.out.1)
  have HG5:=hdn (grownBy_tr HG8.out g5)
  clear hy hm g5
  have f1:=HS5.out.frozen 1
  have f2:=HS5.out.frozen 2
  have c1:=HS5.out.cell 1
  have c2:=HS5.out.cell 2
  go_upto_region 6 with fail
  clear f1 f2 c1 c2
  have gs:w5.grownBy ((w5.setCell ⟨S,1,none⟩ (.string y.text)).setCell ⟨S,2,none⟩ (.int .i64 y.pos)) (some S):=grownBy_tr (grownBy_setC _ ⟨S,1,none⟩ _) (grownBy_setC _ ⟨S,2,none⟩ _)
  have HS6:Hid (Bk ((w5.setCell ⟨S,1,none⟩ (.string y.text)).setCell ⟨S,2,none⟩ (.int .i64 y.pos)) S 65 #[.string x.text,.string y.text,.int .i64 y.pos]):=hdn ((HS5.out.set_ 1 _).set_ 2 _)
  have HM6:=hdn (HM5.out.far gs HNS.out.1 HNS.out.2.1)
  have HK6:=hdn (HK5.out.kept gs HNS.out.2.2.1)
  have HG6:=hdn (grownBy_up HG5.out gs (fun q hq=>by injection hq with hq;have:=HNS.out;omega))
  clear gs
  generalize (w5.setCell ⟨S,1,none⟩ (.string y.text)).setCell ⟨S,2,none⟩ (.int .i64 y.pos)=w6 at HS6 HM6 HK6 HG6 ⊢
  have s0:=HS6.out.cell 0
  have s1:=HS6.out.cell 1
  have s2:=HS6.out.cell 2
  have r0':=HK6.out.cell 0
  have r1':=HK6.out.cell 1
  have r2':=HK6.out.cell 2
  have f0:=HK6.out.frozen 0
  have f1:=HK6.out.frozen 1
  have f2:=HK6.out.frozen 2
  simp only[List.getElem?_toArray,List.getElem?_cons_zero,List.getElem?_cons_succ] at s0 s1 s2 r0' r1' r2'
  go_wp2_with fail
  clear s0 s1 s2 r0' r1' r2' f0 f1 f2
  obtain ⟨hB,hF⟩:=rdecl_result (t:=x.text) (n:=y.text) (p:=y.pos) HK6.out
  generalize ((w6.setCell ⟨A,0,none⟩ (.string x.text)).setCell ⟨A,1,none⟩ (.string y.text)).setCell ⟨A,2,none⟩ (.int .i64 y.pos)=w7 at hB hF ⊢
  have e0:=hB.cell 0
  have e1:=hB.cell 1
  have e2:=hB.cell 2
  have hm:=HM6.out.far hF HNE.out.1 HNE.out.2
  have hg:=grownBy_up HG6.out hF (fun q hq=>by injection hq with hq;have:=HA.out;omega)
  have hy:=HY.out
  refine bodyPost_ret (v:= .agg #[.string x.text,.string y.text,.int .i64 y.pos]) (by simp[results,Tryz.results29,go_sem,e0,e1,e2]) rfl ?_
  rw[HR.out]
  have hx:=HX.out
  have hf:=HF.out
  clear HM6 HM5 HM2 HM3 HM4 HM8 HR
  rcases r0 with n |⟨x0,u⟩
  ·exact ⟨hg,_,⟨x.text,y.text,y.pos⟩,rfl,rfl,(by intro y u hc;cases hc),hm⟩
  have hv:Pr.th (Except.ok (x0,u)) (fun _ u=>Pa.variable_ l u)=Pa.pointer l u:=by
   show Pa.variable_ l u=_;unfold Pa.variable_;rw[if_neg (by rw[hf _ _ rfl];decide)]
  rw[hv]
  unfold Pa.pointer
  refine ⟨hg,_,⟨x.text,y.text,y.pos⟩,rfl,rfl, ?_, ?_⟩
  ·intro z v hz
   rcases q1:Pa.name l u with n |⟨a1,u1⟩
   ·rw[q1] at hz;cases hz
   rcases q2:Pr.must (Pa.ts l) ⟨#[42]⟩ u1 with n |⟨a2,u2⟩
   ·rw[q1] at hz;simp only[Pr.th,q2] at hz;cases hz
   rcases q3:Pa.name l u2 with n |⟨a3,u3⟩
   ·rw[q1] at hz;simp only[Pr.th,q2,q3] at hz;cases hz
   ·rw[q1] at hz;simp only[Pr.th,q2,q3] at hz;injection hz with hz;injection hz with h1 h2;subst h1
    rw[hx a1 u1 (by show Pa.name l u=_;exact q1),hy a3 u3 (by show Pr.th (Pr.th (Pa.name l u) _) _=_;rw[q1];simp only[Pr.th,q2,q3])]
  ·refine hm.as _ ?_
   show Pr.th (Pr.th (Pr.th (Pa.name l u) _) _) _=_∨_
   rcases q1:Pa.name l u with n |⟨a1,u1⟩
   ·exact .inl rfl
   rcases q2:Pr.must (Pa.ts l) ⟨#[42]⟩ u1 with n |⟨a2,u2⟩
   ·left;simp only[Pr.th,q2]
   rcases q3:Pa.name l u2 with n |⟨a3,u3⟩
   ·left;simp only[Pr.th,q2,q3]
   ·left;simp only[Pr.th,q2,q3]
end
end Go.Proofs.YtcehbcnloiooaaaGreatDoor
namespace Go.Proofs.YtcehbcnloiooaaaGreatDoor
open Go.RowKit Go.Sort
attribute [local go_sem] field72_0 field72_1 field72_2 field72_3
def qHp:Kd Hp:=⟨106,2,24,Hp.cells,id,fun _ _=>True,fun _=>rfl,fun _=>by simp[Value.oneCell'],fun _ _ _=>trivial⟩
def qPth:Kd Pth:=⟨40,3,40,Pth.cells,fun x=>⟨x.name,x.pos,⟨none,0,x.hops.l⟩⟩,fun w x=>hopsLie w x.hops,fun _=>rfl,fun _=>by simp[Value.oneCell'],fun _ h k=>hopsLie_ext h k⟩
theorem qinfHp: ∃i,qHp.Inf Tryz.prog 38 i (.agg #[.string ByteArray.empty,.int .i64 0]):=by
 obtain ⟨i,h1,h2,h3,h4⟩:=info_parts zinfoHp
 exact ⟨i,Tryz.underlying38,h1,h2,h3,h4,rfl,by decide⟩
theorem RS.grown {w w':World} {rb sb cap:Nat} {l:List Tx.Sg} {k:Nat} {o b a e:Int} {r:Option Nat} (h:RS w rb sb cap l k o b a e) (hg:w.grownBy w' r) (h1: ∀q,r=some q→q≠rb∧q≠sb):RS w' rb sb cap l k o b a e:=
 ⟨h.blk.grown hg (fun q hq=>(h1 q hq).1),fun j x hx i v hv=>hg.cell (h.row j x hx i v hv) (fun e=>(h1 _ e.symm).2 rfl),h.ne,h.pos,h.len,h.kb⟩
theorem RM.grown {α:Type} {rb sb cap:Nat} {l:List Tx.Sg} {o:Int} {N:Nat} {w w':World} {r:Pr.Res α} {R:Option Nat} (h:RM w rb sb cap l o N r) (hg:w.grownBy w' R) (h1: ∀q,R=some q→q≠rb∧q≠sb):RM w' rb sb cap l o N r:=by
 rcases r with n |⟨x,u⟩
 ·obtain ⟨k,b,a,e,e1,e2,e3,e4,e5⟩:=h;exact ⟨k,b,a,e,e1,e2,e3,e4,e5.grown hg h1⟩
 ·exact ⟨h.1.grown hg h1,h.2⟩
section
variable {α:Type} {rb sb cap:Nat} {l:List Tx.Sg} {o:Int} {N:Nat}
theorem path_m (C:RC l N) (w:World) (r0:Pr.Res α) (h:RM w rb sb cap l o N r0):
  Calls Tryz.prog 109 #[.pointer (some ⟨rb,0,none⟩)] w (RP (qPth.Val w.heap.size) w rb sb cap l o N (Pr.th r0 fun _ u=>Pa.path l u)):=by
 have HC:=hdn C
 obtain ⟨r,hr⟩: ∃r,r=Pr.th r0 fun _ u=>Pa.path l u:=⟨_,rfl⟩
 rw[←hr]
 have HR:=hdn hr
 have hn:Below w.heap.size w (w.alloc (.cells #[.string ByteArray.empty,.int .i64 0,.slice none 0 0] 40)):=(Below.refl _ _).alloc (Nat.le_refl _) _
 have HM:=hdn (h.below hn)
 have HK:Hid (Bk (w.alloc (.cells #[.string ByteArray.empty,.int .i64 0,.slice none 0 0] 40)) w.heap.size 40 #[.string ByteArray.empty,.int .i64 0,.slice none 0 0]):=hdn (heap_alloc_new _ _)
 have HNE:Hid (w.heap.size≠rb∧w.heap.size≠sb):=hdn ⟨by have:=h.rb_lt;omega,by have:=h.sb_lt;omega⟩
 have HG:Hid (w.grownBy (w.alloc (.cells #[.string ByteArray.empty,.int .i64 0,.slice none 0 0] 40)) (some rb)):=hdn (grownBy_of hn _)
 have HRB:Hid (rb<w.heap.size∧sb<w.heap.size):=hdn ⟨h.rb_lt,h.sb_lt⟩
 generalize hwA:w.alloc (.cells #[.string ByteArray.empty,.int .i64 0,.slice none 0 0] 40)=wA at HM HK HG
 clear h hr hn
 go_enter Tryz.func109,Tryz.ntmps109
 go_upto_region 1 with fail
 rw[show w.alloc (.cells #[.string ⟨#[]⟩,.int .i64 0,.slice none 0 0] 40)=wA from hwA]
 clear hwA
 obtain ⟨A,hA⟩: ∃A,A=w.heap.size:=⟨_,rfl⟩
 have HA:=hdn hA
 rw[←hA] at HK HNE ⊢
 clear hA
 go_upto_region 2 with fail
 have hn:Below wA.heap.size wA (wA.alloc (.cells #[.string ByteArray.empty,.int .i64 0,.slice none 0 0] 40)):=(Below.refl _ _).alloc (Nat.le_refl _) _
 have HM1:=hdn (HM.out.below hn)
 have HK1:=hdn (HK.out.below hn HK.out.lt)
 have HS1:Hid (Bk (wA.alloc (.cells #[.string ByteArray.empty,.int .i64 0,.slice none 0 0] 40)) wA.heap.size 40 #[.string ByteArray.empty,.int .i64 0,.slice none 0 0]):=hdn (heap_alloc_new _ _)
 have HNS:Hid (wA.heap.size≠rb∧wA.heap.size≠sb∧A≠wA.heap.size∧w.heap.size≤wA.heap.size∧rb<wA.heap.size∧A<wA.heap.size):=hdn ⟨by have:=HM.out.rb_lt;omega,by have:=HM.out.sb_lt;omega,by have:=HK.out.lt;omega,HG.out.size,HM.out.rb_lt,HK.out.lt⟩
 have HG1:=hdn (grownBy_below HG.out hn)
 change Code.wp _ _ _ _ (wA.alloc (.cells #[.string ByteArray.empty,.int .i64 0,.slice none 0 0] 40))
 generalize wA.alloc (.cells #[.string ByteArray.empty,.int .i64 0,.slice none 0 0] 40)=w1 at HM1 HK1 HS1 HG1 ⊢
 clear hn HM HK HG
 generalize wA.heap.size=S at*
 go_wp2_with fail
 refine (name_m HC.out w1 r0 HM1.out).mono ?_
 rintro en w2 ⟨g2,_,x,rfl,rfl,hx,hm⟩
 have HX:=hdn hx
 have HM2:=hdn hm
 have HK2:=hdn (HK1.out.kept g2 HNE.out.1)
 have HS2:=hdn (HS1.out.kept g2 HNS.out.1)
 have HG2:=hdn (grownBy_tr HG1.out g2)
 clear hx hm g2 HM1 HK1 HS1 HG1
 obtain ⟨r1,hr1⟩: ∃r1,r1=Pr.th r0 fun _ u=>Pa.name l u:=⟨_,rfl⟩
 rw[←hr1] at HM2 HX
 have HR1:Hid (r=Pr.th r1 fun x u=>Pr.th (Pa.hops l 8 [] u) fun l u=> .ok (⟨x.text,x.pos,⟨none,0,l⟩⟩,u)):=hdn (by
  rw[HR.out,hr1];rcases r0 with n |⟨y,u⟩<;>rfl)
 clear hr1 HR
 have f0:=HS2.out.frozen 0
 have c0:=HS2.out.cell 0
 have f1:=HS2.out.frozen 1
 have c1:=HS2.out.cell 1
 go_upto_region 3 with fail
 clear f0 c0 f1 c1
 have gs:w2.grownBy ((w2.setCell ⟨S,0,none⟩ (.string x.text)).setCell ⟨S,1,none⟩ (.int .i64 x.pos)) (some S):=grownBy_tr (grownBy_setC _ ⟨S,0,none⟩ _) (grownBy_setC _ ⟨S,1,none⟩ _)
 have HS3:Hid (Bk ((w2.setCell ⟨S,0,none⟩ (.string x.text)).setCell ⟨S,1,none⟩ (.int .i64 x.pos)) S 40 #[.string x.text,.int .i64 x.pos,.slice none 0 0]):=hdn ((HS2.out.set_ 0 _).set_ 1 _)
 have HM3:=hdn (HM2.out.far gs HNS.out.1 HNS.out.2.1)
 have HK3:=hdn (HK2.out.kept gs HNS.out.2.2.1)
 have HG3:=hdn (grownBy_up HG2.out gs (fun q hq=>by injection hq with hq;have:=HNS.out;omega))
 clear gs
 generalize (w2.setCell ⟨S,0,none⟩ (.string x.text)).setCell ⟨S,1,none⟩ (.int .i64 x.pos)=w3 at HS3 HM3 HK3 HG3 ⊢
 have HSZ:Hid (S<w3.heap.size):=hdn HS3.out.lt
 have HSB:Hid (sb<w3.heap.size):=hdn HM3.out.sb_lt
 have HM3':Hid (RM w3 rb sb cap l o N (Pr.th r1 fun _ u=>(.ok ([],u):Pr.Res (List Hp)))):=hdn (HM3.out.as _ (by rcases r1 with n |⟨y,u⟩<;>exact .inl rfl))
 obtain ⟨iHp,hI⟩:=qinfHp
 have HI:=hdn hI
 clear hI
 go_loopg [] 8 (fun g wr=> ∃(acc:List Hp) (v:Value) (rn:Pr.Res (List Hp)),g+acc.length=8∧Hid (∀a u,rn= .ok (a,u)→acc=a)∧Hid (Pr.th rn (fun a u=>Pa.hops l g a u)=Pr.th r1 (fun _ u=>Pa.hops l 8 [] u))∧Hid (qHp.Gr w3.heap.size acc v wr)∧Hid (Bk wr S 40 #[.string x.text,.int .i64 x.pos,v])∧Hid (RM wr rb sb cap l o N rn)∧Hid (Bk wr A 40 #[.string ByteArray.empty,.int .i64 0,.slice none 0 0])∧Hid (w.grownBy wr (some rb))∧Hid (w3.heap.size≤wr.heap.size))
 case atStart=>exact ⟨[],.slice none 0 0,_,rfl,hdn (by intro a u ha;rcases r1 with n |⟨y,v⟩;(· cases ha);(· cases ha;rfl)),hdn (by rcases r1 with n |⟨y,v⟩<;>rfl),hdn (Kd.Gr.nil qHp (World.ownsRow_nil _ _ _ _)),HS3,HM3',HK3,HG3,hdn (Nat.le_refl _)⟩
 case round=>
  obtain ⟨acc,v,rn,hg8,HAC,HH,HGr,HSr,HMr,HKr,HGw,HLE⟩:=hrel
  obtain ⟨ys,hy1,hy2,hy3⟩:=HGr.out
  obtain ⟨a0,c0,rfl⟩:=own_shape hy2
  clear hy1 hy2 hy3
  go_wp2_with fail
  refine (is_m HC.out ⟨#[45,62]⟩ (by decide) wr rn HMr.out).mono ?_
  rintro en w4 ⟨hb,hh⟩
  have HM4:=hdn (HMr.out.below hb);have HK4:=hdn (HKr.out.below hb HKr.out.lt);have HS4:=hdn (HSr.out.below hb HSr.out.lt);have HG4:=hdn (grownBy_below HGw.out hb);have HGr4:=hdn (HGr.out.below hb);have HLE4:=hdn (Nat.le_trans HLE.out hb.size)
  clear hb HMr HKr HSr HGw HGr HLE
  rcases hh with ⟨rfl,a1,u,hrn,hi,hlt⟩|⟨rfl,hf⟩
  ·have HRN:=hdn hrn
   have HIS:=hdn hi
   have HLT:=hdn hlt
   clear hrn hi hlt
   go_wp2_with fail
   refine (now_m w4 rn HM4.out).mono ?_
   rintro en w5 ⟨hb,z,rfl,hz⟩
   have HZ:=hdn hz
   have HM5:=hdn (HM4.out.below hb);have HK5:=hdn (HK4.out.below hb HK4.out.lt);have HS5:=hdn (HS4.out.below hb HS4.out.lt);have HG5:=hdn (grownBy_below HG4.out hb);have HGr5:=hdn (HGr4.out.below hb);have HLE5:=hdn (Nat.le_trans HLE4.out hb.size)
   clear hb hz HM4 HK4 HS4 HG4 HGr4 HLE4
   have s2:w5.cell? ⟨S,2,none⟩=some (.slice a0 acc.length c0):=HS5.out.cell 2
   by_cases h8:gk=0
   ·have hd:((acc.length:Int)==8)=true:=by rw[beq_iff_eq];omega
    have H8:=hdn h8
    clear h8
    go_wp2_with fail
    clear s2 hd
    refine (stop_m HC.out z.pos 11 (by decide) w5 rn HM5.out).mono ?_
    rintro en w6 ⟨rfl,g6,hm6⟩
    have HM6:=hdn hm6
    have HK6:=hdn (HK5.out.kept g6 HNE.out.1)
    have HS6:=hdn (HS5.out.kept g6 HNS.out.1)
    have HG6:=hdn (grownBy_tr HG5.out g6)
    have HGr6:=hdn (HGr5.out.par g6 (by have:=HSZ.out;have:=HNS.out;omega))
    clear g6 hm6
    have s0:=HS6.out.cell 0
    have s1:=HS6.out.cell 1
    have s2:=HS6.out.cell 2
    have r0':=HK6.out.cell 0
    have r1':=HK6.out.cell 1
    have r2':=HK6.out.cell 2
    have f0:=HK6.out.frozen 0
    have f1:=HK6.out.frozen 1
    have f2:=HK6.out.frozen 2
    simp only[List.getElem?_toArray,List.getElem?_cons_zero,List.getElem?_cons_succ] at s0 s1 s2 r0' r1' r2'
    go_wp2_with fail
    clear s0 s1 s2 r0' r1' r2' f0 f1 f2
    obtain ⟨hB,hF⟩:=path_result (n:=x.text) (p:=x.pos) (v:= .slice a0 acc.length c0) HK6.out
    generalize ((w6.setCell ⟨A,0,none⟩ (.string x.text)).setCell ⟨A,1,none⟩ (.int .i64 x.pos)).setCell ⟨A,2,none⟩ (.slice a0 acc.length c0)=wZ at hB hF ⊢
    have e0:=hB.cell 0
    have e1:=hB.cell 1
    have e2:=hB.cell 2
    have hfin:=HGr6.out.par hF (by have:=HSZ.out;have:=HNS.out;omega)
    obtain ⟨sl,hv,hsl,hly⟩:=Kd.fin qHp (by show acc.length*24≤_;omega) hfin
    have hm:=HM6.out.far hF HNE.out.1 HNE.out.2
    have hg:=grownBy_up HG6.out hF (fun q hq=>by injection hq with hq;have:=HA.out;omega)
    refine bodyPost_ret (v:= .agg #[.string x.text,.int .i64 x.pos,.slice a0 acc.length c0]) (by simp[results,Tryz.results109,go_sem,e0,e1,e2]) rfl ?_
    have hval:qPth.Val w.heap.size wZ (.agg #[.string x.text,.int .i64 x.pos,.slice a0 acc.length c0]) ⟨x.text,x.pos,⟨none,0,acc⟩⟩:=by
     refine ⟨⟨x.text,x.pos,sl⟩,by rw[hv];rfl, ?_, ?_⟩
     ·show (⟨x.text,x.pos,⟨none,0,sl.l⟩⟩:Pth)=_
      rw[show sl.l=acc by rw[←hsl];exact (List.map_id _).symm]
     ·exact hopsLie_ext (fresh_rest (r:=none) (B':=w.heap.size) (by have:=HSZ.out;have:=HNS.out;omega) (by simp)|>.trans rest_fresh) hly
    have herr: ∃n,r= .error n:=by
     rw[HR1.out]
     have hh:=HH.out
     rw[HRN.out,H8.out] at hh
     simp only[Pr.th,Pa.hops,HIS.out,if_true] at hh
     rcases r1 with n |⟨y,u1⟩
     ·exact ⟨_,rfl⟩
     ·show∃n,Pr.th (Pa.hops l 8 [] u1) _=_
      change _=Pa.hops l 8 [] u1 at hh
      rw[←hh];exact ⟨_,rfl⟩
    obtain ⟨n,hn⟩:=herr
    rw[hn]
    exact ⟨hg,_,_,rfl,hval,(by intro y v hc;cases hc),hm.as _ (.inr ⟨⟨_,rfl⟩,⟨_,rfl⟩⟩)⟩
   ·have hd:((acc.length:Int)==8)=false:=by rw[beq_eq_false_iff_ne];omega
    have H8:=hdn h8
    clear h8
    go_upto_region 8 with fail
    clear s2 hd
    have HM5':Hid (RM w5 rb sb cap l o N (Except.ok (a1,u):Pr.Res (List Hp))):=hdn (by have h5:=HM5.out;rw[HRN.out] at h5;exact h5)
    have c1:w5.cell? ⟨rb,1,none⟩=some (.int .i64 u.i):=HM5'.out.1.blk.cell 1
    have f1:=HM5'.out.1.blk.frozen 1
    have hk0:(0:Int)≤(u.i:Int):=Int.natCast_nonneg _
    have hk2:(u.i:Int)<1000000:=by have:=HLT.out;have:=HC.out.len;have:=HC.out.top;omega
    go_upto_region 9 with fail
    clear c1 f1 hk0 hk2
    have g6:w5.grownBy (w5.setCell ⟨rb,1,none⟩ (.int .i64 ((u.i:Int)+1))) (some rb):=grownBy_setC w5 ⟨rb,1,none⟩ _
    have HM6:Hid (RM (w5.setCell ⟨rb,1,none⟩ (.int .i64 ((u.i:Int)+1))) rb sb cap l o N (Except.ok (a1,u.go):Pr.Res (List Hp))):=hdn ⟨HM5'.out.1.go (by have:=HLT.out;have:=HC.out.len;have:=HC.out.top;omega),HLT.out,HM5'.out.2.2⟩
    have HK6:=hdn (HK5.out.kept g6 HNE.out.1)
    have HS6:=hdn (HS5.out.kept g6 HNS.out.1)
    have HG6:=hdn (grownBy_tr HG5.out g6)
    have HGr6:=hdn (HGr5.out.par g6 (by have:=HSZ.out;have:=HNS.out;omega))
    have HLE6:=hdn (Nat.le_trans HLE5.out g6.size)
    clear g6 HM5 HM5' HK5 HS5 HG5 HGr5 HLE5
    generalize w5.setCell ⟨rb,1,none⟩ (.int .i64 ((u.i:Int)+1))=w6 at HM6 HK6 HS6 HG6 HGr6 HLE6 ⊢
    go_wp2_with fail
    refine (name_m HC.out w6 _ HM6.out).mono ?_
    rintro en w7 ⟨g7,_,y,rfl,rfl,hy,hm⟩
    have HY:=hdn hy
    have HM7:=hdn hm
    have HK7:=hdn (HK6.out.kept g7 HNE.out.1)
    have HS7:=hdn (HS6.out.kept g7 HNS.out.1)
    have HG7:=hdn (grownBy_tr HG6.out g7)
    have HGr7:=hdn (HGr6.out.par g7 (by have:=HSZ.out;have:=HNS.out;omega))
    have HLE7:=hdn (Nat.le_trans HLE6.out g7.size)
    clear hy hm g7 HM6 HK6 HS6 HG6 HGr6 HLE6
    go_upto_region 10 with fail
    have s2:w7.cell? ⟨S,2,none⟩=some (.slice a0 acc.length c0):=HS7.out.cell 2
    go_wp2_with (first |((with_reducible show wpList _ _ _ (Oper.mk (some 44) _ _ _ _ _::_) _ _);refine wpList_one rfl 38 106 (.tmp 43) rfl (qHp.cells ⟨y.text,z.pos⟩).toArray rfl HI.out.und iHp _ qHp.size HI.out.info HI.out.zero HI.out.size HI.out.pos (by decide) rfl ?_)|((with_reducible show wpList _ _ _ (Oper.mk (some 45) _ _ _ _ _::_) _ _);refine Kd.wpList_push qHp rfl 38 iHp _ HI.out (.tmp 40) (.tmp 44) rfl w3.heap.size acc (.slice a0 acc.length c0) rfl HGr7.out HLE7.out ⟨y.text,z.pos⟩ rfl trivial (by unfold maxLen;omega) (by show (acc.length+1)*24≤_;omega) ?_;rintro v' w8 hG8 ⟨gg,cc,rfl⟩ hgr8 hown8;have HGr8:=hdn hG8;have HM8:=hdn (HM7.out.grown hgr8 (fun q hq=>by have:=hown8 q hq;have:=HSZ.out;have:=HNS.out;have:=HSB.out;omega));have HK8:=hdn (HK7.out.grown hgr8 (fun q hq=>by have:=hown8 q hq;have:=HSZ.out;have:=HNS.out;omega));have HS8:=hdn (HS7.out.grown hgr8 (fun q hq=>by have:=hown8 q hq;have:=HSZ.out;omega));have HG8:=hdn (grownBy_up HG7.out hgr8 (fun q hq=>by have:=hown8 q hq;have:=HSZ.out;have:=HNS.out;omega));have HLE8:Hid (w3.heap.size≤w8.heap.size):=hdn (Nat.le_trans HLE7.out hgr8.size);have s28:w8.cell? ⟨S,2,none⟩=some (.slice a0 acc.length c0):=HS8.out.cell 2;have f28:w8.frozen? ⟨S,2,none⟩=false:=HS8.out.frozen 2;clear hG8 hgr8 hown8 s2 HM7 HK7 HS7 HG7 HGr7 HLE7))
    clear s28 f28
    have gs:w8.grownBy (w8.setCell ⟨S,2,none⟩ (.slice (some ⟨gg,0,none⟩) (acc.length+1) cc)) (some S):=grownBy_setC w8 ⟨S,2,none⟩ _
    have HS9:Hid (Bk (w8.setCell ⟨S,2,none⟩ (.slice (some ⟨gg,0,none⟩) (acc.length+1) cc)) S 40 #[.string x.text,.int .i64 x.pos,.slice (some ⟨gg,0,none⟩) (acc.length+1) cc]):=hdn (HS8.out.set_ 2 _)
    have HM9:=hdn (HM8.out.far gs HNS.out.1 HNS.out.2.1)
    have HK9:=hdn (HK8.out.kept gs HNS.out.2.2.1)
    have HG9:=hdn (grownBy_up HG8.out gs (fun q hq=>by injection hq with hq;have:=HNS.out;omega))
    have HGr9:=hdn (HGr8.out.par gs (by have:=HSZ.out;exact this))
    have HLE9:=hdn (Nat.le_trans HLE8.out gs.size)
    clear gs HM8 HK8 HS8 HG8 HGr8 HLE8
    generalize w8.setCell ⟨S,2,none⟩ (.slice (some ⟨gg,0,none⟩) (acc.length+1) cc)=w9 at HM9 HK9 HS9 HG9 HGr9 HLE9 ⊢
    go_roundg (gk-1)
    case measure=>have:=H8.out;omega
    case rel=>
     have hz:=HZ.out;have hac:=HAC.out;have hrn:=HRN.out;have hy:=HY.out;have hh:=HH.out;have his:=HIS.out;have hm:=HM9.out
     refine ⟨acc++ [qHp.er ⟨y.text,z.pos⟩],.slice (some ⟨gg,0,none⟩) (acc.length+1) cc,Pr.th (Pa.name l u.go) (fun t v=> .ok (a1++ [⟨t.text,(Pa.sg l u.i).pos⟩],v)),by have:=H8.out;simp only[List.length_append,List.length_singleton];omega,hdn ?_,hdn ?_,HGr9,HS9,hdn ?_,HK9,HG9,HLE9⟩
     ·intro a u2 ha
      rcases q:Pa.name l u.go with n |⟨t,u3⟩
      ·rw[q] at ha;cases ha
      ·rw[q] at ha;injection ha with ha;injection ha with h1 h2;subst h1
       rw[hy t u3 q,hz a1 u hrn,hac a1 u hrn];rfl
     ·rw[←hh,hrn]
      obtain ⟨gj,hj⟩: ∃k,gk=k+1:=⟨gk-1,by have:=H8.out;omega⟩
      subst hj
      simp only[Pr.th,Pa.hops,his,if_true,Nat.add_sub_cancel]
      rcases Pa.name l u.go with n |⟨t,u3⟩<;>rfl
     ·refine hm.as _ (.inl ?_)
      show Pr.th (Pa.name l u.go) _=_
      rcases Pa.name l u.go with n |⟨t,u3⟩<;>rfl
  ·have HF:=hdn hf
   clear hf
   have s0:=HS4.out.cell 0
   have s1:=HS4.out.cell 1
   have s2:=HS4.out.cell 2
   have r0':=HK4.out.cell 0
   have r1':=HK4.out.cell 1
   have r2':=HK4.out.cell 2
   have f0:=HK4.out.frozen 0
   have f1:=HK4.out.frozen 1
   have f2:=HK4.out.frozen 2
   simp only[List.getElem?_toArray,List.getElem?_cons_zero,List.getElem?_cons_succ] at s0 s1 s2 r0' r1' r2'
   go_wp2_with fail
   clear s0 s1 s2 r0' r1' r2' f0 f1 f2
   obtain ⟨hB,hF⟩:=path_result (n:=x.text) (p:=x.pos) (v:= .slice a0 acc.length c0) HK4.out
   generalize ((w4.setCell ⟨A,0,none⟩ (.string x.text)).setCell ⟨A,1,none⟩ (.int .i64 x.pos)).setCell ⟨A,2,none⟩ (.slice a0 acc.length c0)=wZ at hB hF ⊢
   have e0:=hB.cell 0
   have e1:=hB.cell 1
   have e2:=hB.cell 2
   have hfin:=HGr4.out.par hF (by have:=HSZ.out;have:=HNS.out;omega)
   obtain ⟨sl,hv,hsl,hly⟩:=Kd.fin qHp (by show acc.length*24≤_;omega) hfin
   have hm:=HM4.out.far hF HNE.out.1 HNE.out.2
   have hg:=grownBy_up HG4.out hF (fun q hq=>by injection hq with hq;have:=HA.out;omega)
   refine bodyPost_ret (v:= .agg #[.string x.text,.int .i64 x.pos,.slice a0 acc.length c0]) (by simp[results,Tryz.results109,go_sem,e0,e1,e2]) rfl ?_
   have hval:qPth.Val w.heap.size wZ (.agg #[.string x.text,.int .i64 x.pos,.slice a0 acc.length c0]) ⟨x.text,x.pos,⟨none,0,acc⟩⟩:=by
    refine ⟨⟨x.text,x.pos,sl⟩,by rw[hv];rfl, ?_, ?_⟩
    ·show (⟨x.text,x.pos,⟨none,0,sl.l⟩⟩:Pth)=_
     rw[show sl.l=acc by rw[←hsl];exact (List.map_id _).symm]
    ·exact hopsLie_ext (fresh_rest (r:=none) (B':=w.heap.size) (by have:=HSZ.out;have:=HNS.out;omega) (by simp)|>.trans rest_fresh) hly
   have hrn:Pr.th r1 (fun _ u=>Pa.hops l 8 [] u)=rn:=by
    rw[←HH.out]
    have hf:=HF.out
    rcases rn with n |⟨a,u⟩
    ·rfl
    ·show Pa.hops l gk a u=_
     have:=hf a u rfl
     cases gk<;>simp only[Pa.hops,this,Bool.false_eq_true,if_false]
   have hx:=HX.out
   have hac:=HAC.out
   rw[HR1.out]
   refine ⟨hg,_,_,rfl,hval, ?_, ?_⟩
   ·intro z v hz
    rcases q:r1 with n |⟨y,u1⟩
    ·rw[q] at hz;cases hz
    ·rw[q] at hz hrn
     change Pr.th (Pa.hops l 8 [] u1) _=_ at hz
     change Pa.hops l 8 [] u1=_ at hrn
     rw[hrn] at hz
     rcases q2:rn with n |⟨a,u⟩
     ·rw[q2] at hz;cases hz
     ·rw[q2] at hz;cases hz
      rw[hx y u1 q,hac a _ q2]
   ·refine hm.as _ (.inl ?_)
    rw[←hrn]
    rcases r1 with n |⟨y,u1⟩
    ·rfl
    ·show Pr.th (Pa.hops l 8 [] u1) _=Pr.th (Pr.th (Pa.hops l 8 [] u1) _) _
     rcases Pa.hops l 8 [] u1 with n |⟨a,u⟩<;>rfl
end
end Go.Proofs.YtcehbcnloiooaaaGreatDoor
namespace Go.Proofs.YtcehbcnloiooaaaGreatDoor
open Go.RowKit Go.Sort
attribute [local go_sem] field72_0 field72_1 field72_2 field72_3
def qVl:Kd Vl:=⟨58,12,144,Vl.cells,fun x=> {x with path:=⟨x.path.name,x.path.pos,⟨none,0,x.path.hops.l⟩⟩},vlLies,fun _=>rfl,fun _=>by simp[Value.oneCell'],fun _ h k=>vlLies_ext h k⟩
theorem no_hops {w:World}:hopsLie w (⟨none,0,[]⟩:Sl Hp):=⟨(show 0*24≤140737488351232 by decide),.inl rfl⟩
section
variable {α:Type} {rb sb cap:Nat} {l:List Tx.Sg} {o:Int} {N:Nat}
theorem side_m (C:RC l N) (w:World) (r0:Pr.Res α) (h:RM w rb sb cap l o N r0):
  Calls Tryz.prog 111 #[.pointer (some ⟨rb,0,none⟩)] w (RP (qVl.Val w.heap.size) w rb sb cap l o N (Pr.th r0 fun _ u=>Pa.side l u)):=by
 have HC:=hdn C
 obtain ⟨r,hr⟩: ∃r,r=Pr.th r0 fun _ u=>Pa.side l u:=⟨_,rfl⟩
 rw[←hr]
 have HR:=hdn hr
 have hn:Below w.heap.size w (w.alloc (.cells #[.int .i64 0,.int .i64 0,.string ByteArray.empty,.int .i64 0,.slice none 0 0,.string ByteArray.empty,.string ByteArray.empty,.int .i64 0,.int .i64 0,.string ByteArray.empty,.int .i64 0,.int .i64 0] 58)):=(Below.refl _ _).alloc (Nat.le_refl _) _
 have HM:=hdn (h.below hn)
 have HK:Hid (Bk (w.alloc (.cells #[.int .i64 0,.int .i64 0,.string ByteArray.empty,.int .i64 0,.slice none 0 0,.string ByteArray.empty,.string ByteArray.empty,.int .i64 0,.int .i64 0,.string ByteArray.empty,.int .i64 0,.int .i64 0] 58)) w.heap.size 58 (Vl.cells Pr.noVl).toArray):=hdn (heap_alloc_new _ _)
 have HNE:Hid (w.heap.size≠rb∧w.heap.size≠sb):=hdn ⟨by have:=h.rb_lt;omega,by have:=h.sb_lt;omega⟩
 have HG:Hid (w.grownBy (w.alloc (.cells #[.int .i64 0,.int .i64 0,.string ByteArray.empty,.int .i64 0,.slice none 0 0,.string ByteArray.empty,.string ByteArray.empty,.int .i64 0,.int .i64 0,.string ByteArray.empty,.int .i64 0,.int .i64 0] 58)) (some rb)):=hdn (grownBy_of hn _)
 generalize hwA:w.alloc (.cells #[.int .i64 0,.int .i64 0,.string ByteArray.empty,.int .i64 0,.slice none 0 0,.string ByteArray.empty,.string ByteArray.empty,.int .i64 0,.int .i64 0,.string ByteArray.empty,.int .i64 0,.int .i64 0] 58)=wA at HM HK HG
 clear h hr hn
 go_enter Tryz.func111,Tryz.ntmps111
 go_upto_region 1 with fail
 rw[show w.alloc (.cells #[.int .i64 0,.int .i64 0,.string ⟨#[]⟩,.int .i64 0,.slice none 0 0,.string ⟨#[]⟩,.string ⟨#[]⟩,.int .i64 0,.int .i64 0,.string ⟨#[]⟩,.int .i64 0,.int .i64 0] 58)=wA from hwA]
 clear hwA
 obtain ⟨A,hA⟩: ∃A,A=w.heap.size:=⟨_,rfl⟩
 have HA:=hdn hA
 rw[←hA] at HK HNE ⊢
 clear hA
 go_wp2_with fail
 refine (now_m wA r0 HM.out).mono ?_
 rintro en w1 ⟨hb,z,rfl,hz⟩
 have HZ:=hdn hz
 have HM1:=hdn (HM.out.below hb);have HK1:=hdn (HK.out.below hb HK.out.lt);have HG1:=hdn (grownBy_below HG.out hb)
 clear hb hz HM HK HG
 go_upto_region 2 with fail
 have hm:Below w1.heap.size w1 (w1.alloc (.cells #[.int .i64 z.kind,.int .i64 z.pos,.string z.text,.int .i64 z.num] 83)):=(Below.refl _ _).alloc (Nat.le_refl _) _
 have HM2:=hdn (HM1.out.below hm)
 have HK2:=hdn (HK1.out.below hm HK1.out.lt)
 have HF:Hid (Bk (w1.alloc (.cells #[.int .i64 z.kind,.int .i64 z.pos,.string z.text,.int .i64 z.num] 83)) w1.heap.size 83 #[.int .i64 z.kind,.int .i64 z.pos,.string z.text,.int .i64 z.num]):=hdn (heap_alloc_new _ _)
 have HG2:=hdn (grownBy_below HG1.out hm)
 have HFN:Hid (w1.heap.size≠rb∧w1.heap.size≠A):=hdn ⟨by have:=HM1.out.rb_lt;omega,by have:=HK1.out.lt;omega⟩
 generalize w1.alloc (.cells #[.int .i64 z.kind,.int .i64 z.pos,.string z.text,.int .i64 z.num] 83)=w2 at HM2 HK2 HF HG2 ⊢
 clear hm HM1 HK1 HG1
 generalize w1.heap.size=F at*
 have t1:w2.cell? ⟨F,1,none⟩=some (.int .i64 z.pos):=HF.out.cell 1
 go_upto_region 4 with fail
 clear t1
 change Code.wp _ _ _ _ (w2.alloc (.cells (Vl.cells {Pr.noVl with pos:=(z.pos:Int)}).toArray 58))
 have hm:Below w2.heap.size w2 (w2.alloc (.cells (Vl.cells {Pr.noVl with pos:=(z.pos:Int)}).toArray 58)):=(Below.refl _ _).alloc (Nat.le_refl _) _
 have HM3:=hdn (HM2.out.below hm)
 have HK3:=hdn (HK2.out.below hm HK2.out.lt)
 have HF3:=hdn (HF.out.below hm HF.out.lt)
 have HS3:Hid (Bk (w2.alloc (.cells (Vl.cells {Pr.noVl with pos:=(z.pos:Int)}).toArray 58)) w2.heap.size 58 (Vl.cells {Pr.noVl with pos:=(z.pos:Int)}).toArray):=hdn (heap_alloc_new _ _)
 have HG3:=hdn (grownBy_below HG2.out hm)
 have HNS:Hid (w2.heap.size≠rb∧w2.heap.size≠sb∧A≠w2.heap.size∧w.heap.size≤w2.heap.size):=hdn ⟨by have:=HM2.out.rb_lt;omega,by have:=HM2.out.sb_lt;omega,by have:=HK2.out.lt;omega,HG2.out.size⟩
 generalize w2.alloc (.cells (Vl.cells {Pr.noVl with pos:=(z.pos:Int)}).toArray 58)=w3 at HM3 HK3 HF3 HS3 HG3 ⊢
 clear hm HM2 HK2 HF HG2
 generalize w2.heap.size=S at*
 go_wp2_with fail
 refine (take_m HC.out ⟨#[110,117,108,108]⟩ (by decide) w3 r0 HM3.out).mono ?_
 rintro en w4 ⟨g4,hh⟩
 have HK4:=hdn (HK3.out.kept g4 HNE.out.1)
 have HS4:=hdn (HS3.out.kept g4 HNS.out.1)
 have HF4:=hdn (HF3.out.kept g4 HFN.out.1)
 have HG4:=hdn (grownBy_tr HG3.out g4)
 clear g4 HM3 HK3 HS3 HF3 HG3
 rcases hh with ⟨rfl,x0,u,hr0,hi,hm⟩|⟨rfl,hf,hm⟩
 ·have HR0:=hdn hr0
  have HI:=hdn hi
  have HM4:=hdn hm
  clear hr0 hi hm
  go_wp2_with (first |((with_reducible show wpList _ _ _ (Oper.mk (some 25) (Op.load 58 _) _ _ _ _::_) _ _);refine wpList_load_bk rfl 58 (.tmp 4) rfl S 58 (Vl.cells {Pr.noVl with pos:=(z.pos:Int)}).toArray rfl _ HS4.out Tryz.underlying58 rfl size47 ?_)|((with_reducible show wpList _ _ _ (Oper.mk none (Op.store 58 (Operand.tmp 2) _) _ _ _ _::_) _ _);refine wpList_store_bk rfl 58 (.tmp 2) (.tmp 25) rfl A 58 _ (Vl.cells {Pr.noVl with pos:=(z.pos:Int)}).toArray rfl rfl HK4.out size47 rfl (by simp[Value.oneCell']) ?_;intro wZ hB hF;have HB:=hdn hB;have HF':=hdn hF;clear hB hF))
  have hm:=HM4.out.far HF'.out HNE.out.1 HNE.out.2
  have hg:=grownBy_up HG4.out HF'.out (fun q hq=>by injection hq with hq;have:=HA.out;omega)
  refine bodyPost_ret (results_cell_row Tryz.results111 _ wZ A 58 (Vl.cells {Pr.noVl with pos:=(z.pos:Int)}).toArray (0,0) _ rfl HB.out Tryz.underlying58 rfl size47) rfl ?_
  have hrr:r= .ok ({Pr.noVl with pos:=((Pa.sg l u.i).pos:Int)},u.go):=by
   rw[HR.out,HR0.out];show Pa.side l u=_;unfold Pa.side;rw[if_pos HI.out]
  have hz:=HZ.out _ _ HR0.out
  rw[hrr,←hz]
  exact ⟨hg,_,_,rfl,⟨{Pr.noVl with pos:=(z.pos:Int)},rfl,rfl,no_hops⟩,(fun y v hc=>by injection hc with hc;injection hc),hm.as _ (.inl rfl)⟩
 ·have HF0:=hdn hf
  have HM4:=hdn hm
  clear hf hm
  have t0:w4.cell? ⟨F,0,none⟩=some (.int .i64 z.kind):=HF4.out.cell 0
  by_cases h2:z.kind=2
  ·have hd:(z.kind==2)=true:=by simpa using h2
   have H2:=hdn h2
   clear h2
   go_wp2_with fail
   clear t0 hd
   refine (term_m HC.out w4 r0 HM4.out).mono ?_
   rintro en w5 ⟨g5,_,x,rfl,rfl,hx,hm⟩
   have HX:=hdn hx
   have HM5:=hdn hm
   have HK5:=hdn (HK4.out.kept g5 HNE.out.1)
   have HS5:=hdn (HS4.out.kept g5 HNS.out.1)
   have HG5:=hdn (grownBy_tr HG4.out g5)
   clear hx hm g5 HM4 HK4 HS4 HF4 HG4
   have f0:=HS5.out.frozen 0
   have c0:=HS5.out.cell 0
   have f6:=HS5.out.frozen 6
   have c6:=HS5.out.cell 6
   have f7:=HS5.out.frozen 7
   have c7:=HS5.out.cell 7
   have f8:=HS5.out.frozen 8
   have c8:=HS5.out.cell 8
   simp only[List.getElem?_toArray,List.getElem?_cons_zero,List.getElem?_cons_succ] at c0 c6 c7 c8
   go_upto_region 7 with fail
   clear f0 c0 f6 c6 f7 c7 f8 c8
   have gs:w5.grownBy ((((w5.setCell ⟨S,0,none⟩ (.int .i64 4)).setCell ⟨S,6,none⟩ (.string x.name)).setCell ⟨S,7,none⟩ (.int .i64 x.n)).setCell ⟨S,8,none⟩ (.int .i64 x.pos)) (some S):=grownBy_tr (grownBy_tr (grownBy_tr (grownBy_setC _ ⟨S,0,none⟩ _) (grownBy_setC _ ⟨S,6,none⟩ _)) (grownBy_setC _ ⟨S,7,none⟩ _)) (grownBy_setC _ ⟨S,8,none⟩ _)
   have HS6:Hid (Bk ((((w5.setCell ⟨S,0,none⟩ (.int .i64 4)).setCell ⟨S,6,none⟩ (.string x.name)).setCell ⟨S,7,none⟩ (.int .i64 x.n)).setCell ⟨S,8,none⟩ (.int .i64 x.pos)) S 58 (Vl.cells {Pr.noVl with kind:=4,pos:=(z.pos:Int),left:=x}).toArray):=hdn ((((HS5.out.set_ 0 _).set_ 6 _).set_ 7 _).set_ 8 _)
   have HM6:=hdn (HM5.out.far gs HNS.out.1 HNS.out.2.1)
   have HK6:=hdn (HK5.out.kept gs HNS.out.2.2.1)
   have HG6:=hdn (grownBy_up HG5.out gs (fun q hq=>by injection hq with hq;have:=HNS.out;omega))
   clear gs
   generalize ((((w5.setCell ⟨S,0,none⟩ (.int .i64 4)).setCell ⟨S,6,none⟩ (.string x.name)).setCell ⟨S,7,none⟩ (.int .i64 x.n)).setCell ⟨S,8,none⟩ (.int .i64 x.pos))=w6 at HS6 HM6 HK6 HG6 ⊢
   go_wp2_with (first |((with_reducible show wpList _ _ _ (Oper.mk (some 25) (Op.load 58 _) _ _ _ _::_) _ _);refine wpList_load_bk rfl 58 (.tmp 4) rfl S 58 (Vl.cells {Pr.noVl with kind:=4,pos:=(z.pos:Int),left:=x}).toArray rfl _ HS6.out Tryz.underlying58 rfl size47 ?_)|((with_reducible show wpList _ _ _ (Oper.mk none (Op.store 58 (Operand.tmp 2) _) _ _ _ _::_) _ _);refine wpList_store_bk rfl 58 (.tmp 2) (.tmp 25) rfl A 58 _ (Vl.cells {Pr.noVl with kind:=4,pos:=(z.pos:Int),left:=x}).toArray rfl rfl HK6.out size47 rfl (by simp[Value.oneCell']) ?_;intro wZ hB hF;have HB:=hdn hB;have HF':=hdn hF;clear hB hF))
   have hm:=HM6.out.far HF'.out HNE.out.1 HNE.out.2
   have hg:=grownBy_up HG6.out HF'.out (fun q hq=>by injection hq with hq;have:=HA.out;omega)
   refine bodyPost_ret (results_cell_row Tryz.results111 _ wZ A 58 (Vl.cells {Pr.noVl with kind:=4,pos:=(z.pos:Int),left:=x}).toArray (0,0) _ rfl HB.out Tryz.underlying58 rfl size47) rfl ?_
   have hx:=HX.out
   have hz:=HZ.out
   have h2:=H2.out
   have hf:=HF0.out
   rw[HR.out]
   refine ⟨hg,_,_,rfl,⟨{Pr.noVl with kind:=4,pos:=(z.pos:Int),left:=x},rfl,rfl,no_hops⟩, ?_, ?_⟩
   ·intro y v hc
    rcases r0 with n |⟨x0,u⟩
    ·cases hc
    ·have hv:Pa.side l u=Pr.th (Pa.term l u) fun x v=> .ok ({Pr.noVl with kind:=4,pos:=((Pa.sg l u.i).pos:Int),left:=x},v):=by
      unfold Pa.side;rw[if_neg (by rw[hf _ _ rfl];decide),if_pos (by rw[←hz _ _ rfl];exact h2)]
     change Pa.side l u=_ at hc
     rw[hv] at hc
     rcases q:Pa.term l u with n |⟨x1,u1⟩
     ·rw[q] at hc;cases hc
     ·rw[q] at hc;injection hc with hc;injection hc with h3 h4
      rw[←h3,hx x1 u1 q,hz x0 u rfl];rfl
   ·refine hm.as _ (.inl ?_)
    rcases r0 with n |⟨x0,u⟩
    ·rfl
    ·have hv:Pa.side l u=Pr.th (Pa.term l u) fun x v=> .ok ({Pr.noVl with kind:=4,pos:=((Pa.sg l u.i).pos:Int),left:=x},v):=by
      unfold Pa.side;rw[if_neg (by rw[hf _ _ rfl];decide),if_pos (by rw[←hz _ _ rfl];exact h2)]
     show Pr.th (Pa.term l u) _=Pr.th (Pa.side l u) _
     rw[hv]
     rcases Pa.term l u with n |⟨x1,u1⟩<;>rfl
  ·have hd:(z.kind==2)=false:=by simpa using h2
   have H2:=hdn h2
   clear h2
   go_wp2_with fail
   clear t0 hd
   refine (path_m HC.out w4 r0 HM4.out).mono ?_
   rintro en w5 ⟨g5,v5,x,rfl,⟨y0,hv,hye,hyl⟩,hx,hm⟩
   have hv5:v5= .agg #[.string y0.name,.int .i64 y0.pos,.slice y0.hops.p y0.hops.l.length y0.hops.cap]:=hv
   clear hv
   subst hv5
   have HX:=hdn hx
   have HYE:=hdn hye
   have HYL:=hdn hyl
   have HLT5:Hid (w.heap.size≤w4.heap.size∧A<w4.heap.size∧S<w4.heap.size):=hdn ⟨HG4.out.size,HK4.out.lt,HS4.out.lt⟩
   have HM5:=hdn hm
   have HK5:=hdn (HK4.out.kept g5 HNE.out.1)
   have HS5:=hdn (HS4.out.kept g5 HNS.out.1)
   have HG5:=hdn (grownBy_tr HG4.out g5)
   clear hx hm g5 hye hyl HM4 HK4 HS4 HF4 HG4
   have f0:=HS5.out.frozen 0
   have c0:=HS5.out.cell 0
   have f2:=HS5.out.frozen 2
   have c2:=HS5.out.cell 2
   have f3:=HS5.out.frozen 3
   have c3:=HS5.out.cell 3
   have f4:=HS5.out.frozen 4
   have c4:=HS5.out.cell 4
   simp only[List.getElem?_toArray,List.getElem?_cons_zero,List.getElem?_cons_succ] at c0 c2 c3 c4
   go_upto_region 7 with fail
   clear f0 c0 f2 c2 f3 c3 f4 c4
   have gs:w5.grownBy ((((w5.setCell ⟨S,0,none⟩ (.int .i64 1)).setCell ⟨S,2,none⟩ (.string y0.name)).setCell ⟨S,3,none⟩ (.int .i64 y0.pos)).setCell ⟨S,4,none⟩ (.slice y0.hops.p y0.hops.l.length y0.hops.cap)) (some S):=grownBy_tr (grownBy_tr (grownBy_tr (grownBy_setC _ ⟨S,0,none⟩ _) (grownBy_setC _ ⟨S,2,none⟩ _)) (grownBy_setC _ ⟨S,3,none⟩ _)) (grownBy_setC _ ⟨S,4,none⟩ _)
   have HS6:Hid (Bk ((((w5.setCell ⟨S,0,none⟩ (.int .i64 1)).setCell ⟨S,2,none⟩ (.string y0.name)).setCell ⟨S,3,none⟩ (.int .i64 y0.pos)).setCell ⟨S,4,none⟩ (.slice y0.hops.p y0.hops.l.length y0.hops.cap)) S 58 (Vl.cells {Pr.noVl with kind:=1,pos:=(z.pos:Int),path:=y0}).toArray):=hdn ((((HS5.out.set_ 0 _).set_ 2 _).set_ 3 _).set_ 4 _)
   have HM6:=hdn (HM5.out.far gs HNS.out.1 HNS.out.2.1)
   have HYL6:=hdn (hopsLie_ext (fresh_par gs HLT5.out.2.2) HYL.out)
   have HK6:=hdn (HK5.out.kept gs HNS.out.2.2.1)
   have HG6:=hdn (grownBy_up HG5.out gs (fun q hq=>by injection hq with hq;have:=HNS.out;omega))
   clear gs
   generalize ((((w5.setCell ⟨S,0,none⟩ (.int .i64 1)).setCell ⟨S,2,none⟩ (.string y0.name)).setCell ⟨S,3,none⟩ (.int .i64 y0.pos)).setCell ⟨S,4,none⟩ (.slice y0.hops.p y0.hops.l.length y0.hops.cap))=w6 at HS6 HM6 HK6 HG6 HYL6 ⊢
   go_wp2_with (first |((with_reducible show wpList _ _ _ (Oper.mk (some 25) (Op.load 58 _) _ _ _ _::_) _ _);refine wpList_load_bk rfl 58 (.tmp 4) rfl S 58 (Vl.cells {Pr.noVl with kind:=1,pos:=(z.pos:Int),path:=y0}).toArray rfl _ HS6.out Tryz.underlying58 rfl size47 ?_)|((with_reducible show wpList _ _ _ (Oper.mk none (Op.store 58 (Operand.tmp 2) _) _ _ _ _::_) _ _);refine wpList_store_bk rfl 58 (.tmp 2) (.tmp 25) rfl A 58 _ (Vl.cells {Pr.noVl with kind:=1,pos:=(z.pos:Int),path:=y0}).toArray rfl rfl HK6.out size47 rfl (by simp[Value.oneCell']) ?_;intro wZ hB hF;have HB:=hdn hB;have HF':=hdn hF;clear hB hF))
   have hm:=HM6.out.far HF'.out HNE.out.1 HNE.out.2
   have hg:=grownBy_up HG6.out HF'.out (fun q hq=>by injection hq with hq;have:=HA.out;omega)
   refine bodyPost_ret (results_cell_row Tryz.results111 _ wZ A 58 (Vl.cells {Pr.noVl with kind:=1,pos:=(z.pos:Int),path:=y0}).toArray (0,0) _ rfl HB.out Tryz.underlying58 rfl size47) rfl ?_
   have hx:=HX.out
   have hz:=HZ.out
   have h2:=H2.out
   have hf:=HF0.out
   rw[HR.out]
   refine ⟨hg,_,_,rfl,⟨{Pr.noVl with kind:=1,pos:=(z.pos:Int),path:=y0},rfl,(by rw[←HYE.out];rfl:_=({Pr.noVl with kind:=1,pos:=(z.pos:Int),path:=x}:Vl)), ?_⟩, ?_, ?_⟩
   ·exact hopsLie_ext ((fresh_par HF'.out HLT5.out.2.1).trans (fresh_mono HLT5.out.1 _)) HYL6.out
   ·intro y v hc
    rcases r0 with n |⟨x0,u⟩
    ·cases hc
    ·have hv:Pa.side l u=Pr.th (Pa.path l u) fun x v=> .ok ({Pr.noVl with kind:=1,pos:=((Pa.sg l u.i).pos:Int),path:=x},v):=by
      unfold Pa.side;rw[if_neg (by rw[hf _ _ rfl];decide),if_neg (by rw[←hz _ _ rfl];exact h2)]
     change Pa.side l u=_ at hc
     rw[hv] at hc
     rcases q:Pa.path l u with n |⟨x1,u1⟩
     ·rw[q] at hc;cases hc
     ·rw[q] at hc;injection hc with hc;injection hc with h3 h4
      rw[←h3,hx x1 u1 q,hz x0 u rfl]
   ·refine hm.as _ (.inl ?_)
    rcases r0 with n |⟨x0,u⟩
    ·rfl
    ·have hv:Pa.side l u=Pr.th (Pa.path l u) fun x v=> .ok ({Pr.noVl with kind:=1,pos:=((Pa.sg l u.i).pos:Int),path:=x},v):=by
      unfold Pa.side;rw[if_neg (by rw[hf _ _ rfl];decide),if_neg (by rw[←hz _ _ rfl];exact h2)]
     show Pr.th (Pa.path l u) _=Pr.th (Pa.side l u) _
     rw[hv]
     rcases Pa.path l u with n |⟨x1,u1⟩<;>rfl
end
end Go.Proofs.YtcehbcnloiooaaaGreatDoor
namespace Go.Proofs.YtcehbcnloiooaaaGreatDoor
open Go.RowKit Go.Sort
attribute [local go_sem] field72_0 field72_1 field72_2 field72_3
def sm (z y:Tx.Sg):Bool:=(z.kind==1 ||z.kind==2) && (y.kind==4 && (y.text.toList== [43]||y.text.toList== [45]))
section
variable {α:Type} {rb sb cap:Nat} {l:List Tx.Sg} {o:Int} {N:Nat}
theorem sm_pr (C:RC l N) {u:Pr.St} (hi:u.i<l.length):sm (rsg l u.i) (rsg l (u.i+1))=Pr.sums (Pa.ts l) u:=by
 have hz:(Pr.sg (Pa.ts l) u.i).kind=(rsg l u.i).kind:=by rw[rsg_lt hi,←Pa.sg_tk];rfl
 unfold sm Pr.sums
 rw[hz]
 by_cases h0:(rsg l u.i).kind=0
 ·rw[h0];rfl
 have h1:=more_rsg C hi h0
 rw[←isNx_pr h1,←isNx_pr h1]
 congr 1
 unfold isNx
 rw[Lib.toList_data,Lib.toList_data,Lib.toList_data]
 have hk:=rsg_kind C.kinds (u.i+1) (by omega:0<l.length)
 rcases q:(rsg l (u.i+1)).text.data.toList== [43] with _ |_
 ·rcases q2:(rsg l (u.i+1)).text.data.toList== [45] with _ |_
  ·simp
  ·rw[Pa.kind_mark hk (by rw[eq_of_beq q2];decide)];rfl
 ·rw[Pa.kind_mark hk (by rw[eq_of_beq q];decide)];rfl
theorem later_m (w:World) (r0:Pr.Res α) (h:RM w rb sb cap l o N r0):
  Calls Tryz.prog 56 #[.pointer (some ⟨rb,0,none⟩)] w fun en w'=>Below w.heap.size w w'∧∃x:Tx.Sg,en= .returned (.agg #[.int .i64 x.kind,.int .i64 x.pos,.string x.text,.int .i64 x.num])∧∀y u,r0= .ok (y,u)→x=rsg l (u.i+1):=by
 rcases r0 with n |⟨x,u⟩
 ·obtain ⟨k,b,a,e,he,hk,hb0,hb1,h5⟩:=h
  refine (later_any w h5).mono ?_
  rintro en w1 ⟨rfl,hb⟩
  exact ⟨hb,_,rfl,by intro y u hc;cases hc⟩
 ·obtain ⟨h5,hi,rfl,hb0,hb1⟩:=h
  refine (later_any w h5).mono ?_
  rintro en w1 ⟨rfl,hb⟩
  exact ⟨hb,_,rfl,by intro y v hc;cases hc;rfl⟩
theorem RM.more {w:World} {r:Pr.Res α} (h:RM w rb sb cap l o N r):RM w rb sb cap l o (N+1) r:=by
 rcases r with n |⟨x,u⟩
 ·obtain ⟨k,b,a,e,e1,e2,e3,e4,e5⟩:=h;exact ⟨k,b,a,e,e1,by omega,e3,e4,e5⟩
 ·exact h
theorem RM.bump (C:RC l N) {w:World} {r:Pr.Res α} (h:RM w rb sb cap l o N r) (hm: ∀x u,r= .ok (x,u)→u.i+1<l.length):
  ∃k:Nat,w.cell? ⟨rb,1,none⟩=some (.int .i64 k)∧w.frozen? ⟨rb,1,none⟩=false∧(k:Int)<1000000∧
   RM (w.setCell ⟨rb,1,none⟩ (.int .i64 ((k:Int)+1))) rb sb cap l o (N+1) (Pr.th r fun x u=> .ok (x,u.go)):=by
 have hN:=C.len;have hT:=C.top
 rcases r with n |⟨x,u⟩
 ·obtain ⟨k,b,a,e,e1,e2,e3,e4,e5⟩:=h
  exact ⟨k,e5.blk.cell 1,e5.blk.frozen 1,by omega,k+1,b,a,e,e1,by omega,e3,e4,e5.go (by omega)⟩
 ·obtain ⟨h1,h2,rfl,h3,h4⟩:=h
  exact ⟨u.i,h1.blk.cell 1,h1.blk.frozen 1,by omega,h1.go (by omega),hm x u rfl,rfl,h3,h4⟩
theorem RC.more (C:RC l N) (h:N≤800000):RC l (N+1):=⟨C.kinds,C.good,by have:=C.len;omega,by omega⟩
theorem sums_more (C:RC l N) {u v:Pr.St} {x:Tm} (hi:u.i<l.length) (hs:Pr.sums (Pa.ts l) u=true) (ht:Pa.term l u= .ok (x,v)):v=u.go∧v.i+1<l.length∧Pr.is (Pa.ts l) v.i ⟨#[45]⟩=((rsg l (u.i+1)).text.toList== [45]):=by
 have hz:(Pr.sg (Pa.ts l) u.i).kind=(rsg l u.i).kind:=by rw[rsg_lt hi,←Pa.sg_tk];rfl
 unfold Pr.sums at hs
 rw[hz,Bool.and_eq_true] at hs
 obtain ⟨hk,hn⟩:=hs
 have h0:(rsg l u.i).kind≠0:=by intro e;rw[e] at hk;exact absurd hk (by decide)
 have h1:=more_rsg C hi h0
 rw[←isNx_pr h1,←isNx_pr h1] at hn
 have h2:(rsg l (u.i+1)).kind≠0:=by
  rcases q:isNx l (u.i+1) ⟨#[43]⟩ with _ |_
  ·rw[q,Bool.false_or] at hn
   rcases isNx_kind C.kinds (by omega) (by decide) hn with hh |hh<;>rw[hh]<;>decide
  ·rcases isNx_kind C.kinds (by omega) (by decide) q with hh |hh<;>rw[hh]<;>decide
 have hv:v=u.go:=by
  unfold Pa.term Pa.name at ht
  rw[←rsg_lt hi] at ht
  by_cases k2:(rsg l u.i).kind=2
  ·rw[if_pos k2] at ht;injection ht with ht;injection ht with a b;exact b.symm
  ·rw[if_neg k2] at ht
   by_cases k1:(rsg l u.i).kind=1
   ·rw[if_pos k1] at ht;injection ht with ht;injection ht with a b;exact b.symm
   ·rw[if_neg k1] at ht;cases ht
 subst hv
 exact ⟨rfl,more_rsg C h1 h2,by rw[show u.go.i=u.i+1 from rfl,←isNx_pr h1];unfold isNx;rw[show (⟨#[45]⟩:ByteArray).toList= [45] from Lib.toList_data _]⟩
theorem value_m (C:RC l N) (hN8:N≤800000) (w:World) (r0:Pr.Res α) (h:RM w rb sb cap l o N r0):
  Calls Tryz.prog 112 #[.pointer (some ⟨rb,0,none⟩)] w (RP (qVl.Val w.heap.size) w rb sb cap l o (N+1) (Pr.th r0 fun _ u=>Pa.value l u)):=by
 have HC:=hdn C
 have HC2:=hdn (C.more hN8)
 have HI0:Hid (∀x u,r0= .ok (x,u)→u.i<l.length):=hdn (by intro x u hc;subst hc;exact h.2.1)
 clear hN8
 obtain ⟨r,hr⟩: ∃r,r=Pr.th r0 fun _ u=>Pa.value l u:=⟨_,rfl⟩
 rw[←hr]
 have HR:=hdn hr
 have hn:Below w.heap.size w (w.alloc (.cells #[.int .i64 0,.int .i64 0,.string ByteArray.empty,.int .i64 0,.slice none 0 0,.string ByteArray.empty,.string ByteArray.empty,.int .i64 0,.int .i64 0,.string ByteArray.empty,.int .i64 0,.int .i64 0] 58)):=(Below.refl _ _).alloc (Nat.le_refl _) _
 have HM:=hdn (h.below hn)
 have HK:Hid (Bk (w.alloc (.cells #[.int .i64 0,.int .i64 0,.string ByteArray.empty,.int .i64 0,.slice none 0 0,.string ByteArray.empty,.string ByteArray.empty,.int .i64 0,.int .i64 0,.string ByteArray.empty,.int .i64 0,.int .i64 0] 58)) w.heap.size 58 (Vl.cells Pr.noVl).toArray):=hdn (heap_alloc_new _ _)
 have HNE:Hid (w.heap.size≠rb∧w.heap.size≠sb):=hdn ⟨by have:=h.rb_lt;omega,by have:=h.sb_lt;omega⟩
 have HG:Hid (w.grownBy (w.alloc (.cells #[.int .i64 0,.int .i64 0,.string ByteArray.empty,.int .i64 0,.slice none 0 0,.string ByteArray.empty,.string ByteArray.empty,.int .i64 0,.int .i64 0,.string ByteArray.empty,.int .i64 0,.int .i64 0] 58)) (some rb)):=hdn (grownBy_of hn _)
 generalize hwA:w.alloc (.cells #[.int .i64 0,.int .i64 0,.string ByteArray.empty,.int .i64 0,.slice none 0 0,.string ByteArray.empty,.string ByteArray.empty,.int .i64 0,.int .i64 0,.string ByteArray.empty,.int .i64 0,.int .i64 0] 58)=wA at HM HK HG
 clear h hr hn
 go_enter Tryz.func112,Tryz.ntmps112
 go_upto_region 1 with fail
 rw[show w.alloc (.cells #[.int .i64 0,.int .i64 0,.string ⟨#[]⟩,.int .i64 0,.slice none 0 0,.string ⟨#[]⟩,.string ⟨#[]⟩,.int .i64 0,.int .i64 0,.string ⟨#[]⟩,.int .i64 0,.int .i64 0] 58)=wA from hwA]
 clear hwA
 obtain ⟨A,hA⟩: ∃A,A=w.heap.size:=⟨_,rfl⟩
 have HA:=hdn hA
 rw[←hA] at HK HNE ⊢
 clear hA
 go_wp2_with fail
 refine (now_m wA r0 HM.out).mono ?_
 rintro en w0 ⟨hb,z,rfl,hz⟩
 have HZ:=hdn hz
 have HM0:=hdn (HM.out.below hb);have HK0:=hdn (HK.out.below hb HK.out.lt);have HG0:=hdn (grownBy_below HG.out hb)
 clear hb hz HM HK HG
 go_wp2_with fail
 refine (later_m w0 r0 HM0.out).mono ?_
 rintro en w1 ⟨hb,y,rfl,hy⟩
 have HY:=hdn hy
 have HM1:=hdn (HM0.out.below hb);have HK1:=hdn (HK0.out.below hb HK0.out.lt);have HG1:=hdn (grownBy_below HG0.out hb)
 clear hb hy HM0 HK0 HG0
 go_upto_region 2 with fail
 have hm:Below w1.heap.size w1 (w1.alloc (.cells #[.int .i64 z.kind,.int .i64 z.pos,.string z.text,.int .i64 z.num] 83)):=(Below.refl _ _).alloc (Nat.le_refl _) _
 have HMa:=hdn (HM1.out.below hm)
 have HKa:=hdn (HK1.out.below hm HK1.out.lt)
 have HFa:Hid (Bk (w1.alloc (.cells #[.int .i64 z.kind,.int .i64 z.pos,.string z.text,.int .i64 z.num] 83)) w1.heap.size 83 #[.int .i64 z.kind,.int .i64 z.pos,.string z.text,.int .i64 z.num]):=hdn (heap_alloc_new _ _)
 have HGa:=hdn (grownBy_below HG1.out hm)
 have HFN:Hid (w1.heap.size≠rb∧w1.heap.size≠A):=hdn ⟨by have:=HM1.out.rb_lt;omega,by have:=HK1.out.lt;omega⟩
 obtain ⟨G,hG⟩: ∃G,G=w1.heap.size+1:=⟨_,rfl⟩
 have hG':G=(w1.alloc (.cells #[.int .i64 z.kind,.int .i64 z.pos,.string z.text,.int .i64 z.num] 83)).heap.size:=by rw[hG];simp
 rw[←hG]
 clear hG
 generalize w1.alloc (.cells #[.int .i64 z.kind,.int .i64 z.pos,.string z.text,.int .i64 z.num] 83)=wB at HMa HKa HFa HGa hG' ⊢
 clear hm HM1 HK1 HG1
 generalize w1.heap.size=F at*
 have hm:Below wB.heap.size wB (wB.alloc (.cells #[.int .i64 y.kind,.int .i64 y.pos,.string y.text,.int .i64 y.num] 83)):=(Below.refl _ _).alloc (Nat.le_refl _) _
 have HM2:=hdn (HMa.out.below hm)
 have HK2:=hdn (HKa.out.below hm HKa.out.lt)
 have HF2:=hdn (HFa.out.below hm HFa.out.lt)
 have HY2:Hid (Bk (wB.alloc (.cells #[.int .i64 y.kind,.int .i64 y.pos,.string y.text,.int .i64 y.num] 83)) G 83 #[.int .i64 y.kind,.int .i64 y.pos,.string y.text,.int .i64 y.num]):=hdn (by rw[hG'];exact heap_alloc_new _ _)
 have HG2:=hdn (grownBy_below HGa.out hm)
 have HGN:Hid (G≠rb∧G≠A):=hdn ⟨by have:=HMa.out.rb_lt;omega,by have:=HKa.out.lt;omega⟩
 generalize wB.alloc (.cells #[.int .i64 y.kind,.int .i64 y.pos,.string y.text,.int .i64 y.num] 83)=w2 at HM2 HK2 HF2 HY2 HG2 ⊢
 clear hm hG' HMa HKa HFa HGa
 have t1:w2.cell? ⟨F,1,none⟩=some (.int .i64 z.pos):=HF2.out.cell 1
 go_upto_region 3 with fail
 clear t1
 change Code.wp _ _ _ _ (w2.alloc (.cells (Vl.cells {Pr.noVl with pos:=(z.pos:Int)}).toArray 58))
 have hm:Below w2.heap.size w2 (w2.alloc (.cells (Vl.cells {Pr.noVl with pos:=(z.pos:Int)}).toArray 58)):=(Below.refl _ _).alloc (Nat.le_refl _) _
 have HM3:=hdn (HM2.out.below hm)
 have HK3:=hdn (HK2.out.below hm HK2.out.lt)
 have HF3:=hdn (HF2.out.below hm HF2.out.lt)
 have HY3:=hdn (HY2.out.below hm HY2.out.lt)
 have HS3:Hid (Bk (w2.alloc (.cells (Vl.cells {Pr.noVl with pos:=(z.pos:Int)}).toArray 58)) w2.heap.size 58 (Vl.cells {Pr.noVl with pos:=(z.pos:Int)}).toArray):=hdn (heap_alloc_new _ _)
 have HG3:=hdn (grownBy_below HG2.out hm)
 have HNS:Hid (w2.heap.size≠rb∧w2.heap.size≠sb∧A≠w2.heap.size∧w.heap.size≤w2.heap.size∧G≠w2.heap.size):=hdn ⟨by have:=HM2.out.rb_lt;omega,by have:=HM2.out.sb_lt;omega,by have:=HK2.out.lt;omega,HG2.out.size,by have:=HY2.out.lt;omega⟩
 generalize w2.alloc (.cells (Vl.cells {Pr.noVl with pos:=(z.pos:Int)}).toArray 58)=w3 at HM3 HK3 HF3 HS3 HY3 HG3 ⊢
 clear hm HM2 HK2 HF2 HG2 HY2
 generalize w2.heap.size=S at*
 have HSM:Hid (∀x u,r0= .ok (x,u)→sm z y=Pr.sums (Pa.ts l) u):=hdn (by
  intro x u hc
  have hi:=HI0.out x u hc
  rw[HZ.out x u hc,HY.out x u hc,←rsg_lt hi,sm_pr HC.out hi])
 have tz:w3.cell? ⟨F,0,none⟩=some (.int .i64 z.kind):=HF3.out.cell 0
 have ty:w3.cell? ⟨G,0,none⟩=some (.int .i64 y.kind):=HY3.out.cell 0
 have tt:w3.cell? ⟨G,2,none⟩=some (.string y.text):=HY3.out.cell 2
 go_cut [6] from 6 to 36 (fun c wx=>c= .bool (sm z y)∧wx=w3)
 case first=>
  rcases k1:(z.kind==1) with _ |_
  ·rcases k2:(z.kind==2) with _ |_
   ·(go_wp2_with fail;go_meet;exact ⟨by simp[sm,k1,k2],rfl⟩)
   ·(rcases k4:(y.kind==4) with _ |_;(· (go_wp2_with fail;go_meet;exact ⟨by simp[sm,k1,k2,k4],rfl⟩));(· rcases kp:(y.text.toList== [43]) with _ |_;(· rcases km:(y.text.toList== [45]) with _ |_;(· (go_wp2_with fail;go_meet;exact ⟨by simp[sm,k1,k2,k4,kp,km],rfl⟩));(· (go_wp2_with fail;go_meet;exact ⟨by simp[sm,k1,k2,k4,kp,km],rfl⟩)));(· (go_wp2_with fail;go_meet;exact ⟨by simp[sm,k1,k2,k4,kp],rfl⟩))))
  ·(rcases k4:(y.kind==4) with _ |_;(· (go_wp2_with fail;go_meet;exact ⟨by simp[sm,k1,k4],rfl⟩));(· rcases kp:(y.text.toList== [43]) with _ |_;(· rcases km:(y.text.toList== [45]) with _ |_;(· (go_wp2_with fail;go_meet;exact ⟨by simp[sm,k1,k4,kp,km],rfl⟩));(· (go_wp2_with fail;go_meet;exact ⟨by simp[sm,k1,k4,kp,km],rfl⟩)));(· (go_wp2_with fail;go_meet;exact ⟨by simp[sm,k1,k4,kp],rfl⟩))))
 case rest=>
  obtain ⟨rfl,rfl⟩:=hcut
  clear tz ty tt
  go_wp2_with fail
  refine (take_m HC.out ⟨#[110,101,119]⟩ (by decide) wc r0 HM3.out).mono ?_
  rintro en w4 ⟨g4,hh⟩
  have HK4:=hdn (HK3.out.kept g4 HNE.out.1)
  have HS4:=hdn (HS3.out.kept g4 HNS.out.1)
  have HY4:=hdn (HY3.out.kept g4 HGN.out.1)
  have HG4:=hdn (grownBy_tr HG3.out g4)
  clear g4 HM3 HK3 HS3 HF3 HG3 HY3
  rcases hh with ⟨rfl,x0,u,hr0,hi,hm⟩|⟨rfl,hf,hm⟩
  ·have HR0:=hdn hr0
   have HI:=hdn hi
   have HM4:=hdn hm
   clear hr0 hi hm
   have f0:=HS4.out.frozen 0
   have c0:=HS4.out.cell 0
   simp only[List.getElem?_toArray,List.getElem?_cons_zero] at c0
   go_upto_region 7 with fail
   clear f0 c0
   have gs:w4.grownBy (w4.setCell ⟨S,0,none⟩ (.int .i64 2)) (some S):=grownBy_setC _ ⟨S,0,none⟩ _
   have HS5:Hid (Bk (w4.setCell ⟨S,0,none⟩ (.int .i64 2)) S 58 (Vl.cells {Pr.noVl with kind:=2,pos:=(z.pos:Int)}).toArray):=hdn (HS4.out.set_ 0 _)
   have HM5:=hdn (HM4.out.far gs HNS.out.1 HNS.out.2.1)
   have HK5:=hdn (HK4.out.kept gs HNS.out.2.2.1)
   have HY5:=hdn (HY4.out.kept gs HNS.out.2.2.2.2)
   have HG5:=hdn (grownBy_up HG4.out gs (fun q hq=>by injection hq with hq;have:=HNS.out;omega))
   clear gs HM4 HS4 HK4 HG4 HY4
   generalize (w4.setCell ⟨S,0,none⟩ (.int .i64 2))=w5 at HS5 HM5 HK5 HG5 HY5 ⊢
   go_wp2_with fail
   refine (name_m HC.out w5 _ HM5.out).mono ?_
   rintro en w6 ⟨g6,_,x,rfl,rfl,hx,hm⟩
   have HX:=hdn hx
   have HM6:=hdn hm
   have HK6:=hdn (HK5.out.kept g6 HNE.out.1)
   have HS6:=hdn (HS5.out.kept g6 HNS.out.1)
   have HY6:=hdn (HY5.out.kept g6 HGN.out.1)
   have HG6:=hdn (grownBy_tr HG5.out g6)
   clear hx hm g6 HM5 HK5 HS5 HG5 HY5
   have f5:=HS6.out.frozen 5
   have c5:=HS6.out.cell 5
   simp only[List.getElem?_toArray,List.getElem?_cons_zero,List.getElem?_cons_succ] at c5
   go_upto_region 17 with fail
   clear f5 c5
   have gs:w6.grownBy (w6.setCell ⟨S,5,none⟩ (.string x.text)) (some S):=grownBy_setC _ ⟨S,5,none⟩ _
   have HS7:Hid (Bk (w6.setCell ⟨S,5,none⟩ (.string x.text)) S 58 (Vl.cells {Pr.noVl with kind:=2,pos:=(z.pos:Int),type:=x.text}).toArray):=hdn (HS6.out.set_ 5 _)
   have HM7:=hdn (HM6.out.far gs HNS.out.1 HNS.out.2.1)
   have HK7:=hdn (HK6.out.kept gs HNS.out.2.2.1)
   have HY7:=hdn (HY6.out.kept gs HNS.out.2.2.2.2)
   have HG7:=hdn (grownBy_up HG6.out gs (fun q hq=>by injection hq with hq;have:=HNS.out;omega))
   clear gs HM6 HS6 HK6 HG6 HY6
   generalize (w6.setCell ⟨S,5,none⟩ (.string x.text))=w7 at HS7 HM7 HK7 HG7 HY7 ⊢
   go_wp2_with (first |((with_reducible show wpList _ _ _ (Oper.mk (some 73) (Op.load 58 _) _ _ _ _::_) _ _);refine wpList_load_bk rfl 58 (.tmp 5) rfl S 58 (Vl.cells {Pr.noVl with kind:=2,pos:=(z.pos:Int),type:=x.text}).toArray rfl _ HS7.out Tryz.underlying58 rfl size47 ?_)|((with_reducible show wpList _ _ _ (Oper.mk none (Op.store 58 (Operand.tmp 2) _) _ _ _ _::_) _ _);refine wpList_store_bk rfl 58 (.tmp 2) (.tmp 73) rfl A 58 _ (Vl.cells {Pr.noVl with kind:=2,pos:=(z.pos:Int),type:=x.text}).toArray rfl rfl HK7.out size47 rfl (by simp[Value.oneCell']) ?_;intro wZ hB hF;have HB:=hdn hB;have HF':=hdn hF;clear hB hF))
   have hm:=HM7.out.far HF'.out HNE.out.1 HNE.out.2
   have hg:=grownBy_up HG7.out HF'.out (fun q hq=>by injection hq with hq;have:=HA.out;omega)
   refine bodyPost_ret (results_cell_row Tryz.results112 _ wZ A 58 (Vl.cells {Pr.noVl with kind:=2,pos:=(z.pos:Int),type:=x.text}).toArray (0,0) _ rfl HB.out Tryz.underlying58 rfl size47) rfl ?_
   have hx:=HX.out
   have hrr:r=Pr.th (Pa.name l u.go) fun x v=> .ok ({Pr.noVl with kind:=2,pos:=((Pa.sg l u.i).pos:Int),type:=x.text},v):=by
    rw[HR.out,HR0.out];show Pa.value l u=_;unfold Pa.value;rw[if_pos HI.out]
   have hz:=HZ.out _ _ HR0.out
   rw[hrr,←hz]
   refine ⟨hg,_,_,rfl,⟨{Pr.noVl with kind:=2,pos:=(z.pos:Int),type:=x.text},rfl,rfl,no_hops⟩, ?_, ?_⟩
   ·intro y v hc
    rcases q:Pa.name l u.go with n |⟨x1,u1⟩
    ·rw[q] at hc;cases hc
    ·rw[q] at hc;injection hc with hc;injection hc with h3 h4
     rw[←h3,hx x1 u1 q];rfl
   ·refine hm.more.as _ (.inl ?_)
    show Pr.th (Pa.name l u.go) _=_
    rcases Pa.name l u.go with n |⟨x1,u1⟩<;>rfl
  have HF0:=hdn hf
  have HM4:=hdn hm
  clear hf hm
  go_wp2_with fail
  refine (take_m HC.out ⟨#[105,110,112,117,116]⟩ (by decide) w4 r0 HM4.out).mono ?_
  rintro en w5 ⟨g5,hh⟩
  have HK5:=hdn (HK4.out.kept g5 HNE.out.1)
  have HS5:=hdn (HS4.out.kept g5 HNS.out.1)
  have HY5:=hdn (HY4.out.kept g5 HGN.out.1)
  have HG5:=hdn (grownBy_tr HG4.out g5)
  clear g5 HM4 HK4 HS4 HG4 HY4
  rcases hh with ⟨rfl,x0,u,hr0,hi,hm⟩|⟨rfl,hf,hm⟩
  ·have HR0:=hdn hr0
   have HI:=hdn hi
   have HM5:=hdn hm
   clear hr0 hi hm
   have f0:=HS5.out.frozen 0
   have c0:=HS5.out.cell 0
   simp only[List.getElem?_toArray,List.getElem?_cons_zero] at c0
   go_upto_region 17 with fail
   clear f0 c0
   have gs:w5.grownBy (w5.setCell ⟨S,0,none⟩ (.int .i64 3)) (some S):=grownBy_setC _ ⟨S,0,none⟩ _
   have HS6:Hid (Bk (w5.setCell ⟨S,0,none⟩ (.int .i64 3)) S 58 (Vl.cells {Pr.noVl with kind:=3,pos:=(z.pos:Int)}).toArray):=hdn (HS5.out.set_ 0 _)
   have HM6:=hdn (HM5.out.far gs HNS.out.1 HNS.out.2.1)
   have HK6:=hdn (HK5.out.kept gs HNS.out.2.2.1)
   have HY6:=hdn (HY5.out.kept gs HNS.out.2.2.2.2)
   have HG6:=hdn (grownBy_up HG5.out gs (fun q hq=>by injection hq with hq;have:=HNS.out;omega))
   clear gs HM5 HS5 HK5 HG5 HY5
   generalize (w5.setCell ⟨S,0,none⟩ (.int .i64 3))=w6 at HS6 HM6 HK6 HG6 HY6 ⊢
   go_wp2_with (first |((with_reducible show wpList _ _ _ (Oper.mk (some 73) (Op.load 58 _) _ _ _ _::_) _ _);refine wpList_load_bk rfl 58 (.tmp 5) rfl S 58 (Vl.cells {Pr.noVl with kind:=3,pos:=(z.pos:Int)}).toArray rfl _ HS6.out Tryz.underlying58 rfl size47 ?_)|((with_reducible show wpList _ _ _ (Oper.mk none (Op.store 58 (Operand.tmp 2) _) _ _ _ _::_) _ _);refine wpList_store_bk rfl 58 (.tmp 2) (.tmp 73) rfl A 58 _ (Vl.cells {Pr.noVl with kind:=3,pos:=(z.pos:Int)}).toArray rfl rfl HK6.out size47 rfl (by simp[Value.oneCell']) ?_;intro wZ hB hF;have HB:=hdn hB;have HF':=hdn hF;clear hB hF))
   have hm:=HM6.out.far HF'.out HNE.out.1 HNE.out.2
   have hg:=grownBy_up HG6.out HF'.out (fun q hq=>by injection hq with hq;have:=HA.out;omega)
   refine bodyPost_ret (results_cell_row Tryz.results112 _ wZ A 58 (Vl.cells {Pr.noVl with kind:=3,pos:=(z.pos:Int)}).toArray (0,0) _ rfl HB.out Tryz.underlying58 rfl size47) rfl ?_
   have hrr:r= .ok ({Pr.noVl with kind:=3,pos:=((Pa.sg l u.i).pos:Int)},u.go):=by
    rw[HR.out,HR0.out];show Pa.value l u=_;unfold Pa.value;rw[if_neg (by rw[HF0.out _ _ HR0.out];decide),if_pos HI.out]
   have hz:=HZ.out _ _ HR0.out
   rw[hrr,←hz]
   exact ⟨hg,_,_,rfl,⟨{Pr.noVl with kind:=3,pos:=(z.pos:Int)},rfl,rfl,no_hops⟩,(fun y v hc=>by injection hc with hc;injection hc),hm.more.as _ (.inl rfl)⟩
  have HF1:=hdn hf
  have HM5:=hdn hm
  clear hf hm
  rcases hs:sm z y with _ |_
  ·have HSF:=hdn hs
   clear hs
   go_wp2_with fail
   refine (side_m HC.out w5 r0 HM5.out).mono ?_
   rintro en w6 ⟨g6,v6,x,rfl,⟨y0,hv,hye,hyl⟩,hx,hm⟩
   have hv6:v6= .agg y0.cells.toArray:=hv
   clear hv
   subst hv6
   have HX:=hdn hx
   have HM6:=hdn hm
   have HYE:=hdn hye
   have HYL:=hdn hyl
   have HLT:=hdn (⟨HG5.out.size,HK5.out.lt⟩:w.heap.size≤w5.heap.size∧A<w5.heap.size)
   have HK6:=hdn (HK5.out.kept g6 HNE.out.1)
   have HS6:=hdn (HS5.out.kept g6 HNS.out.1)
   have HY6:=hdn (HY5.out.kept g6 HGN.out.1)
   have HG6:=hdn (grownBy_tr HG5.out g6)
   clear hx hm g6 HM5 HK5 HS5 HG5 HY5 hye hyl
   go_wp2_with ((with_reducible show wpList _ _ _ (Oper.mk none (Op.store 58 (Operand.tmp 2) _) _ _ _ _::_) _ _);refine wpList_store_bk rfl 58 (.tmp 2) (.tmp 38) rfl A 58 _ (Vl.cells y0).toArray rfl rfl HK6.out size47 rfl (by simp[Value.oneCell']) ?_;intro wZ hB hF;have HB:=hdn hB;have HF':=hdn hF;clear hB hF)
   have hx:=HX.out
   have hz:=HZ.out
   have hf0:=HF0.out
   have hf1:=HF1.out
   have hsm:=HSM.out
   have hsf:=HSF.out
   have hm:=HM6.out.far HF'.out HNE.out.1 HNE.out.2
   have hg:=grownBy_up HG6.out HF'.out (fun q hq=>by injection hq with hq;have:=HA.out;omega)
   refine bodyPost_ret (results_cell_row Tryz.results112 _ wZ A 58 (Vl.cells y0).toArray (0,0) _ rfl HB.out Tryz.underlying58 rfl size47) rfl ?_
   have hrr:r=Pr.th r0 fun _ u=>Pa.side l u:=by
    rw[HR.out]
    rcases r0 with n |⟨x0,u⟩
    ·rfl
    ·show Pa.value l u=Pa.side l u
     unfold Pa.value
     rw[if_neg (by rw[hf0 _ _ rfl];decide),if_neg (by rw[hf1 _ _ rfl];decide),if_neg (by rw[←hsm _ _ rfl,hsf];decide)]
   rw[hrr]
   exact ⟨hg,_,x,rfl,⟨y0,rfl,HYE.out,vlLies_ext ((fresh_par HF'.out HLT.out.2).trans (fresh_mono HLT.out.1 _)) HYL.out⟩,hx,hm.more⟩
  ·have HSF:=hdn hs
   clear hs
   go_upto_region 11 with fail
   have f0:=HS5.out.frozen 0
   have c0:=HS5.out.cell 0
   simp only[List.getElem?_toArray,List.getElem?_cons_zero] at c0
   go_upto_region 12 with fail
   clear f0 c0
   have gs:w5.grownBy (w5.setCell ⟨S,0,none⟩ (.int .i64 5)) (some S):=grownBy_setC _ ⟨S,0,none⟩ _
   have HS6:Hid (Bk (w5.setCell ⟨S,0,none⟩ (.int .i64 5)) S 58 (Vl.cells {Pr.noVl with kind:=5,pos:=(z.pos:Int)}).toArray):=hdn (HS5.out.set_ 0 _)
   have HM6:=hdn (HM5.out.far gs HNS.out.1 HNS.out.2.1)
   have HK6:=hdn (HK5.out.kept gs HNS.out.2.2.1)
   have HY6:=hdn (HY5.out.kept gs HNS.out.2.2.2.2)
   have HG6:=hdn (grownBy_up HG5.out gs (fun q hq=>by injection hq with hq;have:=HNS.out;omega))
   clear gs HM5 HS5 HK5 HG5 HY5
   generalize (w5.setCell ⟨S,0,none⟩ (.int .i64 5))=w6 at HS6 HM6 HK6 HG6 HY6 ⊢
   have t2:w6.cell? ⟨G,2,none⟩=some (.string y.text):=HY6.out.cell 2
   rcases km:(y.text.toList== [45]) with _ |_
   ·have HKM:=hdn km
    go_upto_region 14 with fail
    clear km t2
    go_wp2_with fail
    refine (term_m HC.out w6 r0 HM6.out).mono ?_
    rintro en w8 ⟨g8,_,x,rfl,rfl,hx,hm⟩
    have HX:=hdn hx
    have HM8:=hdn hm
    have HK8:=hdn (HK6.out.kept g8 HNE.out.1)
    have HS8:=hdn (HS6.out.kept g8 HNS.out.1)
    have HY8:=hdn (HY6.out.kept g8 HGN.out.1)
    have HG8:=hdn (grownBy_tr HG6.out g8)
    clear hx hm g8 HM6 HK6 HS6 HG6 HY6
    have f6:=HS8.out.frozen 6
    have c6:=HS8.out.cell 6
    have f7:=HS8.out.frozen 7
    have c7:=HS8.out.cell 7
    have f8:=HS8.out.frozen 8
    have c8:=HS8.out.cell 8
    simp only[List.getElem?_toArray,List.getElem?_cons_zero,List.getElem?_cons_succ] at c6 c7 c8
    go_upto_region 15 with fail
    clear f6 c6 f7 c7 f8 c8
    have gs:w8.grownBy (((w8.setCell ⟨S,6,none⟩ (.string x.name)).setCell ⟨S,7,none⟩ (.int .i64 x.n)).setCell ⟨S,8,none⟩ (.int .i64 x.pos)) (some S):=grownBy_tr (grownBy_tr (grownBy_setC _ ⟨S,6,none⟩ _) (grownBy_setC _ ⟨S,7,none⟩ _)) (grownBy_setC _ ⟨S,8,none⟩ _)
    have HS9:Hid (Bk (((w8.setCell ⟨S,6,none⟩ (.string x.name)).setCell ⟨S,7,none⟩ (.int .i64 x.n)).setCell ⟨S,8,none⟩ (.int .i64 x.pos)) S 58 (Vl.cells {Pr.noVl with kind:=5,pos:=(z.pos:Int),left:=x}).toArray):=hdn (((HS8.out.set_ 6 _).set_ 7 _).set_ 8 _)
    have HM9:=hdn (HM8.out.far gs HNS.out.1 HNS.out.2.1)
    have HK9:=hdn (HK8.out.kept gs HNS.out.2.2.1)
    have HY9:=hdn (HY8.out.kept gs HNS.out.2.2.2.2)
    have HG9:=hdn (grownBy_up HG8.out gs (fun q hq=>by injection hq with hq;have:=HNS.out;omega))
    clear gs HM8 HS8 HK8 HG8 HY8
    generalize (((w8.setCell ⟨S,6,none⟩ (.string x.name)).setCell ⟨S,7,none⟩ (.int .i64 x.n)).setCell ⟨S,8,none⟩ (.int .i64 x.pos))=w9 at HS9 HM9 HK9 HG9 HY9 ⊢
    obtain ⟨k,c1,f1,hk2,hm⟩:=HM9.out.bump HC.out (by
     intro x' u' hc
     have hsm:=HSM.out
     have hsf:=HSF.out
     have hi0:=HI0.out
     rcases r0 with n |⟨x0,u⟩
     ·cases hc
     ·exact (sums_more HC.out (hi0 x0 u rfl) (by rw[←hsm x0 u rfl,hsf]) hc).2.1)
    have HM10:=hdn hm
    have hk0:(0:Int)≤(k:Int):=Int.natCast_nonneg _
    have g10:w9.grownBy (w9.setCell ⟨rb,1,none⟩ (.int .i64 ((k:Int)+1))) (some rb):=grownBy_setC w9 ⟨rb,1,none⟩ _
    have HK10:=hdn (HK9.out.kept g10 HNE.out.1)
    have HS10:=hdn (HS9.out.kept g10 HNS.out.1)
    have HY10:=hdn (HY9.out.kept g10 HGN.out.1)
    have HG10:=hdn (grownBy_tr HG9.out g10)
    clear hm g10 HM9 HK9 HS9 HG9 HY9
    go_upto_region 16 with fail
    clear c1 f1 hk2 hk0
    generalize w9.setCell ⟨rb,1,none⟩ (.int .i64 ((k:Int)+1))=w10 at HM10 HK10 HS10 HG10 HY10 ⊢
    go_wp2_with fail
    refine (term_m HC2.out w10 _ HM10.out).mono ?_
    rintro en w11 ⟨g11,_,x2,rfl,rfl,hx,hm⟩
    have HX2:=hdn hx
    have HM11:=hdn hm
    have HK11:=hdn (HK10.out.kept g11 HNE.out.1)
    have HS11:=hdn (HS10.out.kept g11 HNS.out.1)
    have HY11:=hdn (HY10.out.kept g11 HGN.out.1)
    have HG11:=hdn (grownBy_tr HG10.out g11)
    clear hx hm g11 HM10 HK10 HS10 HG10 HY10
    have f9:=HS11.out.frozen 9
    have c9:=HS11.out.cell 9
    have f10:=HS11.out.frozen 10
    have c10:=HS11.out.cell 10
    have f11:=HS11.out.frozen 11
    have c11:=HS11.out.cell 11
    simp only[List.getElem?_toArray,List.getElem?_cons_zero,List.getElem?_cons_succ] at c9 c10 c11
    go_upto_region 17 with fail
    clear f9 c9 f10 c10 f11 c11
    have gs:w11.grownBy (((w11.setCell ⟨S,9,none⟩ (.string x2.name)).setCell ⟨S,10,none⟩ (.int .i64 x2.n)).setCell ⟨S,11,none⟩ (.int .i64 x2.pos)) (some S):=grownBy_tr (grownBy_tr (grownBy_setC _ ⟨S,9,none⟩ _) (grownBy_setC _ ⟨S,10,none⟩ _)) (grownBy_setC _ ⟨S,11,none⟩ _)
    have HS12:Hid (Bk (((w11.setCell ⟨S,9,none⟩ (.string x2.name)).setCell ⟨S,10,none⟩ (.int .i64 x2.n)).setCell ⟨S,11,none⟩ (.int .i64 x2.pos)) S 58 (Vl.cells {Pr.noVl with kind:=5,pos:=(z.pos:Int),left:=x,right:=x2}).toArray):=hdn (((HS11.out.set_ 9 _).set_ 10 _).set_ 11 _)
    have HM12:=hdn (HM11.out.far gs HNS.out.1 HNS.out.2.1)
    have HK12:=hdn (HK11.out.kept gs HNS.out.2.2.1)
    have HY12:=hdn (HY11.out.kept gs HNS.out.2.2.2.2)
    have HG12:=hdn (grownBy_up HG11.out gs (fun q hq=>by injection hq with hq;have:=HNS.out;omega))
    clear gs HM11 HS11 HK11 HG11 HY11
    generalize (((w11.setCell ⟨S,9,none⟩ (.string x2.name)).setCell ⟨S,10,none⟩ (.int .i64 x2.n)).setCell ⟨S,11,none⟩ (.int .i64 x2.pos))=w12 at HS12 HM12 HK12 HG12 HY12 ⊢
    go_wp2_with (first |((with_reducible show wpList _ _ _ (Oper.mk (some 73) (Op.load 58 _) _ _ _ _::_) _ _);refine wpList_load_bk rfl 58 (.tmp 5) rfl S 58 (Vl.cells {Pr.noVl with kind:=5,pos:=(z.pos:Int),left:=x,right:=x2}).toArray rfl _ HS12.out Tryz.underlying58 rfl size47 ?_)|((with_reducible show wpList _ _ _ (Oper.mk none (Op.store 58 (Operand.tmp 2) _) _ _ _ _::_) _ _);refine wpList_store_bk rfl 58 (.tmp 2) (.tmp 73) rfl A 58 _ (Vl.cells {Pr.noVl with kind:=5,pos:=(z.pos:Int),left:=x,right:=x2}).toArray rfl rfl HK12.out size47 rfl (by simp[Value.oneCell']) ?_;intro wZ hB hF;have HB:=hdn hB;have HF':=hdn hF;clear hB hF))
    have hm:=HM12.out.far HF'.out HNE.out.1 HNE.out.2
    have hg:=grownBy_up HG12.out HF'.out (fun q hq=>by injection hq with hq;have:=HA.out;omega)
    refine bodyPost_ret (results_cell_row Tryz.results112 _ wZ A 58 (Vl.cells {Pr.noVl with kind:=5,pos:=(z.pos:Int),left:=x,right:=x2}).toArray (0,0) _ rfl HB.out Tryz.underlying58 rfl size47) rfl ?_
    have hx:=HX.out
    have hx2:=HX2.out
    have hz:=HZ.out
    have hy:=HY.out
    have hf0:=HF0.out
    have hf1:=HF1.out
    have hsm:=HSM.out
    have hsf:=HSF.out
    have hi0:=HI0.out
    have hkm:=HKM.out
    rw[HR.out]
    clear HX HX2 HZ HY HF0 HF1 HSM HSF HI0 HM12 HR
    rcases r0 with n |⟨x0,u⟩
    ·exact ⟨hg,_,_,rfl,⟨{Pr.noVl with kind:=5,pos:=(z.pos:Int),left:=x,right:=x2},rfl,rfl,no_hops⟩,(by intro y v hc;cases hc),hm⟩
    have hvl:Pr.th (.ok (x0,u)) (fun _ u=>Pa.value l u)=Pa.sum l u:=by
     show Pa.value l u=Pa.sum l u
     unfold Pa.value
     rw[if_neg (by rw[hf0 _ _ rfl];decide),if_neg (by rw[hf1 _ _ rfl];decide),if_pos (by rw[←hsm _ _ rfl,hsf])]
    rw[hvl]
    unfold Pa.sum
    refine ⟨hg,_,_,rfl,⟨{Pr.noVl with kind:=5,pos:=(z.pos:Int),left:=x,right:=x2},rfl,rfl,no_hops⟩, ?_, ?_⟩
    ·intro y' v hc
     rcases q:Pa.term l u with n |⟨x1,u1⟩
     ·rw[q] at hc;cases hc
     ·rw[q] at hc
      have hs3:=sums_more HC.out (hi0 x0 u rfl) (by rw[←hsm x0 u rfl,hsf]) q
      change Pr.th (Pa.term l u1.go) _=_ at hc
      rcases q2:Pa.term l u1.go with n |⟨x3,u3⟩
      ·rw[q2] at hc;cases hc
      ·rw[q2] at hc;injection hc with hc;injection hc with h3 h4
       rw[←h3,hx x1 u1 q,hx2 x3 u3 (by show Pr.th (Pr.th (Pa.term l u) _) _=_;rw[q];exact q2),hz x0 u rfl,hs3.2.2,←hy x0 u rfl,hkm];rfl
    ·refine hm.as _ (.inl ?_)
     show Pr.th (Pr.th (Pr.th (Pa.term l u) _) _) _=_
     rcases Pa.term l u with n |⟨x1,u1⟩
     ·rfl
     ·show Pr.th (Pa.term l u1.go) _=Pr.th (Pr.th (Pa.term l u1.go) _) _
      rcases Pa.term l u1.go with n |⟨x3,u3⟩<;>rfl
   ·have HKM:=hdn km
    go_upto_region 13 with fail
    clear km t2
    have f0:=HS6.out.frozen 0
    have c0:=HS6.out.cell 0
    simp only[List.getElem?_toArray,List.getElem?_cons_zero] at c0
    go_upto_region 14 with fail
    clear f0 c0
    have gs:w6.grownBy (w6.setCell ⟨S,0,none⟩ (.int .i64 6)) (some S):=grownBy_setC _ ⟨S,0,none⟩ _
    have HS7:Hid (Bk (w6.setCell ⟨S,0,none⟩ (.int .i64 6)) S 58 (Vl.cells {Pr.noVl with kind:=6,pos:=(z.pos:Int)}).toArray):=hdn (HS6.out.set_ 0 _)
    have HM7:=hdn (HM6.out.far gs HNS.out.1 HNS.out.2.1)
    have HK7:=hdn (HK6.out.kept gs HNS.out.2.2.1)
    have HY7:=hdn (HY6.out.kept gs HNS.out.2.2.2.2)
    have HG7:=hdn (grownBy_up HG6.out gs (fun q hq=>by injection hq with hq;have:=HNS.out;omega))
    clear gs HM6 HS6 HK6 HG6 HY6
    generalize (w6.setCell ⟨S,0,none⟩ (.int .i64 6))=w7 at HS7 HM7 HK7 HG7 HY7 ⊢
    go_wp2_with fail
    refine (term_m HC.out w7 r0 HM7.out).mono ?_
    rintro en w8 ⟨g8,_,x,rfl,rfl,hx,hm⟩
    have HX:=hdn hx
    have HM8:=hdn hm
    have HK8:=hdn (HK7.out.kept g8 HNE.out.1)
    have HS8:=hdn (HS7.out.kept g8 HNS.out.1)
    have HY8:=hdn (HY7.out.kept g8 HGN.out.1)
    have HG8:=hdn (grownBy_tr HG7.out g8)
    clear hx hm g8 HM7 HK7 HS7 HG7 HY7
    have f6:=HS8.out.frozen 6
    have c6:=HS8.out.cell 6
    have f7:=HS8.out.frozen 7
    have c7:=HS8.out.cell 7
    have f8:=HS8.out.frozen 8
    have c8:=HS8.out.cell 8
    simp only[List.getElem?_toArray,List.getElem?_cons_zero,List.getElem?_cons_succ] at c6 c7 c8
    go_upto_region 15 with fail
    clear f6 c6 f7 c7 f8 c8
    have gs:w8.grownBy (((w8.setCell ⟨S,6,none⟩ (.string x.name)).setCell ⟨S,7,none⟩ (.int .i64 x.n)).setCell ⟨S,8,none⟩ (.int .i64 x.pos)) (some S):=grownBy_tr (grownBy_tr (grownBy_setC _ ⟨S,6,none⟩ _) (grownBy_setC _ ⟨S,7,none⟩ _)) (grownBy_setC _ ⟨S,8,none⟩ _)
    have HS9:Hid (Bk (((w8.setCell ⟨S,6,none⟩ (.string x.name)).setCell ⟨S,7,none⟩ (.int .i64 x.n)).setCell ⟨S,8,none⟩ (.int .i64 x.pos)) S 58 (Vl.cells {Pr.noVl with kind:=6,pos:=(z.pos:Int),left:=x}).toArray):=hdn (((HS8.out.set_ 6 _).set_ 7 _).set_ 8 _)
    have HM9:=hdn (HM8.out.far gs HNS.out.1 HNS.out.2.1)
    have HK9:=hdn (HK8.out.kept gs HNS.out.2.2.1)
    have HY9:=hdn (HY8.out.kept gs HNS.out.2.2.2.2)
    have HG9:=hdn (grownBy_up HG8.out gs (fun q hq=>by injection hq with hq;have:=HNS.out;omega))
    clear gs HM8 HS8 HK8 HG8 HY8
    generalize (((w8.setCell ⟨S,6,none⟩ (.string x.name)).setCell ⟨S,7,none⟩ (.int .i64 x.n)).setCell ⟨S,8,none⟩ (.int .i64 x.pos))=w9 at HS9 HM9 HK9 HG9 HY9 ⊢
    obtain ⟨k,c1,f1,hk2,hm⟩:=HM9.out.bump HC.out (by
     intro x' u' hc
     have hsm:=HSM.out
     have hsf:=HSF.out
     have hi0:=HI0.out
     rcases r0 with n |⟨x0,u⟩
     ·cases hc
     ·exact (sums_more HC.out (hi0 x0 u rfl) (by rw[←hsm x0 u rfl,hsf]) hc).2.1)
    have HM10:=hdn hm
    have hk0:(0:Int)≤(k:Int):=Int.natCast_nonneg _
    have g10:w9.grownBy (w9.setCell ⟨rb,1,none⟩ (.int .i64 ((k:Int)+1))) (some rb):=grownBy_setC w9 ⟨rb,1,none⟩ _
    have HK10:=hdn (HK9.out.kept g10 HNE.out.1)
    have HS10:=hdn (HS9.out.kept g10 HNS.out.1)
    have HY10:=hdn (HY9.out.kept g10 HGN.out.1)
    have HG10:=hdn (grownBy_tr HG9.out g10)
    clear hm g10 HM9 HK9 HS9 HG9 HY9
    go_upto_region 16 with fail
    clear c1 f1 hk2 hk0
    generalize w9.setCell ⟨rb,1,none⟩ (.int .i64 ((k:Int)+1))=w10 at HM10 HK10 HS10 HG10 HY10 ⊢
    go_wp2_with fail
    refine (term_m HC2.out w10 _ HM10.out).mono ?_
    rintro en w11 ⟨g11,_,x2,rfl,rfl,hx,hm⟩
    have HX2:=hdn hx
    have HM11:=hdn hm
    have HK11:=hdn (HK10.out.kept g11 HNE.out.1)
    have HS11:=hdn (HS10.out.kept g11 HNS.out.1)
    have HY11:=hdn (HY10.out.kept g11 HGN.out.1)
    have HG11:=hdn (grownBy_tr HG10.out g11)
    clear hx hm g11 HM10 HK10 HS10 HG10 HY10
    have f9:=HS11.out.frozen 9
    have c9:=HS11.out.cell 9
    have f10:=HS11.out.frozen 10
    have c10:=HS11.out.cell 10
    have f11:=HS11.out.frozen 11
    have c11:=HS11.out.cell 11
    simp only[List.getElem?_toArray,List.getElem?_cons_zero,List.getElem?_cons_succ] at c9 c10 c11
    go_upto_region 17 with fail
    clear f9 c9 f10 c10 f11 c11
    have gs:w11.grownBy (((w11.setCell ⟨S,9,none⟩ (.string x2.name)).setCell ⟨S,10,none⟩ (.int .i64 x2.n)).setCell ⟨S,11,none⟩ (.int .i64 x2.pos)) (some S):=grownBy_tr (grownBy_tr (grownBy_setC _ ⟨S,9,none⟩ _) (grownBy_setC _ ⟨S,10,none⟩ _)) (grownBy_setC _ ⟨S,11,none⟩ _)
    have HS12:Hid (Bk (((w11.setCell ⟨S,9,none⟩ (.string x2.name)).setCell ⟨S,10,none⟩ (.int .i64 x2.n)).setCell ⟨S,11,none⟩ (.int .i64 x2.pos)) S 58 (Vl.cells {Pr.noVl with kind:=6,pos:=(z.pos:Int),left:=x,right:=x2}).toArray):=hdn (((HS11.out.set_ 9 _).set_ 10 _).set_ 11 _)
    have HM12:=hdn (HM11.out.far gs HNS.out.1 HNS.out.2.1)
    have HK12:=hdn (HK11.out.kept gs HNS.out.2.2.1)
    have HY12:=hdn (HY11.out.kept gs HNS.out.2.2.2.2)
    have HG12:=hdn (grownBy_up HG11.out gs (fun q hq=>by injection hq with hq;have:=HNS.out;omega))
    clear gs HM11 HS11 HK11 HG11 HY11
    generalize (((w11.setCell ⟨S,9,none⟩ (.string x2.name)).setCell ⟨S,10,none⟩ (.int .i64 x2.n)).setCell ⟨S,11,none⟩ (.int .i64 x2.pos))=w12 at HS12 HM12 HK12 HG12 HY12 ⊢
    go_wp2_with (first |((with_reducible show wpList _ _ _ (Oper.mk (some 73) (Op.load 58 _) _ _ _ _::_) _ _);refine wpList_load_bk rfl 58 (.tmp 5) rfl S 58 (Vl.cells {Pr.noVl with kind:=6,pos:=(z.pos:Int),left:=x,right:=x2}).toArray rfl _ HS12.out Tryz.underlying58 rfl size47 ?_)|((with_reducible show wpList _ _ _ (Oper.mk none (Op.store 58 (Operand.tmp 2) _) _ _ _ _::_) _ _);refine wpList_store_bk rfl 58 (.tmp 2) (.tmp 73) rfl A 58 _ (Vl.cells {Pr.noVl with kind:=6,pos:=(z.pos:Int),left:=x,right:=x2}).toArray rfl rfl HK12.out size47 rfl (by simp[Value.oneCell']) ?_;intro wZ hB hF;have HB:=hdn hB;have HF':=hdn hF;clear hB hF))
    have hm:=HM12.out.far HF'.out HNE.out.1 HNE.out.2
    have hg:=grownBy_up HG12.out HF'.out (fun q hq=>by injection hq with hq;have:=HA.out;omega)
    refine bodyPost_ret (results_cell_row Tryz.results112 _ wZ A 58 (Vl.cells {Pr.noVl with kind:=6,pos:=(z.pos:Int),left:=x,right:=x2}).toArray (0,0) _ rfl HB.out Tryz.underlying58 rfl size47) rfl ?_
    have hx:=HX.out
    have hx2:=HX2.out
    have hz:=HZ.out
    have hy:=HY.out
    have hf0:=HF0.out
    have hf1:=HF1.out
    have hsm:=HSM.out
    have hsf:=HSF.out
    have hi0:=HI0.out
    have hkm:=HKM.out
    rw[HR.out]
    clear HX HX2 HZ HY HF0 HF1 HSM HSF HI0 HM12 HR
    rcases r0 with n |⟨x0,u⟩
    ·exact ⟨hg,_,_,rfl,⟨{Pr.noVl with kind:=6,pos:=(z.pos:Int),left:=x,right:=x2},rfl,rfl,no_hops⟩,(by intro y v hc;cases hc),hm⟩
    have hvl:Pr.th (.ok (x0,u)) (fun _ u=>Pa.value l u)=Pa.sum l u:=by
     show Pa.value l u=Pa.sum l u
     unfold Pa.value
     rw[if_neg (by rw[hf0 _ _ rfl];decide),if_neg (by rw[hf1 _ _ rfl];decide),if_pos (by rw[←hsm _ _ rfl,hsf])]
    rw[hvl]
    unfold Pa.sum
    refine ⟨hg,_,_,rfl,⟨{Pr.noVl with kind:=6,pos:=(z.pos:Int),left:=x,right:=x2},rfl,rfl,no_hops⟩, ?_, ?_⟩
    ·intro y' v hc
     rcases q:Pa.term l u with n |⟨x1,u1⟩
     ·rw[q] at hc;cases hc
     ·rw[q] at hc
      have hs3:=sums_more HC.out (hi0 x0 u rfl) (by rw[←hsm x0 u rfl,hsf]) q
      change Pr.th (Pa.term l u1.go) _=_ at hc
      rcases q2:Pa.term l u1.go with n |⟨x3,u3⟩
      ·rw[q2] at hc;cases hc
      ·rw[q2] at hc;injection hc with hc;injection hc with h3 h4
       rw[←h3,hx x1 u1 q,hx2 x3 u3 (by show Pr.th (Pr.th (Pa.term l u) _) _=_;rw[q];exact q2),hz x0 u rfl,hs3.2.2,←hy x0 u rfl,hkm];rfl
    ·refine hm.as _ (.inl ?_)
     show Pr.th (Pr.th (Pr.th (Pa.term l u) _) _) _=_
     rcases Pa.term l u with n |⟨x1,u1⟩
     ·rfl
     ·show Pr.th (Pa.term l u1.go) _=Pr.th (Pr.th (Pa.term l u1.go) _) _
      rcases Pa.term l u1.go with n |⟨x3,u3⟩<;>rfl
end
end Go.Proofs.YtcehbcnloiooaaaGreatDoor
