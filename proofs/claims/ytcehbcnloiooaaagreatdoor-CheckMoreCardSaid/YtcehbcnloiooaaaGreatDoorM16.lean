/-
  The document's reader: how it stands while a statement is read: the reader, the result's block, the statement so far. Plain: what the document's reader's statement comes to, part by part. The document's reader: the walk of a statement. The document's reader: statements, whatever they hold. The docum
-/
import Derived.Test.YtcehbcnloiooaaaGreatDoorM15
import Derived.Deep.CutBlock
set_option maxHeartbeats 6400000
set_option maxRecDepth 100000
namespace Go.Proofs.YtcehbcnloiooaaaGreatDoor
open Go.RowKit Go.Sort
theorem Pr.th_th {α β γ:Type} (r:Pr.Res α) (f:α→Pr.St→Pr.Res β) (g:β→Pr.St→Pr.Res γ):Pr.th (Pr.th r f) g=Pr.th r fun a u=>Pr.th (f a u) g:=by
 rcases r with n |⟨a,u⟩<;>rfl
theorem Pr.th_okk {α β:Type} (a:α) (u:Pr.St) (f:α→Pr.St→Pr.Res β):Pr.th (.ok (a,u)) f=f a u:=rfl
def zSt:It:=⟨Pr.noHd,none,0,.nil,none,0,.nil⟩
structure SW {β:Type} (w0 w1 w:World) (rb sb cap A S:Nat) (l:List Tx.Sg) (o:Int) (N:Nat) (rm:Pr.Res β) (r:Pr.Res It) (x:It):Prop where
 m:RM w rb sb cap l o N rm
 a:Bk w A 63 zSt.cells.toArray
 s:Stc w1 w S x
 g:w0.grownBy w (some rb)
 b:w0.heap.size≤A∧A<w1.heap.size∧S<w1.heap.size∧A≠S∧w0.heap.size≤S∧w1.heap.size≤w.heap.size∧rb<w0.heap.size∧sb<w0.heap.size
 e: ∀y u,r= .ok (y,u)→x.pl=y
section
variable {α β γ:Type} {w0 w1 w w':World} {rb sb cap A S:Nat} {l:List Tx.Sg} {o o':Int} {N N':Nat} {rm:Pr.Res β} {rm':Pr.Res γ} {r r':Pr.Res It} {x x':It}
theorem SW.call (h:SW w0 w1 w rb sb cap A S l o N rm r x) (g:w.grownBy w' (some rb)) (m:RM w' rb sb cap l o' N' rm'):SW w0 w1 w' rb sb cap A S l o' N' rm' r x:=by
 obtain ⟨b1,b2,b3,b4,b5,b6,b7,b8⟩:=h.b
 exact ⟨m,h.a.kept g (by omega),h.s.par g (by omega) (by omega),grownBy_tr h.g g,⟨b1,b2,b3,b4,b5,Nat.le_trans b6 g.size,b7,b8⟩,h.e⟩
theorem SW.below (h:SW w0 w1 w rb sb cap A S l o N rm r x) (hb:Below w.heap.size w w'):SW w0 w1 w' rb sb cap A S l o N rm r x:=h.call (grownBy_of hb _) (h.m.below hb)
theorem SW.put (h:SW w0 w1 w rb sb cap A S l o N rm r x) (g:w.grownBy w' (some S)) (s:Stc w1 w' S x') (hm:RM w' rb sb cap l o N rm→RM w' rb sb cap l o N rm') (e: ∀y u,r'= .ok (y,u)→x'.pl=y):SW w0 w1 w' rb sb cap A S l o N rm' r' x':=by
 obtain ⟨b1,b2,b3,b4,b5,b6,b7,b8⟩:=h.b
 exact ⟨hm (h.m.far g (by omega) (by omega)),h.a.kept g b4,s,grownBy_up h.g g (fun q hq=>by injection hq with hq;omega),⟨b1,b2,b3,b4,b5,Nat.le_trans b6 g.size,b7,b8⟩,e⟩
theorem e_map {f:It→It} (he: ∀y u,r= .ok (y,u)→x.pl=y) (hf:x'.pl=f x.pl): ∀y u,(Pr.th r fun y u=> .ok (f y,u))= .ok (y,u)→x'.pl=y:=by
 intro y u hy
 rcases r with n |⟨y0,u0⟩
 ·cases hy
 ·injection hy with hy;injection hy with h1 h2;rw[←h1,hf,he _ _ rfl]
theorem e_call {f:Pr.St→Pr.Res β} {g:It→β→It} {z:β} (he: ∀y u,r= .ok (y,u)→x.pl=y) (hz: ∀y u,(Pr.th r fun _ u=>f u)= .ok (y,u)→z=y) (hx:x'.pl=g x.pl z):
  ∀y u,(Pr.th r fun y u=>Pr.th (f u) fun p v=> .ok (g y p,v))= .ok (y,u)→x'.pl=y:=by
 intro y u hy
 rcases r with n |⟨y0,u0⟩
 ·cases hy
 ·change Pr.th (f u0) _=_ at hy
  rcases q:f u0 with n |⟨p,v⟩
  ·rw[q] at hy;cases hy
  ·rw[q] at hy;injection hy with hy;injection hy with h1 h2;rw[←h1,hx,he _ _ rfl,hz p v q]
theorem m_map {f:α→β} {r:Pr.Res α} (h:RM w rb sb cap l o N r):RM w rb sb cap l o N (Pr.th r fun y u=> .ok (f y,u)):=h.as _ (.inl (by rcases r with n |⟨y,u⟩<;>rfl))
theorem m_call {f:Pr.St→Pr.Res β} {g:α→β→γ} {r:Pr.Res α} (h:RM w rb sb cap l o N (Pr.th r fun _ u=>f u)):RM w rb sb cap l o N (Pr.th r fun y u=>Pr.th (f u) fun p v=> .ok (g y p,v)):=h.as _ (.inl (by
 rcases r with n |⟨y,u⟩
 ·rfl
 ·show Pr.th (f u) _=Pr.th (Pr.th (f u) _) _
  rcases f u with n |⟨p,v⟩<;>rfl))
theorem SW.kind (h:SW w0 w1 w rb sb cap A S l o N rm r x) (k:Int) (hm: ∀w',RM w' rb sb cap l o N rm→RM w' rb sb cap l o N rm'):
  SW w0 w1 (w.setCell ⟨S,0,none⟩ (.int .i64 k)) rb sb cap A S l o N rm' (Pr.th r fun y u=> .ok ({y with h:= {y.h with kind:=k}},u)) {x with h:= {x.h with kind:=k}}:=
 h.put (grownBy_setC w ⟨S,0,none⟩ _) (h.s.kind h.b.2.2.1 k) (hm _) (e_map (x':= {x with h:= {x.h with kind:=k}}) h.e rfl)
theorem SW.both (h:SW w0 w1 w rb sb cap A S l o N rm r x) (k:Bool) (hm: ∀w',RM w' rb sb cap l o N rm→RM w' rb sb cap l o N rm'):
  SW w0 w1 (w.setCell ⟨S,47,none⟩ (.bool k)) rb sb cap A S l o N rm' (Pr.th r fun y u=> .ok ({y with h:= {y.h with both:=k}},u)) {x with h:= {x.h with both:=k}}:=
 h.put (grownBy_setC w ⟨S,47,none⟩ _) (h.s.both h.b.2.2.1 k) (hm _) (e_map (x':= {x with h:= {x.h with both:=k}}) h.e rfl)
theorem SW.place (h:SW w0 w1 w rb sb cap A S l o N (Pr.th r fun _ u=>Pa.path l u) r x) {p:Pth} (hB:Bk w' S 63 (putC x.cells 2 p.cells).toArray) (hF:w.grownBy w' (some S)) (hs:hopsLie (fresh w1.heap.size w) p.hops)
  (hz: ∀y u,(Pr.th r fun _ u=>Pa.path l u)= .ok (y,u)→p.pl=y):
  SW w0 w1 w' rb sb cap A S l o N (Pr.th r fun y u=>Pr.th (Pa.path l u) fun p v=> .ok (({y with h:= {y.h with place:=p}}:It),v)) (Pr.th r fun y u=>Pr.th (Pa.path l u) fun p v=> .ok (({y with h:= {y.h with place:=p}}:It),v)) {x with h:= {x.h with place:=p}}:=
 h.put hF (h.s.place h.b.2.2.1 hB hF hs) m_call (e_call (x':= {x with h:= {x.h with place:=p}}) (g:=fun y p=> {y with h:= {y.h with place:=p}}) h.e hz rfl)
theorem SW.value (h:SW w0 w1 w rb sb cap A S l o N (Pr.th r fun _ u=>Pa.value l u) r x) {p:Vl} (hB:Bk w' S 63 (putC x.cells 5 p.cells).toArray) (hF:w.grownBy w' (some S)) (hs:vlLies (fresh w1.heap.size w) p)
  (hz: ∀y u,(Pr.th r fun _ u=>Pa.value l u)= .ok (y,u)→p.pl=y):
  SW w0 w1 w' rb sb cap A S l o N (Pr.th r fun y u=>Pr.th (Pa.value l u) fun p v=> .ok (({y with h:= {y.h with value:=p}}:It),v)) (Pr.th r fun y u=>Pr.th (Pa.value l u) fun p v=> .ok (({y with h:= {y.h with value:=p}}:It),v)) {x with h:= {x.h with value:=p}}:=
 h.put hF (h.s.value h.b.2.2.1 hB hF hs) m_call (e_call (x':= {x with h:= {x.h with value:=p}}) (g:=fun y p=> {y with h:= {y.h with value:=p}}) h.e hz rfl)
theorem SW.cond (h:SW w0 w1 w rb sb cap A S l o N (Pr.th r fun _ u=>Pa.cond l u) r x) {p:Cd} (hB:Bk w' S 63 (putC x.cells 17 p.cells).toArray) (hF:w.grownBy w' (some S)) (hs:vlLies (fresh w1.heap.size w) p.left∧vlLies (fresh w1.heap.size w) p.right)
  (hz: ∀y u,(Pr.th r fun _ u=>Pa.cond l u)= .ok (y,u)→p.pl=y):
  SW w0 w1 w' rb sb cap A S l o N (Pr.th r fun y u=>Pr.th (Pa.cond l u) fun p v=> .ok (({y with h:= {y.h with cond:=p}}:It),v)) (Pr.th r fun y u=>Pr.th (Pa.cond l u) fun p v=> .ok (({y with h:= {y.h with cond:=p}}:It),v)) {x with h:= {x.h with cond:=p}}:=
 h.put hF (h.s.cond h.b.2.2.1 hB hF hs) m_call (e_call (x':= {x with h:= {x.h with cond:=p}}) (g:=fun y p=> {y with h:= {y.h with cond:=p}}) h.e hz rfl)
theorem SW.then_ {f:Pr.St→Pr.Res SL} (h:SW w0 w1 w rb sb cap A S l o N (Pr.th r fun _ u=>f u) r x) (p:Option Addr) (c:Nat) (s:SL) (hs:sLies (fresh w1.heap.size w) p s) (hz: ∀y u,(Pr.th r fun _ u=>f u)= .ok (y,u)→s.pl=y):
  SW w0 w1 (w.setCell ⟨S,45,none⟩ (.slice p s.len c)) rb sb cap A S l o N (Pr.th r fun y u=>Pr.th (f u) fun p v=> .ok (({y with t:=p}:It),v)) (Pr.th r fun y u=>Pr.th (f u) fun p v=> .ok (({y with t:=p}:It),v)) {x with tp:=p,tc:=c,t:=s}:=
 h.put (grownBy_setC w ⟨S,45,none⟩ _) (h.s.then_ h.b.2.2.1 p c s hs) m_call (e_call (x':= {x with tp:=p,tc:=c,t:=s}) (g:=fun y p=> {y with t:=p}) h.e hz rfl)
theorem SW.else_ {f:Pr.St→Pr.Res SL} (h:SW w0 w1 w rb sb cap A S l o N (Pr.th r fun _ u=>f u) r x) (p:Option Addr) (c:Nat) (s:SL) (hs:sLies (fresh w1.heap.size w) p s) (hz: ∀y u,(Pr.th r fun _ u=>f u)= .ok (y,u)→s.pl=y):
  SW w0 w1 (w.setCell ⟨S,46,none⟩ (.slice p s.len c)) rb sb cap A S l o N (Pr.th r fun y u=>Pr.th (f u) fun p v=> .ok (({y with e:=p}:It),v)) (Pr.th r fun y u=>Pr.th (f u) fun p v=> .ok (({y with e:=p}:It),v)) {x with ep:=p,ec:=c,e:=s}:=
 h.put (grownBy_setC w ⟨S,46,none⟩ _) (h.s.else_ h.b.2.2.1 p c s hs) m_call (e_call (x':= {x with ep:=p,ec:=c,e:=s}) (g:=fun y p=> {y with e:=p}) h.e hz rfl)
theorem SW.want (h:SW w0 w1 w rb sb cap A S l o N r r x) (s:ByteArray) (g:w.grownBy w' (some rb)) (m:RM w' rb sb cap l o N (Pr.th r fun _ u=>Pr.must (Pa.ts l) s u)):
  SW w0 w1 w' rb sb cap A S l o N (Pr.th r fun y u=>Pr.th (Pr.must (Pa.ts l) s u) fun _ v=> .ok (y,v)) (Pr.th r fun y u=>Pr.th (Pr.must (Pa.ts l) s u) fun _ v=> .ok (y,v)) x:=by
 have hz: ∀y u,(Pr.th r fun _ u=>Pr.th (Pr.must (Pa.ts l) s u) fun _ v=>(.ok ((),v):Pr.Res Unit))= .ok (y,u)→()=y:=fun _ _ _=>rfl
 have h1:=h.call g (m_call (g:=fun (y:It) _=>y) m)
 refine ⟨h1.m,h1.a,h1.s,h1.g,h1.b, ?_⟩
 intro y u hy
 rcases r with n |⟨y0,u0⟩
 ·cases hy
 ·change Pr.th (Pr.must (Pa.ts l) s u0) _=_ at hy
  rcases q:Pr.must (Pa.ts l) s u0 with n |⟨p,v⟩
  ·rw[q] at hy;cases hy
  ·rw[q] at hy;injection hy with hy;injection hy with h3 h4;rw[←h3];exact h.e _ _ rfl
theorem SW.done (h:SW w0 w1 w rb sb cap A S l o N r r x) {R:Pr.Res It} {wZ:World} (hF:w.grownBy wZ (some A)) (hR:R=r∨((∃n,r= .error n)∧∃n,R= .error n)):
  RP (qIt.Val w0.heap.size) w0 rb sb cap l o N R (.returned (.agg x.cells.toArray)) wZ:=by
 obtain ⟨b1,b2,b3,b4,b5,b6,b7,b8⟩:=h.b
 have hm:=h.m.far hF (by omega) (by omega)
 refine ⟨grownBy_up h.g hF (fun q hq=>by injection hq with hq;omega),_,x.pl,rfl,⟨x,rfl,rfl,itLies_ext ((fresh_par hF b2).trans (fresh_mono (by omega) _)) h.s.2⟩, ?_, ?_⟩
 ·rcases hR with rfl |⟨_,n,rfl⟩
  ·exact h.e
  ·intro y u hy;cases hy
 ·rcases hR with rfl |⟨⟨n,rfl⟩,m,rfl⟩
  ·exact hm
  ·exact hm.as _ (.inr ⟨⟨_,rfl⟩,⟨_,rfl⟩⟩)
theorem SW.more (h:SW w0 w1 w rb sb cap A S l o N rm r x):SW w0 w1 w rb sb cap A S l o (N+1) rm r x:=⟨h.m.more,h.a,h.s,h.g,h.b,h.e⟩
end
theorem RS.count {w:World} {rb sb cap:Nat} {l:List Tx.Sg} {k:Nat} {o b a e:Int} (h:RS w rb sb cap l k o b a e) (b':Int):RS (w.setCell ⟨rb,3,none⟩ (.int .i64 b')) rb sb cap l k o b' a e:=
 ⟨by have:=h.blk.set_ 3 (.int .i64 b');simpa using this,fun j x hx=>range_grown (h.row j x hx) (grownBy_setC w ⟨rb,3,none⟩ _) h.ne,h.ne,h.pos,h.len,h.kb⟩
end Go.Proofs.YtcehbcnloiooaaaGreatDoor
namespace Go.Proofs.YtcehbcnloiooaaaGreatDoor
open Go.RowKit Go.Sort
section
variable {l:List Tx.Sg}
theorem must_of {s:ByteArray} {u:Pr.St} (h:Pr.is (Pa.ts l) u.i s=true):Pr.must (Pa.ts l) s u= .ok (Pr.sg (Pa.ts l) u.i,u.go):=by
 unfold Pr.must;rw[if_pos h]
theorem stp_want {r r':Pr.Res It} {s:ByteArray} (hr:r'=Pr.th r fun y u=>Pr.th (Pr.must (Pa.ts l) s u) fun _ v=> .ok (y,v)) {x:It} {u:Pr.St} (hc:r'= .ok (x,u)): ∃x0 u0,r= .ok (x0,u0)∧u0.i≤u.i:=by
 rw[hr] at hc
 obtain ⟨y,v,h1,h2⟩:=Pr.th_ok hc
 obtain ⟨t,z,h3,h4⟩:=Pr.th_ok h2
 injection h4 with h4;injection h4 with h5 h6
 exact ⟨y,v,h1,by rw[←h6];exact Nat.le_trans (Nat.le_add_right _ _) (Pr.must_fwd h3).1⟩
theorem acond_fwd {u v:Pr.St} {c:Cd} (h:Pa.cond l u= .ok (c,v)):u.i≤v.i:=by
 have hs:=Pa.cond_er (l:=l) u
 rw[h] at hs
 rcases q:Pr.cond (Pa.ts l) u with n |⟨b,w⟩
 ·rw[q] at hs;exact hs.elim
 ·rw[q] at hs
  obtain ⟨_,rfl⟩:=hs
  exact Nat.le_trans (Nat.le_add_right _ _) (Pr.cond_fwd q).1
theorem stp_cond {r r':Pr.Res It} (hr:r'=Pr.th r fun y u=>Pr.th (Pa.cond l u) fun p v=> .ok (({y with h:= {y.h with cond:=p}}:It),v)) {x:It} {u:Pr.St} (hc:r'= .ok (x,u)): ∃x0 u0,r= .ok (x0,u0)∧u0.i≤u.i:=by
 rw[hr] at hc
 obtain ⟨y,v,h1,h2⟩:=Pr.th_ok hc
 obtain ⟨t,z,h3,h4⟩:=Pr.th_ok h2
 injection h4 with h4;injection h4 with h5 h6
 exact ⟨y,v,h1,by rw[←h6];exact acond_fwd h3⟩
theorem ablock_stp {rec:Pr.St→Pr.Res SL} (hr: ∀u a v,rec u= .ok (a,v)→Pr.Stp 0 u v) {u v:Pr.St} {a:SL} (h:Pr.block (Pa.ts l) rec u= .ok (a,v)):Pr.Stp 1 u v:=by
 have hl: ∀u,Pa.Like SL.er (rec u) ((fun u=>Pr.th (rec u) fun a v=>(.ok (a.er,v):Pr.Res SL)) u):=by
  intro u
  show Pa.Like SL.er (rec u) (Pr.th (rec u) _)
  rcases rec u with n |⟨b,w⟩
  ·exact rfl
  ·exact ⟨rfl,rfl⟩
 have hs:=Pa.block_er (l:=l) hl u
 change Pa.Like SL.er (Pr.block (Pa.ts l) rec u) _ at hs
 rw[h] at hs
 rcases q:Pr.block (Pa.ts l) (fun u=>Pr.th (rec u) fun a v=>(.ok (a.er,v):Pr.Res SL)) u with n |⟨b,w⟩
 ·rw[q] at hs;exact hs.elim
 ·rw[q] at hs
  obtain ⟨_,rfl⟩:=hs
  refine Pr.block_stp (fun u a v hh=> ?_) q
  rcases q2:rec u with n |⟨c,z⟩
  ·simp only[q2,Pr.th] at hh;cases hh
  ·simp only[q2,Pr.th] at hh
   injection hh with hh;injection hh with h1 h2
   rw[←h2];exact hr u c z q2
theorem stp_block {rec:Pr.St→Pr.Res SL} (hr0: ∀u a v,rec u= .ok (a,v)→Pr.Stp 0 u v) {r r':Pr.Res It} (hr:r'=Pr.th r fun y u=>Pr.th (Pr.block (Pa.ts l) rec u) fun p v=> .ok (({y with t:=p}:It),v)) {x:It} {u:Pr.St} (hc:r'= .ok (x,u)): ∃x0 u0,r= .ok (x0,u0)∧u0.i≤u.i:=by
 rw[hr] at hc
 obtain ⟨y,v,h1,h2⟩:=Pr.th_ok hc
 obtain ⟨t,z,h3,h4⟩:=Pr.th_ok h2
 injection h4 with h4;injection h4 with h5 h6
 exact ⟨y,v,h1,by rw[←h6];exact Nat.le_trans (Nat.le_add_right _ _) (ablock_stp hr0 h3).1⟩
def brT (l:List Tx.Sg) (rec:Pr.St→Pr.Res SL) (ps:Int) (v:Pr.St):Pr.Res It:=
 Pr.th (Pr.th (Pr.th (Pr.th (Pr.th (.ok (it0 ps,v.go):Pr.Res It) fun y u=> .ok (({y with h:= {y.h with kind:=4}}:It),u)) fun y u=>Pr.th (Pr.must (Pa.ts l) ⟨#[40]⟩ u) fun _ v=> .ok (y,v)) fun y u=>Pr.th (Pa.cond l u) fun p v=> .ok (({y with h:= {y.h with cond:=p}}:It),v)) fun y u=>Pr.th (Pr.must (Pa.ts l) ⟨#[41]⟩ u) fun _ v=> .ok (y,v)) fun y u=>Pr.th (Pr.block (Pa.ts l) rec u) fun p v=> .ok (({y with t:=p}:It),v)
theorem branch_brT {rec:Pr.St→Pr.Res SL} {ps:Int} {v:Pr.St} (hi:Pr.is (Pa.ts l) v.i ⟨#[105,102]⟩=true) (hp:(Pa.sg l v.i).pos=ps):
  (Pr.th (Pa.branch l rec v) fun a v=>(.ok (itB a,v):Pr.Res It))=Pr.th (brT l rec ps v) fun y u=>if Pr.is (Pa.ts l) u.i ⟨#[101,108,115,101]⟩ then (Pr.th (Pr.block (Pa.ts l) rec u.go) fun e v=> .ok (({y with h:= {y.h with both:=true},e:=e}:It),v)) else .ok (y,u):=by
 unfold Pa.branch Pa.held brT
 rw[must_of hi,hp]
 simp only[Pr.th_th,Pr.th_okk]
 rcases Pr.must (Pa.ts l) ⟨#[40]⟩ v.go with n |⟨t1,u1⟩
 ·rfl
 simp only[Pr.th_okk]
 rcases Pa.cond l u1 with n |⟨t2,u2⟩
 ·rfl
 simp only[Pr.th_okk]
 rcases Pr.must (Pa.ts l) ⟨#[41]⟩ u2 with n |⟨t3,u3⟩
 ·rfl
 simp only[Pr.th_okk]
 show Pr.th (Pr.block (Pa.ts l) rec u3) _=_
 rcases Pr.block (Pa.ts l) rec u3 with n |⟨t4,u4⟩
 ·rfl
 simp only[Pr.th_okk]
 show Pr.th (if _ then Pr.th (Pr.block (Pa.ts l) rec u4.go) _ else _) _=_
 split
 ·rcases Pr.block (Pa.ts l) rec u4.go with n |⟨t5,u5⟩<;>rfl
 ·rfl
theorem if_yes {rec:Pr.St→Pr.Res SL} {ps:Int} {v u0:Pr.St} {y0:It} (hi:Pr.is (Pa.ts l) v.i ⟨#[105,102]⟩=true) (hp:(Pa.sg l v.i).pos=ps) (hc:brT l rec ps v= .ok (y0,u0)) (he:Pr.is (Pa.ts l) u0.i ⟨#[101,108,115,101]⟩=true):
  (Pr.th (Pa.branch l rec v) fun a v=>(.ok (itB a,v):Pr.Res It))=Pr.th (Pr.th (.ok (y0,u0.go):Pr.Res It) fun y u=> .ok (({y with h:= {y.h with both:=true}}:It),u)) fun y u=>Pr.th (Pr.block (Pa.ts l) rec u) fun p v=> .ok (({y with e:=p}:It),v):=by
 rw[branch_brT hi hp,hc]
 simp only[Pr.th_okk]
 rw[if_pos he]
theorem if_no {rec:Pr.St→Pr.Res SL} {ps:Int} {v:Pr.St} (hi:Pr.is (Pa.ts l) v.i ⟨#[105,102]⟩=true) (hp:(Pa.sg l v.i).pos=ps) (he: ∀y u,brT l rec ps v= .ok (y,u)→Pr.is (Pa.ts l) u.i ⟨#[101,108,115,101]⟩=false):
  (Pr.th (Pa.branch l rec v) fun a v=>(.ok (itB a,v):Pr.Res It))=brT l rec ps v:=by
 rw[branch_brT hi hp]
 rcases q:brT l rec ps v with n |⟨y,u⟩
 ·rfl
 ·simp only[Pr.th_okk]
  rw[if_neg (by rw[he y u q];decide)]
end
end Go.Proofs.YtcehbcnloiooaaaGreatDoor
namespace Go.Proofs.YtcehbcnloiooaaaGreatDoor
open Go.RowKit Go.Sort
attribute [local go_sem] field72_0 field72_1 field72_2 field72_3
section
variable {rb sb cap:Nat} {l:List Tx.Sg} {N:Nat}
def cB (l:List Tx.Sg) (i:Nat):Bool:=(rsg l i).kind==1 && ((rsg l (i+1)).kind==4 && (rsg l (i+1)).text.toList== [40])
theorem SW.take {w0 w1 w w':World} {A S:Nat} {o:Int} {x y:It} {u:Pr.St} (h:SW w0 w1 w rb sb cap A S l o N (.ok (y,u):Pr.Res It) (.ok (y,u)) x) (g:w.grownBy w' (some rb)) (m:RM w' rb sb cap l o N (.ok (y,u.go):Pr.Res It)):
  SW w0 w1 w' rb sb cap A S l o N (.ok (y,u.go):Pr.Res It) (.ok (y,u.go)) x:=by
 have h1:=h.call g m
 exact ⟨h1.m,h1.a,h1.s,h1.g,h1.b,fun y' u' hy=>by injection hy with hy;injection hy with h2 h3;rw[←h2];exact h.e _ _ rfl⟩
theorem take_bool {en:Ending} {P Q:Prop} (h:(en= .returned (.bool true)∧P)∨(en= .returned (.bool false)∧Q)): ∃b:Bool,en= .returned (.bool b)∧((b=true∧P)∨(b=false∧Q)):=by
 rcases h with ⟨rfl,h⟩|⟨rfl,h⟩
 ·exact ⟨true,rfl,.inl ⟨rfl,h⟩⟩
 ·exact ⟨false,rfl,.inr ⟨rfl,h⟩⟩
theorem SW.kindc {β:Type} {w0 w1 w:World} {A S:Nat} {o:Int} {x:It} {r:Pr.Res It} {f:Pr.St→Pr.Res β} (h:SW w0 w1 w rb sb cap A S l o N (Pr.th r fun _ u=>f u) r x) (k:Int):
  SW w0 w1 (w.setCell ⟨S,0,none⟩ (.int .i64 k)) rb sb cap A S l o N (Pr.th (Pr.th r fun y u=>(.ok (({y with h:= {y.h with kind:=k}}:It),u):Pr.Res It)) fun _ u=>f u) (Pr.th r fun y u=> .ok ({y with h:= {y.h with kind:=k}},u)) {x with h:= {x.h with kind:=k}}:=
 h.kind k (fun _ hm=>by rw[Pr.th_th];exact hm)
theorem SW.kind1 {w0 w1 w:World} {A S:Nat} {o:Int} {x:It} {r:Pr.Res It} (h:SW w0 w1 w rb sb cap A S l o N r r x) (k:Int):
  SW w0 w1 (w.setCell ⟨S,0,none⟩ (.int .i64 k)) rb sb cap A S l o N (Pr.th r fun y u=>(.ok (({y with h:= {y.h with kind:=k}}:It),u):Pr.Res It)) (Pr.th r fun y u=> .ok ({y with h:= {y.h with kind:=k}},u)) {x with h:= {x.h with kind:=k}}:=
 h.kind k (fun _ hm=>m_map hm)
theorem SW.bothc {β:Type} {w0 w1 w:World} {A S:Nat} {o:Int} {x:It} {r:Pr.Res It} {f:Pr.St→Pr.Res β} (h:SW w0 w1 w rb sb cap A S l o N (Pr.th r fun _ u=>f u) r x) (k:Bool):
  SW w0 w1 (w.setCell ⟨S,47,none⟩ (.bool k)) rb sb cap A S l o N (Pr.th (Pr.th r fun y u=>(.ok (({y with h:= {y.h with both:=k}}:It),u):Pr.Res It)) fun _ u=>f u) (Pr.th r fun y u=> .ok ({y with h:= {y.h with both:=k}},u)) {x with h:= {x.h with both:=k}}:=
 h.both k (fun _ hm=>by rw[Pr.th_th];exact hm)
theorem hz_map {β:Type} {r:Pr.Res It} {g:It→It} {f:Pr.St→Pr.Res β} {z:β} (h: ∀y u,(Pr.th r fun _ u=>f u)= .ok (y,u)→z=y): ∀y u,(Pr.th (Pr.th r fun y u=>(.ok (g y,u):Pr.Res It)) fun _ u=>f u)= .ok (y,u)→z=y:=by rw[Pr.th_th];exact h
structure SG {β:Type} (w0 w1 w:World) (rb sb cap A S:Nat) (l:List Tx.Sg) (o:Int) (N:Nat) (rm:Pr.Res β) (hd:Hd) (acc:List Vl) (v:Value):Prop where
 m:RM w rb sb cap l o N rm
 a:Bk w A 63 zSt.cells.toArray
 s: ∃p c ys,v= .slice p ys.length c∧ys.length=acc.length∧Bk w S 63 (It.cells (itH {hd with args:=⟨p,c,ys⟩})).toArray
 gr:qVl.Gr w1.heap.size acc v w
 g:w0.grownBy w (some rb)
 b:w0.heap.size≤A∧A<w1.heap.size∧S<w1.heap.size∧A≠S∧w0.heap.size≤S∧w1.heap.size≤w.heap.size∧rb<w0.heap.size∧sb<w0.heap.size
theorem SG.call {β γ:Type} {w0 w1 w w':World} {A S:Nat} {o o':Int} {N':Nat} {rm:Pr.Res β} {rm':Pr.Res γ} {hd:Hd} {acc:List Vl} {v:Value} (h:SG w0 w1 w rb sb cap A S l o N rm hd acc v) (g:w.grownBy w' (some rb)) (m:RM w' rb sb cap l o' N' rm'):SG w0 w1 w' rb sb cap A S l o' N' rm' hd acc v:=by
 obtain ⟨b1,b2,b3,b4,b5,b6,b7,b8⟩:=h.b
 obtain ⟨p,c,ys,s1,s2,s3⟩:=h.s
 exact ⟨m,h.a.kept g (by omega),⟨p,c,ys,s1,s2,s3.kept g (by omega)⟩,h.gr.par g (by omega),grownBy_tr h.g g,⟨b1,b2,b3,b4,b5,Nat.le_trans b6 g.size,b7,b8⟩⟩
theorem SG.below {β:Type} {w0 w1 w w':World} {A S:Nat} {o:Int} {rm:Pr.Res β} {hd:Hd} {acc:List Vl} {v:Value} (h:SG w0 w1 w rb sb cap A S l o N rm hd acc v) (hb:Below w.heap.size w w'):SG w0 w1 w' rb sb cap A S l o N rm hd acc v:=h.call (grownBy_of hb _) (h.m.below hb)
theorem SG.cell {β:Type} {w0 w1 w:World} {A S:Nat} {o:Int} {rm:Pr.Res β} {hd:Hd} {acc:List Vl} {v:Value} (h:SG w0 w1 w rb sb cap A S l o N rm hd acc v):w.cell? ⟨S,44,none⟩=some v:=by
 obtain ⟨p,c,ys,rfl,s2,s3⟩:=h.s;exact s3.cell 44
theorem SG.frozen {β:Type} {w0 w1 w:World} {A S:Nat} {o:Int} {rm:Pr.Res β} {hd:Hd} {acc:List Vl} {v:Value} (h:SG w0 w1 w rb sb cap A S l o N rm hd acc v):w.frozen? ⟨S,44,none⟩=false:=by
 obtain ⟨p,c,ys,rfl,s2,s3⟩:=h.s;exact s3.frozen 44
theorem SG.lt {β:Type} {w0 w1 w:World} {A S:Nat} {o:Int} {rm:Pr.Res β} {hd:Hd} {acc:List Vl} {v:Value} (h:SG w0 w1 w rb sb cap A S l o N rm hd acc v):S<w.heap.size:=by
 obtain ⟨p,c,ys,rfl,s2,s3⟩:=h.s;exact s3.lt
theorem SG.shape {β:Type} {w0 w1 w:World} {A S:Nat} {o:Int} {rm:Pr.Res β} {hd:Hd} {acc:List Vl} {v:Value} (h:SG w0 w1 w rb sb cap A S l o N rm hd acc v): ∃p c,v= .slice p acc.length c:=by
 obtain ⟨p,c,ys,rfl,s2,s3⟩:=h.s;rw[←s2];exact ⟨p,c,rfl⟩
theorem SG.push {β γ:Type} {w0 w1 w w':World} {A S:Nat} {o:Int} {rm:Pr.Res β} {rm':Pr.Res γ} {hd:Hd} {acc:List Vl} {z:Vl} {v:Value} {g cap':Nat} (h:SG w0 w1 w rb sb cap A S l o N rm hd acc v) (hG:qVl.Gr w1.heap.size (acc++ [z]) (.slice (some ⟨g,0,none⟩) (acc.length+1) cap') w') (hgr:w.grownBy w' v.ownBlock) (hown: ∀q,v.ownBlock=some q→w1.heap.size≤q)
  (hm: ∀w,RM w rb sb cap l o N rm→RM w rb sb cap l o N rm'):SG w0 w1 (w'.setCell ⟨S,44,none⟩ (.slice (some ⟨g,0,none⟩) (acc.length+1) cap')) rb sb cap A S l o N rm' hd (acc++ [z]) (.slice (some ⟨g,0,none⟩) (acc.length+1) cap'):=by
 obtain ⟨b1,b2,b3,b4,b5,b6,b7,b8⟩:=h.b
 obtain ⟨p,c,ys,s1,s2,s3⟩:=h.s
 have hm1:=hm _ (h.m.grown hgr (fun q hq=>by have:=hown q hq;omega))
 have hA1:=h.a.grown hgr (fun q hq=>by have:=hown q hq;omega)
 have hS1:=s3.grown hgr (fun q hq=>by have:=hown q hq;omega)
 have gS:w'.grownBy (w'.setCell ⟨S,44,none⟩ (.slice (some ⟨g,0,none⟩) (acc.length+1) cap')) (some S):=grownBy_setC w' ⟨S,44,none⟩ (.slice (some ⟨g,0,none⟩) (acc.length+1) cap')
 have hl:(acc++ [z]).length=acc.length+1:=by simp
 refine ⟨hm1.far gS (by omega) (by omega),hA1.kept gS b4,⟨some ⟨g,0,none⟩,cap',acc++ [z],by rw[hl],rfl, ?_⟩,hG.par gS b3,grownBy_up (grownBy_up h.g hgr (fun q hq=>by have:=hown q hq;omega)) gS (fun q hq=>by injection hq with hq;omega),⟨b1,b2,b3,b4,b5,Nat.le_trans b6 (Nat.le_trans hgr.size gS.size),b7,b8⟩⟩
 rw[←hl];exact hS1.set_ 44 _
theorem e_push {r:Pr.Res (List Vl)} {acc:List Vl} {zz:Vl} {y0:Vl} (he: ∀a u,r= .ok (a,u)→acc=a) (hx: ∀y u,(Pr.th r fun _ u=>Pa.side l u)= .ok (y,u)→zz=y) (hy:qVl.er y0=zz):
  ∀a u,(Pr.th r fun y u=>Pr.th (Pa.side l u) fun p v=>(.ok (y++ [p],v):Pr.Res (List Vl)))= .ok (a,u)→acc++ [qVl.er y0]=a:=by
 intro a u hc
 obtain ⟨y,v,h1,h2⟩:=Pr.th_ok hc
 obtain ⟨p,z,h3,h4⟩:=Pr.th_ok h2
 cases h4
 rw[he y v h1,hy,hx p u (by rw[h1];exact h3)]
theorem he_end {r:Pr.Res (List Vl)} {acc:List Vl} (he: ∀a u,r= .ok (a,u)→acc=a): ∀a u,(Pr.th (Pr.th r fun a u=>Pr.th (Pr.must (Pa.ts l) ⟨#[41]⟩ u) fun _ v=>(.ok (a,v):Pr.Res (List Vl))) fun a u=>Pr.th (Pr.must (Pa.ts l) ⟨#[59]⟩ u) fun _ z=>(.ok (a,z):Pr.Res (List Vl)))= .ok (a,u)→acc=a:=by
 intro a u hc
 obtain ⟨y,v,h1,h2⟩:=Pr.th_ok hc
 obtain ⟨p,z,h3,h4⟩:=Pr.th_ok h2
 obtain ⟨y2,v2,h5,h6⟩:=Pr.th_ok h1
 obtain ⟨p2,z2,h7,h8⟩:=Pr.th_ok h6
 cases h4;cases h8
 exact he _ _ h5
theorem aside_fwd {u v:Pr.St} {c:Vl} (h:Pa.side l u= .ok (c,v)):u.i+1≤v.i:=by
 have hs:=Pa.side_er (l:=l) u
 rw[h] at hs
 rcases q:Pr.side (Pa.ts l) u with n |⟨b,w⟩
 ·rw[q] at hs;exact hs.elim
 ·rw[q] at hs
  obtain ⟨_,rfl⟩:=hs
  exact (Pr.side_fwd q).1
theorem more_end {rn:Pr.Res (List Vl)} {g:Nat} (hf: ∀a u,rn= .ok (a,u)→Pr.is (Pa.ts l) u.i ⟨#[44]⟩=false) (hg: ∀a u,rn= .ok (a,u)→0<g):
  (Pr.th rn fun a u=>Pr.more (Pa.ts l) (Pa.side l) g a u)=Pr.th rn fun a u=>Pr.th (Pr.must (Pa.ts l) ⟨#[41]⟩ u) fun _ v=>(.ok (a,v):Pr.Res (List Vl)):=by
 rcases rn with n |⟨a,u⟩
 ·rfl
 ·simp only[Pr.th_okk]
  obtain ⟨k,rfl⟩: ∃k,g=k+1:=⟨g-1,by have:=hg a u rfl;omega⟩
  rw[Pr.more,hf a u rfl,if_neg (by decide)]
theorem more_step {a:List Vl} {u:Pr.St} {g:Nat} (hi:Pr.is (Pa.ts l) u.i ⟨#[44]⟩=true):
  Pr.more (Pa.ts l) (Pa.side l) (g+1) a u=Pr.th (Pr.th (.ok (a,u.go):Pr.Res (List Vl)) fun y u=>Pr.th (Pa.side l u) fun p v=>(.ok (y++ [p],v):Pr.Res (List Vl))) fun a u=>Pr.more (Pa.ts l) (Pa.side l) g a u:=by
 rw[Pr.more,if_pos hi]
 simp only[Pr.th_th,Pr.th_okk]
theorem SG.fin {w0 w1 w:World} {A S:Nat} {o:Int} {rm:Pr.Res (List Vl)} {ps:Int} {nm:ByteArray} {acc:List Vl} {v:Value} (h:SG w0 w1 w rb sb cap A S l o N rm {Pr.noHd with kind:=3,pos:=ps,name:=nm} acc v) (he: ∀a u,rm= .ok (a,u)→acc=a) (hn:nm.size≤maxLen) (hl:acc.length*144≤140737488351232):
  ∃x:It,SW w0 w1 w rb sb cap A S l o N (Pr.th rm fun a u=>(.ok (itH {Pr.noHd with kind:=3,pos:=ps,name:=nm,args:=⟨none,0,a⟩},u):Pr.Res It)) (Pr.th rm fun a u=> .ok (itH {Pr.noHd with kind:=3,pos:=ps,name:=nm,args:=⟨none,0,a⟩},u)) x:=by
 obtain ⟨p,c,ys,s1,s2,s3⟩:=h.s
 obtain ⟨sl,hv,hsl,hly⟩:=Kd.fin qVl hl h.gr
 rw[s1] at hv
 injection hv with e1 e2 e3
 refine ⟨itH {Pr.noHd with kind:=3,pos:=ps,name:=nm,args:=sl},m_map h.m,h.a,⟨?_,⟨⟨(show 0*24≤140737488351232 by decide),.inl rfl⟩,⟨(show 0*24≤140737488351232 by decide),.inl rfl⟩,⟨(show 0*24≤140737488351232 by decide),.inl rfl⟩,⟨(show 0*24≤140737488351232 by decide),.inl rfl⟩,hly,hn⟩,⟨(show 0*608≤140737488351232 by decide),.inl rfl⟩,⟨(show 0*608≤140737488351232 by decide),.inl rfl⟩⟩,h.g,h.b, ?_⟩
 ·have hc:(It.cells (itH {Pr.noHd with kind:=3,pos:=ps,name:=nm,args:=⟨p,c,ys⟩}))=It.cells (itH {Pr.noHd with kind:=3,pos:=ps,name:=nm,args:=sl}):=by
   simp only[It.cells,itH,scells,e1,e2,e3]
  rw[hc] at s3;exact s3
 ·intro y u hy
  rcases rm with n |⟨a,u0⟩
  ·cases hy
  ·injection hy with hy;injection hy with h1 h2
   rw[←h1,←he a u0 rfl,←hsl];rfl
theorem cB_of {i:Nat} {z y:Tx.Sg} (hz:z=rsg l i) (hy:y=rsg l (i+1)):cB l i=(z.kind==1 && (y.kind==4 && y.text.toList== [40])):=by subst hz;subst hy;rfl
theorem cB_no {i:Nat} {z:Tx.Sg} (hz:z=rsg l i) (k:(z.kind==1)=false):cB l i=false:=by subst hz;unfold cB;rw[k];rfl
theorem qinfVl: ∃i z,qVl.Inf Tryz.prog 61 i z:=by
 obtain ⟨i,h⟩:=infVl
 exact ⟨i,_,⟨h.und,h.info,h.zero,h.size,h.bytes,h.cells,h.pos⟩⟩
theorem cB_yes (C:RC l N) {i:Nat} (hi:i<l.length) (h:cB l i=true):(Pa.sg l i).kind=1∧i+1<l.length∧Pr.is (Pa.ts l) (i+1) ⟨#[40]⟩=true:=by
 unfold cB at h
 simp only[Bool.and_eq_true,beq_iff_eq] at h
 obtain ⟨h1,h2,h3⟩:=h
 have h4:=more_rsg C hi (by rw[h1];decide)
 refine ⟨by rw[←rsg_lt hi];exact h1,h4, ?_⟩
 rw[←isNx_pr h4];unfold isNx;rw[h3,show (⟨#[40]⟩:ByteArray).toList= [40] from Lib.toList_data _];rfl
theorem cB_not (C:RC l N) {i:Nat} (hi:i<l.length) (h:cB l i=false) (hk:(Pa.sg l i).kind=1):Pr.is (Pa.ts l) (i+1) ⟨#[40]⟩=false:=by
 have hk':(rsg l i).kind=1:=by rw[rsg_lt hi];exact hk
 have h4:=more_rsg C hi (by rw[hk'];decide)
 rcases q:Pr.is (Pa.ts l) (i+1) ⟨#[40]⟩ with _ |_
 ·rfl
 ·rw[←isNx_pr h4] at q
  unfold isNx at q
  have hK:=rsg_kind C.kinds (i+1) (Nat.lt_of_le_of_lt (Nat.zero_le _) hi)
  rw[show (⟨#[40]⟩:ByteArray).toList= [40] from Lib.toList_data _] at q
  have q2:=q
  rw[beq_iff_eq,Lib.toList_data] at q2
  have h5:(rsg l (i+1)).kind=4:=Pa.kind_mark hK (by rw[q2];rfl)
  unfold cB at h
  rw[hk',h5,q] at h;cases h
def setT (l:List Tx.Sg) (ps:Int) (v:Pr.St):Pr.Res It:=
 Pr.th (Pr.th (Pr.th (Pr.th (Pr.th (.ok (it0 ps,v):Pr.Res It) fun y u=> .ok (({y with h:= {y.h with kind:=1}}:It),u)) fun y u=>Pr.th (Pa.path l u) fun p v=> .ok (({y with h:= {y.h with place:=p}}:It),v)) fun y u=>Pr.th (Pr.must (Pa.ts l) ⟨#[61]⟩ u) fun _ v=> .ok (y,v)) fun y u=>Pr.th (Pa.value l u) fun p v=> .ok (({y with h:= {y.h with value:=p}}:It),v)) fun y u=>Pr.th (Pr.must (Pa.ts l) ⟨#[59]⟩ u) fun _ v=> .ok (y,v)
theorem named_set (C:RC l N) {ps:Int} {v:Pr.St} (hi:v.i<l.length) (hp:(Pa.sg l v.i).pos=ps) (hc:cB l v.i=false):
  (Pr.th (Pr.th (Pa.named l v) fun h u=>(.ok ((h,.nil,.nil),u):Pr.Res (Hd×SL×SL))) fun a v=>(.ok (itB a,v):Pr.Res It))=setT l ps v∨((∃n,setT l ps v= .error n)∧∃n,(Pr.th (Pr.th (Pa.named l v) fun h u=>(.ok ((h,.nil,.nil),u):Pr.Res (Hd×SL×SL))) fun a v=>(.ok (itB a,v):Pr.Res It))= .error n):=by
 by_cases hk:(Pa.sg l v.i).kind=1
 ·left
  unfold Pa.named setT
  rw[if_neg (by rw[cB_not C hi hc hk];decide),hp]
  simp only[Pr.th_th,Pr.th_okk]
  rfl
 ·right
  have hn:Pa.name l v= .error (5,v.i):=by unfold Pa.name;rw[if_neg hk]
  constructor
  ·refine ⟨(5,v.i), ?_⟩
   unfold setT Pa.path
   rw[show (Pr.th (.ok (it0 ps,v):Pr.Res It) fun y u=>(.ok (({y with h:= {y.h with kind:=1}}:It),u):Pr.Res It))= .ok ({it0 ps with h:= {(it0 ps).h with kind:=1}},v) from rfl,Pr.th_okk,hn]
   rfl
  ·unfold Pa.named Pa.path
   rw[hn]
   split
   ·exact ⟨_,rfl⟩
   ·exact ⟨_,rfl⟩
theorem named_call {ps:Int} {v:Pr.St} (hk:(Pa.sg l v.i).kind=1) (hp:(Pa.sg l v.i).pos=ps) (h:Pr.is (Pa.ts l) (v.i+1) ⟨#[40]⟩=true):
  (Pr.th (Pr.th (Pa.named l v) fun h u=>(.ok ((h,.nil,.nil),u):Pr.Res (Hd×SL×SL))) fun a v=>(.ok (itB a,v):Pr.Res It))=
   Pr.th (Pr.th (Pr.listed (Pa.ts l) (Pa.side l) v.go) fun a u=>Pr.th (Pr.must (Pa.ts l) ⟨#[59]⟩ u) fun _ z=>(.ok (a,z):Pr.Res (List Vl))) fun a u=>(.ok (itH {Pr.noHd with kind:=3,pos:=ps,name:=(Pa.sg l v.i).text,args:=⟨none,0,a⟩},u):Pr.Res It):=by
 have hn:Pa.name l v= .ok (Pa.sg l v.i,v.go):=by unfold Pa.name;rw[if_pos hk]
 unfold Pa.named
 rw[if_pos h,hn,hp]
 simp only[Pr.th_th,Pr.th_okk]
 rfl
theorem stmt_m (C:RC l N) (hT:Tex l) (hN8:N≤800000) (n:Nat) (rec:Pr.St→Pr.Res SL) (hrec:SRq rb sb cap l N n rec) (hrs: ∀u a v,rec u= .ok (a,v)→Pr.Stp 0 u v):TRq rb sb cap l N n (Pa.rstmt l rec):=by
 intro w o u h ho0 ho1 hfu hk0
 have HC:=hdn C
 have HC2:=hdn (C.more hN8)
 have HT:=hdn hT
 have HREC:=hdn hrec
 have HRS:=hdn hrs
 have HN8:=hdn hN8
 have HO:Hid (0≤o∧o≤20):=hdn ⟨ho0,ho1⟩
 have HFU:=hdn hfu
 clear hN8 hT hrec hrs ho0 ho1 hfu hk0
 obtain ⟨R,hr⟩: ∃R,R=Pr.th (Pa.rstmt l rec u) fun a v=> .ok (itB a,v):=⟨_,rfl⟩
 rw[←hr]
 have HR:=hdn hr
 have hn:Below w.heap.size w (w.alloc (.cells zSt.cells.toArray 63)):=(Below.refl _ _).alloc (Nat.le_refl _) _
 have HM:=hdn (h.below hn)
 have HK:Hid (Bk (w.alloc (.cells zSt.cells.toArray 63)) w.heap.size 63 zSt.cells.toArray):=hdn (heap_alloc_new _ _)
 have HG:Hid (w.grownBy (w.alloc (.cells zSt.cells.toArray 63)) (some rb)):=hdn (grownBy_of hn _)
 have HLT:Hid (rb<w.heap.size∧sb<w.heap.size):=hdn ⟨h.rb_lt,h.sb_lt⟩
 clear h hr hn
 go_enter Tryz.func78,Tryz.ntmps78
 go_upto_region 1 with fail
 change Code.wp _ _ _ _ (w.alloc (.cells zSt.cells.toArray 63))
 obtain ⟨A,hA⟩: ∃A,A=w.heap.size:=⟨_,rfl⟩
 have HA:=hdn hA
 rw[←hA] at HK ⊢
 clear hA
 generalize w.alloc (.cells zSt.cells.toArray 63)=wA at HM HK HG ⊢
 go_wp2_with fail
 refine (now_m wA _ HM.out).mono ?_
 rintro en w2 ⟨hb,z,rfl,hz⟩
 obtain rfl:=hz _ _ rfl
 have HM2:=hdn (HM.out.below hb);have HK2:=hdn (HK.out.below hb HK.out.lt);have HG2:=hdn (grownBy_below HG.out hb)
 clear hb hz HM HK HG
 obtain ⟨ps,hps⟩: ∃ps:Int,ps=(Pa.sg l u.i).pos:=⟨_,rfl⟩
 have HPS:=hdn hps
 rw[←hps]
 clear hps
 generalize hsk:(Pa.sg l u.i).kind=skd
 generalize hst:(Pa.sg l u.i).text=stx
 generalize hsn:(Pa.sg l u.i).num=snm
 clear hsk hst hsn
 go_upto_region 2 with (first |((with_reducible show wpList _ _ _ (Oper.mk none (Op.store 63 _ _) _ _ _ _::_) _ _);refine wpList_store_new rfl 63 (.tmp 3) (.tmp 7) rfl _ (It.cells (it0 ps)).toArray rfl rfl size57 rfl (kIt.one _) ?_))
 have hm:Below w2.heap.size w2 (w2.alloc (.cells (It.cells (it0 ps)).toArray 63)):=(Below.refl _ _).alloc (Nat.le_refl _) _
 have HM3:=hdn (HM2.out.below hm);have HG3:=hdn (grownBy_below HG2.out hm);have HK3:=hdn (HK2.out.below hm HK2.out.lt)
 have HS3:Hid (Bk (w2.alloc (.cells (It.cells (it0 ps)).toArray 63)) w2.heap.size 63 (It.cells (it0 ps)).toArray):=hdn (heap_alloc_new _ _)
 have HSZ:Hid ((w2.alloc (.cells (It.cells (it0 ps)).toArray 63)).heap.size=w2.heap.size+1):=hdn (by simp)
 have HK2L:Hid (A<w2.heap.size):=hdn HK2.out.lt
 have HG2S:Hid (w.heap.size≤w2.heap.size):=hdn HG2.out.size
 obtain ⟨S,hS⟩: ∃S,S=w2.heap.size:=⟨_,rfl⟩
 rw[←hS] at HS3 HSZ HK2L HG2S ⊢
 clear hS hm HM2 HG2 HK2
 change Code.wp _ _ _ _ (w2.alloc (.cells (It.cells (it0 ps)).toArray 63))
 generalize w2.alloc (.cells (It.cells (it0 ps)).toArray 63)=w3 at HM3 HG3 HK3 HS3 HSZ ⊢
 have HW3:Hid (SW w w3 w3 rb sb cap A S l o N (.ok (it0 ps,u):Pr.Res It) (.ok (it0 ps,u)) (it0 ps)):=hdn
  ⟨⟨HM3.out.1,HM3.out.2⟩,HK3.out,Stc.zero ps HS3.out,HG3.out,⟨by rw[HA.out];exact Nat.le_refl _,by have:=HSZ.out;have:=HK2L.out;omega,by have:=HSZ.out;omega,by have:=HK2L.out;omega,HG2S.out,Nat.le_refl _,HLT.out.1,HLT.out.2⟩,fun y v hy=>by cases hy;rfl⟩
 clear HM3 HK3 HS3 HG3 HSZ HK2L HG2S
 have c3:w3.cell? ⟨rb,3,none⟩=some (.int .i64 u.b):=HW3.out.m.1.blk.cell 3
 by_cases h4:u.b=400
 ·have h4':(u.b==400)=true:=by rw[h4];rfl
  have H4:=hdn h4
  clear h4
  go_upto_region 3 with fail
  clear c3 h4'
  have s1:w3.cell? ⟨S,1,none⟩=some (.int .i64 ps):=HW3.out.s.1.cell 1
  go_wp2_with fail
  clear s1
  refine (stop_m HC.out ps 11 (by decide) w3 _ HW3.out.m).mono ?_
  rintro en w4 ⟨rfl,g4,hm⟩
  have HW4:=hdn (HW3.out.call g4 hm)
  clear g4 hm HW3
  have HRE:Hid (∃n,R= .error n):=hdn (by rw[HR.out];unfold Pa.rstmt;rw[if_pos H4.out];exact ⟨_,rfl⟩)
  go_wp2_with (first |((with_reducible show wpList _ _ _ (Oper.mk (some _) (Op.load 63 _) _ _ _ _::_) _ _);refine wpList_load_bk rfl 63 (.tmp 3) rfl S 63 (It.cells (it0 ps)).toArray rfl _ HW4.out.s.1 Tryz.underlying63 rfl size57 ?_)|((with_reducible show wpList _ _ _ (Oper.mk none (Op.store 63 (Operand.tmp 2) _) _ _ _ _::_) _ _);refine wpList_store_bk rfl 63 (.tmp 2) _ rfl A 63 _ (It.cells (it0 ps)).toArray rfl rfl HW4.out.a size57 rfl (kIt.one _) ?_;intro wZ hB hF;have HB:=hdn hB;have HF':=hdn hF;clear hB hF))
  refine bodyPost_ret (results_cell_row Tryz.results78 _ wZ A 63 (It.cells (it0 ps)).toArray (0,0) _ rfl HB.out Tryz.underlying63 rfl size57) rfl ?_
  have hw:=HW4.out
  have h5:SW w w3 w4 rb sb cap A S l o N (.error (11,0):Pr.Res It) (.error (11,0)) (it0 ps):=⟨hw.m,hw.a,hw.s,hw.g,hw.b,fun y v hy=>by cases hy⟩
  exact h5.more.done HF'.out (.inr ⟨⟨_,rfl⟩,HRE.out⟩)
 have h4':(u.b==400)=false:=by rw[beq_eq_false_iff_ne];exact h4
 have H4:=hdn h4
 obtain ⟨hb0,hb1⟩:0≤u.b∧u.b≤400:=⟨HW3.out.m.2.2.2.1,HW3.out.m.2.2.2.2⟩
 have f3:w3.frozen? ⟨rb,3,none⟩=false:=HW3.out.m.1.blk.frozen 3
 go_upto_block 0 with fail
 have g4:w3.grownBy (w3.setCell ⟨rb,3,none⟩ (.int .i64 (u.b+1))) (some rb):=grownBy_setC _ ⟨rb,3,none⟩ _
 obtain ⟨v,hv⟩: ∃v:Pr.St,v=⟨u.i,u.o,u.b+1⟩:=⟨_,rfl⟩
 have hm4:RM (w3.setCell ⟨rb,3,none⟩ (.int .i64 (u.b+1))) rb sb cap l o N (.ok (it0 ps,v):Pr.Res It):=by
  have h0:=HW3.out.m
  rw[hv]
  exact ⟨h0.1.count (u.b+1),h0.2.1,h0.2.2.1,by show 0≤u.b+1;omega,by show u.b+1≤400;omega⟩
 have HW4:Hid (SW w w3 (w3.setCell ⟨rb,3,none⟩ (.int .i64 (u.b+1))) rb sb cap A S l o N (.ok (it0 ps,v):Pr.Res It) (.ok (it0 ps,v)) (it0 ps)):=hdn (by
  have h1:=HW3.out.call g4 hm4
  exact ⟨h1.m,h1.a,h1.s,h1.g,h1.b,fun y u' hy=>by cases hy;rfl⟩)
 have HRB:Hid (R=Pr.th (Pa.rbody l rec v) fun a v=> .ok (itB a,v)):=hdn (by rw[HR.out,hv];unfold Pa.rstmt;rw[if_neg H4.out])
 have HVI:Hid (v.i=u.i):=hdn (by rw[hv])
 have HPV:Hid ((Pa.sg l v.i).pos=ps):=hdn (by rw[HVI.out,HPS.out])
 clear hv g4 hm4 h4 h4' hb0 hb1 c3 f3 HW3
 generalize w3.setCell ⟨rb,3,none⟩ (.int .i64 (u.b+1))=w4 at HW4 ⊢
 have HFV:Hid (l.length<v.i+1+n):=hdn (by rw[HVI.out];exact HFU.out)
 go_cut [] from 25 to 141 (fun wx=> ∃(r:Pr.Res It) (x:It),Hid (SW w w3 wx rb sb cap A S l o (N+1) r r x)∧Hid (R=r∨((∃n,r= .error n)∧∃n,R= .error n)))
 case rest=>
  obtain ⟨r,x,HW,HRR⟩:=hcut
  go_wp2_with (first |((with_reducible show wpList _ _ _ (Oper.mk (some _) (Op.load 63 _) _ _ _ _::_) _ _);refine wpList_load_bk rfl 63 (.tmp 3) rfl S 63 (It.cells x).toArray rfl _ HW.out.s.1 Tryz.underlying63 rfl size57 ?_)|((with_reducible show wpList _ _ _ (Oper.mk none (Op.store 63 (Operand.tmp 2) _) _ _ _ _::_) _ _);refine wpList_store_bk rfl 63 (.tmp 2) _ rfl A 63 _ (It.cells x).toArray rfl rfl HW.out.a size57 rfl (kIt.one _) ?_;intro wZ hB hF;have HB:=hdn hB;have HF':=hdn hF;clear hB hF))
  refine bodyPost_ret (results_cell_row Tryz.results78 _ wZ A 63 (It.cells x).toArray (0,0) _ rfl HB.out Tryz.underlying63 rfl size57) rfl ?_
  exact HW.out.done HF'.out HRR.out
 case first=>
  go_wp2_with fail
  refine (take_m HC.out ⟨#[59]⟩ (by decide) w4 _ HW4.out.m).mono ?_
  rintro en w5 ⟨g,hh⟩
  rcases hh with ⟨rfl,y0,u0,hr0,hi,hm⟩|⟨rfl,hf,hm⟩
  ·injection hr0 with hr0;injection hr0 with h1 h2;subst h1;subst h2
   have HI:=hdn hi;have HW5:=hdn (HW4.out.take g hm)
   clear hi hm g HW4
   go_wp2_with fail
   go_meet
   exact ⟨_,_,hdn HW5.out.more,hdn (.inl (by rw[HRB.out];unfold Pa.rbody;rw[if_pos HI.out,HPV.out];rfl))⟩
  have HF1:Hid (Pr.is (Pa.ts l) v.i ⟨#[59]⟩=false):=hdn (hf _ _ rfl);have HW5:=hdn (HW4.out.call (o':=o) g hm)
  clear hf hm g HW4
  go_wp2_with fail
  refine (is_m HC.out ⟨#[123]⟩ (by decide) w5 _ HW5.out.m).mono ?_
  rintro en w6 ⟨hb,hh⟩
  have HW6:=hdn (HW5.out.below hb)
  clear hb HW5
  rcases hh with ⟨rfl,y0,u0,hr0,hi,hlt⟩|⟨rfl,hf⟩
  ·injection hr0 with hr0;injection hr0 with h1 h2;subst h1;subst h2
   have HI:=hdn hi
   clear hi hlt
   go_wp2_with fail
   refine (list_m n rec HREC.out HC.out HN8.out w6 _ HW6.out.m HO.out (fun x u hc=>by injection hc with hc;injection hc with h1 h2;rw[←h2];exact HFV.out)).mono ?_
   rintro en w7 ⟨g,vv,sl,rfl,⟨pa7,ca7,sa7,rfl,hs,hl⟩,hx,hm⟩
   subst hs
   have HX7:=hdn hx;have HL7:=hdn (sLies_ext (fresh_mono (show w3.heap.size≤w6.heap.size from HW6.out.b.2.2.2.2.2.1) _) hl)
   have HW7:=hdn (HW6.out.call g hm)
   clear hx hl hm g HW6
   have c0:w7.cell? ⟨S,0,none⟩=some (.int .i64 0):=HW7.out.s.1.cell 0
   have f0:=HW7.out.s.1.frozen 0
   have c45:w7.cell? ⟨S,45,none⟩=some (.slice none 0 0):=HW7.out.s.1.cell 45
   have f45:=HW7.out.s.1.frozen 45
   go_wp2_with fail
   clear c0 f0 c45 f45
   have HY:=hdn ((HW7.out.kindc 6).then_ pa7 ca7 sa7 (sLies_ext (fresh_par (grownBy_setC w7 ⟨S,0,none⟩ _) HW7.out.b.2.2.1) HL7.out) (hz_map HX7.out))
   go_meet
   exact ⟨_,_,HY,hdn (.inl (by rw[HRB.out];unfold Pa.rbody;rw[if_neg (by rw[HF1.out];decide),if_pos HI.out,HPV.out];simp only[Pr.th_th,Pr.th_okk];rfl))⟩
  have HF2:Hid (Pr.is (Pa.ts l) v.i ⟨#[123]⟩=false):=hdn (hf _ _ rfl)
  clear hf
  go_wp2_with fail
  refine (take_m HC.out ⟨#[102,114,101,101]⟩ (by decide) w6 _ HW6.out.m).mono ?_
  rintro en w8 ⟨g,hh⟩
  rcases hh with ⟨rfl,y0,u0,hr0,hi,hm⟩|⟨rfl,hf,hm⟩
  ·injection hr0 with hr0;injection hr0 with h1 h2;subst h1;subst h2
   have HI:=hdn hi;have HW8:=hdn (HW6.out.take g hm)
   clear hi hm g HW6
   have c0:w8.cell? ⟨S,0,none⟩=some (.int .i64 0):=HW8.out.s.1.cell 0
   have f0:=HW8.out.s.1.frozen 0
   go_upto_region 15 with fail
   clear c0 f0
   have HW9:=hdn (HW8.out.kind1 2)
   generalize w8.setCell ⟨S,0,none⟩ (.int .i64 2)=w9 at HW9 ⊢
   clear HW8
   obtain ⟨r9,hr9⟩: ∃r:Pr.Res It,r=Pr.th (.ok (it0 ps,v.go):Pr.Res It) fun y u=> .ok ({y with h:= {y.h with kind:=2}},u):=⟨_,rfl⟩
   rw[←hr9] at HW9
   have HR9:=hdn hr9
   clear hr9
   obtain ⟨x9,hx9⟩: ∃x:It,x= {it0 ps with h:= {(it0 ps).h with kind:=2}}:=⟨_,rfl⟩
   rw[←hx9] at HW9
   clear hx9
   go_wp2_with fail
   refine (want_m HC.out ⟨#[40]⟩ (by decide) w9 r9 HW9.out.m).mono ?_
   rintro en w10 ⟨rfl,g,hm⟩
   have HW10:=hdn (HW9.out.want _ g hm)
   clear g hm HW9
   obtain ⟨r10,hr10⟩: ∃r:Pr.Res It,r=Pr.th r9 fun y u=>Pr.th (Pr.must (Pa.ts l) ⟨#[40]⟩ u) fun _ v=> .ok (y,v):=⟨_,rfl⟩
   rw[←hr10] at HW10
   have HR10:=hdn hr10
   clear hr10
   go_wp2_with fail
   refine (path_m HC.out w10 r10 HW10.out.m).mono ?_
   rintro en w11 ⟨g,vv,z11,rfl,⟨y11,hv,hye,hyl⟩,hx,hm⟩
   have hvv:vv= .agg y11.cells.toArray:=hv
   clear hv
   subst hvv
   have HL11:=hdn (hopsLie_ext (fresh_mono (show w3.heap.size≤w10.heap.size from HW10.out.b.2.2.2.2.2.1) _) hyl)
   have HX11:Hid (∀y u,_=Except.ok (y,u)→y11.pl=y):=hdn (fun y u hc=>hye.trans (hx y u hc))
   have HW11:=hdn (HW10.out.call g hm)
   clear hx hyl hye hm g HW10
   go_upto_region 17 with ((with_reducible show wpList _ _ _ (Oper.mk none (Op.store 40 _ _) _ _ _ _::_) _ _);refine wpList_store_part rfl 40 (.tmp 54) (.tmp 53) rfl S 2 63 (It.cells x9) (Pth.cells y11) rfl rfl HW11.out.s.1 size43 (by show 5≤48;decide) (kPth.one y11) ?_;intro w12 hB hF;have HW12:=hdn (HW11.out.place hB hF HL11.out HX11.out);clear hB hF HW11 HL11 HX11)
   obtain ⟨r12,hr12⟩: ∃r:Pr.Res It,r=Pr.th r10 fun y u=>Pr.th (Pa.path l u) fun p v=> .ok (({y with h:= {y.h with place:=p}}:It),v):=⟨_,rfl⟩
   rw[←hr12] at HW12
   have HR12:=hdn hr12
   clear hr12
   obtain ⟨x12,hx12⟩: ∃x:It,x= {x9 with h:= {x9.h with place:=y11}}:=⟨_,rfl⟩
   rw[←hx12] at HW12
   clear hx12
   go_wp2_with fail
   refine (want_m HC.out ⟨#[41]⟩ (by decide) w12 r12 HW12.out.m).mono ?_
   rintro en w13 ⟨rfl,g,hm⟩
   have HW13:=hdn (HW12.out.want _ g hm)
   clear g hm HW12
   obtain ⟨r13,hr13⟩: ∃r:Pr.Res It,r=Pr.th r12 fun y u=>Pr.th (Pr.must (Pa.ts l) ⟨#[41]⟩ u) fun _ v=> .ok (y,v):=⟨_,rfl⟩
   rw[←hr13] at HW13
   have HR13:=hdn hr13
   clear hr13
   go_wp2_with fail
   refine (want_m HC.out ⟨#[59]⟩ (by decide) w13 r13 HW13.out.m).mono ?_
   rintro en w14 ⟨rfl,g,hm⟩
   have HW14:=hdn (HW13.out.want _ g hm)
   clear g hm HW13
   obtain ⟨r14,hr14⟩: ∃r:Pr.Res It,r=Pr.th r13 fun y u=>Pr.th (Pr.must (Pa.ts l) ⟨#[59]⟩ u) fun _ v=> .ok (y,v):=⟨_,rfl⟩
   rw[←hr14] at HW14
   have HR14:=hdn hr14
   clear hr14
   go_wp2_with fail
   go_meet
   exact ⟨_,_,hdn HW14.out.more,hdn (.inl (by rw[HRB.out];unfold Pa.rbody;rw[if_neg (by rw[HF1.out];decide),if_neg (by rw[HF2.out];decide),if_pos HI.out];unfold Pa.free;rw[must_of HI.out,HR14.out,HR13.out,HR12.out,HR10.out,HR9.out];simp only[Pr.th_th,Pr.th_okk,HPV.out];rfl))⟩
  have HF3:Hid (Pr.is (Pa.ts l) v.i ⟨#[102,114,101,101]⟩=false):=hdn (hf _ _ rfl);have HW8:=hdn (HW6.out.call (o':=o) g hm)
  clear hf hm g HW6
  go_wp2_with fail
  refine (take_m HC.out ⟨#[105,102]⟩ (by decide) w8 _ HW8.out.m).mono ?_
  rintro en w15 ⟨g,hh⟩
  rcases hh with ⟨rfl,y0,u0,hr0,hi,hm⟩|⟨rfl,hf,hm⟩
  ·injection hr0 with hr0;injection hr0 with h1 h2;subst h1;subst h2
   have HI:=hdn hi;have HW15:=hdn (HW8.out.take g hm)
   clear hi hm g HW8
   have c0:w15.cell? ⟨S,0,none⟩=some (.int .i64 0):=HW15.out.s.1.cell 0
   have f0:=HW15.out.s.1.frozen 0
   go_upto_region 21 with fail
   clear c0 f0
   have HW16:=hdn (HW15.out.kind1 4)
   generalize w15.setCell ⟨S,0,none⟩ (.int .i64 4)=w16 at HW16 ⊢
   clear HW15
   obtain ⟨r16,hr16⟩: ∃r:Pr.Res It,r=Pr.th (.ok (it0 ps,v.go):Pr.Res It) fun y u=> .ok ({y with h:= {y.h with kind:=4}},u):=⟨_,rfl⟩
   rw[←hr16] at HW16
   have HR16:=hdn hr16
   clear hr16
   obtain ⟨x16,hx16⟩: ∃x:It,x= {it0 ps with h:= {(it0 ps).h with kind:=4}}:=⟨_,rfl⟩
   rw[←hx16] at HW16
   clear hx16
   go_wp2_with fail
   refine (want_m HC.out ⟨#[40]⟩ (by decide) w16 r16 HW16.out.m).mono ?_
   rintro en w17 ⟨rfl,g,hm⟩
   have HW17:=hdn (HW16.out.want _ g hm)
   clear g hm HW16
   obtain ⟨r17,hr17⟩: ∃r:Pr.Res It,r=Pr.th r16 fun y u=>Pr.th (Pr.must (Pa.ts l) ⟨#[40]⟩ u) fun _ v=> .ok (y,v):=⟨_,rfl⟩
   rw[←hr17] at HW17
   have HR17:=hdn hr17
   clear hr17
   go_wp2_with fail
   refine (cond_m HC.out w17 r17 HW17.out.m).mono ?_
   rintro en w18 ⟨g,vv,z18,rfl,⟨y18,hv,hye,hyl⟩,hx,hm⟩
   have hvv:vv= .agg y18.cells.toArray:=hv
   clear hv
   subst hvv
   have HL18:Hid (vlLies (fresh w3.heap.size w18) y18.left∧vlLies (fresh w3.heap.size w18) y18.right):=hdn ⟨vlLies_ext (fresh_mono HW17.out.b.2.2.2.2.2.1 _) hyl.1,vlLies_ext (fresh_mono HW17.out.b.2.2.2.2.2.1 _) hyl.2⟩
   have HX18:Hid (∀y u,_=Except.ok (y,u)→y18.pl=y):=hdn (fun y u hc=>hye.trans (hx y u hc))
   have HW18:=hdn (HW17.out.call g hm)
   clear hx hyl hye hm g HW17
   go_upto_region 23 with ((with_reducible show wpList _ _ _ (Oper.mk none (Op.store 60 _ _) _ _ _ _::_) _ _);refine wpList_store_part rfl 60 (.tmp 67) (.tmp 66) rfl S 17 63 (It.cells x16) (Cd.cells y18) rfl rfl HW18.out.s.1 size49 (by show 43≤48;decide) (kCd.one y18) ?_;intro w19 hB hF;have HW19:=hdn (HW18.out.cond hB hF HL18.out HX18.out);clear hB hF HW18 HL18 HX18)
   obtain ⟨r19,hr19⟩: ∃r:Pr.Res It,r=Pr.th r17 fun y u=>Pr.th (Pa.cond l u) fun p v=> .ok (({y with h:= {y.h with cond:=p}}:It),v):=⟨_,rfl⟩
   rw[←hr19] at HW19
   have HR19:=hdn hr19
   clear hr19
   obtain ⟨x19,hx19⟩: ∃x:It,x= {x16 with h:= {x16.h with cond:=y18}}:=⟨_,rfl⟩
   rw[←hx19] at HW19
   clear hx19
   go_wp2_with fail
   refine (want_m HC.out ⟨#[41]⟩ (by decide) w19 r19 HW19.out.m).mono ?_
   rintro en w20 ⟨rfl,g,hm⟩
   have HW20:=hdn (HW19.out.want _ g hm)
   clear g hm HW19
   obtain ⟨r20,hr20⟩: ∃r:Pr.Res It,r=Pr.th r19 fun y u=>Pr.th (Pr.must (Pa.ts l) ⟨#[41]⟩ u) fun _ v=> .ok (y,v):=⟨_,rfl⟩
   rw[←hr20] at HW20
   have HR20:=hdn hr20
   clear hr20
   have HST20:Hid (∀x u,r20= .ok (x,u)→v.i≤u.i):=hdn (by intro x u hc;have h9:=stp_want HR20.out hc;obtain ⟨x9,u9,h9,h8⟩:=h9;obtain ⟨x7,u7,h7,h6⟩:=stp_cond HR19.out h9;obtain ⟨x5,u5,h5,h4⟩:=stp_want HR17.out h7;rw[HR16.out] at h5;injection h5 with h5;injection h5 with h3 h2;rw[←h2] at h4;simp only[Pr.St.go] at h4;omega)
   go_wp2_with fail
   refine (list_m n rec HREC.out HC.out HN8.out w20 _ HW20.out.m HO.out (fun x u hc=>by have:=HST20.out x u hc;have:=HFV.out;omega)).mono ?_
   rintro en w21 ⟨g,vv,sl,rfl,⟨pa21,ca21,sa21,rfl,hs,hl⟩,hx,hm⟩
   subst hs
   have HX21:=hdn hx;have HL21:=hdn (sLies_ext (fresh_mono (show w3.heap.size≤w20.heap.size from HW20.out.b.2.2.2.2.2.1) _) hl)
   have HW21:=hdn (HW20.out.call g hm)
   clear hx hl hm g HW20
   have c45:w21.cell? ⟨S,45,none⟩=some (.slice x19.tp x19.t.len x19.tc):=HW21.out.s.1.cell 45
   have f45:=HW21.out.s.1.frozen 45
   go_upto_region 25 with fail
   clear c45 f45
   have HW22:=hdn (HW21.out.then_ pa21 ca21 sa21 HL21.out HX21.out)
   generalize w21.setCell ⟨S,45,none⟩ (.slice pa21 sa21.len ca21)=w22 at HW22 ⊢
   clear HW21 HL21 HX21
   obtain ⟨r22,hr22⟩: ∃r:Pr.Res It,r=Pr.th r20 fun y u=>Pr.th (Pr.block (Pa.ts l) rec u) fun p v=> .ok (({y with t:=p}:It),v):=⟨_,rfl⟩
   rw[←hr22] at HW22
   have HR22:=hdn hr22
   clear hr22
   obtain ⟨x22,hx22⟩: ∃x:It,x= {x19 with tp:=pa21,tc:=ca21,t:=sa21}:=⟨_,rfl⟩
   rw[←hx22] at HW22
   clear hx22
   go_wp2_with fail
   refine (take_m HC2.out ⟨#[101,108,115,101]⟩ (by decide) w22 r22 HW22.out.m).mono ?_
   rintro en w23 ⟨g,hh⟩
   rcases hh with ⟨rfl,y0,u0,hr0,hi,hm⟩|⟨rfl,hf,hm⟩
   ·have HE:=hdn hr0;have HEI:=hdn hi
    have HW23:Hid (SW w w3 w23 rb sb cap A S l o N (.ok (y0,u0.go):Pr.Res It) (.ok (y0,u0.go)) x22):=hdn (by
     have h1:=HW22.out.call (o':=o) g hm
     exact ⟨⟨hm.1,hm.2⟩,h1.a,h1.s,h1.g,h1.b,fun y u hy=>by injection hy with hy;injection hy with h2 h3;rw[←h2];exact h1.e _ _ HE.out⟩)
    clear hr0 hi hm g HW22
    have HST2:Hid (v.i≤u0.i):=hdn (by have h0:=HE.out;rw[HR22.out] at h0;obtain ⟨x1,u1,h1,h2⟩:=stp_block HRS.out rfl h0;have:=HST20.out x1 u1 h1;omega)
    go_wp2_with fail
    refine (list_m n rec HREC.out HC.out HN8.out w23 _ HW23.out.m HO.out (fun x u hc=>by injection hc with hc;injection hc with h1 h2;rw[←h2];show l.length<u0.i+1+1+n;have:=HST2.out;have:=HFV.out;omega)).mono ?_
    rintro en w24 ⟨g,vv,sl,rfl,⟨pa24,ca24,sa24,rfl,hs,hl⟩,hx,hm⟩
    subst hs
    have HX24:=hdn hx;have HL24:=hdn (sLies_ext (fresh_mono (show w3.heap.size≤w23.heap.size from HW23.out.b.2.2.2.2.2.1) _) hl)
    have HW24:=hdn (HW23.out.call g hm)
    clear hx hl hm g HW23
    have c47:w24.cell? ⟨S,47,none⟩=some (.bool x22.h.both):=HW24.out.s.1.cell 47
    have f47:=HW24.out.s.1.frozen 47
    have c46:w24.cell? ⟨S,46,none⟩=some (.slice x22.ep x22.e.len x22.ec):=HW24.out.s.1.cell 46
    have f46:=HW24.out.s.1.frozen 46
    go_wp2_with fail
    clear c46 f46 c47 f47
    have HY:=hdn ((HW24.out.bothc true).else_ pa24 ca24 sa24 (sLies_ext (fresh_par (grownBy_setC w24 ⟨S,47,none⟩ _) HW24.out.b.2.2.1) HL24.out) (hz_map HX24.out))
    go_meet
    exact ⟨_,_,HY,hdn (.inl (by rw[HRB.out];unfold Pa.rbody;rw[if_neg (by rw[HF1.out];decide),if_neg (by rw[HF2.out];decide),if_neg (by rw[HF3.out];decide),if_pos HI.out];exact if_yes HI.out HPV.out (by have h0:=HE.out;rw[HR22.out,HR20.out,HR19.out,HR17.out,HR16.out] at h0;exact h0) HEI.out))⟩
   have HEF:=hdn hf
   have HW23:=hdn (HW22.out.call (o':=o) g hm)
   clear hf hm g HW22
   go_wp2_with fail
   go_meet
   exact ⟨_,_,HW23,hdn (.inl (by rw[HRB.out];unfold Pa.rbody;rw[if_neg (by rw[HF1.out];decide),if_neg (by rw[HF2.out];decide),if_neg (by rw[HF3.out];decide),if_pos HI.out];rw[if_no HI.out HPV.out (fun y u hc=>HEF.out y u (by rw[HR22.out,HR20.out,HR19.out,HR17.out,HR16.out];exact hc)),HR22.out,HR20.out,HR19.out,HR17.out,HR16.out];rfl))⟩
  have HF4:Hid (Pr.is (Pa.ts l) v.i ⟨#[105,102]⟩=false):=hdn (hf _ _ rfl);have HW15:=hdn (HW8.out.call (o':=o) g hm)
  clear hf hm g HW8
  go_wp2_with fail
  refine (take_m HC.out ⟨#[119,104,105,108,101]⟩ (by decide) w15 _ HW15.out.m).mono ?_
  rintro en w25 ⟨g,hh⟩
  rcases hh with ⟨rfl,y0,u0,hr0,hi,hm⟩|⟨rfl,hf,hm⟩
  ·injection hr0 with hr0;injection hr0 with h1 h2;subst h1;subst h2
   have HI:=hdn hi;have HW25:=hdn (HW15.out.take g hm)
   clear hi hm g HW15
   have c0:w25.cell? ⟨S,0,none⟩=some (.int .i64 0):=HW25.out.s.1.cell 0
   have f0:=HW25.out.s.1.frozen 0
   go_upto_region 29 with fail
   clear c0 f0
   have HW26:=hdn (HW25.out.kind1 5)
   generalize w25.setCell ⟨S,0,none⟩ (.int .i64 5)=w26 at HW26 ⊢
   clear HW25
   obtain ⟨r26,hr26⟩: ∃r:Pr.Res It,r=Pr.th (.ok (it0 ps,v.go):Pr.Res It) fun y u=> .ok ({y with h:= {y.h with kind:=5}},u):=⟨_,rfl⟩
   rw[←hr26] at HW26
   have HR26:=hdn hr26
   clear hr26
   obtain ⟨x26,hx26⟩: ∃x:It,x= {it0 ps with h:= {(it0 ps).h with kind:=5}}:=⟨_,rfl⟩
   rw[←hx26] at HW26
   clear hx26
   go_wp2_with fail
   refine (want_m HC.out ⟨#[40]⟩ (by decide) w26 r26 HW26.out.m).mono ?_
   rintro en w27 ⟨rfl,g,hm⟩
   have HW27:=hdn (HW26.out.want _ g hm)
   clear g hm HW26
   obtain ⟨r27,hr27⟩: ∃r:Pr.Res It,r=Pr.th r26 fun y u=>Pr.th (Pr.must (Pa.ts l) ⟨#[40]⟩ u) fun _ v=> .ok (y,v):=⟨_,rfl⟩
   rw[←hr27] at HW27
   have HR27:=hdn hr27
   clear hr27
   go_wp2_with fail
   refine (cond_m HC.out w27 r27 HW27.out.m).mono ?_
   rintro en w28 ⟨g,vv,z28,rfl,⟨y28,hv,hye,hyl⟩,hx,hm⟩
   have hvv:vv= .agg y28.cells.toArray:=hv
   clear hv
   subst hvv
   have HL28:Hid (vlLies (fresh w3.heap.size w28) y28.left∧vlLies (fresh w3.heap.size w28) y28.right):=hdn ⟨vlLies_ext (fresh_mono HW27.out.b.2.2.2.2.2.1 _) hyl.1,vlLies_ext (fresh_mono HW27.out.b.2.2.2.2.2.1 _) hyl.2⟩
   have HX28:Hid (∀y u,_=Except.ok (y,u)→y28.pl=y):=hdn (fun y u hc=>hye.trans (hx y u hc))
   have HW28:=hdn (HW27.out.call g hm)
   clear hx hyl hye hm g HW27
   go_upto_region 31 with ((with_reducible show wpList _ _ _ (Oper.mk none (Op.store 60 _ _) _ _ _ _::_) _ _);refine wpList_store_part rfl 60 (.tmp 87) (.tmp 86) rfl S 17 63 (It.cells x26) (Cd.cells y28) rfl rfl HW28.out.s.1 size49 (by show 43≤48;decide) (kCd.one y28) ?_;intro w29 hB hF;have HW29:=hdn (HW28.out.cond hB hF HL28.out HX28.out);clear hB hF HW28 HL28 HX28)
   obtain ⟨r29,hr29⟩: ∃r:Pr.Res It,r=Pr.th r27 fun y u=>Pr.th (Pa.cond l u) fun p v=> .ok (({y with h:= {y.h with cond:=p}}:It),v):=⟨_,rfl⟩
   rw[←hr29] at HW29
   have HR29:=hdn hr29
   clear hr29
   obtain ⟨x29,hx29⟩: ∃x:It,x= {x26 with h:= {x26.h with cond:=y28}}:=⟨_,rfl⟩
   rw[←hx29] at HW29
   clear hx29
   go_wp2_with fail
   refine (want_m HC.out ⟨#[41]⟩ (by decide) w29 r29 HW29.out.m).mono ?_
   rintro en w30 ⟨rfl,g,hm⟩
   have HW30:=hdn (HW29.out.want _ g hm)
   clear g hm HW29
   obtain ⟨r30,hr30⟩: ∃r:Pr.Res It,r=Pr.th r29 fun y u=>Pr.th (Pr.must (Pa.ts l) ⟨#[41]⟩ u) fun _ v=> .ok (y,v):=⟨_,rfl⟩
   rw[←hr30] at HW30
   have HR30:=hdn hr30
   clear hr30
   have HST30:Hid (∀x u,r30= .ok (x,u)→v.i≤u.i):=hdn (by intro x u hc;have h9:=stp_want HR30.out hc;obtain ⟨x9,u9,h9,h8⟩:=h9;obtain ⟨x7,u7,h7,h6⟩:=stp_cond HR29.out h9;obtain ⟨x5,u5,h5,h4⟩:=stp_want HR27.out h7;rw[HR26.out] at h5;injection h5 with h5;injection h5 with h3 h2;rw[←h2] at h4;simp only[Pr.St.go] at h4;omega)
   go_wp2_with fail
   refine (list_m n rec HREC.out HC.out HN8.out w30 _ HW30.out.m HO.out (fun x u hc=>by have:=HST30.out x u hc;have:=HFV.out;omega)).mono ?_
   rintro en w31 ⟨g,vv,sl,rfl,⟨pa31,ca31,sa31,rfl,hs,hl⟩,hx,hm⟩
   subst hs
   have HX31:=hdn hx;have HL31:=hdn (sLies_ext (fresh_mono (show w3.heap.size≤w30.heap.size from HW30.out.b.2.2.2.2.2.1) _) hl)
   have HW31:=hdn (HW30.out.call g hm)
   clear hx hl hm g HW30
   have c45:w31.cell? ⟨S,45,none⟩=some (.slice x29.tp x29.t.len x29.tc):=HW31.out.s.1.cell 45
   have f45:=HW31.out.s.1.frozen 45
   go_wp2_with fail
   clear c45 f45
   have HY:=hdn (HW31.out.then_ pa31 ca31 sa31 HL31.out HX31.out)
   go_meet
   exact ⟨_,_,HY,hdn (.inl (by rw[HRB.out];unfold Pa.rbody;rw[if_neg (by rw[HF1.out];decide),if_neg (by rw[HF2.out];decide),if_neg (by rw[HF3.out];decide),if_neg (by rw[HF4.out];decide),if_pos HI.out];unfold Pa.loop Pa.held;rw[must_of HI.out,HR30.out,HR29.out,HR27.out,HR26.out];simp only[Pr.th_th,Pr.th_okk,HPV.out];rfl))⟩
  have HF5:Hid (Pr.is (Pa.ts l) v.i ⟨#[119,104,105,108,101]⟩=false):=hdn (hf _ _ rfl);have HW25:=hdn (HW15.out.call (o':=o) g hm)
  clear hf hm g HW15
  go_upto_region 33 with fail
  go_cut [93] from 93 to 109 (fun c wx=>c= .bool (cB l v.i)∧Hid (SW w w3 wx rb sb cap A S l o N (.ok (it0 ps,v):Pr.Res It) (.ok (it0 ps,v)) (it0 ps)))
  case first=>
   go_wp2_with fail
   refine (now_m w25 _ HW25.out.m).mono ?_
   rintro en w32 ⟨hb,z,rfl,hz⟩
   have HZ:Hid (z=rsg l v.i):=hdn (by rw[rsg_lt HW25.out.m.2.1];exact hz _ _ rfl)
   have HW32:=hdn (HW25.out.below hb)
   clear hb hz HW25
   rcases k1:(z.kind==1) with _ |_
   ·go_wp2_with fail;go_meet;exact ⟨by rw[cB_no HZ.out k1],HW32⟩
   go_wp2_with fail
   refine (later_m w32 _ HW32.out.m).mono ?_
   rintro en w33 ⟨hb,y,rfl,hy⟩
   have HY:Hid (y=rsg l (v.i+1)):=hdn (hy _ _ rfl)
   have HW33:=hdn (HW32.out.below hb)
   clear hb hy HW32
   rcases k4:(y.kind==4) with _ |_
   ·go_wp2_with fail;go_meet;exact ⟨by rw[cB_of HZ.out HY.out,k1,k4];rfl,HW33⟩
   go_wp2_with fail
   refine (later_m w33 _ HW33.out.m).mono ?_
   rintro en w34 ⟨hb,y2,rfl,hy⟩
   obtain rfl:y2=y:=(hy _ _ rfl).trans HY.out.symm
   have HW34:=hdn (HW33.out.below hb)
   clear hb hy HW33
   rcases kt:(y2.text.toList== [40]) with _ |_
   ·go_wp2_with fail;go_meet;exact ⟨by rw[cB_of HZ.out HY.out,k1,k4,kt];rfl,HW34⟩
   ·go_wp2_with fail;go_meet;exact ⟨by rw[cB_of HZ.out HY.out,k1,k4,kt];rfl,HW34⟩
  case rest=>
   obtain ⟨rfl,HW0⟩:=hcut
   clear HW25
   have HVL:Hid (v.i<l.length):=hdn HW0.out.m.2.1
   rcases hcb:cB l v.i with _ |_
   ·have HCB:=hdn hcb
    clear hcb
    go_wp2_with fail
    refine (path_m HC.out wc _ HW0.out.m).mono ?_
    rintro en w35 ⟨g,vv,z35,rfl,⟨y35,hv,hye,hyl⟩,hx,hm⟩
    have hvv:vv= .agg y35.cells.toArray:=hv
    clear hv
    subst hvv
    have HL35:=hdn (hopsLie_ext (fresh_mono (show w3.heap.size≤wc.heap.size from HW0.out.b.2.2.2.2.2.1) _) hyl)
    have HX35:Hid (∀y u,_=Except.ok (y,u)→y35.pl=y):=hdn (fun y u hc=>hye.trans (hx y u hc))
    have HW35:=hdn (HW0.out.call g hm)
    clear hx hyl hye hm g HW0
    have c0:w35.cell? ⟨S,0,none⟩=some (.int .i64 0):=HW35.out.s.1.cell 0
    have f0:=HW35.out.s.1.frozen 0
    go_upto_region 7 with ((with_reducible show wpList _ _ _ (Oper.mk none (Op.store 40 _ _) _ _ _ _::_) _ _);refine wpList_store_part rfl 40 (.tmp 28) (.tmp 26) rfl S 2 63 (It.cells {it0 ps with h:= {(it0 ps).h with kind:=1}}) (Pth.cells y35) rfl rfl (HW35.out.kindc 1).s.1 size43 (by show 5≤48;decide) (kPth.one y35) ?_;intro w36 hB hF;have HW36:=hdn ((HW35.out.kindc 1).place hB hF (hopsLie_ext (fresh_par (grownBy_setC w35 ⟨S,0,none⟩ _) HW35.out.b.2.2.1) HL35.out) (hz_map HX35.out));clear hB hF c0 f0 HW35 HL35 HX35)
    obtain ⟨r36,hr36⟩: ∃r:Pr.Res It,r=Pr.th (Pr.th (.ok (it0 ps,v):Pr.Res It) fun y u=> .ok (({y with h:= {y.h with kind:=1}}:It),u)) fun y u=>Pr.th (Pa.path l u) fun p v=> .ok (({y with h:= {y.h with place:=p}}:It),v):=⟨_,rfl⟩
    rw[←hr36] at HW36
    have HR36:=hdn hr36
    clear hr36
    obtain ⟨x36,hx36⟩: ∃x:It,x= { {it0 ps with h:= {(it0 ps).h with kind:=1}} with h:= {({it0 ps with h:= {(it0 ps).h with kind:=1}}:It).h with place:=y35}}:=⟨_,rfl⟩
    rw[←hx36] at HW36
    clear hx36
    go_wp2_with fail
    refine (want_m HC.out ⟨#[61]⟩ (by decide) w36 r36 HW36.out.m).mono ?_
    rintro en w37 ⟨rfl,g,hm⟩
    have HW37:=hdn (HW36.out.want _ g hm)
    clear g hm HW36
    obtain ⟨r37,hr37⟩: ∃r:Pr.Res It,r=Pr.th r36 fun y u=>Pr.th (Pr.must (Pa.ts l) ⟨#[61]⟩ u) fun _ v=> .ok (y,v):=⟨_,rfl⟩
    rw[←hr37] at HW37
    have HR37:=hdn hr37
    clear hr37
    go_wp2_with fail
    refine (value_m HC.out HN8.out w37 r37 HW37.out.m).mono ?_
    rintro en w38 ⟨g,vv,z38,rfl,⟨y38,hv,hye,hyl⟩,hx,hm⟩
    have hvv:vv= .agg y38.cells.toArray:=hv
    clear hv
    subst hvv
    have HL38:=hdn (vlLies_ext (fresh_mono (show w3.heap.size≤w37.heap.size from HW37.out.b.2.2.2.2.2.1) _) hyl)
    have HX38:Hid (∀y u,_=Except.ok (y,u)→y38.pl=y):=hdn (fun y u hc=>hye.trans (hx y u hc))
    have HW38:=hdn (HW37.out.call g hm)
    clear hx hyl hye hm g HW37
    go_upto_region 9 with ((with_reducible show wpList _ _ _ (Oper.mk none (Op.store 58 _ _) _ _ _ _::_) _ _);refine wpList_store_part rfl 58 (.tmp 33) (.tmp 32) rfl S 5 63 (It.cells x36) (Vl.cells y38) rfl rfl HW38.out.s.1 size47 (by show 17≤48;decide) (kVl.one y38) ?_;intro w39 hB hF;have HW39:=hdn (HW38.out.value hB hF HL38.out HX38.out);clear hB hF HW38 HL38 HX38)
    obtain ⟨r39,hr39⟩: ∃r:Pr.Res It,r=Pr.th r37 fun y u=>Pr.th (Pa.value l u) fun p v=> .ok (({y with h:= {y.h with value:=p}}:It),v):=⟨_,rfl⟩
    rw[←hr39] at HW39
    have HR39:=hdn hr39
    clear hr39
    obtain ⟨x39,hx39⟩: ∃x:It,x= {x36 with h:= {x36.h with value:=y38}}:=⟨_,rfl⟩
    rw[←hx39] at HW39
    clear hx39
    go_wp2_with fail
    refine (want_m HC2.out ⟨#[59]⟩ (by decide) w39 r39 HW39.out.m).mono ?_
    rintro en w40 ⟨rfl,g,hm⟩
    have HW40:=hdn (HW39.out.want _ g hm)
    clear g hm HW39
    obtain ⟨r40,hr40⟩: ∃r:Pr.Res It,r=Pr.th r39 fun y u=>Pr.th (Pr.must (Pa.ts l) ⟨#[59]⟩ u) fun _ v=> .ok (y,v):=⟨_,rfl⟩
    rw[←hr40] at HW40
    have HR40:=hdn hr40
    clear hr40
    go_wp2_with fail
    go_meet
    exact ⟨_,_,HW40,hdn (by rw[HRB.out];unfold Pa.rbody;rw[if_neg (by rw[HF1.out];decide),if_neg (by rw[HF2.out];decide),if_neg (by rw[HF3.out];decide),if_neg (by rw[HF4.out];decide),if_neg (by rw[HF5.out];decide)];have h0:=named_set HC.out HVL.out HPV.out HCB.out;rw[HR40.out,HR39.out,HR37.out,HR36.out];exact h0)⟩
   have HCY:=hdn (cB_yes HC.out HVL.out hcb)
   clear hcb
   have c0:wc.cell? ⟨S,0,none⟩=some (.int .i64 0):=HW0.out.s.1.cell 0
   have f0:=HW0.out.s.1.frozen 0
   go_upto_region 35 with fail
   clear c0 f0
   have HW41:=hdn (HW0.out.kind1 3)
   generalize wc.setCell ⟨S,0,none⟩ (.int .i64 3)=w41 at HW41 ⊢
   clear HW0
   go_wp2_with fail
   refine (name_m HC.out w41 _ HW41.out.m).mono ?_
   rintro en w42 ⟨g,_,z,rfl,rfl,hx,hm⟩
   have hnm:Pa.name l v= .ok (Pa.sg l v.i,v.go):=by unfold Pa.name;rw[if_pos HCY.out.1]
   obtain rfl:=hx _ _ hnm
   have hm2:RM w42 rb sb cap l o N (.ok (Pa.sg l v.i,v.go):Pr.Res Tx.Sg):=by rw[←hnm];exact hm
   have HW42:=hdn (HW41.out.call g hm2)
   have HTL:Hid ((Pa.sg l v.i).text.size≤maxLen):=hdn (HT.out v.i _ (by unfold Pa.sg;rw[List.getD_eq_getElem?_getD,List.getElem?_eq_getElem HVL.out];rfl))
   clear hx hm hm2 hnm g HW41
   obtain ⟨nm,hnm⟩: ∃nm,nm=(Pa.sg l v.i).text:=⟨_,rfl⟩
   have HNM:=hdn hnm
   rw[←hnm] at HTL ⊢
   clear hnm
   have c43:w42.cell? ⟨S,43,none⟩=some (.string ByteArray.empty):=HW42.out.s.1.cell 43
   have f43:=HW42.out.s.1.frozen 43
   go_upto_region 36 with fail
   clear c43 f43
   have HW43:Hid (SG w w3 (w42.setCell ⟨S,43,none⟩ (.string nm)) rb sb cap A S l o N (.ok ((),v.go):Pr.Res Unit) {Pr.noHd with kind:=3,pos:=ps,name:=nm} [] (.slice none 0 0)):=hdn (by
    have h0:=HW42.out
    have gS:w42.grownBy (w42.setCell ⟨S,43,none⟩ (.string nm)) (some S):=grownBy_setC w42 ⟨S,43,none⟩ (.string nm)
    obtain ⟨b1,b2,b3,b4,b5,b6,b7,b8⟩:=h0.b
    have hm:=h0.m.far gS (by omega) (by omega)
    exact ⟨⟨hm.1,hm.2⟩,h0.a.kept gS b4,⟨none,0,[],rfl,rfl,h0.s.1.set_ 43 _⟩,Kd.Gr.nil qVl (World.ownsRow_nil _ _ _ _),grownBy_up h0.g gS (fun q hq=>by injection hq with hq;omega),⟨b1,b2,b3,b4,b5,Nat.le_trans b6 gS.size,b7,b8⟩⟩)
   generalize w42.setCell ⟨S,43,none⟩ (.string nm)=w43 at HW43 ⊢
   clear HW42
   have HRC:Hid (R=Pr.th (Pr.th (Pr.listed (Pa.ts l) (Pa.side l) v.go) fun a u=>Pr.th (Pr.must (Pa.ts l) ⟨#[59]⟩ u) fun _ z=>(.ok (a,z):Pr.Res (List Vl))) fun a u=>(.ok (itH {Pr.noHd with kind:=3,pos:=ps,name:=nm,args:=⟨none,0,a⟩},u):Pr.Res It)):=hdn (by rw[HRB.out];unfold Pa.rbody;rw[if_neg (by rw[HF1.out];decide),if_neg (by rw[HF2.out];decide),if_neg (by rw[HF3.out];decide),if_neg (by rw[HF4.out];decide),if_neg (by rw[HF5.out];decide)];rw[named_call HCY.out.1 HPV.out HCY.out.2.2,HNM.out])
   go_wp2_with fail
   refine (want_m HC.out ⟨#[40]⟩ (by decide) w43 _ HW43.out.m).mono ?_
   rintro en w44 ⟨rfl,g,hm⟩
   have HI1:Hid (Pr.is (Pa.ts l) v.go.i ⟨#[40]⟩=true):=hdn HCY.out.2.2
   have hm2:RM w44 rb sb cap l o N (.ok ((),v.go.go):Pr.Res Unit):=by
    have h0:=hm;rw[Pr.th_okk,must_of HI1.out] at h0;exact ⟨h0.1,h0.2⟩
   have HW44:=hdn (HW43.out.call g hm2)
   clear g hm hm2 HW43
   have HLI:Hid (Pr.listed (Pa.ts l) (Pa.side l) v.go=if Pr.is (Pa.ts l) v.go.go.i ⟨#[41]⟩ then .ok ([],v.go.go.go) else Pr.th (Pa.side l v.go.go) fun x u=>Pr.more (Pa.ts l) (Pa.side l) ((Pa.ts l).length+1) [x] u):=hdn (by unfold Pr.listed;rw[must_of HI1.out];rfl)
   generalize hu:v.go.go=u2 at*
   clear hu
   go_wp2_with fail
   refine (is_m HC.out ⟨#[41]⟩ (by decide) w44 _ HW44.out.m).mono ?_
   rintro en w45 ⟨hb,hh⟩
   have HW45:=hdn (HW44.out.below hb)
   clear hb HW44
   rcases hh with ⟨rfl,y0,u0,hr0,hi,hlt⟩|⟨rfl,hf⟩
   ·injection hr0 with hr0;injection hr0 with h1 h2;subst h2
    have HI:=hdn hi
    clear hi hlt
    have HWa:Hid (SG w w3 w45 rb sb cap A S l o N (.ok ([],u2):Pr.Res (List Vl)) {Pr.noHd with kind:=3,pos:=ps,name:=nm} [] (.slice none 0 0)):=hdn (HW45.out.call (grownBy_of (Below.refl _ _) _) ⟨HW45.out.m.1,HW45.out.m.2⟩)
    clear HW45
    go_wp2_with fail
    refine (want_m HC.out ⟨#[41]⟩ (by decide) w45 _ HWa.out.m).mono ?_
    rintro en w46 ⟨rfl,g,hm⟩
    have HW46:=hdn (HWa.out.call (rm':=Pr.th (.ok ([],u2):Pr.Res (List Vl)) fun a u=>Pr.th (Pr.must (Pa.ts l) ⟨#[41]⟩ u) fun _ v=>(.ok (a,v):Pr.Res (List Vl))) g (m_call (g:=fun a _=>a) hm))
    clear g hm HWa
    go_wp2_with fail
    refine (want_m HC.out ⟨#[59]⟩ (by decide) w46 _ HW46.out.m).mono ?_
    rintro en w47 ⟨rfl,g,hm⟩
    have HW47:=hdn (HW46.out.call (rm':=Pr.th (Pr.th (.ok ([],u2):Pr.Res (List Vl)) fun a u=>Pr.th (Pr.must (Pa.ts l) ⟨#[41]⟩ u) fun _ v=>(.ok (a,v):Pr.Res (List Vl))) fun a u=>Pr.th (Pr.must (Pa.ts l) ⟨#[59]⟩ u) fun _ z=>(.ok (a,z):Pr.Res (List Vl))) g (m_call (g:=fun a _=>a) hm))
    clear g hm HW46
    go_wp2_with fail
    go_meet
    obtain ⟨x,hx⟩:=HW47.out.fin (he_end (fun a u hc=>by cases hc;rfl)) HTL.out (by decide)
    exact ⟨_,x,hdn hx.more,hdn (.inl (by rw[HRC.out];rw[HLI.out,if_pos HI.out];simp only[Pr.th_th,Pr.th_okk,must_of HI.out]))⟩
   have HF:Hid (Pr.is (Pa.ts l) u2.i ⟨#[41]⟩=false):=hdn (hf _ _ rfl)
   clear hf
   have HLEN:Hid ((Pa.ts l).length=l.length):=hdn (by simp)
   obtain ⟨i0,z0,hI⟩:=qinfVl
   have HI0:=hdn hI
   clear hI
   have HB1:Hid (([]:List Vl).length+1≤maxLen∧(([]:List Vl).length+1)*144≤140737488355328):=hdn ⟨by decide,by decide⟩
   obtain ⟨a0,c0,hac⟩: ∃(a0:Option Addr) (c0:Nat),(Value.slice none 0 0)= .slice a0 ([]:List Vl).length c0:=⟨none,0,rfl⟩
   have HWb:Hid (SG w w3 w45 rb sb cap A S l o N (.ok ([],u2):Pr.Res (List Vl)) {Pr.noHd with kind:=3,pos:=ps,name:=nm} [] (.slice a0 ([]:List Vl).length c0)):=hdn (by rw[←hac];exact HW45.out.call (grownBy_of (Below.refl _ _) _) ⟨HW45.out.m.1,HW45.out.m.2⟩)
   clear hac HW45
   obtain ⟨r2,hr2⟩: ∃r2:Pr.Res (List Vl),r2=Pr.th (.ok ([],u2):Pr.Res (List Vl)) fun y u=>Pr.th (Pa.side l u) fun p v=>(.ok (y++ [p],v):Pr.Res (List Vl)):=⟨_,rfl⟩
   have HR2:=hdn hr2
   have HLM:Hid (Pr.listed (Pa.ts l) (Pa.side l) v.go=Pr.th r2 fun a u=>Pr.more (Pa.ts l) (Pa.side l) (l.length+1) a u):=hdn (by rw[HLI.out,if_neg (by rw[HF.out];decide),hr2,HLEN.out];simp only[Pr.th_th,Pr.th_okk];rfl)
   clear hr2
   go_upto_region 38 with fail
   have HD:=hdn (HWb.out.below (below_drew (Below.refl _ w45)))
   clear HWb
   have s26:=HD.out.cell
   go_region_law (first
    |(go_simp;go_at_call 111;(with_reducible refine (side_m HC.out _ _ HD.out.m).mono ?_);rintro en w48 ⟨g,vv,zz,rfl,⟨y0,hv,hye,hyl⟩,hx,hm⟩;have hvv:vv= .agg (Vl.cells y0).toArray:=hv;clear hv;subst hvv;have HX:=hdn hx;have HYE:=hdn hye;have HLZ:Hid (qVl.R (rest w3.heap.size (Value.slice a0 ([]:List Vl).length c0).ownBlock w48) y0):=hdn (qVl.ext y0 (fresh_rest HD.out.b.2.2.2.2.2.1 (fun g hg=>(HD.out.gr.lt g hg).2)) hyl);have HS:=hdn (HD.out.call g hm);have s27:=HS.out.cell;have s27a: ∀ob,(w48.alloc ob).cell? ⟨S,44,none⟩=some (.slice a0 ([]:List Vl).length c0):=(fun ob=>(World.cell?_alloc_lt _ _ _ HS.out.lt).trans s27);clear g hm hx hye hyl;(try dsimp only))
    |(refine Kd.step_push qVl rfl 61 i0 _ HI0.out (.tmp 123) (.tmp 126) rfl w3.heap.size ([]:List Vl) (.slice a0 ([]:List Vl).length c0) rfl HS.out.gr HS.out.b.2.2.2.2.2.1 y0 rfl HLZ.out HB1.out.1 HB1.out.2 ?_;rintro v' w49 hG8 ⟨gg,cc,rfl⟩ hgr8 hown8;have HG8:=hdn hG8;have HGR8:=hdn hgr8;have HOWN8:=hdn hown8;have s28:w49.cell? ⟨S,44,none⟩=some (.slice a0 ([]:List Vl).length c0):=(by obtain ⟨p9,c9,ys9,e9,l9,b9⟩:=HS.out.s;have h9:=(b9.grown hgr8 (fun q hq=>by have:=hown8 q hq;have:=HS.out.b;omega)).cell 44;rw[e9];exact h9);have f28:w49.frozen? ⟨S,44,none⟩=false:=(by obtain ⟨p9,c9,ys9,e9,l9,b9⟩:=HS.out.s;exact (b9.grown hgr8 (fun q hq=>by have:=hown8 q hq;have:=HS.out.b;omega)).frozen 44);clear hG8 hgr8 hown8))
   all_goals
    have HN50:=hdn (HS.out.push HG8.out HGR8.out HOWN8.out (rm':=Pr.th (.ok ([],u2):Pr.Res (List Vl)) fun y u=>Pr.th (Pa.side l u) fun p v=>(.ok (y++ [p],v):Pr.Res (List Vl))) (fun _ h=>m_call (g:=fun (a:List Vl) p=>a++ [p]) h))
    have HE50:=hdn (e_push (fun a u hc=>by cases hc;rfl) HX.out HYE.out)
    clear HS HG8 HGR8 HOWN8 s26 s27 s27a s28 f28 HLZ HD HX HYE HB1
    generalize w49.setCell ⟨S,44,none⟩ (.slice (some ⟨gg,0,none⟩) (([]:List Vl).length+1) cc)=w50 at HN50 ⊢
    rw[←HR2.out] at HN50 HE50
    go_wp2_with fail
    go_loopg [] (l.length+1) (fun g wr=> ∃(acc:List Vl) (v:Value) (rn:Pr.Res (List Vl)),Hid (g+acc.length≤l.length+2)∧Hid (∀a u,rn= .ok (a,u)→acc=a)∧Hid ((Pr.th rn fun a u=>Pr.more (Pa.ts l) (Pa.side l) g a u)=Pr.th r2 fun a u=>Pr.more (Pa.ts l) (Pa.side l) (l.length+1) a u)∧Hid (∀a u,rn= .ok (a,u)→l.length<g+u.i)∧Hid (SG w w3 wr rb sb cap A S l o N rn {Pr.noHd with kind:=3,pos:=ps,name:=nm} acc v))
    case atStart=>exact ⟨_,_,r2,hdn (by simp),HE50,hdn rfl,hdn (by intro a u hc;omega),HN50⟩
    case round=>
     clear HN50 HE50
     obtain ⟨acc,vl,rn,HGA,HAC,HH,HFUE,HSG⟩:=hrel
     obtain ⟨a0,c0,rfl⟩:=HSG.out.shape
     go_wp2_with fail
     refine (take_m HC.out ⟨#[44]⟩ (by decide) wr _ HSG.out.m).mono ?_
     rintro en w51 ⟨g,hh⟩
     rcases hh with ⟨rfl,a1,u1,hrn,hi,hm⟩|⟨rfl,hf,hm⟩
     ·have HRN:=hdn hrn;have HI:=hdn hi
      have HS0:=hdn (HSG.out.call g hm)
      have HG0:Hid (0<gk):=hdn (by have:=HFUE.out a1 u1 hrn;have:=hm.2.1;simp only[Pr.St.go] at this;omega)
      clear hrn hi hm g HSG
      have HB1:Hid (acc.length+1≤maxLen∧(acc.length+1)*144≤140737488355328):=hdn ⟨by have:=HGA.out;have:=HC.out.len;have:=HN8.out;unfold maxLen;omega,by have:=HGA.out;have:=HC.out.len;have:=HN8.out;omega⟩
      go_upto_region 40 with fail
      have HD:=hdn (HS0.out.below (below_drew (Below.refl _ w51)))
      clear HS0
      have s26:=HD.out.cell
      go_region_law (first
       |(go_simp;go_at_call 111;(with_reducible refine (side_m HC.out _ _ HD.out.m).mono ?_);rintro en w52 ⟨g,vv,zz,rfl,⟨y0,hv,hye,hyl⟩,hx,hm⟩;have hvv:vv= .agg (Vl.cells y0).toArray:=hv;clear hv;subst hvv;have HX:=hdn hx;have HYE:=hdn hye;have HLZ:Hid (qVl.R (rest w3.heap.size (Value.slice a0 acc.length c0).ownBlock w52) y0):=hdn (qVl.ext y0 (fresh_rest HD.out.b.2.2.2.2.2.1 (fun g hg=>(HD.out.gr.lt g hg).2)) hyl);have HS:=hdn (HD.out.call g hm);have s27:=HS.out.cell;have s27a: ∀ob,(w52.alloc ob).cell? ⟨S,44,none⟩=some (.slice a0 acc.length c0):=(fun ob=>(World.cell?_alloc_lt _ _ _ HS.out.lt).trans s27);clear g hm hx hye hyl;(try dsimp only))
       |(refine Kd.step_push qVl rfl 61 i0 _ HI0.out (.tmp 132) (.tmp 135) rfl w3.heap.size acc (.slice a0 acc.length c0) rfl HS.out.gr HS.out.b.2.2.2.2.2.1 y0 rfl HLZ.out HB1.out.1 HB1.out.2 ?_;rintro v' w53 hG8 ⟨gg,cc,rfl⟩ hgr8 hown8;have HG8:=hdn hG8;have HGR8:=hdn hgr8;have HOWN8:=hdn hown8;have s28:w53.cell? ⟨S,44,none⟩=some (.slice a0 acc.length c0):=(by obtain ⟨p9,c9,ys9,e9,l9,b9⟩:=HS.out.s;have h9:=(b9.grown hgr8 (fun q hq=>by have:=hown8 q hq;have:=HS.out.b;omega)).cell 44;rw[e9];exact h9);have f28:w53.frozen? ⟨S,44,none⟩=false:=(by obtain ⟨p9,c9,ys9,e9,l9,b9⟩:=HS.out.s;exact (b9.grown hgr8 (fun q hq=>by have:=hown8 q hq;have:=HS.out.b;omega)).frozen 44);clear hG8 hgr8 hown8))
      all_goals
       have HN54:=hdn (HS.out.push HG8.out HGR8.out HOWN8.out (rm':=Pr.th (.ok (a1,u1.go):Pr.Res (List Vl)) fun y u=>Pr.th (Pa.side l u) fun p v=>(.ok (y++ [p],v):Pr.Res (List Vl))) (fun _ h=>m_call (g:=fun (a:List Vl) p=>a++ [p]) h))
       have HE54:=hdn (e_push (r:=(.ok (a1,u1.go):Pr.Res (List Vl))) (fun a u hc=>by cases hc;exact HAC.out _ _ HRN.out) HX.out HYE.out)
       clear HS HG8 HGR8 HOWN8 s26 s27 s27a s28 f28 HLZ HD HX HYE HB1
       generalize w53.setCell ⟨S,44,none⟩ (.slice (some ⟨gg,0,none⟩) (acc.length+1) cc)=w54 at HN54 ⊢
       go_wp2_with fail
       go_roundg (gk-1)
       case measure=>have:=HG0.out;omega
       case rel=>
        obtain ⟨gj,hgj⟩: ∃k,gk=k+1:=⟨gk-1,by have:=HG0.out;omega⟩
        refine ⟨_,_,_,hdn ?_,HE54,hdn ?_,hdn ?_,HN54⟩
        ·have:=HGA.out;have:=HG0.out;simp only[List.length_append,List.length_singleton];omega
        ·rw[←HH.out,HRN.out,hgj,Nat.add_sub_cancel];exact (more_step HI.out).symm
        ·intro a u hc;obtain ⟨y,v9,h1,h2⟩:=Pr.th_ok hc;obtain ⟨p9,z9,h3,h4⟩:=Pr.th_ok h2;cases h1;cases h4;have h5:=aside_fwd h3;have h6:=HFUE.out _ _ HRN.out;simp only[Pr.St.go] at h5;omega
     have HFF:=hdn hf
     have HS0:=hdn (HSG.out.call (o':=o) g hm)
     have HG0:Hid (∀a u,rn= .ok (a,u)→0<gk):=hdn (by intro a u hc;subst hc;have h1:=HFUE.out a u rfl;have h2:=hm.2.1;omega)
     clear hf hm g HSG
     go_wp2_with fail
     refine (want_m HC.out ⟨#[41]⟩ (by decide) w51 _ HS0.out.m).mono ?_
     rintro en w55 ⟨rfl,g,hm⟩
     have HW55:=hdn (HS0.out.call (rm':=Pr.th rn fun a u=>Pr.th (Pr.must (Pa.ts l) ⟨#[41]⟩ u) fun _ v=>(.ok (a,v):Pr.Res (List Vl))) g (m_call (g:=fun a _=>a) hm))
     clear g hm HS0
     go_wp2_with fail
     refine (want_m HC.out ⟨#[59]⟩ (by decide) w55 _ HW55.out.m).mono ?_
     rintro en w56 ⟨rfl,g,hm⟩
     have HW56:=hdn (HW55.out.call (rm':=Pr.th (Pr.th rn fun a u=>Pr.th (Pr.must (Pa.ts l) ⟨#[41]⟩ u) fun _ v=>(.ok (a,v):Pr.Res (List Vl))) fun a u=>Pr.th (Pr.must (Pa.ts l) ⟨#[59]⟩ u) fun _ z=>(.ok (a,z):Pr.Res (List Vl))) g (m_call (g:=fun a _=>a) hm))
     clear g hm HW55
     go_wp2_with fail
     go_meet
     obtain ⟨x,hx⟩:=HW56.out.fin (he_end (HAC.out)) HTL.out (by have:=HGA.out;have:=HC.out.len;have:=HN8.out;omega)
     exact ⟨_,x,hdn hx.more,hdn (.inl (by rw[HRC.out];rw[HLM.out,←HH.out,more_end HFF.out HG0.out]))⟩
end
end Go.Proofs.YtcehbcnloiooaaaGreatDoor
namespace Go.Proofs.YtcehbcnloiooaaaGreatDoor
open Go.RowKit Go.Sort
theorem stmts_all {rb sb cap:Nat} {l:List Tx.Sg} {N:Nat} (C:RC l N) (hT:Tex l) (hN8:N≤800000): ∀n,n≤1000000→SRq rb sb cap l N n (Pa.rstmts l (Pa.rstmt l) n):=by
 intro n
 induction n using Nat.strongRecOn with
 |ind n ih=>
  intro hn
  exact stmts_m C hN8 (Pa.rstmt l) n hn (fun m hm=>stmt_m C hT hN8 m _ (ih m hm (by omega)) (Pa.rstmts_stp m)) (fun m u a v h=>Pa.rstmt_fw m u a v h)
end Go.Proofs.YtcehbcnloiooaaaGreatDoor
namespace Go.Proofs.YtcehbcnloiooaaaGreatDoor
open Go.RowKit Go.Sort
def mid (B C:Nat) (w:World):World:=mask (fun b=>decide (b<B)||decide (C≤b)) w
theorem mid_of {B:Nat} {w:World}:Ext (fresh B w) (mid B w.heap.size w):=Ext.of_mask fun b hb hlt=>by
 simp only[Bool.or_eq_false_iff,decide_eq_false_iff_not] at hb ⊢
 exact ⟨⟨hb,by omega⟩,trivial⟩
theorem mid2_fresh {B C:Nat} {w:World}:Ext (mid B C w) (fresh B w):=Ext.of_mask fun b hb _=>by
 simp only[Bool.or_eq_false_iff,decide_eq_false_iff_not] at hb ⊢
 exact ⟨hb.1,trivial⟩
theorem mid2_grown {B C:Nat} {r:Option Nat} {w w':World} (h:w.grownBy w' r) (hr: ∀q,r=some q→q<B∨C≤q):Ext (mid B C w) (mid B C w'):=Ext.of_mask fun b hb hlt=>by
 refine ⟨hb,h.block b hlt ?_⟩
 simp only[Bool.or_eq_false_iff,decide_eq_false_iff_not] at hb
 intro e
 rcases hr b e.symm with h1 |h1<;>omega
structure PB {β:Type} (w0 w1 w:World) (rb sb cap A S:Nat) (ty:TypeId) (z cs:List Value) (l:List Tx.Sg) (o:Int) (N:Nat) (rm:Pr.Res β):Prop where
 m:RM w rb sb cap l o N rm
 a:Bk w A ty z.toArray
 s:Bk w S ty cs.toArray
 g:w0.grownBy w (some rb)
 b:w0.heap.size≤A∧A<w1.heap.size∧S<w1.heap.size∧A≠S∧w0.heap.size≤S∧w1.heap.size≤w.heap.size∧rb<w0.heap.size∧sb<w0.heap.size
section
variable {β γ:Type} {w0 w1 w w':World} {rb sb cap A S:Nat} {ty:TypeId} {z cs:List Value} {l:List Tx.Sg} {o o':Int} {N N':Nat} {rm:Pr.Res β} {rm':Pr.Res γ}
theorem PB.call (h:PB w0 w1 w rb sb cap A S ty z cs l o N rm) (g:w.grownBy w' (some rb)) (m:RM w' rb sb cap l o' N' rm'):PB w0 w1 w' rb sb cap A S ty z cs l o' N' rm':=by
 obtain ⟨b1,b2,b3,b4,b5,b6,b7,b8⟩:=h.b
 exact ⟨m,h.a.kept g (by omega),h.s.kept g (by omega),grownBy_tr h.g g,⟨b1,b2,b3,b4,b5,Nat.le_trans b6 g.size,b7,b8⟩⟩
theorem PB.below (h:PB w0 w1 w rb sb cap A S ty z cs l o N rm) (hb:Below w.heap.size w w'):PB w0 w1 w' rb sb cap A S ty z cs l o N rm:=h.call (grownBy_of hb _) (h.m.below hb)
theorem PB.re (h:PB w0 w1 w rb sb cap A S ty z cs l o N rm) (hm:RM w rb sb cap l o N rm→RM w rb sb cap l o N' rm'):PB w0 w1 w rb sb cap A S ty z cs l o N' rm':=⟨hm h.m,h.a,h.s,h.g,h.b⟩
theorem PB.set (h:PB w0 w1 w rb sb cap A S ty z cs l o N rm) (i:Nat) (v:Value):PB w0 w1 (w.setCell ⟨S,i,none⟩ v) rb sb cap A S ty z (cs.set i v) l o N rm:=by
 obtain ⟨b1,b2,b3,b4,b5,b6,b7,b8⟩:=h.b
 have gS:w.grownBy (w.setCell ⟨S,i,none⟩ v) (some S):=grownBy_setC w ⟨S,i,none⟩ v
 exact ⟨h.m.far gS (by omega) (by omega),h.a.kept gS b4,by have:=h.s.set_ i v;rwa[List.setIfInBounds_toArray] at this,grownBy_up h.g gS (fun q hq=>by injection hq with hq;omega),⟨b1,b2,b3,b4,b5,Nat.le_trans b6 gS.size,b7,b8⟩⟩
theorem PB.grown (h:PB w0 w1 w rb sb cap A S ty z cs l o N rm) {v:Value} (hgr:w.grownBy w' v.ownBlock) (hown: ∀q,v.ownBlock=some q→w1.heap.size≤q):PB w0 w1 w' rb sb cap A S ty z cs l o N rm:=by
 obtain ⟨b1,b2,b3,b4,b5,b6,b7,b8⟩:=h.b
 exact ⟨h.m.grown hgr (fun q hq=>by have:=hown q hq;omega),h.a.grown hgr (fun q hq=>by have:=hown q hq;omega),h.s.grown hgr (fun q hq=>by have:=hown q hq;omega),grownBy_up h.g hgr (fun q hq=>by have:=hown q hq;omega),⟨b1,b2,b3,b4,b5,Nat.le_trans b6 hgr.size,b7,b8⟩⟩
theorem PB.lt (h:PB w0 w1 w rb sb cap A S ty z cs l o N rm):S<w.heap.size:=h.s.lt
end
namespace Pa
open Pr (St Res th)
def rproc (l:List Tx.Sg) (n:Nat) (u:St):Res Pc:=
 th (name l u) fun x u=>
 th (Pr.listed (ts l) (variable_ l) u) fun ps u=>
 th (Pr.must (ts l) ⟨#[123]⟩ u) fun _ u=>
 th (locals l ((ts l).length+1) [] u) fun ls u=>
 th (rstmts l (rstmt l) n u) fun body v=>
 th (Pr.must (ts l) ⟨#[125]⟩ v) fun _ z=>
 .ok (⟨x.text,x.pos,(sg l v.i).pos,⟨none,0,ps⟩,⟨none,0,ls⟩,none,0,body⟩,z)
section
variable (l:List Tx.Sg)
def pcN (x:Tx.Sg):Pc:=⟨x.text,x.pos,0,⟨none,0,[]⟩,⟨none,0,[]⟩,none,0,.nil⟩
def addP (y:Pc) (d:Dc):Pc:= {y with params:=⟨none,0,y.params.l++ [d]⟩}
def addL (y:Pc) (d:Dc):Pc:= {y with locals_:=⟨none,0,y.locals_.l++ [d]⟩}
def moreP (g:Nat) (y:Pc) (u:St):Res Pc:=th (Pr.more (ts l) (variable_ l) g y.params.l u) fun ps v=> .ok ({y with params:=⟨none,0,ps⟩},v)
def argsP (y:Pc) (u:St):Res Pc:=if Pr.is (ts l) u.i ⟨#[41]⟩ then .ok (y,u.go) else th (variable_ l u) fun d v=>moreP l (l.length+1) (addP y d) v
def locP (g:Nat) (y:Pc) (u:St):Res Pc:=th (locals l g y.locals_.l u) fun ls v=> .ok ({y with locals_:=⟨none,0,ls⟩},v)
def tail3 (n:Nat) (y:Pc) (u:St):Res Pc:=th (rstmts l (rstmt l) n u) fun body v=>th (Pr.must (ts l) ⟨#[125]⟩ v) fun _ z=> .ok ({y with fin:=(sg l v.i).pos,body:=body},z)
def tail1 (n:Nat) (y:Pc) (u:St):Res Pc:=th (Pr.must (ts l) ⟨#[123]⟩ u) fun _ u=>th (locP l (l.length+1) y u) fun y u=>tail3 l n y u
end
variable {l:List Tx.Sg}
theorem rproc_steps (n:Nat) (u:St):rproc l n u=th (th (th (name l u) fun x v=>(.ok (pcN x,v):Res Pc)) fun y u=>th (Pr.must (ts l) ⟨#[40]⟩ u) fun _ v=>(.ok (y,v):Res Pc)) fun y u=>th (argsP l y u) fun y u=>tail1 l n y u:=by
 unfold rproc
 simp only[Pr.th_th,Pr.th_okk]
 rcases name l u with n0 |⟨x,u1⟩
 ·rfl
 simp only[Pr.th_okk]
 unfold Pr.listed
 simp only[Pr.th_th]
 rcases Pr.must (ts l) ⟨#[40]⟩ u1 with n0 |⟨t,u2⟩
 ·rfl
 simp only[Pr.th_okk]
 unfold argsP moreP addP
 have hl:(ts l).length=l.length:=by simp
 rw[hl]
 by_cases hi:Pr.is (ts l) u2.i ⟨#[41]⟩=true
 ·rw[if_pos hi,if_pos hi]
  simp only[Pr.th_okk]
  unfold tail1 locP tail3
  rcases Pr.must (ts l) ⟨#[123]⟩ u2.go with n0 |⟨t2,u3⟩
  ·rfl
  simp only[Pr.th_okk,Pr.th_th]
  rfl
 ·rw[if_neg hi,if_neg hi]
  simp only[Pr.th_th,Pr.th_okk]
  rcases variable_ l u2 with n0 |⟨d,u3⟩
  ·rfl
  simp only[Pr.th_okk]
  show th (Pr.more (ts l) (variable_ l) (l.length+1) [d] u3) _=th (Pr.more (ts l) (variable_ l) (l.length+1) [d] u3) _
  rcases Pr.more (ts l) (variable_ l) (l.length+1) [d] u3 with n0 |⟨ps,u4⟩
  ·rfl
  simp only[Pr.th_okk]
  unfold tail1 locP tail3
  rcases Pr.must (ts l) ⟨#[123]⟩ u4 with n0 |⟨t2,u5⟩
  ·rfl
  simp only[Pr.th_okk,Pr.th_th]
  rfl
theorem moreP_end {rn:Res Pc} {g:Nat} {x:Pc} (he: ∀y u,rn= .ok (y,u)→x=y) (hx:x.params.p=none∧x.params.cap=0) (hf: ∀y u,rn= .ok (y,u)→Pr.is (ts l) u.i ⟨#[44]⟩=false) (hg: ∀y u,rn= .ok (y,u)→0<g):
  (th rn fun y u=>moreP l g y u)=th rn fun y u=>th (Pr.must (ts l) ⟨#[41]⟩ u) fun _ v=>(.ok (y,v):Res Pc):=by
 rcases rn with n |⟨y,u⟩
 ·rfl
 ·obtain rfl:=he y u rfl
  simp only[Pr.th_okk]
  obtain ⟨k,rfl⟩: ∃k,g=k+1:=⟨g-1,by have:=hg _ u rfl;omega⟩
  unfold moreP
  rw[Pr.more,hf _ u rfl,if_neg (by decide)]
  simp only[Pr.th_th,Pr.th_okk]
  obtain ⟨x1,x2,x3,⟨p,c,ll⟩,x5,x6,x7,x8⟩:=x
  obtain ⟨h1,h2⟩:=hx
  simp only at h1 h2
  subst h1;subst h2;rfl
theorem moreP_step {y:Pc} {u:St} {g:Nat} (hi:Pr.is (ts l) u.i ⟨#[44]⟩=true):
  moreP l (g+1) y u=th (th (.ok (y,u.go):Res Pc) fun y u=>th (variable_ l u) fun d v=>(.ok (addP y d,v):Res Pc)) fun y u=>moreP l g y u:=by
 unfold moreP addP
 rw[Pr.more,if_pos hi]
 simp only[Pr.th_th,Pr.th_okk]
theorem avar_fwd {u v:St} {c:Dc} (h:variable_ l u= .ok (c,v)):u.i+1≤v.i:=by
 have hs:=variable_er (l:=l) u
 rw[h] at hs
 rcases q:Pr.variable_ (ts l) u with n |⟨b,w⟩
 ·rw[q] at hs;exact hs.elim
 ·rw[q] at hs
  obtain ⟨_,rfl⟩:=hs
  exact (Pr.variable_fwd q).1
theorem locP_end {rn:Res Pc} {g:Nat} {x:Pc} (he: ∀y u,rn= .ok (y,u)→x=y) (hx:x.locals_.p=none∧x.locals_.cap=0) (hf: ∀y u,rn= .ok (y,u)→Pr.declares (ts l) u=false) (hg: ∀y u,rn= .ok (y,u)→0<g):
  (th rn fun y u=>locP l g y u)=rn:=by
 rcases rn with n |⟨y,u⟩
 ·rfl
 ·obtain rfl:=he y u rfl
  simp only[Pr.th_okk]
  obtain ⟨k,rfl⟩: ∃k,g=k+1:=⟨g-1,by have:=hg _ u rfl;omega⟩
  unfold locP
  rw[locals,hf _ u rfl,if_neg (by decide)]
  simp only[Pr.th_okk]
  obtain ⟨x1,x2,x3,x4,⟨p,c,ll⟩,x6,x7,x8⟩:=x
  obtain ⟨h1,h2⟩:=hx
  simp only at h1 h2
  subst h1;subst h2;rfl
theorem locP_step {y:Pc} {u:St} {g:Nat} (hi:Pr.declares (ts l) u=true):
  locP l (g+1) y u=th (th (th (.ok (y,u):Res Pc) fun y u=>th (variable_ l u) fun d v=>(.ok (addL y d,v):Res Pc)) fun y u=>th (Pr.must (ts l) ⟨#[59]⟩ u) fun _ v=>(.ok (y,v):Res Pc)) fun y u=>locP l g y u:=by
 unfold locP addL
 rw[locals,if_pos hi]
 unfold decl
 simp only[Pr.th_th,Pr.th_okk]
end Pa
end Go.Proofs.YtcehbcnloiooaaaGreatDoor
