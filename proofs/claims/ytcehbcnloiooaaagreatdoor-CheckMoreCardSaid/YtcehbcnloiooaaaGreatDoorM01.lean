/-
  Plain: programs as trees, the cells that each part has in memory, and how they lie there. How what is handed in reads: programs and statements as trees that lie in memory. Scope's side: programs whose names and lists are bounded, as they lie in memory. Names in the order in which they were added, as
-/
import Derived.Test.YtcehbcnloiooaaaGreatDoorRows
import Derived.WalkKit
import Derived.Deep.MidRow
import Derived.Deep.WholeRow
import Derived.Lib.Hide
import Derived.Lib.QuietBelow
import Derived.BigQuiet
import Derived.SizedLaws
import Derived.ChangeArms
import Derived.Maps.OwnSet
import Derived.Maps.Views
import Derived.DeepKeys4
import Derived.StringKeys
import Derived.Deep.QuietTactic
import Derived.Maps.AppendAt
import Derived.Laws.Tables
import Derived.StillTailTactics
import Derived.Deep.RegionHeld3
import Derived.Deep.DeepMust
import Derived.Outline
import Derived.WalkSpells
import Derived.Deep.AppendLies
import Derived.Deep.RegionLaw
set_option maxHeartbeats 6400000
set_option maxRecDepth 100000
namespace Go.Proofs.YtcehbcnloiooaaaGreatDoor
theorem hdn {p:Prop} (h:p):Go.RowKit.Hid p:=Go.Lib.hid h
end Go.Proofs.YtcehbcnloiooaaaGreatDoor
namespace Go.Proofs.YtcehbcnloiooaaaGreatDoor
open Go.RowKit Go.Sort
structure Sl (α:Type) where
 p:Option Addr
 cap:Nat
 l:List α
structure Hp where
 name:ByteArray
 pos:Int
structure Pth where
 name:ByteArray
 pos:Int
 hops:Sl Hp
structure Tm where
 name:ByteArray
 n:Int
 pos:Int
structure Vl where
 kind:Int
 pos:Int
 path:Pth
 type:ByteArray
 left:Tm
 right:Tm
structure Cd where
 kind:Int
 pos:Int
 left:Vl
 right:Vl
structure Hd where
 kind:Int
 pos:Int
 place:Pth
 value:Vl
 cond:Cd
 name:ByteArray
 args:Sl Vl
 both:Bool
inductive SL where
 |nil:SL
 |cons (h:Hd) (tp:Option Addr) (tc:Nat) (t:SL) (ep:Option Addr) (ec:Nat) (e:SL) (r:SL):SL
def SL.len:SL→Nat
 |.nil=>0
 |.cons _ _ _ _ _ _ _ r=>r.len+1
structure Dc where
 type:ByteArray
 name:ByteArray
 pos:Int
structure Sr where
 name:ByteArray
 pos:Int
 fields:Sl Dc
structure Pc where
 name:ByteArray
 pos:Int
 fin:Int
 params:Sl Dc
 locals_:Sl Dc
 bp:Option Addr
 bc:Nat
 body:SL
structure Pg where
 structs:Sl Sr
 globals:Sl Dc
 procs:Sl Pc
def Sl.v {α:Type} (s:Sl α):Value:= .slice s.p s.l.length s.cap
abbrev Hp.cells (h:Hp):List Value:= [.string h.name,.int .i64 h.pos]
abbrev Pth.cells (h:Pth):List Value:= [.string h.name,.int .i64 h.pos,.slice h.hops.p h.hops.l.length h.hops.cap]
abbrev Tm.cells (t:Tm):List Value:= [.string t.name,.int .i64 t.n,.int .i64 t.pos]
abbrev Vl.cells (v:Vl):List Value:=
 [.int .i64 v.kind,.int .i64 v.pos,.string v.path.name,.int .i64 v.path.pos,.slice v.path.hops.p v.path.hops.l.length v.path.hops.cap,.string v.type,
 .string v.left.name,.int .i64 v.left.n,.int .i64 v.left.pos,.string v.right.name,.int .i64 v.right.n,.int .i64 v.right.pos]
abbrev Cd.cells (c:Cd):List Value:=
 [.int .i64 c.kind,.int .i64 c.pos,
 .int .i64 c.left.kind,.int .i64 c.left.pos,.string c.left.path.name,.int .i64 c.left.path.pos,.slice c.left.path.hops.p c.left.path.hops.l.length c.left.path.hops.cap,.string c.left.type,
 .string c.left.left.name,.int .i64 c.left.left.n,.int .i64 c.left.left.pos,.string c.left.right.name,.int .i64 c.left.right.n,.int .i64 c.left.right.pos,
 .int .i64 c.right.kind,.int .i64 c.right.pos,.string c.right.path.name,.int .i64 c.right.path.pos,.slice c.right.path.hops.p c.right.path.hops.l.length c.right.path.hops.cap,.string c.right.type,
 .string c.right.left.name,.int .i64 c.right.left.n,.int .i64 c.right.left.pos,.string c.right.right.name,.int .i64 c.right.right.n,.int .i64 c.right.right.pos]
abbrev Dc.cells (d:Dc):List Value:= [.string d.type,.string d.name,.int .i64 d.pos]
abbrev Sr.cells (s:Sr):List Value:= [.string s.name,.int .i64 s.pos,.slice s.fields.p s.fields.l.length s.fields.cap]
abbrev Pc.cells (p:Pc):List Value:= [.string p.name,.int .i64 p.pos,.int .i64 p.fin,.slice p.params.p p.params.l.length p.params.cap,.slice p.locals_.p p.locals_.l.length p.locals_.cap,.slice p.bp p.body.len p.bc]
abbrev Pg.cells (p:Pg):List Value:= [.slice p.structs.p p.structs.l.length p.structs.cap,.slice p.globals.p p.globals.l.length p.globals.cap,.slice p.procs.p p.procs.l.length p.procs.cap]
def scells (h:Hd) (tp:Option Addr) (tn tc:Nat) (ep:Option Addr) (en ec:Nat):List Value:=
 [.int .i64 h.kind,.int .i64 h.pos,
 .string h.place.name,.int .i64 h.place.pos,.slice h.place.hops.p h.place.hops.l.length h.place.hops.cap,
 .int .i64 h.value.kind,.int .i64 h.value.pos,.string h.value.path.name,.int .i64 h.value.path.pos,.slice h.value.path.hops.p h.value.path.hops.l.length h.value.path.hops.cap,.string h.value.type,
 .string h.value.left.name,.int .i64 h.value.left.n,.int .i64 h.value.left.pos,.string h.value.right.name,.int .i64 h.value.right.n,.int .i64 h.value.right.pos,
 .int .i64 h.cond.kind,.int .i64 h.cond.pos,
 .int .i64 h.cond.left.kind,.int .i64 h.cond.left.pos,.string h.cond.left.path.name,.int .i64 h.cond.left.path.pos,.slice h.cond.left.path.hops.p h.cond.left.path.hops.l.length h.cond.left.path.hops.cap,.string h.cond.left.type,
 .string h.cond.left.left.name,.int .i64 h.cond.left.left.n,.int .i64 h.cond.left.left.pos,.string h.cond.left.right.name,.int .i64 h.cond.left.right.n,.int .i64 h.cond.left.right.pos,
 .int .i64 h.cond.right.kind,.int .i64 h.cond.right.pos,.string h.cond.right.path.name,.int .i64 h.cond.right.path.pos,.slice h.cond.right.path.hops.p h.cond.right.path.hops.l.length h.cond.right.path.hops.cap,.string h.cond.right.type,
 .string h.cond.right.left.name,.int .i64 h.cond.right.left.n,.int .i64 h.cond.right.left.pos,.string h.cond.right.right.name,.int .i64 h.cond.right.right.n,.int .i64 h.cond.right.right.pos,
 .string h.name,.slice h.args.p h.args.l.length h.args.cap,.slice tp tn tc,.slice ep en ec,.bool h.both]
def slLies {α:Type} (w:World) (size bytes:Nat) (cells:α→List Value) (R:α→Prop) (s:Sl α):Prop:=
 s.l.length*bytes≤140737488351232∧(s.l= []∨∃b o,s.p=some ⟨b,o,none⟩∧∀k x,s.l[k]? =some x→w.rangeAt b (o+k*size) (cells x)∧R x)
def hopsLie (w:World) (s:Sl Hp):Prop:=slLies w 2 24 Hp.cells (fun _=>True) s
def vlLies (w:World) (v:Vl):Prop:=hopsLie w v.path.hops
def argsLie (w:World) (s:Sl Vl):Prop:=slLies w 12 144 Vl.cells (vlLies w) s
def hdLies (w:World) (h:Hd):Prop:=
 hopsLie w h.place.hops∧vlLies w h.value∧vlLies w h.cond.left∧vlLies w h.cond.right∧argsLie w h.args∧h.name.size≤maxLen
def lies (w:World):SL→Nat→Nat→Prop
 |.nil,_,_=>True
 |.cons h tp tc t ep ec e r,b,o=>
  w.rangeAt b o (scells h tp t.len tc ep e.len ec)∧hdLies w h∧(t.len*608≤140737488351232∧(t= .nil∨∃b' o',tp=some ⟨b',o',none⟩∧lies w t b' o'))∧(e.len*608≤140737488351232∧(e= .nil∨∃b' o',ep=some ⟨b',o',none⟩∧lies w e b' o'))∧lies w r b (o+48)
def sLies (w:World) (p:Option Addr) (l:SL):Prop:=l.len*608≤140737488351232∧(l= .nil∨∃b o,p=some ⟨b,o,none⟩∧lies w l b o)
theorem rangeAt_below {w w':World} {b o:Nat} {cs:List Value} (h:w.rangeAt b o cs) (hb:Below w.heap.size w w'):w'.rangeAt b o cs:=fun j v hv=>by
 have:=h j v hv
 rw[hb.cell (World.block_lt_of_cell? w _ this)];exact this
theorem slLies_below {α:Type} {w w':World} {size bytes:Nat} {cells:α→List Value} {R R':α→Prop} {s:Sl α} (h:slLies w size bytes cells R s) (hb:Below w.heap.size w w') (hR: ∀x,R x→R' x):slLies w' size bytes cells R' s:=by
 obtain ⟨hl,h⟩:=h
 refine ⟨hl, ?_⟩
 rcases h with h |⟨b,o,hp,hx⟩
 ·exact .inl h
 ·exact .inr ⟨b,o,hp,fun k x hk=>⟨rangeAt_below (hx k x hk).1 hb,hR x (hx k x hk).2⟩⟩
theorem hopsLie_below {w w':World} {s:Sl Hp} (h:hopsLie w s) (hb:Below w.heap.size w w'):hopsLie w' s:=slLies_below h hb (fun _ h=>h)
theorem vlLies_below {w w':World} {v:Vl} (h:vlLies w v) (hb:Below w.heap.size w w'):vlLies w' v:=hopsLie_below h hb
theorem argsLie_below {w w':World} {s:Sl Vl} (h:argsLie w s) (hb:Below w.heap.size w w'):argsLie w' s:=slLies_below h hb (fun _ h=>vlLies_below h hb)
theorem hdLies_below {w w':World} {h:Hd} (H:hdLies w h) (hb:Below w.heap.size w w'):hdLies w' h:=
 ⟨hopsLie_below H.1 hb,vlLies_below H.2.1 hb,vlLies_below H.2.2.1 hb,vlLies_below H.2.2.2.1 hb,argsLie_below H.2.2.2.2.1 hb,H.2.2.2.2.2⟩
theorem lies_below {w w':World} (hb:Below w.heap.size w w'): ∀(l:SL) (b o:Nat),lies w l b o→lies w' l b o
 |.nil,_,_,_=>trivial
 |.cons h tp tc t ep ec e r,b,o,H=>by
  obtain ⟨h1,h2,⟨l3,h3⟩,⟨l4,h4⟩,h5⟩:=H
  refine ⟨rangeAt_below h1 hb,hdLies_below h2 hb,⟨l3, ?_⟩,⟨l4, ?_⟩,lies_below hb r b _ h5⟩
  ·rcases h3 with h |⟨b',o',hp,h⟩
   ·exact .inl h
   ·exact .inr ⟨b',o',hp,lies_below hb t b' o' h⟩
  ·rcases h4 with h |⟨b',o',hp,h⟩
   ·exact .inl h
   ·exact .inr ⟨b',o',hp,lies_below hb e b' o' h⟩
theorem sLies_below {w w':World} {p:Option Addr} {l:SL} (h:sLies w p l) (hb:Below w.heap.size w w'):sLies w' p l:=by
 obtain ⟨hl,h⟩:=h
 refine ⟨hl, ?_⟩
 rcases h with h |⟨b,o,hp,h⟩
 ·exact .inl h
 ·exact .inr ⟨b,o,hp,lies_below hb l b o h⟩
def SL.each (P:SL→Prop):SL→Prop
 |.nil=>True
 |.cons _ _ _ t _ _ e r=>P t∧P e∧r.each P
theorem SL.all {P:SL→Prop} (h: ∀l,l.each P→P l): ∀l,P l∧l.each P
 |.nil=>⟨h _ trivial,trivial⟩
 |.cons hd tp tc t ep ec e r=>by
  have ht:=SL.all h t
  have he:=SL.all h e
  have hr:=SL.all h r
  exact ⟨h _ ⟨ht.1,he.1,hr.2⟩,ht.1,he.1,hr.2⟩
theorem wpList_store_new {P:Program} {ops:Array Oper} {rest:List Oper} {op:Oper} {a:Act} {w:World} {Q:Exit→Act→World→Prop} (hgd:op.guard=none) (ty:TypeId) (x y:Operand) (ho:op.op= .store ty x y)
  (c c':Array Value) (hx:a.eval x= .pointer (some ⟨w.heap.size,0,none⟩)) (hy:a.eval y= .agg c') (hi:(P.info? ty).map (·.size)=some c'.size) (hc:c.size=c'.size) (h1:c'.all (·.oneCell')=true)
  (h:wpList P ops Q rest (a.put op.dst undef) (w.alloc (.cells c' ty))):wpList P ops Q (op::rest) a (w.alloc (.cells c ty)):=
 wpList_plain hgd fun _ hK=>by
  unfold Oper.wp execOp
  simp only[ho,hx,hy,Instr.storeAt,Instr.sureAddr,Sem.run_bind,Sem.run_pure,Result.andThen_ok,run_storeVar_new w ty c c' hi hc h1]
  exact hK _ _ h
theorem wpList_load_arr {P:Program} {ops:Array Oper} {rest:List Oper} {op:Oper} {a:Act} {w:World} {Q:Exit→Act→World→Prop} (hgd:op.guard=none) (ty:TypeId) (x:Operand) (ho:op.op= .load ty x)
  (b o:Nat) (hx:a.eval x= .pointer (some ⟨b,o,none⟩)) (cs:Array Value) (d:TypeDesc) (hc:w.rangeAt b o cs.toList)
  (hu:P.underlying ty=some d) (hd:d.isRow=true) (hi:(P.info? ty).map (·.size)=some cs.size)
  (h:wpList P ops Q rest (a.put op.dst (.agg cs)) w):wpList P ops Q (op::rest) a w:=
 wpList_load_mid hgd ty x ho b o hx cs.toList d hc hu hd (by simpa using hi) (by simpa using h)
theorem ret_int {k:IntKind} {a b:Int} (h:a=b):Ending.returned (.int k a)= .returned (.int k b):=by rw[h]
theorem ret_bool {a b:Bool} (h:a=b):Ending.returned (.bool a)= .returned (.bool b):=by rw[h]
theorem Tryz.own:ownKnob Tryz.prog.godebug=none:=by kernel_rfl
theorem Tryz.laidOut:laidOutB Tryz.prog=true:=by kernel_rfl
theorem size57:(Tryz.prog.info? 63).map (·.size)=some 48:=by kernel_rfl
def sarr (h:Hd) (tp:Option Addr) (tn tc:Nat) (ep:Option Addr) (en ec:Nat):Array Value:=(scells h tp tn tc ep en ec).toArray
theorem scells_one (h:Hd) (tp:Option Addr) (tn tc:Nat) (ep:Option Addr) (en ec:Nat):(scells h tp tn tc ep en ec).toArray.all (·.oneCell')=true:=by
 simp[scells,Value.oneCell']
end Go.Proofs.YtcehbcnloiooaaaGreatDoor
namespace Go.Proofs.YtcehbcnloiooaaaGreatDoor
open Go.RowKit Go.Sort
def declsLie (w:World) (s:Sl Dc):Prop:=slLies w 3 40 Dc.cells (fun _=>True) s
def srsLie (w:World) (s:Sl Sr):Prop:=slLies w 3 48 Sr.cells (fun x=>declsLie w x.fields) s
def pcLies (w:World) (x:Pc):Prop:=declsLie w x.params∧declsLie w x.locals_∧sLies w x.bp x.body
def pcsLie (w:World) (s:Sl Pc):Prop:=slLies w 6 104 Pc.cells (pcLies w) s
def pgLies (w:World) (p:Pg):Prop:=srsLie w p.structs∧declsLie w p.globals∧pcsLie w p.procs
theorem declsLie_below {w w':World} {s:Sl Dc} (h:declsLie w s) (hb:Below w.heap.size w w'):declsLie w' s:=slLies_below h hb (fun _ h=>h)
theorem srsLie_below {w w':World} {s:Sl Sr} (h:srsLie w s) (hb:Below w.heap.size w w'):srsLie w' s:=slLies_below h hb (fun _ h=>declsLie_below h hb)
theorem pcLies_below {w w':World} {x:Pc} (h:pcLies w x) (hb:Below w.heap.size w w'):pcLies w' x:=⟨declsLie_below h.1 hb,declsLie_below h.2.1 hb,sLies_below h.2.2 hb⟩
theorem pcsLie_below {w w':World} {s:Sl Pc} (h:pcsLie w s) (hb:Below w.heap.size w w'):pcsLie w' s:=slLies_below h hb (fun _ h=>pcLies_below h hb)
theorem pgLies_below {w w':World} {p:Pg} (h:pgLies w p) (hb:Below w.heap.size w w'):pgLies w' p:=⟨srsLie_below h.1 hb,declsLie_below h.2.1 hb,pcsLie_below h.2.2 hb⟩
end Go.Proofs.YtcehbcnloiooaaaGreatDoor
namespace Go.Proofs.YtcehbcnloiooaaaGreatDoor
namespace Sc
open Go.RowKit Go.Sort
def slLies {α:Type} (w:World) (size:Nat) (_:Nat) (cells:α→List Value) (R:α→Prop) (s:Sl α):Prop:=
 s.l.length≤1048576∧(s.l= []∨∃b o,s.p=some ⟨b,o,none⟩∧∀k x,s.l[k]? =some x→w.rangeAt b (o+k*size) (cells x)∧R x)
def hopsLie (w:World) (s:Sl Hp):Prop:=slLies w 2 24 Hp.cells (fun _=>True) s
def vlLies (w:World) (v:Vl):Prop:=hopsLie w v.path.hops
def argsLie (w:World) (s:Sl Vl):Prop:=slLies w 12 144 Vl.cells (vlLies w) s
def hdLies (w:World) (h:Hd):Prop:=
 hopsLie w h.place.hops∧vlLies w h.value∧vlLies w h.cond.left∧vlLies w h.cond.right∧argsLie w h.args∧h.name.size≤maxLen
def lies (w:World):SL→Nat→Nat→Prop
 |.nil,_,_=>True
 |.cons h tp tc t ep ec e r,b,o=>
  w.rangeAt b o (scells h tp t.len tc ep e.len ec)∧hdLies w h∧(t.len≤1048576∧(t= .nil∨∃b' o',tp=some ⟨b',o',none⟩∧lies w t b' o'))∧(e.len≤1048576∧(e= .nil∨∃b' o',ep=some ⟨b',o',none⟩∧lies w e b' o'))∧lies w r b (o+48)
def sLies (w:World) (p:Option Addr) (l:SL):Prop:=l.len≤1048576∧(l= .nil∨∃b o,p=some ⟨b,o,none⟩∧lies w l b o)
theorem slLies_below {α:Type} {w w':World} {size bytes:Nat} {cells:α→List Value} {R R':α→Prop} {s:Sl α} (h:slLies w size bytes cells R s) (hb:Below w.heap.size w w') (hR: ∀x,R x→R' x):slLies w' size bytes cells R' s:=by
 obtain ⟨hl,h⟩:=h
 refine ⟨hl, ?_⟩
 rcases h with h |⟨b,o,hp,hx⟩
 ·exact .inl h
 ·exact .inr ⟨b,o,hp,fun k x hk=>⟨rangeAt_below (hx k x hk).1 hb,hR x (hx k x hk).2⟩⟩
theorem hopsLie_below {w w':World} {s:Sl Hp} (h:hopsLie w s) (hb:Below w.heap.size w w'):hopsLie w' s:=slLies_below h hb (fun _ h=>h)
theorem vlLies_below {w w':World} {v:Vl} (h:vlLies w v) (hb:Below w.heap.size w w'):vlLies w' v:=hopsLie_below h hb
theorem argsLie_below {w w':World} {s:Sl Vl} (h:argsLie w s) (hb:Below w.heap.size w w'):argsLie w' s:=slLies_below h hb (fun _ h=>vlLies_below h hb)
theorem hdLies_below {w w':World} {h:Hd} (H:hdLies w h) (hb:Below w.heap.size w w'):hdLies w' h:=
 ⟨hopsLie_below H.1 hb,vlLies_below H.2.1 hb,vlLies_below H.2.2.1 hb,vlLies_below H.2.2.2.1 hb,argsLie_below H.2.2.2.2.1 hb,H.2.2.2.2.2⟩
theorem lies_below {w w':World} (hb:Below w.heap.size w w'): ∀(l:SL) (b o:Nat),lies w l b o→lies w' l b o
 |.nil,_,_,_=>trivial
 |.cons h tp tc t ep ec e r,b,o,H=>by
  obtain ⟨h1,h2,⟨l3,h3⟩,⟨l4,h4⟩,h5⟩:=H
  refine ⟨rangeAt_below h1 hb,hdLies_below h2 hb,⟨l3, ?_⟩,⟨l4, ?_⟩,lies_below hb r b _ h5⟩
  ·rcases h3 with h |⟨b',o',hp,h⟩
   ·exact .inl h
   ·exact .inr ⟨b',o',hp,lies_below hb t b' o' h⟩
  ·rcases h4 with h |⟨b',o',hp,h⟩
   ·exact .inl h
   ·exact .inr ⟨b',o',hp,lies_below hb e b' o' h⟩
theorem sLies_below {w w':World} {p:Option Addr} {l:SL} (h:sLies w p l) (hb:Below w.heap.size w w'):sLies w' p l:=by
 obtain ⟨hl,h⟩:=h
 refine ⟨hl, ?_⟩
 rcases h with h |⟨b,o,hp,h⟩
 ·exact .inl h
 ·exact .inr ⟨b,o,hp,lies_below hb l b o h⟩
def dcOk (d:Dc):Prop:=d.type.size≤maxLen∧d.name.size≤maxLen
def declsLie (w:World) (s:Sl Dc):Prop:=slLies w 3 40 Dc.cells dcOk s
def srLies (w:World) (x:Sr):Prop:=declsLie w x.fields∧x.name.size≤maxLen
def srsLie (w:World) (s:Sl Sr):Prop:=slLies w 3 48 Sr.cells (srLies w) s
def pcLies (w:World) (x:Pc):Prop:=declsLie w x.params∧declsLie w x.locals_∧sLies w x.bp x.body∧x.name.size≤maxLen
def pcsLie (w:World) (s:Sl Pc):Prop:=slLies w 6 104 Pc.cells (pcLies w) s
def pgLies (w:World) (p:Pg):Prop:=srsLie w p.structs∧declsLie w p.globals∧pcsLie w p.procs
theorem declsLie_below {w w':World} {s:Sl Dc} (h:declsLie w s) (hb:Below w.heap.size w w'):declsLie w' s:=slLies_below h hb (fun _ h=>h)
theorem srsLie_below {w w':World} {s:Sl Sr} (h:srsLie w s) (hb:Below w.heap.size w w'):srsLie w' s:=slLies_below h hb (fun _ h=>⟨declsLie_below h.1 hb,h.2⟩)
theorem pcLies_below {w w':World} {x:Pc} (h:pcLies w x) (hb:Below w.heap.size w w'):pcLies w' x:=⟨declsLie_below h.1 hb,declsLie_below h.2.1 hb,sLies_below h.2.2.1 hb,h.2.2.2⟩
theorem pcsLie_below {w w':World} {s:Sl Pc} (h:pcsLie w s) (hb:Below w.heap.size w w'):pcsLie w' s:=slLies_below h hb (fun _ h=>pcLies_below h hb)
theorem pgLies_below {w w':World} {p:Pg} (h:pgLies w p) (hb:Below w.heap.size w w'):pgLies w' p:=⟨srsLie_below h.1 hb,declsLie_below h.2.1 hb,pcsLie_below h.2.2 hb⟩
theorem cells3:Tryz.prog.cellsOf 3=1:=by kernel_rfl
theorem cells9:Tryz.prog.cellsOf 9=1:=by kernel_rfl
end Sc
end Go.Proofs.YtcehbcnloiooaaaGreatDoor
namespace Go.Proofs.YtcehbcnloiooaaaGreatDoor
namespace Sc
open Go.RowKit Go.Maps Go.WideMaps
theorem name_ext {a b:ByteArray} (h:a.data.toList=b.data.toList):a=b:=by
 cases a with |mk a=>cases b with |mk b=>
  simp only at h
  rw[Array.toList_inj.1 h]
instance:DecidableEq ByteArray:=fun a b=>if h:a.data.toList=b.data.toList then .isTrue (name_ext h) else .isFalse (fun e=>h (by rw[e]))
structure Keying (K:TypeId) (κ:Type) where
 val:κ→Value
 lit:κ→Lit
 ok:κ→Prop
 key: ∀x,ok x→keyOf Tryz.prog K (val x)=some (lit x)
 law:Keyed Tryz.prog K
 inj: ∀x y,val x=val y→x=y
 isKey: ∀x,WideAt.IsKeyLit (lit x)
theorem Keying.ne {K:TypeId} {κ:Type} (g:Keying K κ) {x y:κ} (hx:g.ok x) (hy:g.ok y) (h:x≠y):g.lit x≠g.lit y:=fun e=>by
 have h1:=g.key x hx
 have h2:=g.key y hy
 rw[←e] at h2
 exact h (g.inj _ _ (g.law.inj h1 h2))
structure IsRoll {K:TypeId} {κ:Type} (g:Keying K κ) (l:List κ) (D:DataW Unit):Prop where
 tidy:Tidy D
 size:Maps.size D=l.length
 okay: ∀x∈l,g.ok x
 has: ∀x,g.ok x→(Maps.has D (g.lit x)=true↔x∈l)
 at_: ∀(i:Nat) (x:κ),l[i]? =some x→∀z,D.atKey (g.lit x) z= .lit (.int .i64 i)
theorem isRoll_nil {K:TypeId} {κ:Type} (g:Keying K κ):IsRoll g [] (.map []) where
 tidy:=tidy_empty
 size:=rfl
 okay:=by simp
 has:=fun x _=>by simp[Maps.has]
 at_:=fun i x h=>by simp at h
theorem IsRoll.add {K:TypeId} {κ:Type} {g:Keying K κ} {l:List κ} {D:DataW Unit} (h:IsRoll g l D) {x:κ} (hx:g.ok x) (hn:x∉l):IsRoll g (l++ [x]) (D.put (g.lit x) (.lit (.int .i64 l.length))) where
 tidy:=h.tidy.put (g.isKey x) _
 size:=by
  have:Maps.has D (g.lit x)=false:=by
   rw[←Bool.not_eq_true];exact fun e=>hn ((h.has x hx).1 e)
  rw[size_put h.tidy,this,h.size];simp
 okay:=fun y hy=>by
  rcases List.mem_append.1 hy with hy |hy
  ·exact h.okay y hy
  ·simp only[List.mem_singleton] at hy;subst hy;exact hx
 has:=fun y hy=>by
  classical
  by_cases e:y=x
  ·subst e;simp[has_put_same h.tidy.isMap (g.isKey y)]
  ·rw[has_put_other (g.ne hy hx e),h.has y hy];simp[e]
 at_:=fun i y hy z=>by
  by_cases hi:i<l.length
  ·rw[List.getElem?_append_left hi] at hy
   have hm:y∈l:=List.mem_of_getElem? hy
   have hne:y≠x:=fun e=>hn (e▸hm)
   rw[atKey_put_other (g.ne (h.okay y hm) hx hne)]
   exact h.at_ i y hy z
  ·have hlt:=(List.getElem?_eq_some_iff.1 hy).1
   simp only[List.length_append,List.length_singleton] at hlt
   obtain rfl:i=l.length:=by omega
   simp at hy
   subst hy
   exact atKey_put_same h.tidy.isMap (g.isKey x) _ _
def Roll {K:TypeId} {κ:Type} (g:Keying K κ) (w:World) (b:Nat) (l:List κ):Prop:=
 ∃D:DataW Unit,w.ownsMap Tryz.prog K (plainElem Tryz.prog 3) b l.length D∧IsRoll g l D
theorem Roll.made {K:TypeId} {κ:Type} (g:Keying K κ) (w:World):Roll g (w.alloc (.map #[] 0)) w.heap.size []:=⟨_,World.ownsMap_made _ _ _ _,isRoll_nil g⟩
theorem Roll.kept {K:TypeId} {κ:Type} {g:Keying K κ} {w w':World} {b:Nat} {l:List κ} {row:Option Nat} (h:Roll g w b l) (hg:w.grownBy w' row) (hne:some b≠row):Roll g w' b l:=by
 obtain ⟨D,h1,h2⟩:=h
 exact ⟨D,h1.kept hg hne,h2⟩
theorem Roll.lt {K:TypeId} {κ:Type} {g:Keying K κ} {w:World} {b:Nat} {l:List κ} (h:Roll g w b l):b<w.heap.size:=by
 obtain ⟨D,h1,_⟩:=h
 exact h1.lt
theorem Roll.same {K:TypeId} {κ:Type} {g:Keying K κ} {w w':World} {b:Nat} {l:List κ} (h:Roll g w b l) (hb:w'.heap[b]? =w.heap[b]?):Roll g w' b l:=by
 obtain ⟨D,⟨es,clock,h1,h2⟩,h3⟩:=h
 exact ⟨D,⟨es,clock,hb.trans h1,h2⟩,h3⟩
theorem Roll.below {K:TypeId} {κ:Type} {g:Keying K κ} {w w':World} {b:Nat} {l:List κ} {N:Nat} (h:Roll g w b l) (hb:Below N w w') (hN:b<N):Roll g w' b l:=
 h.same (hb.block b hN)
def isIn {κ:Type} [DecidableEq κ] (l:List κ) (x:κ):Bool:=decide (x∈l)
theorem isIn_iff {κ:Type} [DecidableEq κ] {l:List κ} {x:κ}:isIn l x=true↔x∈l:=by simp[isIn]
theorem isIn_not {κ:Type} [DecidableEq κ] {l:List κ} {x:κ}:isIn l x=false↔x∉l:=by simp[isIn]
def numOf {κ:Type} [DecidableEq κ] (l:List κ) (x:κ):Int:=if isIn l x=true then (l.idxOf x:Int) else 0
theorem IsRoll.num {K:TypeId} {κ:Type} [DecidableEq κ] {g:Keying K κ} {l:List κ} {D:DataW Unit} (h:IsRoll g l D) {x:κ} (hx:g.ok x):D.atKey (g.lit x) (.lit (.int .i64 0))= .lit (.int .i64 (numOf l x)):=by
 unfold numOf
 by_cases hm:x∈l
 ·rw[if_pos (isIn_iff.2 hm)]
  exact h.at_ _ x (by rw[List.getElem?_eq_getElem (List.idxOf_lt_length_of_mem hm),List.getElem_idxOf]) _
 ·rw[if_neg (by rw[isIn_not.2 hm];decide)]
  exact atKey_of_not_has (by rw[←Bool.not_eq_true];exact fun e=>hm ((h.has x hx).1 e)) _
theorem IsRoll.hasB {K:TypeId} {κ:Type} [DecidableEq κ] {g:Keying K κ} {l:List κ} {D:DataW Unit} (h:IsRoll g l D) {x:κ} (hx:g.ok x):Maps.has D (g.lit x)=isIn l x:=by
 rw[Bool.eq_iff_iff,h.has x hx,isIn_iff]
theorem law9:Keyed Tryz.prog 9:=string_keyed Tryz.underlying9
theorem zero3 (w:World):(zeroValue 3).run Tryz.prog w= .ok (.int .i64 0) w:=by kernel_rfl
theorem wide79:(match Tryz.prog.underlying 141 with |some (.array _ _)|some (.struct _)=>true |_=>false)=true:=by kernel_rfl
theorem law79:Keyed Tryz.prog 141:=Keyed.of_law (deep_law_laid Tryz.laidOut (m:=3) (by omega) (of_decide_eq_true (by kernel_rfl)) (by kernel_rfl) wide79)
def byName:Keying 9 ByteArray where
 val s:= .string s
 lit s:= .string s.data.toList
 ok s:=s.size≤maxLen
 key s h:=keyOf_string_mk Tryz.underlying9 h
 law:=law9
 inj:=fun x y h=>by injection h
 isKey:=fun _=>trivial
theorem keyType79:Tryz.prog.keyType 141=true:=by kernel_rfl
theorem cells79:Tryz.prog.cellsOf 141=2:=by kernel_rfl
theorem keyLits3 (n:Nat) (o:Int) (ho:(Lit.int .i64 o).wf=true):Tryz.prog.keyLits (n+1) 3 [.int .i64 o]=some [.int .i64 o]:=by simp[Program.keyLits,Tryz.underlying3,ho]
theorem keyLits9 (n:Nat) (s:ByteArray) (hs:s.size≤maxLen):Tryz.prog.keyLits (n+1) 9 [.string s]=some [.string s.data.toList]:=by simp[Program.keyLits,Tryz.underlying9,hs]
theorem lits79 (o:Int) (s:ByteArray) (ho:(Lit.int .i64 o).wf=true) (hs:s.size≤maxLen):Tryz.prog.keyLits (Tryz.prog.types.size+1) 141 [.int .i64 o,.string s]=some [.int .i64 o,.string s.data.toList]:=by
 obtain ⟨m,hm⟩: ∃m,Tryz.prog.types.size=m+1:=⟨Tryz.prog.types.size-1,by kernel_rfl⟩
 rw[hm]
 unfold Program.keyLits
 rw[Tryz.underlying141]
 simp[keyLits3,keyLits9,cells79,cells3,cells9,ho,hs]
theorem key79 (o:Int) (s:ByteArray) (ho:(Lit.int .i64 o).wf=true) (hs:s.size≤maxLen):keyOf Tryz.prog 141 (.agg #[.int .i64 o,.string s])=some (.string (keyBytes [.int .i64 o,.string s.data.toList])):=by
 have hf:(Value.agg #[.int .i64 o,.string s]).formed Tryz.prog 141=true:=by simp[Value.formed,Tryz.underlying141,cells79]
 unfold keyOf
 rw[Tryz.underlying141]
 simp only[keyType79,hf,Bool.and_self,if_true]
 rw[show (Value.agg #[.int .i64 o,.string s]).cells.toList= [.int .i64 o,.string s] from rfl,lits79 o s ho hs]
 rfl
def byMember:Keying 141 (Int×ByteArray) where
 val x:= .agg #[.int .i64 x.1,.string x.2]
 lit x:= .string (keyBytes [.int .i64 x.1,.string x.2.data.toList])
 ok x:=(Lit.int .i64 x.1).wf=true∧x.2.size≤maxLen
 key x h:=key79 x.1 x.2 h.1 h.2
 law:=law79
 inj:=fun x y h=>by
  obtain ⟨a,b⟩:=x;obtain ⟨c,d⟩:=y
  simp at h
  simp[h.1,h.2]
 isKey:=fun _=>trivial
end Sc
end Go.Proofs.YtcehbcnloiooaaaGreatDoor
namespace Go.Proofs.YtcehbcnloiooaaaGreatDoor
namespace Sc
open Go.RowKit
def sNames (l:List Sr):List ByteArray:=l.map (·.name)
def structsGo:List ByteArray→List Sr→Int×Int
 |_,[]=>(0,0)
 |hv,s::r=>if 8≤hv.length then (s.pos,11) else if isIn hv s.name=true then (s.pos,7) else structsGo (hv++ [s.name]) r
def pairsFrom:Nat→List Sr→List (Nat×Dc)
 |_,[]=> []
 |o,s::r=>s.fields.l.map (fun f=>(o,f))++pairsFrom (o+1) r
def memb (x:Nat×Dc):Int×ByteArray:=((x.1:Int),x.2.name)
def fieldsGo (sn:List ByteArray):List (Nat×Dc)→List (Nat×Dc)→Int×Int
 |_,[]=>(0,0)
 |hv,x::r=>if 8≤hv.length then (x.2.pos,11) else if isIn (hv.map memb) (memb x)=true then (x.2.pos,7) else if x.2.type.toList.isEmpty=true then (x.2.pos,9) else if isIn sn x.2.type=true then fieldsGo sn (hv++ [x]) r else (x.2.pos,8)
def tyOk (sn:List ByteArray) (t:ByteArray):Bool:=t.toList.isEmpty ||isIn sn t
def declsGo (sn:List ByteArray):List ByteArray→List Dc→Int×Int
 |_,[]=>(0,0)
 |hv,d::r=>if 16≤hv.length then (d.pos,11) else if isIn hv d.name=true then (d.pos,7) else if tyOk sn d.type=true then declsGo sn (hv++ [d.name]) r else (d.pos,8)
def frameOf (q:Pc):List Dc:=q.params.l++q.locals_.l
def procsGo (sn:List ByteArray):List ByteArray→List Pc→Int×Int
 |_,[]=>(0,0)
 |hv,q::r=>if 16≤hv.length then (q.pos,11) else if isIn hv q.name=true then (q.pos,7) else if (declsGo sn [] (frameOf q)).2=0 then procsGo sn (hv++ [q.name]) r else declsGo sn [] (frameOf q)
def buildGo (p:Pg):Int×Int:=
 if (structsGo [] p.structs.l).2=0 then
  if (fieldsGo (sNames p.structs.l) [] (pairsFrom 0 p.structs.l)).2=0 then
   if (declsGo (sNames p.structs.l) [] p.globals.l).2=0 then procsGo (sNames p.structs.l) [] p.procs.l
   else declsGo (sNames p.structs.l) [] p.globals.l
  else fieldsGo (sNames p.structs.l) [] (pairsFrom 0 p.structs.l)
 else structsGo [] p.structs.l
def kindOf (sn:List ByteArray) (t:ByteArray):Int:=if t.toList.isEmpty=true then-1 else numOf sn t
def varsGo (sn:List ByteArray):Int→Int→List Dc→List (Int×Int)
 |_,_,[]=> []
 |np,ni,d::r=>(kindOf sn d.type,if kindOf sn d.type= -1 then ni else np)::(if kindOf sn d.type= -1 then varsGo sn np (ni+1) r else varsGo sn (np+1) ni r)
def endsOf (sn:List ByteArray) (l:List (Nat×Dc)):List (Int×Int):=l.map fun x=>((x.1:Int),numOf sn x.2.type)
def pcells (l:List (Int×Int)):List Value:=l.flatMap fun x=> [.int .i64 x.1,.int .i64 x.2]
theorem eqName (a b:ByteArray):(a.toList==b.toList)=decide (a=b):=by
 rw[Bool.eq_iff_iff]
 simp only[beq_iff_eq,decide_eq_true_eq,ByteArray.toList_eq]
 exact ⟨name_ext,fun h=>by rw[h]⟩
end Sc
end Go.Proofs.YtcehbcnloiooaaaGreatDoor
namespace Go.Proofs.YtcehbcnloiooaaaGreatDoor
namespace Sc
open Go.RowKit Go.Maps
def addE {κ:Type} [DecidableEq κ] (most:Nat) (l:List κ) (x:κ):Int:=if most≤l.length then 11 else if isIn l x=true then 7 else 0
def addL {κ:Type} [DecidableEq κ] (most:Nat) (l:List κ) (x:κ):List κ:=if addE most l x=0 then l++ [x] else l
def Added {K:TypeId} {κ:Type} [DecidableEq κ] (g:Keying K κ) (most:Nat) (w:World) (b:Nat) (l:List κ) (x:κ) (en:Ending) (w':World):Prop:=
 en= .returned (.int .i64 (addE most l x))∧Roll g w' b (addL most l x)∧w.grownBy w' (some b)
theorem grown_refl (w:World) (r:Option Nat):w.grownBy w r:=⟨rfl,rfl,rfl,Nat.le_refl _,fun _ _ _=>rfl⟩
theorem findN_any (x:ByteArray) (b:Nat) (l:List (ByteArray)) (w:World) (h:Roll byName w b l) (hx:byName.ok x):
  Calls Tryz.prog 45 #[.map (some b),.string x] w fun en w'=>en= .returned (.tuple #[.int .i64 (numOf l x),.bool (isIn l x)])∧w=w':=by
 obtain ⟨D,hown,hr⟩:=h
 have hkey:=byName.key x hx
 have hnum:=hr.num hx
 have hhas:=hr.hasB hx
 have HN:=hdn hnum
 have HH:=hdn hhas
 clear hnum hhas hr
 go_enter Tryz.func45,Tryz.ntmps45
 go_wp2_with (first |(at_lookup;refine wpList_lookup_own_ok_int (H:=Unit) _ rfl _ _ 90 rfl 9 3 .i64 byName.law Tryz.underlying90 Tryz.underlying3 (zero3 _) b l.length D rfl hown _ _ rfl hkey ?_;intro c hat hwc;have HA:=hdn hat;clear hat hwc;rw[HH.out]))
 go_ret2
 have e:c=numOf l x:=by
  have h1:=HA.out
  rw[HN.out] at h1
  injection h1 with h1
  injection h1 with _ h1
  exact h1.symm
 exact ⟨by rw[e];rfl,rfl⟩
theorem addN_any (x:ByteArray) (b most:Nat) (l:List (ByteArray)) (w:World) (h:Roll byName w b l) (hx:byName.ok x) (hm:most≤100):
  Calls Tryz.prog 59 #[.map (some b),.string x,.int .i64 most] w (Added byName most w b l x):=by
 obtain ⟨D,hown,hr⟩:=h
 have hkey:=byName.key x hx
 have hsz:=hr.size
 have hhas:=hr.hasB hx
 have HS:=hdn hsz
 have HH:=hdn hhas
 have HR:=hdn hr
 have HX:=hdn hx
 have HO:=hdn hown
 have HY:=hdn hkey
 clear hsz hhas hr hx hown hkey
 by_cases h1:most≤l.length
 ·have hd:decide (l.length<most)=false:=by simp;omega
  have HE:Hid (addE most l x=11):=hdn (if_pos h1)
  go_enter Tryz.func59,Tryz.ntmps59
  go_wp2_with (first |(at_len;refine wpList_len_own (H:=Unit) _ rfl _ 90 rfl 9 3 Tryz.underlying90 (plainElem Tryz.prog 3) b l.length D rfl HO.out ?_;rw[HS.out]))
  go_ret
  refine ⟨by rw[HE.out];rfl, ?_,grown_refl _ _⟩
  unfold addL
  rw[HE.out,if_neg (by decide)]
  exact ⟨D,HO.out,HR.out⟩
 ·have hlt:l.length<most:=by omega
  clear h1
  cases h2:isIn l x
  ·have HE:Hid (addE most l x=0):=hdn (by unfold addE;rw[if_neg (by omega),h2];rfl)
   have HD:Hid (isIn l x=false):=hdn h2
   have HN:=hdn (HR.out.add HX.out (isIn_not.1 h2))
   have hwf:(Lit.int .i64 (l.length:Int)).wf=true:=WalkArith.wf_i64 (by omega)
   clear h2
   go_enter Tryz.func59,Tryz.ntmps59
   go_wp2_with (first |(at_len;refine wpList_len_own (H:=Unit) _ rfl _ 90 rfl 9 3 Tryz.underlying90 (plainElem Tryz.prog 3) b l.length D rfl HO.out ?_;rw[HS.out])|(at_lookup;refine wpList_lookup_own_ok_int (H:=Unit) _ rfl _ _ 90 rfl 9 3 .i64 byName.law Tryz.underlying90 Tryz.underlying3 (zero3 _) b l.length D rfl HO.out _ _ rfl HY.out ?_;intro c hat hwc;clear hat hwc;rw[HH.out,HD.out])|(at_mapUpdate;refine wpList_mapUpdate_own (H:=Unit) _ rfl _ _ _ 90 rfl 9 3 byName.law Tryz.underlying90 _ b l.length _ rfl HO.out (by unfold maxLen;omega) _ _ _ rfl rfl HY.out _ [] (plainElem_int Tryz.underlying3 hwf) ?_;intro w1 hown1 hgrow1;have HO1:=hdn hown1;have HG1:=hdn hgrow1;clear hown1 hgrow1))
   go_ret
   refine ⟨by rw[HE.out];rfl, ?_,HG1.out⟩
   unfold addL
   rw[HE.out,if_pos rfl]
   exact ⟨_,by simpa using HO1.out,HN.out⟩
  ·have HE:Hid (addE most l x=7):=hdn (by unfold addE;rw[if_neg (by omega),if_pos h2])
   have HD:Hid (isIn l x=true):=hdn h2
   clear h2
   go_enter Tryz.func59,Tryz.ntmps59
   go_wp2_with (first |(at_len;refine wpList_len_own (H:=Unit) _ rfl _ 90 rfl 9 3 Tryz.underlying90 (plainElem Tryz.prog 3) b l.length D rfl HO.out ?_;rw[HS.out])|(at_lookup;refine wpList_lookup_own_ok_int (H:=Unit) _ rfl _ _ 90 rfl 9 3 .i64 byName.law Tryz.underlying90 Tryz.underlying3 (zero3 _) b l.length D rfl HO.out _ _ rfl HY.out ?_;intro c hat hwc;clear hat hwc;rw[HH.out,HD.out]))
   go_ret
   refine ⟨by rw[HE.out];rfl, ?_,grown_refl _ _⟩
   unfold addL
   rw[HE.out,if_neg (by decide)]
   exact ⟨D,HO.out,HR.out⟩
theorem findM_any (x:Int×ByteArray) (b:Nat) (l:List (Int×ByteArray)) (w:World) (h:Roll byMember w b l) (hx:byMember.ok x):
  Calls Tryz.prog 67 #[.map (some b),.agg #[.int .i64 x.1,.string x.2]] w fun en w'=>en= .returned (.tuple #[.int .i64 (numOf l x),.bool (isIn l x)])∧Below w.heap.size w w':=by
 obtain ⟨D,hown,hr⟩:=h
 have hkey:=byMember.key x hx
 have hnum:=hr.num hx
 have hhas:=hr.hasB hx
 have HN:=hdn hnum
 have HH:=hdn hhas
 clear hnum hhas hr
 go_enter Tryz.func67,Tryz.ntmps67
 go_wp2_with (first |(at_lookup;refine wpList_lookup_own_ok_int (H:=Unit) _ rfl _ _ 92 rfl 141 3 .i64 byMember.law Tryz.underlying92 Tryz.underlying3 (zero3 _) b l.length D rfl (hown.alloc _) _ _ rfl hkey ?_;intro c hat hwc;have HA:=hdn hat;clear hat hwc;rw[HH.out]))
 go_ret2
 have e:c=numOf l x:=by
  have h1:=HA.out
  rw[HN.out] at h1
  injection h1 with h1
  injection h1 with _ h1
  exact h1.symm
 exact ⟨by rw[e];rfl,(Below.refl _ _).alloc (Nat.le_refl _) _⟩
theorem addM_any (x:Int×ByteArray) (b most:Nat) (l:List (Int×ByteArray)) (w:World) (h:Roll byMember w b l) (hx:byMember.ok x) (hm:most≤100):
  Calls Tryz.prog 79 #[.map (some b),.agg #[.int .i64 x.1,.string x.2],.int .i64 most] w (Added byMember most w b l x):=by
 obtain ⟨D,hown,hr⟩:=h
 have hkey:=byMember.key x hx
 have hsz:=hr.size
 have hhas:=hr.hasB hx
 have HS:=hdn hsz
 have HH:=hdn hhas
 have HR:=hdn hr
 have HX:=hdn hx
 have HO:=hdn hown
 have HY:=hdn hkey
 clear hsz hhas hr hx hown hkey
 by_cases h1:most≤l.length
 ·have hd:decide (l.length<most)=false:=by simp;omega
  have HE:Hid (addE most l x=11):=hdn (if_pos h1)
  go_enter Tryz.func79,Tryz.ntmps79
  go_wp2_with (first |(at_len;refine wpList_len_own (H:=Unit) _ rfl _ 92 rfl 141 3 Tryz.underlying92 (plainElem Tryz.prog 3) b l.length D rfl (HO.out.alloc _) ?_;rw[HS.out]))
  go_ret
  refine ⟨by rw[HE.out];rfl, ?_,World.grownBy_alloc _ _ _⟩
  unfold addL
  rw[HE.out,if_neg (by decide)]
  exact ⟨D,(HO.out.alloc _),HR.out⟩
 ·have hlt:l.length<most:=by omega
  clear h1
  cases h2:isIn l x
  ·have HE:Hid (addE most l x=0):=hdn (by unfold addE;rw[if_neg (by omega),h2];rfl)
   have HD:Hid (isIn l x=false):=hdn h2
   have HN:=hdn (HR.out.add HX.out (isIn_not.1 h2))
   have hwf:(Lit.int .i64 (l.length:Int)).wf=true:=WalkArith.wf_i64 (by omega)
   clear h2
   go_enter Tryz.func79,Tryz.ntmps79
   go_wp2_with (first |(at_len;refine wpList_len_own (H:=Unit) _ rfl _ 92 rfl 141 3 Tryz.underlying92 (plainElem Tryz.prog 3) b l.length D rfl (HO.out.alloc _) ?_;rw[HS.out])|(at_lookup;refine wpList_lookup_own_ok_int (H:=Unit) _ rfl _ _ 92 rfl 141 3 .i64 byMember.law Tryz.underlying92 Tryz.underlying3 (zero3 _) b l.length D rfl (HO.out.alloc _) _ _ rfl HY.out ?_;intro c hat hwc;clear hat hwc;rw[HH.out,HD.out])|(at_mapUpdate;refine wpList_mapUpdate_own (H:=Unit) _ rfl _ _ _ 92 rfl 141 3 byMember.law Tryz.underlying92 _ b l.length _ rfl (HO.out.alloc _) (by unfold maxLen;omega) _ _ _ rfl rfl HY.out _ [] (plainElem_int Tryz.underlying3 hwf) ?_;intro w1 hown1 hgrow1;have HO1:=hdn hown1;have HG1:=hdn hgrow1;clear hown1 hgrow1))
   go_ret
   refine ⟨by rw[HE.out];rfl, ?_,(World.grownBy_alloc _ _ _).trans HG1.out⟩
   unfold addL
   rw[HE.out,if_pos rfl]
   exact ⟨_,by simpa using HO1.out,HN.out⟩
  ·have HE:Hid (addE most l x=7):=hdn (by unfold addE;rw[if_neg (by omega),if_pos h2])
   have HD:Hid (isIn l x=true):=hdn h2
   clear h2
   go_enter Tryz.func79,Tryz.ntmps79
   go_wp2_with (first |(at_len;refine wpList_len_own (H:=Unit) _ rfl _ 92 rfl 141 3 Tryz.underlying92 (plainElem Tryz.prog 3) b l.length D rfl (HO.out.alloc _) ?_;rw[HS.out])|(at_lookup;refine wpList_lookup_own_ok_int (H:=Unit) _ rfl _ _ 92 rfl 141 3 .i64 byMember.law Tryz.underlying92 Tryz.underlying3 (zero3 _) b l.length D rfl (HO.out.alloc _) _ _ rfl HY.out ?_;intro c hat hwc;clear hat hwc;rw[HH.out,HD.out]))
   go_ret
   refine ⟨by rw[HE.out];rfl, ?_,World.grownBy_alloc _ _ _⟩
   unfold addL
   rw[HE.out,if_neg (by decide)]
   exact ⟨D,(HO.out.alloc _),HR.out⟩
end Sc
end Go.Proofs.YtcehbcnloiooaaaGreatDoor
namespace Go.Proofs.YtcehbcnloiooaaaGreatDoor
namespace Sc
open Go.RowKit Go.Sort
theorem below_drewN_ {B:Nat} {a w:World} (h:Below B a w) (n:Nat):Below B a (w.drewN n):=⟨h.os,h.tape,h.output,h.size,h.block⟩
theorem below_drew {B:Nat} {w w':World} (h:Below B w w'):Below B w w'.drew:=below_drewN_ h 1
def Bk (w:World) (g:Nat) (t:TypeId) (cs:Array Value):Prop:=w.heap[g]? =some (.cells cs t (0,0))
theorem Bk.set_ {w:World} {g:Nat} {t:TypeId} {cs:Array Value} (h:Bk w g t cs) (i:Nat) (u:Value):Bk (w.setCell ⟨g,i,none⟩ u) g t (cs.setIfInBounds i u):=by
 unfold Bk at h ⊢
 simp[World.setCell,Array.getElem?_modify,h]
theorem Bk.far {w:World} {g:Nat} {t:TypeId} {cs:Array Value} (h:Bk w g t cs) {p:Addr} (hp:g≠p.block) (u:Value):Bk (w.setCell p u) g t cs:=(Below.heap_setCell w p u g hp).trans h
theorem Bk.cell {w:World} {g:Nat} {t:TypeId} {cs:Array Value} (h:Bk w g t cs) (i:Nat):w.cell? ⟨g,i,none⟩=cs[i]? :=cell_of_row w g i cs t (0,0) h
theorem Bk.frozen {w:World} {g:Nat} {t:TypeId} {cs:Array Value} (h:Bk w g t cs) (i:Nat):w.frozen? ⟨g,i,none⟩=false:=frozen_of_row w g i cs t h
theorem Bk.below {B:Nat} {w w':World} {g:Nat} {t:TypeId} {cs:Array Value} (h:Bk w g t cs) (hb:Below B w w') (hg:g<B):Bk w' g t cs:=(hb.block g hg).trans h
theorem Bk.lt {w:World} {g:Nat} {t:TypeId} {cs:Array Value} (h:Bk w g t cs):g<w.heap.size:=(Array.getElem?_eq_some_iff.1 h).1
theorem grownBy_setC (w:World) (a:Addr) (v:Value):w.grownBy (w.setCell a v) (some a.block):=
 ⟨rfl,rfl,rfl,by simp[World.setCell],fun i _ hne=>Below.heap_setCell w a v i (fun e=>hne (by rw[e]))⟩
structure Gr (w w':World) (S:Nat→Prop):Prop where
 os:w'.os=w.os
 tape:w'.tape=w.tape
 output:w'.output=w.output
 size:w.heap.size≤w'.heap.size
 block: ∀k,k<w.heap.size→¬S k→w'.heap[k]? =w.heap[k]?
theorem Gr.refl (w:World) (S:Nat→Prop):Gr w w S:=⟨rfl,rfl,rfl,Nat.le_refl _,fun _ _ _=>rfl⟩
theorem Gr.trans {a b c:World} {S:Nat→Prop} (h:Gr a b S) (k:Gr b c S):Gr a c S:=
 ⟨k.os.trans h.os,k.tape.trans h.tape,k.output.trans h.output,Nat.le_trans h.size k.size,fun i hi hS=>(k.block i (Nat.lt_of_lt_of_le hi h.size) hS).trans (h.block i hi hS)⟩
theorem Gr.mono {a b:World} {S S':Nat→Prop} (h:Gr a b S) (hS: ∀k,k<a.heap.size→S k→S' k):Gr a b S':=⟨h.os,h.tape,h.output,h.size,fun i hi hn=>h.block i hi (fun e=>hn (hS i hi e))⟩
theorem Gr.then {a b c:World} {S S':Nat→Prop} (h:Gr a b S) (k:Gr b c S') (hS: ∀i,i<a.heap.size→S' i→S i):Gr a c S:=
 ⟨k.os.trans h.os,k.tape.trans h.tape,k.output.trans h.output,Nat.le_trans h.size k.size,fun i hi hn=>(k.block i (Nat.lt_of_lt_of_le hi h.size) (fun e=>hn (hS i hi e))).trans (h.block i hi hn)⟩
theorem Gr.of_grown {a b:World} {r:Option Nat} (h:a.grownBy b r):Gr a b (fun k=>some k=r):=⟨h.os,h.tape,h.output,h.size,fun i hi hn=>h.block i hi hn⟩
theorem Gr.of_below {a b:World} {S:Nat→Prop} (h:Below a.heap.size a b):Gr a b S:=⟨h.os,h.tape,h.output,h.size,fun i hi _=>h.block i hi⟩
theorem Gr.grown {a b c:World} {S:Nat→Prop} {r:Option Nat} (h:Gr a b S) (k:b.grownBy c r) (hS: ∀i,i<a.heap.size→some i=r→S i):Gr a c S:=h.then (Gr.of_grown k) hS
theorem Gr.alloc {a b:World} {S:Nat→Prop} (h:Gr a b S) (o:Obj):Gr a (b.alloc o) S:=h.then (Gr.of_below ((Below.refl _ _).alloc (Nat.le_refl _) o)) (fun _ _ h=>h)
theorem Gr.drewN {a b:World} {S:Nat→Prop} (h:Gr a b S) (n:Nat):Gr a (b.drewN n) S:=⟨h.os,h.tape,h.output,h.size,h.block⟩
theorem Gr.drew {a b:World} {S:Nat→Prop} (h:Gr a b S):Gr a b.drew S:=⟨h.os,h.tape,h.output,h.size,h.block⟩
theorem Gr.setCell {a b:World} {S:Nat→Prop} (h:Gr a b S) {p:Addr} (hp:p.block<a.heap.size→S p.block) (v:Value):Gr a (b.setCell p v) S:=
 h.grown (grownBy_setC b p v) (fun i hi e=>by injection e with e;subst e;exact hp hi)
theorem Gr.below {a b:World} {S:Nat→Prop} {N:Nat} (h:Gr a b S) (hN:N≤a.heap.size) (hS: ∀k,S k→N≤k):Below N a b:=
 ⟨h.os,h.tape,h.output,h.size,fun i hi=>h.block i (Nat.lt_of_lt_of_le hi hN) (fun e=>by have:=hS i e;omega)⟩
theorem Gr.bk {a b:World} {S:Nat→Prop} (h:Gr a b S) {g:Nat} {t:TypeId} {cs:Array Value} (k:Bk a g t cs) (hS: ¬S g):Bk b g t cs:=(h.block g k.lt hS).trans k
theorem Gr.roll {a b:World} {S:Nat→Prop} (h:Gr a b S) {K:TypeId} {κ:Type} {g:Keying K κ} {m:Nat} {l:List κ} (k:Roll g a m l) (hS: ¬S m):Roll g b m l:=k.same (h.block m k.lt hS)
theorem Gr.range {a b:World} {S:Nat→Prop} (h:Gr a b S) {g o:Nat} {cs:List Value} (k:a.rangeAt g o cs) (hS: ¬S g):b.rangeAt g o cs:=fun j v hv=>by
 have:=k j v hv
 exact (World.cell?_of_block (a:=⟨g,o+j,none⟩) (h.block g (World.block_lt_of_cell? a _ this) hS)).trans this
theorem cell_at {w:World} {b q:Nat} {cs:List Value} (h:w.rangeAt b q cs) (j:Nat) (v:Value) (hv:cs[j]? =some v):w.cell? ⟨b,q+j,none⟩=some v:=h j v hv
def Lay {α:Type} (size:Nat) (cells:α→List Value) (R:World→α→Prop) (w:World) (p:Option Addr) (l:List α):Prop:=
 l.length≤1048576∧(l= []∨∃b o,p=some ⟨b,o,none⟩∧∀k x,l[k]? =some x→w.rangeAt b (o+k*size) (cells x)∧R w x)
theorem Lay.of_sl {α:Type} {size bytes:Nat} {cells:α→List Value} {R:World→α→Prop} {w:World} {s:Sl α} (h:slLies w size bytes cells (R w) s):Lay size cells R w s.p s.l:=h
theorem Lay.below {α:Type} {size:Nat} {cells:α→List Value} {R:World→α→Prop} {w w':World} {p:Option Addr} {l:List α} (h:Lay size cells R w p l) (hb:Below w.heap.size w w') (hR: ∀x,R w x→R w' x):Lay size cells R w' p l:=by
 obtain ⟨h0,h⟩:=h
 refine ⟨h0, ?_⟩
 rcases h with h |⟨b,o,hp,hx⟩
 ·exact .inl h
 ·exact .inr ⟨b,o,hp,fun k x hk=>⟨rangeAt_below (hx k x hk).1 hb,hR x (hx k x hk).2⟩⟩
theorem Lay.at_ {α:Type} {size:Nat} {cells:α→List Value} {R:World→α→Prop} {w:World} {p:Option Addr} {l:List α} (h:Lay size cells R w p l) {k:Nat} (hk:k<l.length):
  ∃b o,p=some ⟨b,o,none⟩∧w.rangeAt b (o+k*size) (cells l[k])∧R w l[k]:=by
 obtain ⟨_,h⟩:=h
 rcases h with h |⟨b,o,hp,hx⟩
 ·rw[h] at hk;simp at hk
 ·exact ⟨b,o,hp,hx k _ (List.getElem?_eq_getElem hk)⟩
def dcR (_:World) (d:Dc):Prop:=dcOk d
abbrev tcells (M:Nat) (e v:Value):Array Value:= #[.map (some M),.map (some (M+1)),e,.map (some (M+2)),v,.map (some (M+3))]
def tptr (M:Nat):Value:= .pointer (some ⟨M+4,0,none⟩)
end Sc
end Go.Proofs.YtcehbcnloiooaaaGreatDoor
namespace Go.Proofs.YtcehbcnloiooaaaGreatDoor
namespace Sc
open Go.RowKit Go.Sort Go.Maps
theorem struct_any (x:ByteArray) (b M:Nat) (l:List ByteArray) (w:World) (hc:w.cell? ⟨b,0,none⟩=some (.map (some M))) (h:Roll byName w M l) (hx:x.size≤maxLen):
  Calls Tryz.prog 80 #[.pointer (some ⟨b,0,none⟩),.string x] w fun en w'=>en= .returned (.tuple #[.int .i64 (numOf l x),.bool (isIn l x)])∧w=w':=by
 have HF:=hdn (findN_any x M l w h hx)
 clear h hx
 go_enter Tryz.func80,Tryz.ntmps80
 go_wp2_with (go_at_call 45;refine HF.out.mono ?_;rintro e w' ⟨rfl,rfl⟩)
 go_ret2
 exact ⟨rfl,rfl⟩
theorem proc_any (x:ByteArray) (b M:Nat) (l:List ByteArray) (w:World) (hc:w.cell? ⟨b,5,none⟩=some (.map (some M))) (h:Roll byName w M l) (hx:x.size≤maxLen):
  Calls Tryz.prog 19 #[.pointer (some ⟨b,0,none⟩),.string x] w fun en w'=>en= .returned (.tuple #[.int .i64 (numOf l x),.bool (isIn l x)])∧w=w':=by
 have HF:=hdn (findN_any x M l w h hx)
 clear h hx
 go_enter Tryz.func19,Tryz.ntmps19
 go_wp2_with (go_at_call 45;refine HF.out.mono ?_;rintro e w' ⟨rfl,rfl⟩)
 go_ret2
 exact ⟨rfl,rfl⟩
theorem field_any (o:Int) (x:ByteArray) (b M:Nat) (l:List (Int×ByteArray)) (w:World) (hc:w.cell? ⟨b,1,none⟩=some (.map (some M))) (h:Roll byMember w M l) (ho:(Lit.int .i64 o).wf=true) (hx:x.size≤maxLen):
  Calls Tryz.prog 40 #[.pointer (some ⟨b,0,none⟩),.int .i64 o,.string x] w fun en w'=>en= .returned (.tuple #[.int .i64 (numOf l (o,x)),.bool (isIn l (o,x))])∧Below w.heap.size w w':=by
 have HF:=hdn (findM_any (o,x) M l w h ⟨ho,hx⟩)
 clear h hx ho
 go_enter Tryz.func40,Tryz.ntmps40
 go_wp2_with (go_at_call 67;refine HF.out.mono ?_;rintro e w' ⟨rfl,hb⟩)
 go_ret2
 exact ⟨rfl,hb⟩
theorem made_any (b M:Nat) (w:World) (hc:w.cell? ⟨b,0,none⟩=some (.map (some M))):
  Calls Tryz.prog 113 #[.pointer (some ⟨b,0,none⟩)] w fun en w'=>en= .returned (.bool true)∧w=w':=by
 have hn:=fun (w:World)=>run_neq_map_nil (P:=Tryz.prog) w 90 9 3 (some M) Tryz.underlying90
 go_enter Tryz.func113,Tryz.ntmps113
 go_wp2
 go_ret
 exact ⟨rfl,rfl⟩
theorem type_any (x:ByteArray) (b M:Nat) (l:List ByteArray) (w:World) (hc:w.cell? ⟨b,0,none⟩=some (.map (some M))) (h:Roll byName w M l) (hx:x.size≤maxLen):
  Calls Tryz.prog 81 #[.pointer (some ⟨b,0,none⟩),.string x] w fun en w'=>en= .returned (.tuple #[.int .i64 (kindOf l x),.bool (tyOk l x)])∧w=w':=by
 have HF:=hdn (struct_any x b M l w hc h hx)
 have HM:=hdn (made_any b M w hc)
 clear h hx
 cases he:x.toList.isEmpty
 ·have HK:Hid (kindOf l x=numOf l x∧tyOk l x=isIn l x):=hdn ⟨by unfold kindOf;rw[he];rfl,by unfold tyOk;rw[he];rfl⟩
  have he':(x.toList== [])=false:=by cases hh:x.toList<;>simp_all
  go_enter Tryz.func81,Tryz.ntmps81
  go_wp2_with (first |(go_at_call 80;refine HF.out.mono ?_;rintro e w' ⟨rfl,rfl⟩)|(go_at_call 113;refine HM.out.mono ?_;rintro e w' ⟨rfl,rfl⟩))
  go_ret2
  exact ⟨by rw[HK.out.1,HK.out.2];rfl,rfl⟩
 ·have HK:Hid (kindOf l x= -1∧tyOk l x=true):=hdn ⟨by unfold kindOf;rw[he];rfl,by unfold tyOk;rw[he];rfl⟩
  have he':x.toList= []:=by cases hh:x.toList<;>simp_all
  go_enter Tryz.func81,Tryz.ntmps81
  go_wp2_with (first |(go_at_call 80;refine HF.out.mono ?_;rintro e w' ⟨rfl,rfl⟩)|(go_at_call 113;refine HM.out.mono ?_;rintro e w' ⟨rfl,rfl⟩))
  go_ret2
  exact ⟨by rw[HK.out.1,HK.out.2];rfl,rfl⟩
end Sc
end Go.Proofs.YtcehbcnloiooaaaGreatDoor
namespace Go.Proofs.YtcehbcnloiooaaaGreatDoor
namespace Sc
open Go.RowKit Go.Sort Go.Maps
theorem addE_pos {κ:Type} [DecidableEq κ] {most:Nat} {l:List κ} {x:κ} (h:addE most l x≠0):(addE most l x !=0)=true:=by rw[bne_iff_ne];exact h
theorem structsGo_cons (hv:List ByteArray) (s:Sr) (r:List Sr):structsGo hv (s::r)=if addE 8 hv s.name=0 then structsGo (hv++ [s.name]) r else (s.pos,addE 8 hv s.name):=by
 rw[structsGo];unfold addE
 split
 ·rfl
 ·split
  ·rfl
  ·rfl
theorem sNames_take {l:List Sr} {k:Nat} (h:k<l.length):sNames (l.take (k+1))=sNames (l.take k)++ [l[k].name]:=by
 show (l.take (k+1)).map _=_
 rw[List.take_succ_eq_append_getElem h,List.map_append];rfl
theorem size44:(Tryz.prog.info? 67).map (·.size)=some 3:=by kernel_rfl
theorem size46:(Tryz.prog.info? 65).map (·.size)=some 3:=by kernel_rfl
theorem size49:(Tryz.prog.info? 37).map (·.size)=some 6:=by kernel_rfl
def StPost (M:Nat) (w:World) (l:List Sr) (en:Ending) (w':World):Prop:=
 en= .returned (.tuple #[.int .i64 (structsGo [] l).1,.int .i64 (structsGo [] l).2])∧((structsGo [] l).2=0→Roll byName w' M (sNames l))∧Gr w w' (· =M)
theorem addStructs_any (p:Option Addr) (l:List Sr) (c M:Nat) (e v:Value) (w:World) (hM:M+4<w.heap.size) (hL:Lay 3 Sr.cells srLies w p l) (hLM:Lay 3 Sr.cells srLies w p l→∀wr,Gr w wr (· =M)→Lay 3 Sr.cells srLies wr p l) (hT:Bk w (M+4) 95 (tcells M e v)) (hR:Roll byName w M []):
  Calls Tryz.prog 31 #[tptr M,.slice p l.length c] w (StPost M w l):=by
 have hlen:=hL.1
 have HLM:=hdn (fun wr h=>hLM hL wr h)
 have HT:=hdn hT
 have HR:=hdn hR
 have HM:=hdn hM
 clear hL hLM hT hR hM
 unfold tptr
 go_enter Tryz.func31,Tryz.ntmps31
 go_wp2_with fail
 go_loopw [11] (fun i wr=> ∃k:Nat,i= .int .i64 k∧k≤l.length∧Hid (structsGo [] l=structsGo (sNames (l.take k)) (l.drop k))∧Hid (Roll byName wr M (sNames (l.take k)))∧Hid (Gr w wr (· =M))) (fun i _=>l.length-(intOf i).toNat)
 case atStart=>exact ⟨0,rfl,Nat.zero_le _,hdn rfl,HR,hdn (Gr.refl _ _)⟩
 case round=>
  obtain ⟨k,rfl,hk,HG,HRO,HGR⟩:=hrel
  by_cases hkl:k<l.length
  ·obtain ⟨b,o,rfl,hrg,hsr⟩:=(HLM.out wr HGR.out).at_ hkl
   have hst:structsGo [] l=if addE 8 (sNames (l.take k)) l[k].name=0 then structsGo (sNames (l.take k)++ [l[k].name]) (l.drop (k+1)) else (l[k].pos,addE 8 (sNames (l.take k)) l[k].name):=by
    rw[HG.out,List.drop_eq_getElem_cons hkl,structsGo_cons]
   have hnx:=sNames_take hkl
   generalize hs:l[k]=s at hrg hsr hst hnx
   clear hs
   obtain ⟨cs,hcs⟩: ∃cs:Array Value,cs=(Sr.cells s).toArray:=⟨_,rfl⟩
   have HRG:Hid (wr.rangeAt b (o+k*3) cs.toList):=hdn (by rw[hcs];exact hrg)
   have HSZ:Hid ((Tryz.prog.info? 67).map (·.size)=some cs.size):=hdn (by rw[hcs];exact size44)
   have HZ:Hid (3=cs.size):=hdn (by rw[hcs];rfl)
   have HON:Hid (cs.all (·.oneCell')=true):=hdn (by rw[hcs];simp[Value.oneCell'])
   have d0:cs[0]? =some (.string s.name):=by rw[hcs];rfl
   have d1:cs[1]? =some (.int .i64 s.pos):=by rw[hcs];rfl
   clear hcs
   have e0:(wr.alloc (.cells cs 67)).cell? ⟨wr.heap.size,0,none⟩=some (.string s.name):=(World.cell?_alloc_at _ _ _ _ rfl).trans d0
   have e1:(wr.alloc (.cells cs 67)).cell? ⟨wr.heap.size,1,none⟩=some (.int .i64 s.pos):=(World.cell?_alloc_at _ _ _ _ rfl).trans d1
   have hT1:Bk (wr.alloc (.cells cs 67)) (M+4) 95 (tcells M e v):=(HGR.out.alloc _).bk HT.out (by omega)
   have t0:(wr.alloc (.cells cs 67)).cell? ⟨M+4,0,none⟩=some (.map (some M)):=hT1.cell 0
   have HG1:Hid (Gr w (wr.alloc (.cells cs 67)) (· =M)):=hdn (HGR.out.alloc _)
   have HA:Hid (Calls Tryz.prog 59 #[.map (some M),.string s.name,.int .i64 8] (wr.alloc (.cells cs 67)).drew (Added byName 8 (wr.alloc (.cells cs 67)).drew M (sNames (l.take k)) s.name)):=
    hdn (addN_any s.name M 8 _ _ ((HRO.out.kept (World.grownBy_alloc wr (.cells cs 67) none) (by simp)).same rfl) hsr.2 (by decide))
   have HS:=hdn hst
   have HNX:=hdn hnx
   have HE1:=hdn e1
   have HMw:Hid (M<wr.heap.size):=hdn (HRO.out.lt)
   have hk0:(0:Int)≤(k:Int):=Int.natCast_nonneg _
   have hk1:(k:Int)<(l.length:Int):=by omega
   clear hst hnx hrg hsr d0 d1 e1 hT1
   go_wp2_with (first |((with_reducible show wpList _ _ _ (Oper.mk (some 14) _ _ _ _ _::_) _ _);refine wpList_load_arr rfl 67 (.tmp 13) rfl b (o+k*3) rfl cs _ HRG.out Tryz.underlying67 rfl HSZ.out ?_)|((with_reducible show wpList _ _ _ (Oper.mk none (Op.store _ _ _) _ _ _ _::_) _ _);refine wpList_store_new rfl 67 (.tmp 7) (.tmp 14) rfl _ cs rfl rfl HSZ.out HZ.out HON.out ?_))
   generalize wr.alloc (.cells cs 67)=wB at t0 e0 HG1 HA HE1 ⊢
   go_still_tail 6,(by kernel_rfl)
   change wpList _ _ _ _ _ wB.drew
   go_wp2_with fail
   refine HA.out.mono ?_;rintro en w2 ⟨rfl,hr2,hg2⟩
   have HR2:=hdn hr2
   have HG2:Hid (Gr w w2 (· =M)):=hdn (HG1.out.drew.grown hg2 (fun i _ e=>by injection e))
   have g1:w2.cell? ⟨wr.heap.size,1,none⟩=some (.int .i64 s.pos):=hg2.cell (HE1.out) (by intro e;injection e with e;have e':wr.heap.size=M:=e;have:=HMw.out;omega)
   clear hr2 hg2 t0 e0
   by_cases he:addE 8 (sNames (l.take k)) s.name=0
   ·have HX:Hid (addE 8 (sNames (l.take k)) s.name=0):=hdn he
    rw[he]
    clear he
    go_wp2_with fail
    go_roundw
    case rel=>
     refine ⟨k+1,by go_num,by omega,hdn ?_,hdn ?_,HG2⟩
     ·rw[HS.out,if_pos HX.out,HNX.out]
     ·have:=HR2.out
      unfold addL at this
      rw[if_pos HX.out] at this
      rw[HNX.out];exact this
    case measure=>simp[intOf];omega
   ·have hne:=addE_pos he
    have HX:=hdn he
    clear he
    go_wp2_with fail
    go_ret2
    exact ⟨by rw[HS.out,if_neg HX.out];rfl,fun h=>absurd (by rw[HS.out,if_neg HX.out] at h;exact h) HX.out,HG2.out⟩
  ·have HF:Hid (structsGo [] l=(0,0)):=hdn (by rw[HG.out,List.drop_eq_nil_of_le (by omega)];rfl)
   have HRF:Hid (Roll byName wr M (sNames l)):=hdn (by have:=HRO.out;rwa[List.take_of_length_le (by omega)] at this)
   go_wp2_with fail
   go_ret2
   exact ⟨by rw[HF.out];rfl,fun _=>HRF.out,HGR.out⟩
end Sc
end Go.Proofs.YtcehbcnloiooaaaGreatDoor
namespace Go.Proofs.YtcehbcnloiooaaaGreatDoor
namespace Sc
open Go.RowKit Go.Sort Go.Maps
def declE (sn hv:List ByteArray) (d:Dc):Int:=if addE 16 hv d.name=0 then (if tyOk sn d.type=true then 0 else 8) else addE 16 hv d.name
theorem declsGo_cons (sn hv:List ByteArray) (d:Dc) (r:List Dc):declsGo sn hv (d::r)=if declE sn hv d=0 then declsGo sn (hv++ [d.name]) r else (d.pos,declE sn hv d):=by
 rw[declsGo];unfold declE addE
 split
 ·rfl
 ·split
  ·rfl
  ·split
   ·rfl
   ·rfl
theorem declE_add {sn hv:List ByteArray} {d:Dc} (h:declE sn hv d=0):addE 16 hv d.name=0:=by
 unfold declE at h
 split at h
 ·assumption
 ·exact h
def declV (sn hv:List ByteArray) (d:Dc):Int:=if declE sn hv d=0 then kindOf sn d.type else 0
def DePost (sn hv:List ByteArray) (d:Dc) (B:Nat) (w:World) (en:Ending) (w':World):Prop:=
 en= .returned (.tuple #[.int .i64 (declV sn hv d),.int .i64 (declE sn hv d)])∧Roll byName w' B (addL 16 hv d.name)∧Gr w w' (· =B)
theorem declare_any (d:Dc) (sn hv:List ByteArray) (M B:Nat) (w:World) (hd:dcOk d) (hM:B≠M) (hM4:B≠M+4) (h0:w.cell? ⟨M+4,0,none⟩=some (.map (some M))) (hS:Roll byName w M sn) (hR:Roll byName w B hv):
  Calls Tryz.prog 61 #[tptr M,.map (some B),.agg #[.string d.type,.string d.name,.int .i64 d.pos]] w (DePost sn hv d B w):=by
 have hl0:M+4<w.heap.size:=World.block_lt_of_cell? w _ h0
 have HG1:Hid (Gr w (w.alloc (.cells #[.string d.type,.string d.name,.int .i64 d.pos] 65)) (· =B)):=hdn ((Gr.refl _ _).alloc _)
 have h0':(w.alloc (.cells #[.string d.type,.string d.name,.int .i64 d.pos] 65)).cell? ⟨M+4,0,none⟩=some (.map (some M)):=(World.cell?_of_block (a:=⟨M+4,0,none⟩) (HG1.out.block _ hl0 (Ne.symm hM4))).trans h0
 have HS1:Hid (Roll byName (w.alloc (.cells #[.string d.type,.string d.name,.int .i64 d.pos] 65)) M sn):=hdn (HG1.out.roll hS (Ne.symm hM))
 have HR1:Hid (Roll byName (w.alloc (.cells #[.string d.type,.string d.name,.int .i64 d.pos] 65)) B hv):=hdn (hR.kept (World.grownBy_alloc _ _ none) (by simp))
 have k0:(w.alloc (.cells #[.string d.type,.string d.name,.int .i64 d.pos] 65)).cell? ⟨w.heap.size,0,none⟩=some (.string d.type):=World.cell?_alloc_at _ _ _ _ rfl
 have k1:(w.alloc (.cells #[.string d.type,.string d.name,.int .i64 d.pos] 65)).cell? ⟨w.heap.size,1,none⟩=some (.string d.name):=World.cell?_alloc_at _ _ _ _ rfl
 have HB:Hid (B<w.heap.size):=hdn hR.lt
 have HA:Hid (Calls Tryz.prog 59 #[.map (some B),.string d.name,.int .i64 16] (w.alloc (.cells #[.string d.type,.string d.name,.int .i64 d.pos] 65)) (Added byName 16 (w.alloc (.cells #[.string d.type,.string d.name,.int .i64 d.pos] 65)) B hv d.name)):=
  hdn (addN_any d.name B 16 hv _ HR1.out hd.2 (by decide))
 have HD:=hdn hd
 have HM:=hdn hM
 have HM4:=hdn hM4
 have H0:=hdn h0'
 have HK0:=hdn k0
 clear hd hM hM4 h0 hS hR h0' k0 hl0
 unfold tptr
 go_enter Tryz.func61,Tryz.ntmps61
 go_wp2_with fail
 generalize w.alloc (.cells #[.string d.type,.string d.name,.int .i64 d.pos] 65)=wB at HG1 HS1 HR1 k1 HA H0 HK0 ⊢
 refine HA.out.mono ?_;rintro en w2 ⟨rfl,hr2,hg2⟩
 have HR2:=hdn hr2
 have HG2:Hid (Gr w w2 (· =B)):=hdn (HG1.out.grown hg2 (fun i _ e=>by injection e))
 by_cases he:addE 16 hv d.name=0
 ·have h0:w2.cell? ⟨M+4,0,none⟩=some (.map (some M)):=hg2.cell H0.out (by intro e;injection e with e;exact HM4.out e.symm)
  have g0:w2.cell? ⟨w.heap.size,0,none⟩=some (.string d.type):=hg2.cell HK0.out (by intro e;injection e with e;have e':w.heap.size=B:=e;have:=HB.out;omega)
  have hS2:Roll byName w2 M sn:=HS1.out.kept hg2 (by intro e;injection e with e;exact HM.out e.symm)
  have HT:=hdn (type_any d.type (M+4) M sn w2 h0 hS2 HD.out.1)
  have HX:Hid (addE 16 hv d.name=0):=hdn he
  rw[he]
  clear he hr2 hg2 h0 hS2
  cases hty:tyOk sn d.type
  ·have HE:Hid (declE sn hv d=8):=hdn (by unfold declE;rw[if_pos HX.out,hty];rfl)
   rw[hty] at HT
   clear hty
   go_wp2_with (go_at_call 81;refine HT.out.mono ?_;rintro e w' ⟨rfl,rfl⟩)
   go_ret2
   exact ⟨by unfold declV;rw[HE.out];rfl,HR2.out,HG2.out⟩
  ·have HE:Hid (declE sn hv d=0):=hdn (by unfold declE;rw[if_pos HX.out,hty];rfl)
   rw[hty] at HT
   clear hty
   go_wp2_with (go_at_call 81;refine HT.out.mono ?_;rintro e w' ⟨rfl,rfl⟩)
   go_ret2
   exact ⟨by unfold declV;rw[HE.out];rfl,HR2.out,HG2.out⟩
 ·have hne:=addE_pos he
  have HE:Hid (declE sn hv d=addE 16 hv d.name):=hdn (by unfold declE;rw[if_neg he])
  have HX:=hdn he
  clear he hr2 hg2
  go_wp2_with fail
  go_ret2
  exact ⟨by unfold declV;rw[HE.out,if_neg HX.out];rfl,HR2.out,HG2.out⟩
end Sc
end Go.Proofs.YtcehbcnloiooaaaGreatDoor
namespace Go.Proofs.YtcehbcnloiooaaaGreatDoor
namespace Sc
open Go.RowKit Go.Sort Go.Maps
theorem own_setC {w:World} {B:Nat} {e:TypeId} {k:Nat} {v:Value} {n:Nat} {xs:List Value} (h:w.ownsRow B e k v n xs) {a:Addr} (ha:a.block<B) (u:Value):(w.setCell a u).ownsRow B e k v n xs:=
 h.kept (grownBy_setC w a u) (by
  cases hv:v.ownBlock with
  |none=>exact .inl rfl
  |some g=>right;intro e;injection e with e;have:=(h.lt g hv).1;omega)
theorem own_gr {w w':World} {B:Nat} {e:TypeId} {k:Nat} {v:Value} {n:Nat} {xs:List Value} {S:Nat→Prop} (h:w.ownsRow B e k v n xs) (hg:Gr w w' S) (hS: ∀i,B≤i→i<w.heap.size→¬S i):w'.ownsRow B e k v n xs:=by
 refine ⟨h.1, ?_⟩
 rcases h.2 with h |⟨g,cap,cur,h1,h2,h3,h4⟩
 ·exact .inl h
 ·have hlt:g<w.heap.size:=(Array.getElem?_eq_some_iff.1 h3).1
  exact .inr ⟨g,cap,cur,h1,h2,(hg.block g hlt (hS g h2 hlt)).trans h3,h4⟩
theorem pcells_snoc (l:List (Int×Int)) (x:Int×Int):pcells (l++ [x])=pcells l++ [.int .i64 x.1,.int .i64 x.2]:=by simp[pcells]
def fieldE (sn:List ByteArray) (hv:List (Int×ByteArray)) (o:Int) (f:Dc):Int:=
 if addE 8 hv (o,f.name)=0 then (if f.type.toList.isEmpty=true then 9 else if isIn sn f.type=true then 0 else 8) else addE 8 hv (o,f.name)
def AfPost (sn:List ByteArray) (hv:List (Int×ByteArray)) (o:Nat) (f:Dc) (M base:Nat) (e v:Value) (el:List (Int×Int)) (w:World) (en:Ending) (w':World):Prop:=
 en= .returned (.int .i64 (fieldE sn hv o f))∧
 (fieldE sn hv o f=0→∃e',Bk w' (M+4) 95 (tcells M e' v)∧Roll byMember w' (M+1) (hv++ [((o:Int),f.name)])∧w'.ownsRow base 102 2 e' (el++ [((o:Int),numOf sn f.type)]).length (pcells (el++ [((o:Int),numOf sn f.type)])))∧
 Gr w w' (fun k=>k=M+1∨k=M+4∨some k=e.ownBlock)
theorem zinfo42:(Tryz.prog.info? 102).map (fun i=>(i.zero,i.size,i.bytes))=some (some (.agg #[.int .i64 0,.int .i64 0]),2,16):=by kernel_rfl
theorem zinfo81:(Tryz.prog.info? 133).map (fun i=>(i.zero,i.size,i.bytes))=some (some (.agg #[.int .i64 0,.int .i64 0]),2,16):=by kernel_rfl
theorem two_one (a b:Int): ∀u∈ [Value.int .i64 a,.int .i64 b],u.oneCell'=true:=by simp[Value.oneCell']
theorem addField_any (o:Nat) (f:Dc) (sn:List ByteArray) (hv:List (Int×ByteArray)) (M base:Nat) (e v:Value) (el:List (Int×Int)) (w:World) (hf:dcOk f) (ho:o≤1048576) (hel:el.length≤1048576) (hbase:M+4<base) (hbw:base≤w.heap.size)
  (hT:Bk w (M+4) 95 (tcells M e v)) (hS:Roll byName w M sn) (hR:Roll byMember w (M+1) hv) (hE:w.ownsRow base 102 2 e el.length (pcells el)):
  Calls Tryz.prog 60 #[tptr M,.int .i64 o,.agg #[.string f.type,.string f.name,.int .i64 f.pos]] w (AfPost sn hv o f M base e v el w):=by
 have HG1:Hid (Gr w (w.alloc (.cells #[.string f.type,.string f.name,.int .i64 f.pos] 65)) (fun k=>k=M+1∨k=M+4∨some k=e.ownBlock)):=hdn ((Gr.refl _ _).alloc _)
 have HP:Hid (Gr w (w.alloc (.cells #[.string f.type,.string f.name,.int .i64 f.pos] 65)) (fun _=>False)):=hdn ((Gr.refl _ _).alloc _)
 have HT1:Hid (Bk (w.alloc (.cells #[.string f.type,.string f.name,.int .i64 f.pos] 65)) (M+4) 95 (tcells M e v)):=hdn (HP.out.bk hT (fun h=>h))
 have HS1:Hid (Roll byName (w.alloc (.cells #[.string f.type,.string f.name,.int .i64 f.pos] 65)) M sn):=hdn (HP.out.roll hS (fun h=>h))
 have HR1:Hid (Roll byMember (w.alloc (.cells #[.string f.type,.string f.name,.int .i64 f.pos] 65)) (M+1) hv):=hdn (HP.out.roll hR (fun h=>h))
 have HE1:Hid ((w.alloc (.cells #[.string f.type,.string f.name,.int .i64 f.pos] 65)).ownsRow base 102 2 e el.length (pcells el)):=hdn (own_gr hE HP.out (fun _ _ _ h=>h))
 have HBX:Hid (Bk (w.alloc (.cells #[.string f.type,.string f.name,.int .i64 f.pos] 65)) w.heap.size 65 #[.string f.type,.string f.name,.int .i64 f.pos]):=hdn (heap_alloc_new _ _)
 have hwf:(Lit.int .i64 (o:Int)).wf=true:=WalkArith.wf_i64 (by omega)
 have HA:Hid (Calls Tryz.prog 79 #[.map (some (M+1)),.agg #[.int .i64 o,.string f.name],.int .i64 8] (w.alloc (.cells #[.string f.type,.string f.name,.int .i64 f.pos] 65)).drew (Added byMember 8 (w.alloc (.cells #[.string f.type,.string f.name,.int .i64 f.pos] 65)).drew (M+1) hv ((o:Int),f.name))):=
  hdn (addM_any ((o:Int),f.name) (M+1) 8 hv _ (HR1.out.same rfl) ⟨hwf,hf.2⟩ (by decide))
 have HF:=hdn hf
 have HM:Hid (M+4<w.heap.size):=hdn hT.lt
 have HEL:Hid (∀g,e.ownBlock=some g→base≤g∧g<w.heap.size):=hdn hE.lt
 have HBW:=hdn hbw
 have HBS:=hdn hbase
 obtain ⟨i0,hi0,hz0,hz1,hz2⟩:=info_parts zinfo42
 have HI:=hdn hi0;have HZ0:=hdn hz0;have HZ1:=hdn hz1;have HZ2:=hdn hz2
 clear hf hT hS hR hE hwf hbw hbase hi0 hz0 hz1 hz2
 have k1:=HBX.out.cell 1
 replace k1:(w.alloc (.cells #[.string f.type,.string f.name,.int .i64 f.pos] 65)).cell? ⟨w.heap.size,1,none⟩=some (.string f.name):=k1
 have t1:(w.alloc (.cells #[.string f.type,.string f.name,.int .i64 f.pos] 65)).cell? ⟨M+4,1,none⟩=some (.map (some (M+1))):=HT1.out.cell 1
 unfold tptr
 go_enter Tryz.func60,Tryz.ntmps60
 go_wp2_with fail
 generalize w.alloc (.cells #[.string f.type,.string f.name,.int .i64 f.pos] 65)=wB at HG1 HP HT1 HS1 HR1 HE1 HBX HA k1 t1 ⊢
 go_still_tail 8,(by kernel_rfl)
 change wpList _ _ _ _ _ wB.drew
 go_wp2_with fail
 refine HA.out.mono ?_;rintro en w2 ⟨rfl,hr2,hg2⟩
 have HR2:=hdn hr2
 have HG2:Hid (Gr w w2 (fun k=>k=M+1∨k=M+4∨some k=e.ownBlock)):=hdn (HG1.out.drew.grown hg2 (fun i _ e=>by injection e with e;exact .inl e))
 have HN2:Hid (Gr wB w2 (fun k=>k=M+1)):=hdn (((Gr.refl wB _).drew).grown hg2 (fun i _ e=>by injection e))
 have HT2:Hid (Bk w2 (M+4) 95 (tcells M e v)):=hdn (HN2.out.bk HT1.out (by omega))
 have HS2:Hid (Roll byName w2 M sn):=hdn (HN2.out.roll HS1.out (by omega))
 have HE2:Hid (w2.ownsRow base 102 2 e el.length (pcells el)):=hdn (own_gr HE1.out HN2.out (fun i hi _ h=>by have:=HBS.out;omega))
 have HBX2:Hid (Bk w2 w.heap.size 65 #[.string f.type,.string f.name,.int .i64 f.pos]):=hdn (HN2.out.bk HBX.out (by have:=HM.out;omega))
 have g0:w2.cell? ⟨w.heap.size,0,none⟩=some (.string f.type):=HBX2.out.cell 0
 clear hr2 hg2 k1 t1
 by_cases he:addE 8 hv ((o:Int),f.name)=0
 ·have HX:=hdn he
  rw[he]
  clear he
  cases hty:f.type.toList.isEmpty
  ·have hty':(f.type.toList== [])=false:=by cases hh:f.type.toList<;>simp_all
   have h0:w2.cell? ⟨M+4,0,none⟩=some (.map (some M)):=HT2.out.cell 0
   have HST:=hdn (struct_any f.type (M+4) M sn w2 h0 HS2.out HF.out.1)
   clear h0
   cases hin:isIn sn f.type
   ·have HFE:Hid (fieldE sn hv o f=8):=hdn (by unfold fieldE;rw[if_pos HX.out,hty,hin];rfl)
    rw[hin] at HST
    clear hin
    go_wp2_with (go_at_call 80;refine HST.out.mono ?_;rintro en w' ⟨rfl,rfl⟩)
    go_ret
    exact ⟨by rw[HFE.out];rfl,fun h=>absurd (HFE.out.symm.trans h) (by decide),HG2.out⟩
   ·have HFE:Hid (fieldE sn hv o f=0):=hdn (by unfold fieldE;rw[if_pos HX.out,hty,hin];rfl)
    rw[hin] at HST
    clear hin
    have HFX:Hid (f.type.toList.isEmpty=false):=hdn hty
    have k2:w2.cell? ⟨M+4,2,none⟩=some e:=HT2.out.cell 2
    have HSZ:Hid (w.heap.size<w2.heap.size):=hdn HBX2.out.lt
    have HOA:Hid ((w2.alloc (.cells #[.int .i64 o,.int .i64 (numOf sn f.type)] 102)).ownsRow base 102 2 e el.length (pcells el)):=hdn (HE2.out.alloc _)
    go_wp2_with (first
     |(go_at_call 80;refine HST.out.mono ?_;rintro en w' ⟨rfl,rfl⟩)
     |(at_builtin;go_must (refine wpList_append_lies _ rfl (.tmp 38) (.tmp 42) 44 rfl base 102 i0 (.agg #[.int .i64 0,.int .i64 0]) 2 16 Tryz.underlying44 HI.out HZ0.out HZ1.out HZ2.out rfl (by decide) e el.length (pcells el) rfl HOA.out ⟨w2.heap.size,0,none⟩ 1 1 [.int .i64 o,.int .i64 (numOf sn f.type)] rfl rfl (World.news_of_block (heap_alloc_new _ _)) (two_one _ _) (by decide) (by unfold maxLen;omega) (by omega) (by have:=HBW.out;have:=HSZ.out;simp;omega) _ rfl ?_);intro g cap w3 hown3 hgrow3 hat3 hlt3;have HO3:=hdn hown3;have HG3:=hdn hgrow3;have HN3:Hid (Gr w2 w3 (fun k=>some k=e.ownBlock)):=hdn (((Gr.refl w2 _).alloc _).grown hgrow3 (fun i _ e=>e));have HT3:Hid (Bk w3 (M+4) 95 (tcells M e v)):=hdn (HN3.out.bk HT2.out (fun e=>by have:=(HEL.out _ e.symm).1;have:=HBS.out;omega));have d2:w3.cell? ⟨M+4,2,none⟩=some e:=HT3.out.cell 2;have f2:w3.frozen? ⟨M+4,2,none⟩=false:=HT3.out.frozen 2;have HR3:Hid (Roll byMember w3 (M+1) (addL 8 hv ((o:Int),f.name))):=hdn (HN3.out.roll HR2.out (fun e=>by have:=(HEL.out _ e.symm).1;have:=HBS.out;omega));clear hown3 hgrow3 hat3 hlt3))
    go_ret
    have hR4:Roll byMember (w3.setCell ⟨M+4,2,none⟩ (.slice (some ⟨g,0,none⟩) (el.length+1) cap)) (M+1) (hv++ [((o:Int),f.name)]):=by
     have:=((Gr.refl w3 (fun k=>k=M+4)).setCell (p:=⟨M+4,2,none⟩) (fun _=>rfl) (.slice (some ⟨g,0,none⟩) (el.length+1) cap)).roll HR3.out (by omega)
     unfold addL at this
     rwa[if_pos HX.out] at this
    refine ⟨by rw[HFE.out];rfl,fun _=>⟨.slice (some ⟨g,0,none⟩) (el.length+1) cap,HT3.out.set_ 2 _,hR4, ?_⟩, ?_⟩
    ·have:=own_setC HO3.out (a:=⟨M+4,2,none⟩) HBS.out (.slice (some ⟨g,0,none⟩) (el.length+1) cap)
     rw[pcells_snoc,List.length_append]
     exact this
    ·exact ((HG2.out.then HN3.out (fun i _ h=> .inr (.inr h))).setCell (fun _=> .inr (.inl rfl)) _)
  ·have hty':f.type.toList= []:=by cases hh:f.type.toList<;>simp_all
   have HFE:Hid (fieldE sn hv o f=9):=hdn (by unfold fieldE;rw[if_pos HX.out,hty];rfl)
   go_wp2_with fail
   go_ret
   exact ⟨by rw[HFE.out];rfl,fun h=>absurd (HFE.out.symm.trans h) (by decide),HG2.out⟩
 ·have hne:=addE_pos he
  have HFE:Hid (fieldE sn hv o f=addE 8 hv ((o:Int),f.name)):=hdn (by unfold fieldE;rw[if_neg he])
  have HX:=hdn he
  clear he
  go_wp2_with fail
  go_ret
  exact ⟨by rw[HFE.out];rfl,fun h=>absurd (HFE.out.symm.trans h) HX.out,HG2.out⟩
end Sc
end Go.Proofs.YtcehbcnloiooaaaGreatDoor
namespace Go.Proofs.YtcehbcnloiooaaaGreatDoor
namespace Sc
open Go.RowKit Go.Sort Go.Maps
theorem fieldE_ne {sn:List ByteArray} {hv:List (Int×ByteArray)} {o:Int} {f:Dc} (h:fieldE sn hv o f≠0):(fieldE sn hv o f !=0)=true:=by rw[bne_iff_ne];exact h
theorem fieldE_lt {sn:List ByteArray} {hv:List (Int×ByteArray)} {o:Int} {f:Dc} (h:fieldE sn hv o f=0):hv.length<8:=by
 have h1:addE 8 hv (o,f.name)=0:=by
  unfold fieldE at h
  split at h
  ·assumption
  ·exact h
 by_cases hc:8≤hv.length
 ·unfold addE at h1;rw[if_pos hc] at h1;cases h1
 ·omega
theorem fieldsGo_cons (sn:List ByteArray) (hv:List (Nat×Dc)) (x:Nat×Dc) (r:List (Nat×Dc)):fieldsGo sn hv (x::r)=if fieldE sn (hv.map memb) x.1 x.2=0 then fieldsGo sn (hv++ [x]) r else (x.2.pos,fieldE sn (hv.map memb) x.1 x.2):=by
 rw[fieldsGo];unfold fieldE addE
 rw[List.length_map,show memb x=((x.1:Int),x.2.name) from rfl]
 by_cases h1:8≤hv.length
 ·simp[h1]
 ·simp only[if_neg h1]
  cases h2:isIn (hv.map memb) ((x.1:Int),x.2.name)
  ·cases h3:x.2.type.toList.isEmpty
   ·cases h4:isIn sn x.2.type
    ·simp
    ·simp
   ·simp
  ·simp
structure FsInv (sn:List ByteArray) (l:List Sr) (M:Nat) (v:Value) (w wr:World) (pd rest:List (Nat×Dc)):Prop where
 all:pairsFrom 0 l=pd++rest
 go:fieldsGo sn [] (pairsFrom 0 l)=fieldsGo sn pd rest
 small:pd.length≤8
 roll:Roll byMember wr (M+1) (pd.map memb)
 sroll:Roll byName wr M sn
 tab: ∃e,Bk wr (M+4) 95 (tcells M e v)∧wr.ownsRow w.heap.size 102 2 e (endsOf sn pd).length (pcells (endsOf sn pd))
 gr:Gr w wr (fun k=>k=M+1∨k=M+4)
theorem FsInv.fresh {sn:List ByteArray} {l:List Sr} {M:Nat} {v:Value} {w wr w':World} {pd rest:List (Nat×Dc)} (h:FsInv sn l M v w wr pd rest) (hg:Gr wr w' (fun _=>False)):FsInv sn l M v w w' pd rest where
 all:=h.all
 go:=h.go
 small:=h.small
 roll:=hg.roll h.roll (fun h=>h)
 sroll:=hg.roll h.sroll (fun h=>h)
 tab:=by
  obtain ⟨e,h1,h2⟩:=h.tab
  exact ⟨e,hg.bk h1 (fun h=>h),own_gr h2 hg (fun _ _ _ h=>h)⟩
 gr:=h.gr.then hg (fun _ _ h=>h.elim)
theorem endsOf_snoc (sn:List ByteArray) (pd:List (Nat×Dc)) (x:Nat×Dc):endsOf sn (pd++ [x])=endsOf sn pd++ [((x.1:Int),numOf sn x.2.type)]:=by simp[endsOf]
theorem endsOf_len (sn:List ByteArray) (pd:List (Nat×Dc)):(endsOf sn pd).length=pd.length:=by simp[endsOf]
theorem FsInv.step {sn:List ByteArray} {l:List Sr} {M:Nat} {v e:Value} {w wr w':World} {pd rest:List (Nat×Dc)} {x:Nat×Dc} {en:Ending} (hM:M+4<w.heap.size) (h:FsInv sn l M v w wr pd (x::rest)) (hO:wr.ownsRow w.heap.size 102 2 e (endsOf sn pd).length (pcells (endsOf sn pd)))
  (hp:AfPost sn (pd.map memb) x.1 x.2 M w.heap.size e v (endsOf sn pd) wr en w') (h0:fieldE sn (pd.map memb) x.1 x.2=0):FsInv sn l M v w w' (pd++ [x]) rest where
 all:=by rw[h.all];simp
 go:=by rw[h.go,fieldsGo_cons,if_pos h0]
 small:=by have:=fieldE_lt h0;simp at this ⊢;omega
 roll:=by
  obtain ⟨e',_,h2,_⟩:=hp.2.1 h0
  rw[List.map_append];exact h2
 sroll:=hp.2.2.roll h.sroll (by
  rintro (h |h |h)
  ·omega
  ·omega
  ·have:=(hO.lt _ h.symm).1;omega)
 tab:=by
  obtain ⟨e',h1,_,h3⟩:=hp.2.1 h0
  exact ⟨e',h1,by rw[endsOf_snoc];exact h3⟩
 gr:=h.gr.then hp.2.2 (by
  rintro i hi (h |h |h)
  ·exact .inl h
  ·exact .inr h
  ·have:=(hO.lt _ h.symm).1;omega)
def FsPost (sn:List ByteArray) (l:List Sr) (M:Nat) (v:Value) (w:World) (en:Ending) (w':World):Prop:=
 en= .returned (.tuple #[.int .i64 (fieldsGo sn [] (pairsFrom 0 l)).1,.int .i64 (fieldsGo sn [] (pairsFrom 0 l)).2])∧
 ((fieldsGo sn [] (pairsFrom 0 l)).2=0→FsInv sn l M v w w' (pairsFrom 0 l) [])∧Gr w w' (fun k=>k=M+1∨k=M+4)
theorem pairsFrom_drop {l:List Sr} {k:Nat} (h:k<l.length):pairsFrom k (l.drop k)=l[k].fields.l.map (fun f=>(k,f))++pairsFrom (k+1) (l.drop (k+1)):=by
 rw[List.drop_eq_getElem_cons h];rfl
theorem pairs_drop {m:List Dc} {k j:Nat} (h:j<m.length):(m.drop j).map (fun f=>(k,f))=(k,m[j])::(m.drop (j+1)).map (fun f=>(k,f)):=by
 rw[List.drop_eq_getElem_cons h];rfl
theorem addFields_any (p:Option Addr) (l:List Sr) (c M:Nat) (v:Value) (sn:List ByteArray) (w:World) (hM:M+4<w.heap.size) (hlen:l.length≤1048576) (hL: ∀wr,Gr w wr (fun k=>k=M+1∨k=M+4)→Lay 3 Sr.cells srLies wr p l)
  (hT:Bk w (M+4) 95 (tcells M (.slice none 0 0) v)) (hS:Roll byName w M sn) (hR:Roll byMember w (M+1) []):
  Calls Tryz.prog 32 #[tptr M,.slice p l.length c] w (FsPost sn l M v w):=by
 have HI0:Hid (FsInv sn l M v w w [] (pairsFrom 0 l)):=hdn ⟨rfl,rfl,by decide,hR,hS,⟨_,hT,World.ownsRow_nil _ _ _ _⟩,Gr.refl _ _⟩
 have HL:=hdn hL
 have HM:=hdn hM
 clear hL hT hS hR hM
 unfold tptr
 go_enter Tryz.func32,Tryz.ntmps32
 go_wp2_with fail
 go_loopw [13] (fun i wr=> ∃(k:Nat) (pd:List (Nat×Dc)),i= .int .i64 k∧k≤l.length∧Hid (FsInv sn l M v w wr pd (pairsFrom k (l.drop k)))) (fun i _=>l.length-(intOf i).toNat)
 case atStart=>exact ⟨0,[],rfl,Nat.zero_le _,HI0⟩
 case round=>
  obtain ⟨k,pd,rfl,hk,HI⟩:=hrel
  by_cases hkl:k<l.length
  ·obtain ⟨b,o,rfl,hrg,hsr⟩:=(HL.out wr HI.out.gr).at_ hkl
   obtain ⟨cs,hcs⟩: ∃cs:Array Value,cs=(Sr.cells l[k]).toArray:=⟨_,rfl⟩
   have HRG:Hid (wr.rangeAt b (o+k*3) cs.toList):=hdn (by rw[hcs];exact hrg)
   have HSZ:Hid ((Tryz.prog.info? 67).map (·.size)=some cs.size):=hdn (by rw[hcs];exact size44)
   have HZ:Hid (3=cs.size):=hdn (by rw[hcs];rfl)
   have HON:Hid (cs.all (·.oneCell')=true):=hdn (by rw[hcs];simp[Value.oneCell'])
   have d2:cs[2]? =some (.slice l[k].fields.p l[k].fields.l.length l[k].fields.cap):=by rw[hcs];rfl
   clear hcs
   have e2:(wr.alloc (.cells cs 67)).cell? ⟨wr.heap.size,2,none⟩=some (.slice l[k].fields.p l[k].fields.l.length l[k].fields.cap):=(World.cell?_alloc_at _ _ _ _ rfl).trans d2
   have hml:l[k].fields.l.length≤1048576:=hsr.1.1
   have HI1:Hid (FsInv sn l M v w (wr.alloc (.cells cs 67)) pd (l[k].fields.l.map (fun f=>(k,f))++pairsFrom (k+1) (l.drop (k+1)))):=hdn (by
    have:=HI.out.fresh ((Gr.refl wr (fun _=>False)).alloc (.cells cs 67))
    rwa[pairsFrom_drop hkl] at this)
   have HFL:Hid (∀wi,Gr w wi (fun k=>k=M+1∨k=M+4)→Lay 3 Dc.cells dcR wi l[k].fields.p l[k].fields.l):=hdn (fun wi hi=>by
    obtain ⟨_,_,_,_,h⟩:=(HL.out wi hi).at_ hkl
    exact h.1)
   generalize l[k].fields.l=m at e2 hml HI1 HFL
   generalize l[k].fields.p=mp at e2 HFL
   generalize l[k].fields.cap=mc at e2
   have hk0:(0:Int)≤(k:Int):=Int.natCast_nonneg _
   have hk1:(k:Int)<(l.length:Int):=by omega
   clear hrg hsr d2
   go_wp2_with (first |((with_reducible show wpList _ _ _ (Oper.mk (some 17) _ _ _ _ _::_) _ _);refine wpList_load_arr rfl 67 (.tmp 16) rfl b (o+k*3) rfl cs _ HRG.out Tryz.underlying67 rfl HSZ.out ?_)|((with_reducible show wpList _ _ _ (Oper.mk none (Op.store _ _ _) _ _ _ _::_) _ _);refine wpList_store_new rfl 67 (.tmp 7) (.tmp 17) rfl _ cs rfl rfl HSZ.out HZ.out HON.out ?_))
   generalize wr.alloc (.cells cs 67)=wB at HI1 e2 ⊢
   obtain ⟨wo,rfl⟩: ∃wo:World,wo=wr:=⟨_,rfl⟩
   go_loopw [21] (fun i wr=> ∃(j:Nat) (pd:List (Nat×Dc)),i= .int .i64 j∧j≤m.length∧Hid (FsInv sn l M v w wr pd ((m.drop j).map (fun f=>(k,f))++pairsFrom (k+1) (l.drop (k+1))))) (fun i _=>m.length-(intOf i).toNat)
   case atStart=>exact ⟨0,pd,rfl,Nat.zero_le _,HI1⟩
   case round=>
    clear HI HI1 HRG HSZ HZ HON e2
    obtain ⟨j,pd,rfl,hj,HI⟩:=hrel
    by_cases hjl:j<m.length
    ·obtain ⟨b2,o2,rfl,hrg,hdc⟩:=(HFL.out wr HI.out.gr).at_ hjl
     obtain ⟨e,hTe,hOe⟩:=HI.out.tab
     have hdr:(m.drop j).map (fun f=>(k,f))++pairsFrom (k+1) (l.drop (k+1))=(k,m[j])::((m.drop (j+1)).map (fun f=>(k,f))++pairsFrom (k+1) (l.drop (k+1))):=by rw[pairs_drop hjl];rfl
     have HI2:Hid (FsInv sn l M v w wr pd ((k,m[j])::((m.drop (j+1)).map (fun f=>(k,f))++pairsFrom (k+1) (l.drop (k+1))))):=hdn (by have:=HI.out;rwa[hdr] at this)
     generalize hff:m[j]=f at hrg hdc HI2
     clear hff hdr HI
     obtain ⟨cs,hcs⟩: ∃cs:Array Value,cs= #[.string f.type,.string f.name,.int .i64 f.pos]:=⟨_,rfl⟩
     have HCS:=hdn hcs
     have HRG:Hid (wr.rangeAt b2 (o2+j*3) cs.toList):=hdn (by rw[hcs];exact hrg)
     have HSZ:Hid ((Tryz.prog.info? 65).map (·.size)=some cs.size):=hdn (by rw[hcs];exact size46)
     have HZ:Hid (3=cs.size):=hdn (by rw[hcs];rfl)
     have HON:Hid (cs.all (·.oneCell')=true):=hdn (by rw[hcs];simp[Value.oneCell'])
     have HNB:Hid (Bk (wr.alloc (.cells cs 65)) wr.heap.size 65 cs):=hdn (heap_alloc_new _ _)
     have HNF:Hid (Gr wr (wr.alloc (.cells cs 65)) (fun _=>False)):=hdn ((Gr.refl _ _).alloc _)
     have HI3:Hid (FsInv sn l M v w (wr.alloc (.cells cs 65)) pd ((k,f)::((m.drop (j+1)).map (fun f=>(k,f))++pairsFrom (k+1) (l.drop (k+1))))):=hdn (HI2.out.fresh HNF.out)
     have HTE:Hid (Bk (wr.alloc (.cells cs 65)) (M+4) 95 (tcells M e v)):=hdn (HNF.out.bk hTe (fun h=>h))
     have HOE:Hid ((wr.alloc (.cells cs 65)).ownsRow w.heap.size 102 2 e (endsOf sn pd).length (pcells (endsOf sn pd))):=hdn (own_gr hOe HNF.out (fun _ _ _ h=>h))
     have HOL:Hid (∀g,e.ownBlock=some g→g<wr.heap.size):=hdn (fun g hg=>(hOe.lt g hg).2)
     have HC:Hid (Calls Tryz.prog 60 #[tptr M,.int .i64 k,.agg #[.string f.type,.string f.name,.int .i64 f.pos]] (wr.alloc (.cells cs 65)) (AfPost sn (pd.map memb) k f M w.heap.size e v (endsOf sn pd) (wr.alloc (.cells cs 65)))):=
      hdn (addField_any k f sn _ M w.heap.size e v _ _ hdc (by omega) (by rw[endsOf_len];have:=HI3.out.small;omega) HM.out HI3.out.gr.size HTE.out HI3.out.sroll HI3.out.roll HOE.out)
     have HMw:Hid (M+4<wr.heap.size):=hdn hTe.lt
     unfold tptr at HC
     rw[←HCS.out] at HC
     have n0:(0:Int)≤(j:Int):=Int.natCast_nonneg _
     have n1:(j:Int)<(m.length:Int):=by omega
     have d2:(wr.alloc (.cells cs 65)).cell? ⟨wr.heap.size,2,none⟩=some (.int .i64 f.pos):=(HNB.out.cell 2).trans (by rw[HCS.out];rfl)
     have HD2:=hdn d2
     clear hrg hdc hTe hOe hcs HI2 d2 HNF
     go_wp2_with (first |((with_reducible show wpList _ _ _ (Oper.mk (some 24) _ _ _ _ _::_) _ _);refine wpList_load_arr rfl 65 (.tmp 23) rfl b2 (o2+j*3) rfl cs _ HRG.out Tryz.underlying65 rfl HSZ.out ?_)|((with_reducible show wpList _ _ _ (Oper.mk none (Op.store _ _ _) _ _ _ _::_) _ _);refine wpList_store_new rfl 65 (.tmp 9) (.tmp 24) rfl _ cs rfl rfl HSZ.out HZ.out HON.out ?_)|((with_reducible show wpList _ _ _ (Oper.mk (some 27) _ _ _ _ _::_) _ _);refine wpList_load_arr rfl 65 (.tmp 9) rfl wr.heap.size 0 rfl cs _ (fun i u hu=>by rw[Nat.zero_add];exact (HNB.out.cell i).trans (by simpa using hu)) Tryz.underlying65 rfl HSZ.out ?_))
     generalize wr.alloc (.cells cs 65)=wB2 at HI3 HTE HOE HC HD2 HNB ⊢
     refine HC.out.mono ?_;rintro en w2 hp
     have HP:=hdn hp
     obtain ⟨rfl,_,hg2⟩:=hp
     have HD3:Hid (w2.cell? ⟨wr.heap.size,2,none⟩=some (.int .i64 f.pos)):=hdn (by
      refine (World.cell?_of_block (a:=⟨wr.heap.size,2,none⟩) (hg2.block _ HNB.out.lt ?_)).trans HD2.out
      rintro (h |h |h)
      ·have h':wr.heap.size=M+1:=h;have:=HMw.out;omega
      ·have h':wr.heap.size=M+4:=h;have:=HMw.out;omega
      ·exact absurd (HOL.out wr.heap.size h.symm) (Nat.lt_irrefl _))
     have HGG:Hid (Gr w w2 (fun k=>k=M+1∨k=M+4)):=hdn (HI3.out.gr.then hg2 (by
      rintro i hi (h |h |h)
      ·exact .inl h
      ·exact .inr h
      ·have:=(HOE.out.lt _ h.symm).1;omega))
     clear hg2
     by_cases he:fieldE sn (pd.map memb) k f=0
     ·have HX:=hdn he
      have HIN:Hid (FsInv sn l M v w w2 (pd++ [(k,f)]) ((m.drop (j+1)).map (fun f=>(k,f))++pairsFrom (k+1) (l.drop (k+1)))):=hdn (HI3.out.step HM.out HOE.out HP.out he)
      rw[he]
      clear he
      go_wp2_with fail
      go_roundw
      case rel=>exact ⟨j+1,_,by go_num,by omega,HIN⟩
      case measure=>simp[intOf];omega
     ·have hne:=fieldE_ne he
      have HX:=hdn he
      have HFE:Hid (fieldsGo sn [] (pairsFrom 0 l)=(f.pos,fieldE sn (pd.map memb) k f)):=hdn (by rw[HI3.out.go,fieldsGo_cons,if_neg he])
      have d2:=HD3.out
      clear he
      go_wp2_with fail
      go_ret2
      exact ⟨by rw[HFE.out];rfl,fun h=>absurd (by rw[HFE.out] at h;exact h) HX.out,HGG.out⟩
    ·have HIN:Hid (FsInv sn l M v w wr pd (pairsFrom (k+1) (l.drop (k+1)))):=hdn (by have:=HI.out;rwa[List.drop_eq_nil_of_le (by omega)] at this)
     go_wp2_with fail
     go_roundw
     case rel=>exact ⟨k+1,pd,by go_num,by omega,HIN⟩
     case measure=>simp[intOf];omega
  ·have HF:Hid (FsInv sn l M v w wr pd []):=hdn (by have:=HI.out;rwa[List.drop_eq_nil_of_le (by omega)] at this)
   have HG:Hid (fieldsGo sn [] (pairsFrom 0 l)=(0,0)):=hdn (by rw[HF.out.go];rfl)
   have HPD:Hid (pairsFrom 0 l=pd):=hdn (by have:=HF.out.all;simpa using this)
   go_wp2_with fail
   go_ret2
   exact ⟨by rw[HG.out];rfl,fun _=>by have:=HF.out;rw[←HPD.out] at this;exact this,HF.out.gr⟩
end Sc
end Go.Proofs.YtcehbcnloiooaaaGreatDoor
namespace Go.Proofs.YtcehbcnloiooaaaGreatDoor
namespace Sc
open Go.RowKit Go.Sort Go.Maps
theorem declE_lt {sn hv:List ByteArray} {d:Dc} (h:declE sn hv d=0):hv.length<16:=by
 have h1:=declE_add h
 by_cases hc:16≤hv.length
 ·unfold addE at h1;rw[if_pos hc] at h1;cases h1
 ·omega
theorem declE_ne {sn hv:List ByteArray} {d:Dc} (h:declE sn hv d≠0):(declE sn hv d !=0)=true:=by rw[bne_iff_ne];exact h
def dNames (l:List Dc):List ByteArray:=l.map (·.name)
theorem dNames_snoc (l:List Dc) (d:Dc):dNames (l++ [d])=dNames l++ [d.name]:=by simp[dNames]
structure GbInv (sn:List ByteArray) (l:List Dc) (M:Nat) (e:Value) (w wr:World) (gd rest:List Dc) (vd:List (Int×Int)) (np ni:Int):Prop where
 all:l=gd++rest
 go:declsGo sn [] l=declsGo sn (dNames gd) rest
 small:gd.length≤16
 vs:varsGo sn 0 0 l=vd++varsGo sn np ni rest
 vlen:vd.length=gd.length
 np0:0≤np
 np1:np≤gd.length
 ni0:0≤ni
 ni1:ni≤gd.length
 roll:Roll byName wr (M+2) (dNames gd)
 sroll:Roll byName wr M sn
 tab: ∃v,Bk wr (M+4) 95 (tcells M e v)∧wr.ownsRow (w.heap.size+2) 133 2 v vd.length (pcells vd)
 cp:Bk wr w.heap.size 3 #[.int .i64 np]
 ci:Bk wr (w.heap.size+1) 3 #[.int .i64 ni]
 gr:Gr w wr (fun k=>k=M+2∨k=M+4)
 top:w.heap.size+2≤wr.heap.size
def GbPost (sn:List ByteArray) (l:List Dc) (M:Nat) (e:Value) (w:World) (en:Ending) (w':World):Prop:=
 en= .returned (.tuple #[.int .i64 (declsGo sn [] l).1,.int .i64 (declsGo sn [] l).2])∧
 ((declsGo sn [] l).2=0→l.length≤16∧Roll byName w' (M+2) (dNames l)∧(varsGo sn 0 0 l).length=l.length∧∃v,Bk w' (M+4) 95 (tcells M e v)∧w'.ownsRow (w.heap.size+2) 133 2 v (varsGo sn 0 0 l).length (pcells (varsGo sn 0 0 l)))∧
 Gr w w' (fun k=>k=M+2∨k=M+4)
theorem GbInv.step {sn:List ByteArray} {l:List Dc} {M:Nat} {e v':Value} {w wr w':World} {gd rest:List Dc} {vd:List (Int×Int)} {np ni np' ni' x:Int} {d:Dc} (h:GbInv sn l M e w wr gd (d::rest) vd np ni) (h0:declE sn (dNames gd) d=0)
  (hx:x=if kindOf sn d.type= -1 then ni else np) (hnp:np'=if kindOf sn d.type= -1 then np else np+1) (hni:ni'=if kindOf sn d.type= -1 then ni+1 else ni)
  (hR:Roll byName w' (M+2) (dNames gd++ [d.name])) (hS:Roll byName w' M sn) (hT:Bk w' (M+4) 95 (tcells M e v')) (hO:w'.ownsRow (w.heap.size+2) 133 2 v' (vd.length+1) (pcells vd++ [.int .i64 (kindOf sn d.type),.int .i64 x]))
  (hp:Bk w' w.heap.size 3 #[.int .i64 np']) (hi:Bk w' (w.heap.size+1) 3 #[.int .i64 ni']) (hg:Gr w w' (fun k=>k=M+2∨k=M+4)) (ht:w.heap.size+2≤w'.heap.size):
  GbInv sn l M e w w' (gd++ [d]) rest (vd++ [(kindOf sn d.type,x)]) np' ni' where
 all:=by rw[h.all];simp
 go:=by rw[h.go,declsGo_cons,if_pos h0,dNames_snoc]
 small:=by have:=declE_lt h0;simp[dNames] at this ⊢;omega
 vs:=by
  rw[h.vs,varsGo,hx,hnp,hni]
  by_cases hk:kindOf sn d.type= -1
  ·simp[hk]
  ·simp[hk]
 vlen:=by have:=h.vlen;simp;omega
 np0:=by have:=h.np0;rw[hnp];split<;>omega
 np1:=by have:=h.np1;rw[hnp];simp;split<;>omega
 ni0:=by have:=h.ni0;rw[hni];split<;>omega
 ni1:=by have:=h.ni1;rw[hni];simp;split<;>omega
 roll:=by rw[dNames_snoc];exact hR
 sroll:=hS
 tab:=⟨v',hT,by rw[pcells_snoc,List.length_append];exact hO⟩
 cp:=hp
 ci:=hi
 gr:=hg
 top:=ht
theorem addGlobals_any (p:Option Addr) (l:List Dc) (c M:Nat) (e:Value) (sn:List ByteArray) (w:World) (hM:M+4<w.heap.size) (hlen:l.length≤1048576) (hL: ∀wr,Gr w wr (fun k=>k=M+2∨k=M+4)→Lay 3 Dc.cells dcR wr p l)
  (hT:Bk w (M+4) 95 (tcells M e (.slice none 0 0))) (hS:Roll byName w M sn) (hR:Roll byName w (M+2) []):
  Calls Tryz.prog 33 #[tptr M,.slice p l.length c] w (GbPost sn l M e w):=by
 have HP:Hid (Gr w ((w.alloc (.cells #[.int .i64 0] 3)).alloc (.cells #[.int .i64 0] 3)) (fun _=>False)):=hdn (((Gr.refl w _).alloc _).alloc _)
 have HI0:Hid (GbInv sn l M e w ((w.alloc (.cells #[.int .i64 0] 3)).alloc (.cells #[.int .i64 0] 3)) [] l [] 0 0):=hdn
  ⟨rfl,rfl,by decide,rfl,rfl,by decide,by decide,by decide,by decide,HP.out.roll hR (fun h=>h),HP.out.roll hS (fun h=>h),⟨_,HP.out.bk hT (fun h=>h),World.ownsRow_nil _ _ _ _⟩,heap_alloc2_old w _ _,heap_alloc2_new w _ _,HP.out.mono (fun _ _ h=>h.elim),by simp⟩
 obtain ⟨i0,hi0,hz0,hz1,hz2⟩:=info_parts zinfo81
 have HI:=hdn hi0;have HZ0:=hdn hz0;have HZ1:=hdn hz1;have HZ2:=hdn hz2
 have HL:=hdn hL
 have HM:=hdn hM
 clear hL hT hS hR hM hi0 hz0 hz1 hz2
 unfold tptr
 go_enter Tryz.func33,Tryz.ntmps33
 go_wp2_with fail
 generalize (w.alloc (.cells #[.int .i64 0] 3)).alloc (.cells #[.int .i64 0] 3)=wA at HI0 ⊢
 go_loopw [15] (fun i wr=> ∃(k:Nat) (gd:List Dc) (vd:List (Int×Int)) (np ni:Int),i= .int .i64 k∧k≤l.length∧Hid (GbInv sn l M e w wr gd (l.drop k) vd np ni)) (fun i _=>l.length-(intOf i).toNat)
 case atStart=>exact ⟨0,[],[],0,0,rfl,Nat.zero_le _,HI0⟩
 case round=>
  obtain ⟨k,gd,vd,np,ni,rfl,hk,HV⟩:=hrel
  by_cases hkl:k<l.length
  ·obtain ⟨b,o,rfl,hrg,hdc⟩:=(HL.out wr HV.out.gr).at_ hkl
   have HV1:Hid (GbInv sn l M e w wr gd (l[k]::l.drop (k+1)) vd np ni):=hdn (by have:=HV.out;rwa[List.drop_eq_getElem_cons hkl] at this)
   obtain ⟨v,hT,hO⟩:=HV.out.tab
   generalize hd:l[k]=d at hrg hdc HV1
   clear hd HV
   have HRG:Hid (wr.rangeAt b (o+k*3) (#[.string d.type,.string d.name,.int .i64 d.pos]:Array Value).toList):=hdn hrg
   have HNB:Hid (Bk (wr.alloc (.cells #[.string d.type,.string d.name,.int .i64 d.pos] 65)) wr.heap.size 65 #[.string d.type,.string d.name,.int .i64 d.pos]):=hdn (heap_alloc_new _ _)
   have HNF:Hid (Gr wr (wr.alloc (.cells #[.string d.type,.string d.name,.int .i64 d.pos] 65)) (fun _=>False)):=hdn ((Gr.refl _ _).alloc _)
   have HT1:Hid (Bk (wr.alloc (.cells #[.string d.type,.string d.name,.int .i64 d.pos] 65)) (M+4) 95 (tcells M e v)):=hdn (HNF.out.bk hT (fun h=>h))
   have HO1:Hid ((wr.alloc (.cells #[.string d.type,.string d.name,.int .i64 d.pos] 65)).ownsRow (w.heap.size+2) 133 2 v vd.length (pcells vd)):=hdn (own_gr hO HNF.out (fun _ _ _ h=>h))
   have HR1:Hid (Roll byName (wr.alloc (.cells #[.string d.type,.string d.name,.int .i64 d.pos] 65)) (M+2) (dNames gd)):=hdn (HNF.out.roll HV1.out.roll (fun h=>h))
   have HS1:Hid (Roll byName (wr.alloc (.cells #[.string d.type,.string d.name,.int .i64 d.pos] 65)) M sn):=hdn (HNF.out.roll HV1.out.sroll (fun h=>h))
   have HCP:Hid (Bk (wr.alloc (.cells #[.string d.type,.string d.name,.int .i64 d.pos] 65)) w.heap.size 3 #[.int .i64 np]):=hdn (HNF.out.bk HV1.out.cp (fun h=>h))
   have HCI:Hid (Bk (wr.alloc (.cells #[.string d.type,.string d.name,.int .i64 d.pos] 65)) (w.heap.size+1) 3 #[.int .i64 ni]):=hdn (HNF.out.bk HV1.out.ci (fun h=>h))
   have HGB:Hid (Gr w (wr.alloc (.cells #[.string d.type,.string d.name,.int .i64 d.pos] 65)) (fun k=>k=M+2∨k=M+4)):=hdn (HV1.out.gr.then HNF.out (fun _ _ h=>h.elim))
   have HTP:Hid (w.heap.size+2≤wr.heap.size):=hdn HV1.out.top
   have HDC:=hdn hdc
   have k0:=HNB.out.cell 0
   replace k0:(wr.alloc (.cells #[.string d.type,.string d.name,.int .i64 d.pos] 65)).cell? ⟨wr.heap.size,0,none⟩=some (.string d.type):=k0
   have k1:(wr.alloc (.cells #[.string d.type,.string d.name,.int .i64 d.pos] 65)).cell? ⟨wr.heap.size,1,none⟩=some (.string d.name):=HNB.out.cell 1
   have k2:(wr.alloc (.cells #[.string d.type,.string d.name,.int .i64 d.pos] 65)).cell? ⟨wr.heap.size,2,none⟩=some (.int .i64 d.pos):=HNB.out.cell 2
   have t3:(wr.alloc (.cells #[.string d.type,.string d.name,.int .i64 d.pos] 65)).cell? ⟨M+4,3,none⟩=some (.map (some (M+2))):=HT1.out.cell 3
   have t0:Hid ((wr.alloc (.cells #[.string d.type,.string d.name,.int .i64 d.pos] 65)).cell? ⟨M+4,0,none⟩=some (.map (some M))):=hdn (HT1.out.cell 0)
   have HC:Hid (Calls Tryz.prog 61 #[tptr M,.map (some (M+2)),.agg #[.string d.type,.string d.name,.int .i64 d.pos]] (wr.alloc (.cells #[.string d.type,.string d.name,.int .i64 d.pos] 65)).drew (DePost sn (dNames gd) d (M+2) (wr.alloc (.cells #[.string d.type,.string d.name,.int .i64 d.pos] 65)).drew)):=
    hdn (declare_any d sn (dNames gd) M (M+2) _ hdc (by omega) (by omega) t0.out (HS1.out.same rfl) (HR1.out.same rfl))
   unfold tptr at HC
   have n0:(0:Int)≤(k:Int):=Int.natCast_nonneg _
   have n1:(k:Int)<(l.length:Int):=by omega
   clear hrg hdc hT hO
   go_wp2_with (first |((with_reducible show wpList _ _ _ (Oper.mk (some 18) _ _ _ _ _::_) _ _);refine wpList_load_arr rfl 65 (.tmp 17) rfl b (o+k*3) rfl #[.string d.type,.string d.name,.int .i64 d.pos] _ HRG.out Tryz.underlying65 rfl size46 ?_)|((with_reducible show wpList _ _ _ (Oper.mk none (Op.store _ _ _) _ _ _ _::_) _ _);refine wpList_store_new rfl 65 (.tmp 9) (.tmp 18) rfl _ #[.string d.type,.string d.name,.int .i64 d.pos] rfl rfl size46 rfl rfl ?_))
   generalize wr.alloc (.cells #[.string d.type,.string d.name,.int .i64 d.pos] 65)=wB at HNB HNF HT1 HO1 HR1 HS1 HCP HCI HGB k0 k1 k2 t3 t0 HC ⊢
   have HMw:Hid (M+4<wr.heap.size):=hdn (by have:=HM.out;have:=HTP.out;omega)
   have HST:Hid (∀w',Gr wB w' (fun k=>k=M+2)→w'.cell? ⟨M+4,3,none⟩=some (.map (some (M+2)))∧w'.cell? ⟨wr.heap.size,0,none⟩=some (.string d.type)∧w'.cell? ⟨wr.heap.size,1,none⟩=some (.string d.name)∧w'.cell? ⟨wr.heap.size,2,none⟩=some (.int .i64 d.pos)):=hdn (fun w' hg=>by
    have h1:=hg.bk HT1.out (by omega)
    have h2:=hg.bk HNB.out (by have:=HMw.out;omega)
    exact ⟨h1.cell 3,h2.cell 0,h2.cell 1,h2.cell 2⟩)
   have HG0:Hid (Gr wB wB.drew (fun k=>k=M+2)):=hdn (Gr.refl _ _).drew
   have HG00:Hid (Gr wB wB (fun k=>k=M+2)):=hdn (Gr.refl _ _)
   go_region_held3 (fun w'=>w'.cell? ⟨M+4,3,none⟩=some (.map (some (M+2)))∧w'.cell? ⟨wr.heap.size,0,none⟩=some (.string d.type)∧w'.cell? ⟨wr.heap.size,1,none⟩=some (.string d.name)∧w'.cell? ⟨wr.heap.size,2,none⟩=some (.int .i64 d.pos)) (first |exact HST.out _ HN2.out |exact HST.out _ HG0.out |exact HST.out _ HG00.out |fail) (first |(go_at_call 61;refine (HC.out).mono ?_;rintro en w2 ⟨rfl,hr2,hg2⟩;have HR2:=hdn hr2;have HN2:Hid (Gr wB w2 (fun k=>k=M+2)):=hdn (HG0.out.trans hg2);clear hr2 hg2))
   have HT2:Hid (Bk w2 (M+4) 95 (tcells M e v)):=hdn (HN2.out.bk HT1.out (by omega))
   have HS2:Hid (Roll byName w2 M sn):=hdn (HN2.out.roll HS1.out (by omega))
   have HO2:Hid (w2.ownsRow (w.heap.size+2) 133 2 v vd.length (pcells vd)):=hdn (own_gr HO1.out HN2.out (fun i hi _ h=>by have:=HM.out;omega))
   have HP2:Hid (Bk w2 w.heap.size 3 #[.int .i64 np]):=hdn (HN2.out.bk HCP.out (by have:=HM.out;omega))
   have HQ2:Hid (Bk w2 (w.heap.size+1) 3 #[.int .i64 ni]):=hdn (HN2.out.bk HCI.out (by have:=HM.out;omega))
   have HNB2:Hid (Bk w2 wr.heap.size 65 #[.string d.type,.string d.name,.int .i64 d.pos]):=hdn (HN2.out.bk HNB.out (by have:=HMw.out;omega))
   have HGB2:Hid (Gr w w2 (fun k=>k=M+2∨k=M+4)):=hdn (HGB.out.then HN2.out (fun _ _ h=> .inl h))
   have HVB:Hid (∀g,v.ownBlock=some g→w.heap.size+2≤g∧g<w2.heap.size):=hdn HO2.out.lt
   have HSZ2:Hid (wr.heap.size<w2.heap.size):=hdn HNB2.out.lt
   clear k0 k1 k2 t3
   by_cases he:declE sn (dNames gd) d=0
   ·have HX:=hdn he
    have HXA:Hid (addL 16 (dNames gd) d.name=dNames gd++ [d.name]):=hdn (by unfold addL;rw[if_pos (declE_add he)])
    have hnp0:=HV1.out.np0
    have hnp1:=HV1.out.np1
    have hni0:=HV1.out.ni0
    have hni1:=HV1.out.ni1
    have hgs:=HV1.out.small
    have hvl:vd.length≤16:=by have:=HV1.out.vlen;omega
    have HDV:Hid (declV sn (dNames gd) d=kindOf sn d.type):=hdn (by unfold declV;rw[if_pos he])
    rw[he,HDV.out]
    clear he
    have k24:w2.cell? ⟨M+4,4,none⟩=some v:=HT2.out.cell 4
    cases hkk:(kindOf sn d.type== -1)
    ·have HK:Hid (kindOf sn d.type≠ -1):=hdn (by simpa using hkk)
     have c3:w2.cell? ⟨w.heap.size,0,none⟩=some (.int .i64 np):=HP2.out.cell 0
     have HKX:Hid (kindOf sn d.type=kindOf sn d.type):=hdn rfl
     generalize hkx:kindOf sn d.type=kx at HKX HK hkk ⊢
     have HKE:=hdn hkx
     clear hkx
     go_wp2_with fail
     have k24a:(w2.alloc (.cells #[.int .i64 kx,.int .i64 np] 133)).drew.cell? ⟨M+4,4,none⟩=some v:=cell_of_row _ _ 4 _ _ _ ((heap_alloc_old w2 (.cells #[.int .i64 kx,.int .i64 np] 133) HT2.out.lt).trans HT2.out)
     have c3a:(w2.alloc (.cells #[.int .i64 kx,.int .i64 np] 133)).drew.cell? ⟨w.heap.size,0,none⟩=some (.int .i64 np):=cell_of_row _ _ 0 _ _ _ ((heap_alloc_old w2 (.cells #[.int .i64 kx,.int .i64 np] 133) HP2.out.lt).trans HP2.out)
     have HOD:Hid (w2.drew.ownsRow (w.heap.size+2) 133 2 v vd.length (pcells vd)):=hdn HO2.out.drew
     go_region_law (first
      |(refine step_append_lies _ rfl (.tmp 40) (.tmp 46) 93 rfl (w.heap.size+2) 133 i0 (.agg #[.int .i64 0,.int .i64 0]) 2 16 Tryz.underlying93 HI.out HZ0.out HZ1.out HZ2.out rfl (by decide) _ vd.length _ rfl (HOD.out.alloc _) ⟨w2.drew.heap.size,0,none⟩ 1 1 [.int .i64 kx,.int .i64 np] rfl rfl (World.news_of_block (heap_alloc_new _ _)) (two_one _ _) (by decide) (by unfold maxLen;omega) (by omega) (by have:=HTP.out;have:=HSZ2.out;simp;omega) _ rfl ?_;intro g cap w3 hown3 hgrow3 _ _;have HO3:=hdn hown3;have HN3:Hid (Gr w2 w3 (fun k=>some k=v.ownBlock)):=hdn (((Gr.refl w2 _).drew.alloc _).grown hgrow3 (fun i _ e=>e));have HT3:Hid (Bk w3 (M+4) 95 (tcells M e v)):=hdn (HN3.out.bk HT2.out (fun e=>by have:=(HVB.out _ e.symm).1;have:=HM.out;omega));have d24:w3.cell? ⟨M+4,4,none⟩=some v:=HT3.out.cell 4;have f24:w3.frozen? ⟨M+4,4,none⟩=false:=HT3.out.frozen 4;clear hown3 hgrow3))
     all_goals
      have HN4:Hid (Gr w2 (w3.setCell ⟨M+4,4,none⟩ (.slice (some ⟨g,0,none⟩) (vd.length+1) cap)) (fun k=>some k=v.ownBlock∨k=M+4)):=hdn ((HN3.out.mono (fun _ _ h=> .inl h)).setCell (fun _=> .inr rfl) _)
      have HO4:Hid ((w3.setCell ⟨M+4,4,none⟩ (.slice (some ⟨g,0,none⟩) (vd.length+1) cap)).ownsRow (w.heap.size+2) 133 2 (.slice (some ⟨g,0,none⟩) (vd.length+1) cap) (vd.length+1) (pcells vd++ [.int .i64 kx,.int .i64 np])):=hdn (own_setC HO3.out (by have:=HM.out;simp;omega) _)
      have HT4:Hid (Bk (w3.setCell ⟨M+4,4,none⟩ (.slice (some ⟨g,0,none⟩) (vd.length+1) cap)) (M+4) 95 (tcells M e (.slice (some ⟨g,0,none⟩) (vd.length+1) cap))):=hdn (Bk.set_ HT3.out 4 _)
      generalize w3.setCell ⟨M+4,4,none⟩ (.slice (some ⟨g,0,none⟩) (vd.length+1) cap)=w4 at HN4 HO4 HT4 ⊢
      have HP4:Hid (Bk w4 w.heap.size 3 #[.int .i64 np]):=hdn (HN4.out.bk HP2.out (by rintro (h |h);(have:=(HVB.out _ h.symm).1;omega);(have:=HM.out;omega)))
      have HQ4:Hid (Bk w4 (w.heap.size+1) 3 #[.int .i64 ni]):=hdn (HN4.out.bk HQ2.out (by rintro (h |h);(have:=(HVB.out _ h.symm).1;omega);(have:=HM.out;omega)))
      have c4:w4.cell? ⟨w.heap.size,0,none⟩=some (.int .i64 np):=HP4.out.cell 0
      have f4:w4.frozen? ⟨w.heap.size,0,none⟩=false:=HP4.out.frozen 0
      go_wp2_with fail
      have HG5:Hid (Gr w4 (w4.setCell ⟨w.heap.size,0,none⟩ (.int .i64 (np+1))) (fun k=>k=w.heap.size)):=hdn ((Gr.refl w4 (fun k=>k=w.heap.size)).setCell (p:=⟨w.heap.size,0,none⟩) (fun _=>rfl) _)
      have HX5:Hid (Bk (w4.setCell ⟨w.heap.size,0,none⟩ (.int .i64 (np+1))) (w.heap.size) 3 #[.int .i64 (np+1)]):=hdn (HP4.out.set_ 0 _)
      generalize w4.setCell ⟨w.heap.size,0,none⟩ (.int .i64 (np+1))=w5 at HG5 HX5 ⊢
      have HV5:Hid (GbInv sn l M e w w5 (gd++ [d]) (l.drop (k+1)) (vd++ [(kindOf sn d.type,np)]) (np+1) (ni)):=hdn (by
       have hs:Roll byName w5 M sn:=HG5.out.roll (HN4.out.roll HS2.out (by rintro (h |h);(have:=(HVB.out _ h.symm).1;have:=HM.out;omega);omega)) (by have:=HM.out;omega)
       have hr:Roll byName w5 (M+2) (dNames gd++ [d.name]):=by
        have h1:=HG5.out.roll (HN4.out.roll HR2.out (by rintro (h |h);(have:=(HVB.out _ h.symm).1;have:=HM.out;omega);omega)) (by have:=HM.out;omega)
        rwa[HXA.out] at h1
       refine HV1.out.step HX.out (x:=np) (v':= .slice (some ⟨g,0,none⟩) (vd.length+1) cap) (by rw[HKE.out];simp[HK.out]) (by rw[HKE.out];simp[HK.out]) (by rw[HKE.out];simp[HK.out]) hr hs (HG5.out.bk HT4.out (by have:=HM.out;omega)) (by rw[HKE.out];exact own_gr HO4.out HG5.out (fun i hi _ h=>by omega)) HX5.out (HG5.out.bk HQ4.out (by omega)) ?_ ?_
       ·exact (HGB2.out.then (HN4.out.mono (S':=fun k=>(some k=v.ownBlock)∨k=M+4) (fun _ _ h=>h)) (by rintro i hi (h |h);(have:=(HVB.out _ h.symm).1;omega);exact .inr h)).then HG5.out (fun i hi h=>by omega)
       ·have h1:=HG5.out.size;have h2:=HN4.out.size;have h3:=HSZ2.out;have h4:=HTP.out;omega)
      go_wp2_with fail
      go_roundw
      case rel=>exact ⟨k+1,_,_,_,_,by go_num,by omega,HV5⟩
      case measure=>simp[intOf];omega
    ·have HK:Hid (kindOf sn d.type= -1):=hdn (by simpa using hkk)
     have c3:w2.cell? ⟨w.heap.size+1,0,none⟩=some (.int .i64 ni):=HQ2.out.cell 0
     have HKX:Hid (kindOf sn d.type=kindOf sn d.type):=hdn rfl
     generalize hkx:kindOf sn d.type=kx at HKX HK hkk ⊢
     have HKE:=hdn hkx
     clear hkx
     go_wp2_with fail
     have k24a:(w2.alloc (.cells #[.int .i64 kx,.int .i64 ni] 133)).drew.cell? ⟨M+4,4,none⟩=some v:=cell_of_row _ _ 4 _ _ _ ((heap_alloc_old w2 (.cells #[.int .i64 kx,.int .i64 ni] 133) HT2.out.lt).trans HT2.out)
     have c3a:(w2.alloc (.cells #[.int .i64 kx,.int .i64 ni] 133)).drew.cell? ⟨w.heap.size+1,0,none⟩=some (.int .i64 ni):=cell_of_row _ _ 0 _ _ _ ((heap_alloc_old w2 (.cells #[.int .i64 kx,.int .i64 ni] 133) HQ2.out.lt).trans HQ2.out)
     have HOD:Hid (w2.drew.ownsRow (w.heap.size+2) 133 2 v vd.length (pcells vd)):=hdn HO2.out.drew
     go_region_law (first
      |(refine step_append_lies _ rfl (.tmp 40) (.tmp 46) 93 rfl (w.heap.size+2) 133 i0 (.agg #[.int .i64 0,.int .i64 0]) 2 16 Tryz.underlying93 HI.out HZ0.out HZ1.out HZ2.out rfl (by decide) _ vd.length _ rfl (HOD.out.alloc _) ⟨w2.drew.heap.size,0,none⟩ 1 1 [.int .i64 kx,.int .i64 ni] rfl rfl (World.news_of_block (heap_alloc_new _ _)) (two_one _ _) (by decide) (by unfold maxLen;omega) (by omega) (by have:=HTP.out;have:=HSZ2.out;simp;omega) _ rfl ?_;intro g cap w3 hown3 hgrow3 _ _;have HO3:=hdn hown3;have HN3:Hid (Gr w2 w3 (fun k=>some k=v.ownBlock)):=hdn (((Gr.refl w2 _).drew.alloc _).grown hgrow3 (fun i _ e=>e));have HT3:Hid (Bk w3 (M+4) 95 (tcells M e v)):=hdn (HN3.out.bk HT2.out (fun e=>by have:=(HVB.out _ e.symm).1;have:=HM.out;omega));have d24:w3.cell? ⟨M+4,4,none⟩=some v:=HT3.out.cell 4;have f24:w3.frozen? ⟨M+4,4,none⟩=false:=HT3.out.frozen 4;clear hown3 hgrow3))
     all_goals
      have HN4:Hid (Gr w2 (w3.setCell ⟨M+4,4,none⟩ (.slice (some ⟨g,0,none⟩) (vd.length+1) cap)) (fun k=>some k=v.ownBlock∨k=M+4)):=hdn ((HN3.out.mono (fun _ _ h=> .inl h)).setCell (fun _=> .inr rfl) _)
      have HO4:Hid ((w3.setCell ⟨M+4,4,none⟩ (.slice (some ⟨g,0,none⟩) (vd.length+1) cap)).ownsRow (w.heap.size+2) 133 2 (.slice (some ⟨g,0,none⟩) (vd.length+1) cap) (vd.length+1) (pcells vd++ [.int .i64 kx,.int .i64 ni])):=hdn (own_setC HO3.out (by have:=HM.out;simp;omega) _)
      have HT4:Hid (Bk (w3.setCell ⟨M+4,4,none⟩ (.slice (some ⟨g,0,none⟩) (vd.length+1) cap)) (M+4) 95 (tcells M e (.slice (some ⟨g,0,none⟩) (vd.length+1) cap))):=hdn (Bk.set_ HT3.out 4 _)
      generalize w3.setCell ⟨M+4,4,none⟩ (.slice (some ⟨g,0,none⟩) (vd.length+1) cap)=w4 at HN4 HO4 HT4 ⊢
      have HP4:Hid (Bk w4 w.heap.size 3 #[.int .i64 np]):=hdn (HN4.out.bk HP2.out (by rintro (h |h);(have:=(HVB.out _ h.symm).1;omega);(have:=HM.out;omega)))
      have HQ4:Hid (Bk w4 (w.heap.size+1) 3 #[.int .i64 ni]):=hdn (HN4.out.bk HQ2.out (by rintro (h |h);(have:=(HVB.out _ h.symm).1;omega);(have:=HM.out;omega)))
      have c4:w4.cell? ⟨w.heap.size+1,0,none⟩=some (.int .i64 ni):=HQ4.out.cell 0
      have f4:w4.frozen? ⟨w.heap.size+1,0,none⟩=false:=HQ4.out.frozen 0
      go_wp2_with fail
      have HG5:Hid (Gr w4 (w4.setCell ⟨w.heap.size+1,0,none⟩ (.int .i64 (ni+1))) (fun k=>k=w.heap.size+1)):=hdn ((Gr.refl w4 (fun k=>k=w.heap.size+1)).setCell (p:=⟨w.heap.size+1,0,none⟩) (fun _=>rfl) _)
      have HX5:Hid (Bk (w4.setCell ⟨w.heap.size+1,0,none⟩ (.int .i64 (ni+1))) (w.heap.size+1) 3 #[.int .i64 (ni+1)]):=hdn (HQ4.out.set_ 0 _)
      generalize w4.setCell ⟨w.heap.size+1,0,none⟩ (.int .i64 (ni+1))=w5 at HG5 HX5 ⊢
      have HV5:Hid (GbInv sn l M e w w5 (gd++ [d]) (l.drop (k+1)) (vd++ [(kindOf sn d.type,ni)]) (np) (ni+1)):=hdn (by
       have hs:Roll byName w5 M sn:=HG5.out.roll (HN4.out.roll HS2.out (by rintro (h |h);(have:=(HVB.out _ h.symm).1;have:=HM.out;omega);omega)) (by have:=HM.out;omega)
       have hr:Roll byName w5 (M+2) (dNames gd++ [d.name]):=by
        have h1:=HG5.out.roll (HN4.out.roll HR2.out (by rintro (h |h);(have:=(HVB.out _ h.symm).1;have:=HM.out;omega);omega)) (by have:=HM.out;omega)
        rwa[HXA.out] at h1
       refine HV1.out.step HX.out (x:=ni) (v':= .slice (some ⟨g,0,none⟩) (vd.length+1) cap) (by rw[HKE.out];simp[HK.out]) (by rw[HKE.out];simp[HK.out]) (by rw[HKE.out];simp[HK.out]) hr hs (HG5.out.bk HT4.out (by have:=HM.out;omega)) (by rw[HKE.out];exact own_gr HO4.out HG5.out (fun i hi _ h=>by omega)) (HG5.out.bk HP4.out (by omega)) HX5.out ?_ ?_
       ·exact (HGB2.out.then (HN4.out.mono (S':=fun k=>(some k=v.ownBlock)∨k=M+4) (fun _ _ h=>h)) (by rintro i hi (h |h);(have:=(HVB.out _ h.symm).1;omega);exact .inr h)).then HG5.out (fun i hi h=>by omega)
       ·have h1:=HG5.out.size;have h2:=HN4.out.size;have h3:=HSZ2.out;have h4:=HTP.out;omega)
      go_wp2_with fail
      go_roundw
      case rel=>exact ⟨k+1,_,_,_,_,by go_num,by omega,HV5⟩
      case measure=>simp[intOf];omega
   ·have hne:=declE_ne he
    have HX:=hdn he
    have HFE:Hid (declsGo sn [] l=(d.pos,declE sn (dNames gd) d)):=hdn (by rw[HV1.out.go,declsGo_cons,if_neg he])
    have d2:w2.cell? ⟨wr.heap.size,2,none⟩=some (.int .i64 d.pos):=HNB2.out.cell 2
    clear he
    go_wp2_with fail
    go_ret2
    exact ⟨by rw[HFE.out];rfl,fun h=>absurd (by rw[HFE.out] at h;exact h) HX.out,HGB2.out⟩
  ·have HF:Hid (GbInv sn l M e w wr gd [] vd np ni):=hdn (by have:=HV.out;rwa[List.drop_eq_nil_of_le (by omega)] at this)
   have HG:Hid (declsGo sn [] l=(0,0)):=hdn (by rw[HF.out.go];rfl)
   have HGD:Hid (l=gd):=hdn (by have:=HF.out.all;simpa using this)
   have HVD:Hid (varsGo sn 0 0 l=vd):=hdn (by have:=HF.out.vs;simpa [varsGo] using this)
   go_wp2_with fail
   go_ret2
   refine ⟨by rw[HG.out];rfl,fun _=> ?_,HF.out.gr⟩
   rw[HVD.out,HGD.out]
   exact ⟨HF.out.small,HF.out.roll,HF.out.vlen,HF.out.tab⟩
end Sc
end Go.Proofs.YtcehbcnloiooaaaGreatDoor
