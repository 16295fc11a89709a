/-
  Plain: programs as trees, the cells that each part has in memory, and how they lie there. How what is handed in reads: programs and statements as trees that lie in memory. Plain: what lies in memory, cell by cell; rows of one's own. Plain: when programs are the same, but for places. The walks of 'ar
-/
import Derived.Test.YtdlchhimkelinaaGreatDoorRows
import Derived.WalkKit
import Derived.Deep.MidRow
import Derived.Deep.WholeRow
import Derived.Lib.Hide
import Derived.Lib.QuietBelow
import Derived.BigQuiet
import Derived.WalkLawsBesides
set_option maxHeartbeats 6400000
set_option maxRecDepth 100000
namespace Go.Proofs.YtdlchhimkelinaaGreatDoor
theorem hdn {p : Prop} (h : p) : Go.RowKit.Hid p := Go.Lib.hid h
end Go.Proofs.YtdlchhimkelinaaGreatDoor
namespace Go.Proofs.YtdlchhimkelinaaGreatDoor
open Go.RowKit Go.Sort
/-- A slice: where, how much room, and its items. -/
structure Sl (α : Type) where
 p : Option Addr
 cap : Nat
 l : List α
structure Hp where
 name : ByteArray
 pos : Int
structure Pth where
 name : ByteArray
 pos : Int
 hops : Sl Hp
structure Tm where
 name : ByteArray
 n : Int
 pos : Int
structure Vl where
 kind : Int
 pos : Int
 path : Pth
 type : ByteArray
 left : Tm
 right : Tm
structure Cd where
 kind : Int
 pos : Int
 left : Vl
 right : Vl
/-- A statement but for its lists of statements. -/
structure Hd where
 kind : Int
 pos : Int
 place : Pth
 value : Vl
 cond : Cd
 name : ByteArray
 args : Sl Vl
 both : Bool
/-- Statements: the first one's own, where its Then and its Else lie and what they are, the others. -/
inductive SL where
 | nil : SL
 | cons (h : Hd) (tp : Option Addr) (tc : Nat) (t : SL) (ep : Option Addr) (ec : Nat) (e : SL) (r : SL) : SL
def SL.len : SL → Nat
 | .nil => 0
 | .cons _ _ _ _ _ _ _ r => r.len + 1
structure Dc where
 type : ByteArray
 name : ByteArray
 pos : Int
structure Sr where
 name : ByteArray
 pos : Int
 fields : Sl Dc
structure Pc where
 name : ByteArray
 pos : Int
 fin : Int
 params : Sl Dc
 locals_ : Sl Dc
 bp : Option Addr
 bc : Nat
 body : SL
structure Pg where
 structs : Sl Sr
 globals : Sl Dc
 procs : Sl Pc
def Sl.v {α : Type} (s : Sl α) : Value := .slice s.p s.l.length s.cap
abbrev Hp.cells (h : Hp) : List Value := [.string h.name, .int .i64 h.pos]
abbrev Pth.cells (h : Pth) : List Value := [.string h.name, .int .i64 h.pos, .slice h.hops.p h.hops.l.length h.hops.cap]
abbrev Tm.cells (t : Tm) : List Value := [.string t.name, .int .i64 t.n, .int .i64 t.pos]
abbrev Vl.cells (v : Vl) : List Value :=
 [.int .i64 v.kind, .int .i64 v.pos, .string v.path.name, .int .i64 v.path.pos, .slice v.path.hops.p v.path.hops.l.length v.path.hops.cap, .string v.type,
 .string v.left.name, .int .i64 v.left.n, .int .i64 v.left.pos, .string v.right.name, .int .i64 v.right.n, .int .i64 v.right.pos]
abbrev Cd.cells (c : Cd) : List Value :=
 [.int .i64 c.kind, .int .i64 c.pos,
 .int .i64 c.left.kind, .int .i64 c.left.pos, .string c.left.path.name, .int .i64 c.left.path.pos, .slice c.left.path.hops.p c.left.path.hops.l.length c.left.path.hops.cap, .string c.left.type,
 .string c.left.left.name, .int .i64 c.left.left.n, .int .i64 c.left.left.pos, .string c.left.right.name, .int .i64 c.left.right.n, .int .i64 c.left.right.pos,
 .int .i64 c.right.kind, .int .i64 c.right.pos, .string c.right.path.name, .int .i64 c.right.path.pos, .slice c.right.path.hops.p c.right.path.hops.l.length c.right.path.hops.cap, .string c.right.type,
 .string c.right.left.name, .int .i64 c.right.left.n, .int .i64 c.right.left.pos, .string c.right.right.name, .int .i64 c.right.right.n, .int .i64 c.right.right.pos]
abbrev Dc.cells (d : Dc) : List Value := [.string d.type, .string d.name, .int .i64 d.pos]
abbrev Sr.cells (s : Sr) : List Value := [.string s.name, .int .i64 s.pos, .slice s.fields.p s.fields.l.length s.fields.cap]
abbrev Pc.cells (p : Pc) : List Value := [.string p.name, .int .i64 p.pos, .int .i64 p.fin, .slice p.params.p p.params.l.length p.params.cap, .slice p.locals_.p p.locals_.l.length p.locals_.cap, .slice p.bp p.body.len p.bc]
abbrev Pg.cells (p : Pg) : List Value := [.slice p.structs.p p.structs.l.length p.structs.cap, .slice p.globals.p p.globals.l.length p.globals.cap, .slice p.procs.p p.procs.l.length p.procs.cap]
/-- The 48 cells of a statement. -/
def scells (h : Hd) (tp : Option Addr) (tn tc : Nat) (ep : Option Addr) (en ec : Nat) : List Value :=
 [.int .i64 h.kind, .int .i64 h.pos,
 .string h.place.name, .int .i64 h.place.pos, .slice h.place.hops.p h.place.hops.l.length h.place.hops.cap,
 .int .i64 h.value.kind, .int .i64 h.value.pos, .string h.value.path.name, .int .i64 h.value.path.pos, .slice h.value.path.hops.p h.value.path.hops.l.length h.value.path.hops.cap, .string h.value.type,
 .string h.value.left.name, .int .i64 h.value.left.n, .int .i64 h.value.left.pos, .string h.value.right.name, .int .i64 h.value.right.n, .int .i64 h.value.right.pos,
 .int .i64 h.cond.kind, .int .i64 h.cond.pos,
 .int .i64 h.cond.left.kind, .int .i64 h.cond.left.pos, .string h.cond.left.path.name, .int .i64 h.cond.left.path.pos, .slice h.cond.left.path.hops.p h.cond.left.path.hops.l.length h.cond.left.path.hops.cap, .string h.cond.left.type,
 .string h.cond.left.left.name, .int .i64 h.cond.left.left.n, .int .i64 h.cond.left.left.pos, .string h.cond.left.right.name, .int .i64 h.cond.left.right.n, .int .i64 h.cond.left.right.pos,
 .int .i64 h.cond.right.kind, .int .i64 h.cond.right.pos, .string h.cond.right.path.name, .int .i64 h.cond.right.path.pos, .slice h.cond.right.path.hops.p h.cond.right.path.hops.l.length h.cond.right.path.hops.cap, .string h.cond.right.type,
 .string h.cond.right.left.name, .int .i64 h.cond.right.left.n, .int .i64 h.cond.right.left.pos, .string h.cond.right.right.name, .int .i64 h.cond.right.right.n, .int .i64 h.cond.right.right.pos,
 .string h.name, .slice h.args.p h.args.l.length h.args.cap, .slice tp tn tc, .slice ep en ec, .bool h.both]
/-- A slice lies in memory: its items' cells, one behind the other, and what they lead to. -/
def slLies {α : Type} (w : World) (size bytes : Nat) (cells : α → List Value) (R : α → Prop) (s : Sl α) : Prop :=
 s.l.length * bytes ≤ 140737488351232 ∧ (s.l = [] ∨ ∃ b o, s.p = some ⟨b, o, none⟩ ∧ ∀ k x, s.l[k]? = some x → w.rangeAt b (o + k * size) (cells x) ∧ R x)
def hopsLie (w : World) (s : Sl Hp) : Prop := slLies w 2 24 Hp.cells (fun _ => True) s
def vlLies (w : World) (v : Vl) : Prop := hopsLie w v.path.hops
def argsLie (w : World) (s : Sl Vl) : Prop := slLies w 12 144 Vl.cells (vlLies w) s
def hdLies (w : World) (h : Hd) : Prop :=
 hopsLie w h.place.hops ∧ vlLies w h.value ∧ vlLies w h.cond.left ∧ vlLies w h.cond.right ∧ argsLie w h.args ∧ h.name.size ≤ maxLen
/-- Statements lie in block 'b' from offset 'o' on. -/
def lies (w : World) : SL → Nat → Nat → Prop
 | .nil, _, _ => True
 | .cons h tp tc t ep ec e r, b, o =>
  w.rangeAt b o (scells h tp t.len tc ep e.len ec) ∧ hdLies w h ∧ (t.len * 608 ≤ 140737488351232 ∧ (t = .nil ∨ ∃ b' o', tp = some ⟨b', o', none⟩ ∧ lies w t b' o')) ∧ (e.len * 608 ≤ 140737488351232 ∧ (e = .nil ∨ ∃ b' o', ep = some ⟨b', o', none⟩ ∧ lies w e b' o')) ∧ lies w r b (o + 48)
/-- A slice of statements lies in memory. -/
def sLies (w : World) (p : Option Addr) (l : SL) : Prop := l.len * 608 ≤ 140737488351232 ∧ (l = .nil ∨ ∃ b o, p = some ⟨b, o, none⟩ ∧ lies w l b o)
theorem rangeAt_below {w w' : World} {b o : Nat} {cs : List Value} (h : w.rangeAt b o cs) (hb : Below w.heap.size w w') : w'.rangeAt b o cs := fun j v hv => by
 have := h j v hv
 rw [hb.cell (World.block_lt_of_cell? w _ this)]; exact this
theorem slLies_below {α : Type} {w w' : World} {size bytes : Nat} {cells : α → List Value} {R R' : α → Prop} {s : Sl α} (h : slLies w size bytes cells R s) (hb : Below w.heap.size w w') (hR : ∀ x, R x → R' x) : slLies w' size bytes cells R' s := by
 obtain ⟨hl, h⟩ := h
 refine ⟨hl, ?_⟩
 rcases h with h | ⟨b, o, hp, hx⟩
 ·exact .inl h
 ·exact .inr ⟨b, o, hp, fun k x hk => ⟨rangeAt_below (hx k x hk).1 hb, hR x (hx k x hk).2⟩⟩
theorem hopsLie_below {w w' : World} {s : Sl Hp} (h : hopsLie w s) (hb : Below w.heap.size w w') : hopsLie w' s := slLies_below h hb (fun _ h => h)
theorem vlLies_below {w w' : World} {v : Vl} (h : vlLies w v) (hb : Below w.heap.size w w') : vlLies w' v := hopsLie_below h hb
theorem argsLie_below {w w' : World} {s : Sl Vl} (h : argsLie w s) (hb : Below w.heap.size w w') : argsLie w' s := slLies_below h hb (fun _ h => vlLies_below h hb)
theorem hdLies_below {w w' : World} {h : Hd} (H : hdLies w h) (hb : Below w.heap.size w w') : hdLies w' h :=
 ⟨hopsLie_below H.1 hb, vlLies_below H.2.1 hb, vlLies_below H.2.2.1 hb, vlLies_below H.2.2.2.1 hb, argsLie_below H.2.2.2.2.1 hb, H.2.2.2.2.2⟩
theorem lies_below {w w' : World} (hb : Below w.heap.size w w') : ∀ (l : SL) (b o : Nat), lies w l b o → lies w' l b o
 | .nil, _, _, _ => trivial
 | .cons h tp tc t ep ec e r, b, o, H => by
  obtain ⟨h1, h2, ⟨l3, h3⟩, ⟨l4, h4⟩, h5⟩ := H
  refine ⟨rangeAt_below h1 hb, hdLies_below h2 hb, ⟨l3, ?_⟩, ⟨l4, ?_⟩, lies_below hb r b _ h5⟩
  ·rcases h3 with h | ⟨b', o', hp, h⟩
   ·exact .inl h
   ·exact .inr ⟨b', o', hp, lies_below hb t b' o' h⟩
  ·rcases h4 with h | ⟨b', o', hp, h⟩
   ·exact .inl h
   ·exact .inr ⟨b', o', hp, lies_below hb e b' o' h⟩
theorem sLies_below {w w' : World} {p : Option Addr} {l : SL} (h : sLies w p l) (hb : Below w.heap.size w w') : sLies w' p l := by
 obtain ⟨hl, h⟩ := h
 refine ⟨hl, ?_⟩
 rcases h with h | ⟨b, o, hp, h⟩
 ·exact .inl h
 ·exact .inr ⟨b, o, hp, lies_below hb l b o h⟩
/-- What holds of both lists of each statement of a list. -/
def SL.each (P : SL → Prop) : SL → Prop
 | .nil => True
 | .cons _ _ _ t _ _ e r => P t ∧ P e ∧ r.each P
/-- Lists within lists: what holds of a list as soon as it holds of those within it holds of all. -/
theorem SL.all {P : SL → Prop} (h : ∀ l, l.each P → P l) : ∀ l, P l ∧ l.each P
 | .nil => ⟨h _ trivial, trivial⟩
 | .cons hd tp tc t ep ec e r => by
  have ht := SL.all h t
  have he := SL.all h e
  have hr := SL.all h r
  exact ⟨h _ ⟨ht.1, he.1, hr.2⟩, ht.1, he.1, hr.2⟩
/-- A struct's value goes into the block that was made last. -/
theorem wpList_store_new {P : Program} {ops : Array Oper} {rest : List Oper} {op : Oper} {a : Act} {w : World} {Q : Exit → Act → World → Prop} (hgd : op.guard = none) (ty : TypeId) (x y : Operand) (ho : op.op = .store ty x y)
  (c c' : Array Value) (hx : a.eval x = .pointer (some ⟨w.heap.size, 0, none⟩)) (hy : a.eval y = .agg c') (hi : (P.info? ty).map (·.size) = some c'.size) (hc : c.size = c'.size) (h1 : c'.all (·.oneCell') = true)
  (h : wpList P ops Q rest (a.put op.dst undef) (w.alloc (.cells c' ty))) : wpList P ops Q (op :: rest) a (w.alloc (.cells c ty)) :=
 wpList_plain hgd fun _ hK => by
  unfold Oper.wp execOp
  simp only [ho, hx, hy, Instr.storeAt, Instr.sureAddr, Sem.run_bind, Sem.run_pure, Result.andThen_ok, run_storeVar_new w ty c c' hi hc h1]
  exact hK _ _ h
/-- A struct's value out of the middle of a block, its cells as an array. -/
theorem wpList_load_arr {P : Program} {ops : Array Oper} {rest : List Oper} {op : Oper} {a : Act} {w : World} {Q : Exit → Act → World → Prop} (hgd : op.guard = none) (ty : TypeId) (x : Operand) (ho : op.op = .load ty x)
  (b o : Nat) (hx : a.eval x = .pointer (some ⟨b, o, none⟩)) (cs : Array Value) (d : TypeDesc) (hc : w.rangeAt b o cs.toList)
  (hu : P.underlying ty = some d) (hd : d.isRow = true) (hi : (P.info? ty).map (·.size) = some cs.size)
  (h : wpList P ops Q rest (a.put op.dst (.agg cs)) w) : wpList P ops Q (op :: rest) a w :=
 wpList_load_mid hgd ty x ho b o hx cs.toList d hc hu hd (by simpa using hi) (by simpa using h)
theorem ret_bool {a b : Bool} (h : a = b) : Ending.returned (.bool a) = .returned (.bool b) := by rw [h]
theorem Tryz.own : ownKnob Tryz.prog.godebug = none := by kernel_rfl
theorem size57 : (Tryz.prog.info? 54).map (·.size) = some 48 := by kernel_rfl
theorem scells_one (h : Hd) (tp : Option Addr) (tn tc : Nat) (ep : Option Addr) (en ec : Nat) : (scells h tp tn tc ep en ec).toArray.all (·.oneCell') = true := by
 simp [scells, Value.oneCell']
end Go.Proofs.YtdlchhimkelinaaGreatDoor
namespace Go.Proofs.YtdlchhimkelinaaGreatDoor
open Go.RowKit Go.Sort
def declsLie (w : World) (s : Sl Dc) : Prop := slLies w 3 40 Dc.cells (fun _ => True) s
def srsLie (w : World) (s : Sl Sr) : Prop := slLies w 3 48 Sr.cells (fun x => declsLie w x.fields) s
def pcLies (w : World) (x : Pc) : Prop := declsLie w x.params ∧ declsLie w x.locals_ ∧ sLies w x.bp x.body
def pcsLie (w : World) (s : Sl Pc) : Prop := slLies w 6 104 Pc.cells (pcLies w) s
def pgLies (w : World) (p : Pg) : Prop := srsLie w p.structs ∧ declsLie w p.globals ∧ pcsLie w p.procs
theorem declsLie_below {w w' : World} {s : Sl Dc} (h : declsLie w s) (hb : Below w.heap.size w w') : declsLie w' s := slLies_below h hb (fun _ h => h)
theorem srsLie_below {w w' : World} {s : Sl Sr} (h : srsLie w s) (hb : Below w.heap.size w w') : srsLie w' s := slLies_below h hb (fun _ h => declsLie_below h hb)
theorem pcLies_below {w w' : World} {x : Pc} (h : pcLies w x) (hb : Below w.heap.size w w') : pcLies w' x := ⟨declsLie_below h.1 hb, declsLie_below h.2.1 hb, sLies_below h.2.2 hb⟩
theorem pcsLie_below {w w' : World} {s : Sl Pc} (h : pcsLie w s) (hb : Below w.heap.size w w') : pcsLie w' s := slLies_below h hb (fun _ h => pcLies_below h hb)
theorem pgLies_below {w w' : World} {p : Pg} (h : pgLies w p) (hb : Below w.heap.size w w') : pgLies w' p := ⟨srsLie_below h.1 hb, declsLie_below h.2.1 hb, pcsLie_below h.2.2 hb⟩
end Go.Proofs.YtdlchhimkelinaaGreatDoor
namespace Go.Proofs.YtdlchhimkelinaaGreatDoor
open Go.RowKit Go.Sort
theorem enters {F : FuncId} {fn : Func} {c : Code} (hf : Tryz.prog.funcs[F]? = some fn) (hname : (fn.name == "runtime.NumGoroutine") = false) (hb : fn.body = some c) : ∀ args w, (callFunc F args).run Tryz.prog w = .ok (.enter F args) w := by
 intro args w
 have h1 : fn.name ≠ "runtime.NumGoroutine" := by simpa using hname
 simp [callFunc, hf, h1, hb, mark]
theorem cell_at {w : World} {b q : Nat} {cs : List Value} (h : w.rangeAt b q cs) (j : Nat) (v : Value) (hv : cs[j]? = some v) : w.cell? ⟨b, q + j, none⟩ = some v := h j v hv
theorem below_drewN_ {B : Nat} {a w : World} (h : Below B a w) (n : Nat) : Below B a (w.drewN n) := ⟨h.os, h.tape, h.output, h.size, h.block⟩
def triv {α : Type} (_ : World) (_ : α) : Prop := True
theorem triv_below {α : Type} {w w' : World} {x : α} (_ : triv w x) (_ : Below w.heap.size w w') : triv w' x := trivial
end Go.Proofs.YtdlchhimkelinaaGreatDoor
namespace Go.Proofs.YtdlchhimkelinaaGreatDoor
open Go.RowKit Go.Sort
def sameL {α : Type} (f : α → α → Bool) : List α → List α → Bool
 | [], [] => true
 | a :: l, b :: m => f a b && sameL f l m
 | [], _ :: _ => false
 | _ :: _, [] => false
theorem sameL_len {α : Type} {f : α → α → Bool} : ∀ {l m : List α}, l.length ≠ m.length → sameL f l m = false
 | [], [], h => absurd rfl h
 | a :: l, b :: m, h => by
  simp only [List.length_cons, ne_eq, Nat.add_right_cancel_iff] at h
  rw [sameL, sameL_len h, Bool.and_false]
 | [], _ :: _, _ => rfl
 | _ :: _, [], _ => rfl
theorem sameL_step {α : Type} {f : α → α → Bool} : ∀ {l m : List α} (k : Nat) (h1 : k < l.length) (h2 : k < m.length), sameL f (l.take (k + 1)) (m.take (k + 1)) = (sameL f (l.take k) (m.take k) && f l[k] m[k])
 | a :: l, b :: m, 0, _, _ => by simp [sameL]
 | a :: l, b :: m, k + 1, h1, h2 => by
  simp only [List.length_cons, Nat.add_lt_add_iff_right] at h1 h2
  have := sameL_step (f := f) (l := l) (m := m) k h1 h2
  simp only [List.take_succ_cons, sameL, List.getElem_cons_succ] at this ⊢
  rw [this, Bool.and_assoc]
theorem sameL_refl {α : Type} {f : α → α → Bool} : ∀ (l : List α), (∀ a, a ∈ l → f a a = true) → sameL f l l = true
 | [], _ => rfl
 | a :: l, h => by rw [sameL, h a (by simp), sameL_refl l (fun b hb => h b (by simp [hb]))]; rfl
def sameHp (a b : Hp) : Bool := a.name.toList == b.name.toList
def sameTm (a b : Tm) : Bool := (a.name.toList == b.name.toList) && (a.n == b.n)
def samePth (a b : Pth) : Bool := (a.name.toList == b.name.toList) && sameL sameHp a.hops.l b.hops.l
def sameVl (a b : Vl) : Bool := (a.kind == b.kind) && ((a.type.toList == b.type.toList) && (samePth a.path b.path && (sameTm a.left b.left && sameTm a.right b.right)))
def sameCd (a b : Cd) : Bool := (a.kind == b.kind) && (sameVl a.left b.left && sameVl a.right b.right)
/-- A statement's own, but for its lists of statements. -/
def sameHd (a b : Hd) : Bool := (a.kind == b.kind) && ((a.name.toList == b.name.toList) && ((a.both == b.both) && (samePth a.place b.place && (sameVl a.value b.value && (sameCd a.cond b.cond && sameL sameVl a.args.l b.args.l)))))
def sameSL : SL → SL → Bool
 | .nil, .nil => true
 | .cons h _ _ t _ _ e r, .cons h' _ _ t' _ _ e' r' => (sameHd h h' && (sameSL t t' && sameSL e e')) && sameSL r r'
 | .nil, .cons _ _ _ _ _ _ _ _ => false
 | .cons _ _ _ _ _ _ _ _, .nil => false
/-- A statement as one item of a list. -/
structure It where
 h : Hd
 tp : Option Addr
 tc : Nat
 t : SL
 ep : Option Addr
 ec : Nat
 e : SL
def It.cells (x : It) : List Value := scells x.h x.tp x.t.len x.tc x.ep x.e.len x.ec
def SL.items : SL → List It
 | .nil => []
 | .cons h tp tc t ep ec e r => ⟨h, tp, tc, t, ep, ec, e⟩ :: r.items
theorem SL.items_len : ∀ (l : SL), l.items.length = l.len
 | .nil => rfl
 | .cons _ _ _ _ _ _ _ r => by simp only [SL.items, List.length_cons, SL.len, SL.items_len r]
def itLies (w : World) (x : It) : Prop := hdLies w x.h ∧ sLies w x.tp x.t ∧ sLies w x.ep x.e
theorem itLies_below {w w' : World} {x : It} (h : itLies w x) (hb : Below w.heap.size w w') : itLies w' x := ⟨hdLies_below h.1 hb, sLies_below h.2.1 hb, sLies_below h.2.2 hb⟩
theorem lies_items {w : World} {b : Nat} : ∀ (l : SL) (o : Nat), lies w l b o → ∀ k x, l.items[k]? = some x → w.rangeAt b (o + k * 48) x.cells ∧ itLies w x
 | .nil, _, _, k, x, h => by simp [SL.items] at h
 | .cons hd tp tc t ep ec e r, o, ⟨h1, h2, h3, h4, h5⟩, 0, x, h => by
  simp only [SL.items, List.getElem?_cons_zero, Option.some.injEq] at h
  subst h
  exact ⟨by rw [Nat.zero_mul, Nat.add_zero]; exact h1, h2, h3, h4⟩
 | .cons hd tp tc t ep ec e r, o, ⟨h1, h2, h3, h4, h5⟩, k + 1, x, h => by
  simp only [SL.items, List.getElem?_cons_succ] at h
  have := lies_items r (o + 48) h5 k x h
  rwa [show o + 48 + k * 48 = o + (k + 1) * 48 by omega] at this
/-- A list's items lie in memory (its length is modest). -/
def Lay {α : Type} (size : Nat) (cells : α → List Value) (R : World → α → Prop) (w : World) (p : Option Addr) (l : List α) : Prop :=
 l.length ≤ 6000000000000 ∧ (l = [] ∨ ∃ b o, p = some ⟨b, o, none⟩ ∧ ∀ k x, l[k]? = some x → w.rangeAt b (o + k * size) (cells x) ∧ R w x)
theorem Lay.below {α : Type} {size : Nat} {cells : α → List Value} {R : World → α → Prop} {w w' : World} {p : Option Addr} {l : List α} (h : Lay size cells R w p l) (hb : Below w.heap.size w w') (hR : ∀ x, R w x → R w' x) : Lay size cells R w' p l := by
 obtain ⟨h0, h⟩ := h
 refine ⟨h0, ?_⟩
 rcases h with h | ⟨b, o, hp, hx⟩
 ·exact .inl h
 ·exact .inr ⟨b, o, hp, fun k x hk => ⟨rangeAt_below (hx k x hk).1 hb, hR x (hx k x hk).2⟩⟩
theorem Lay.of_sl {α : Type} {size bytes : Nat} {cells : α → List Value} {R : World → α → Prop} {w : World} {s : Sl α} (h : slLies w size bytes cells (R w) s) (hb : 24 ≤ bytes) : Lay size cells R w s.p s.l := by
 obtain ⟨h0, h⟩ := h
 refine ⟨?_, h⟩
 have := Nat.mul_le_mul_left s.l.length hb
 omega
theorem Lay.of_sLies {w : World} {p : Option Addr} {l : SL} (h : sLies w p l) : Lay 48 It.cells itLies w p l.items := by
 obtain ⟨h0, h⟩ := h
 refine ⟨by rw [SL.items_len]; omega, ?_⟩
 rcases h with rfl | ⟨b, o, hp, hl⟩
 ·exact .inl rfl
 ·exact .inr ⟨b, o, hp, lies_items l o hl⟩
def sameIt (x y : It) : Bool := sameHd x.h y.h && (sameSL x.t y.t && sameSL x.e y.e)
theorem sameSL_items : ∀ (l m : SL), sameSL l m = sameL sameIt l.items m.items
 | .nil, .nil => rfl
 | .cons h tp tc t ep ec e r, .cons h' tp' tc' t' ep' ec' e' r' => by
  simp only [sameSL, SL.items, sameL, sameIt]
  rw [sameSL_items r r']
 | .nil, .cons _ _ _ _ _ _ _ _ => rfl
 | .cons _ _ _ _ _ _ _ _, .nil => rfl
/-- What holds of each list within holds of each item's. -/
theorem SL.each_items {P : SL → Prop} : ∀ {l : SL}, l.each P → ∀ x ∈ l.items, P x.t ∧ P x.e
 | .nil, _, x, hx => by simp [SL.items] at hx
 | .cons h tp tc t ep ec e r, ⟨h1, h2, h3⟩, x, hx => by
  simp only [SL.items, List.mem_cons] at hx
  rcases hx with rfl | hx
  ·exact ⟨h1, h2⟩
  ·exact SL.each_items h3 x hx
theorem rangeAt_sub {w : World} {b q : Nat} {cs : List Value} (h : w.rangeAt b q cs) (o n : Nat) {cs' : List Value} (hs : (cs.drop o).take n = cs') : w.rangeAt b (q + o) cs' := fun j v hv => by
 rw [← hs] at hv
 rw [Nat.add_assoc]
 refine h (o + j) v ?_
 rw [List.getElem?_take] at hv
 split at hv
 ·rwa [List.getElem?_drop] at hv
 ·cases hv
def pthLies (w : World) (x : Pth) : Prop := slLies w 2 24 Hp.cells (triv w) x.hops
theorem pthLies_of {w : World} {x : Pth} (h : hopsLie w x.hops) : pthLies w x := h
theorem pthLies_below {w w' : World} {x : Pth} (h : pthLies w x) (hb : Below w.heap.size w w') : pthLies w' x := slLies_below h hb (fun _ h => h)
end Go.Proofs.YtdlchhimkelinaaGreatDoor
namespace Go.Proofs.YtdlchhimkelinaaGreatDoor
open Go.RowKit Go.Sort
/-! Hp -/
theorem enters93 : ∀ args w, (callFunc 212 args).run Tryz.prog w = .ok (.enter 212 args) w := enters Tryz.func212 (by kernel_rfl) rfl
/-- What is asked of the function that says whether two items are the same. -/
def OkHp (x y : Hp) : Prop := ∀ (b1 q1 b2 q2 : Nat) (w : World), w.rangeAt b1 q1 (Hp.cells x) → w.rangeAt b2 q2 (Hp.cells y) → triv w x → triv w y →
 Calls Tryz.prog 201 #[.pointer (some ⟨b1, q1, none⟩), .pointer (some ⟨b2, q2, none⟩)] w fun en w' => en = .returned (.bool (sameHp x y)) ∧ Below w.heap.size w w'
theorem cloFHp (i : Int) (b1 q1 bs bb : Nat) (w : World) :
  Calls Tryz.prog 212 #[.bool false, .int .i64 i, .pointer (some ⟨b1, q1, none⟩), .pointer (some ⟨bs, 0, none⟩), .pointer (some ⟨bb, 0, none⟩)] w fun en w' => en = .returned (.bool false) ∧ Below w.heap.size w w' := by
 go_enter Tryz.func212, Tryz.ntmps212
 go_wp2_with fail
 go_quiet (fail)
 go_wp2_with fail
 go_ret
 exact ⟨rfl, below_drewN_ (Below.refl _ _) _⟩
theorem cloTHp (v : Bool) (k n c b1 q1 b2 o2 bs bb : Nat) (w : World) (hk : k < n)
  (hs : w.cell? ⟨bs, 0, none⟩ = some (.func (.func 201) #[] #[])) (hb : w.cell? ⟨bb, 0, none⟩ = some (.slice (some ⟨b2, o2, none⟩) n c))
  (hS : ∀ w', Below w.heap.size w w' → Calls Tryz.prog 201 #[.pointer (some ⟨b1, q1, none⟩), .pointer (some ⟨b2, o2 + k * 2, none⟩)] w' fun en w'' => en = .returned (.bool v) ∧ Below w'.heap.size w' w'') :
  Calls Tryz.prog 212 #[.bool true, .int .i64 k, .pointer (some ⟨b1, q1, none⟩), .pointer (some ⟨bs, 0, none⟩), .pointer (some ⟨bb, 0, none⟩)] w fun en w' => en = .returned (.bool v) ∧ Below w.heap.size w w' := by
 have cS : ∀ dd os, Calls Tryz.prog 201 #[.pointer (some ⟨b1, q1, none⟩), .pointer (some ⟨b2, o2 + k * 2, none⟩)] (grow (redrawn w dd) os) fun en w'' => en = .returned (.bool v) ∧ ∃ p : Regrown, w'' = grow (redrawn w p.d) p.os :=
  fun dd os => Calls.regrown_of (hS _ (below_regrown _ _ _))
 have ks := cell_regrown hs
 have kb := cell_regrown hb
 have hk0 : (0 : Int) ≤ (k : Int) := Int.natCast_nonneg _
 have hk1 : (k : Int) < (n : Int) := by omega
 clear hS hs hb
 go_enter Tryz.func212, Tryz.ntmps212
 go_wp2_with fail
 refine wp_region_quiet_below (by kernel_rfl) (by kernel_rfl) ?_
 repeat (go_big_quiet_step (with_reducible exact cS _ _))
 refine wpQuiet_nil ?_
 intro _ hw'
 obtain ⟨⟨dq, osq⟩, hw''⟩ := hw'
 subst hw''
 have HB3 := hdn (below_regrown w dq osq)
 generalize grow (redrawn w dq) osq = w3 at HB3 ⊢
 go_wp2_with fail
 go_ret
 exact ⟨rfl, HB3.out⟩
theorem foldHp (l m : List Hp) (p1 p2 : Option Addr) (c1 c2 bs bb : Nat) (w : World) (h1 : Lay 2 Hp.cells triv w p1 l) (h2 : Lay 2 Hp.cells triv w p2 m)
  (hs : w.cell? ⟨bs, 0, none⟩ = some (.func (.func 201) #[] #[])) (hb : w.cell? ⟨bb, 0, none⟩ = some (.slice p2 m.length c2)) (hS : ∀ x ∈ l, ∀ y ∈ m, OkHp x y) :
  Calls Tryz.prog 211 #[.slice p1 l.length c1, .bool ((l.length : Int) == (m.length : Int)), .func (.func 212) #[] #[.pointer (some ⟨bs, 0, none⟩), .pointer (some ⟨bb, 0, none⟩)]] w fun en w' => en = .returned (.bool (sameL sameHp l m)) ∧ Below w.heap.size w w' := by
 obtain ⟨hl1, h1⟩ := h1
 obtain ⟨_, h2⟩ := h2
 have H1 := hdn h1
 have H2 := hdn h2
 have HS := hdn hS
 have HBS := hdn hs
 have HBB := hdn hb
 clear h1 h2 hS hs hb
 by_cases he : l.length = m.length
 ·have heq : ((l.length : Int) == (m.length : Int)) = true := by rw [he]; simp
  rw [heq]
  have HE := hdn he
  clear he heq
  go_enter Tryz.func211, Tryz.ntmps211
  go_wp2_with fail
  go_loopw [1, 10] (fun v i wr => ∃ k : Nat, i = .int .i64 k ∧ k ≤ l.length ∧ v = .bool (sameL sameHp (l.take k) (m.take k)) ∧ Hid (Below w.heap.size w wr)) (fun _ i _ => l.length - (intOf i).toNat)
  case atStart => exact ⟨0, rfl, Nat.zero_le _, rfl, hdn (Below.refl _ _)⟩
  case round =>
   obtain ⟨k, rfl, hk, rfl, HB⟩ := hrel
   by_cases hkl : k < l.length
   ·have hkm : k < m.length := by have := HE.out; omega
    obtain ⟨b1, o1, rfl, hx⟩ : ∃ b o, p1 = some ⟨b, o, none⟩ ∧ ∀ k x, l[k]? = some x → w.rangeAt b (o + k * 2) (Hp.cells x) ∧ triv w x := by
     rcases H1.out with h | h
     ·rw [h] at hkl; simp at hkl
     ·exact h
    obtain ⟨b2, o2, rfl, hy⟩ : ∃ b o, p2 = some ⟨b, o, none⟩ ∧ ∀ k x, m[k]? = some x → w.rangeAt b (o + k * 2) (Hp.cells x) ∧ triv w x := by
     rcases H2.out with h | h
     ·rw [h] at hkm; simp at hkm
     ·exact h
    have hx1 := hx k l[k] (List.getElem?_eq_getElem hkl)
    have hy1 := hy k m[k] (List.getElem?_eq_getElem hkm)
    have hSS : ∀ w', Below wr.heap.size wr w' → Calls Tryz.prog 201 #[.pointer (some ⟨b1, o1 + k * 2, none⟩), .pointer (some ⟨b2, o2 + k * 2, none⟩)] w' fun en w'' => en = .returned (.bool (sameHp l[k] m[k])) ∧ Below w'.heap.size w' w'' := fun w' hb' =>
     have hb2 := HB.out.trans (hb'.mono HB.out.size)
     HS.out l[k] (List.getElem_mem _) m[k] (List.getElem_mem _) _ _ _ _ w' (rangeAt_below hx1.1 hb2) (rangeAt_below hy1.1 hb2) (triv_below hx1.2 hb2) (triv_below hy1.2 hb2)
    have hst := sameL_step (f := sameHp) k hkl hkm
    generalize sameHp l[k] m[k] = vb at hSS hst
    have HSS := hdn hSS
    have HST := hdn hst
    have HCT : Hid (Calls Tryz.prog 212 #[.bool true, .int .i64 k, .pointer (some ⟨b1, o1 + k * 2, none⟩), .pointer (some ⟨bs, 0, none⟩), .pointer (some ⟨bb, 0, none⟩)] wr fun en w' => en = .returned (.bool vb) ∧ Below wr.heap.size wr w') :=
     hdn (cloTHp vb k m.length c2 b1 (o1 + k * 2) b2 o2 bs bb wr hkm ((HB.out.cell (p := ⟨bs, 0, none⟩) (World.block_lt_of_cell? w _ HBS.out)).trans HBS.out) ((HB.out.cell (p := ⟨bb, 0, none⟩) (World.block_lt_of_cell? w _ HBB.out)).trans HBB.out) HSS.out)
    have hcl := enters93
    clear hx hy hx1 hy1 hSS hst
    generalize sameL sameHp (l.take k) (m.take k) = sb at HST ⊢
    cases sb
    ·go_wp2_with fail
     refine (cloFHp _ _ _ _ _ _).mono ?_; rintro en w2 ⟨rfl, hb2⟩
     have HB2 : Hid (Below w.heap.size w w2) := hdn (HB.out.trans (hb2.mono HB.out.size))
     clear hb2
     go_wp2_with fail
     go_roundw
     case rel => exact ⟨k + 1, by go_num, by omega, by rw [HST.out]; rfl, HB2⟩
     case measure => simp [intOf]; omega
    ·go_wp2_with fail
     refine (HCT.out).mono ?_; rintro en w2 ⟨rfl, hb2⟩
     have HB2 : Hid (Below w.heap.size w w2) := hdn (HB.out.trans (hb2.mono HB.out.size))
     clear hb2
     go_wp2_with fail
     go_roundw
     case rel => exact ⟨k + 1, by go_num, by omega, by rw [HST.out]; rfl, HB2⟩
     case measure => simp [intOf]; omega
   ·have h1 : l.take k = l := List.take_of_length_le (by omega)
    have h2 : m.take k = m := List.take_of_length_le (by have := HE.out; omega)
    rw [h1, h2]
    clear h1 h2
    go_wp2_with fail
    go_ret
    exact ⟨rfl, HB.out⟩
 ·have heq : ((l.length : Int) == (m.length : Int)) = false := by
   rw [Bool.eq_false_iff]; intro e; rw [beq_iff_eq] at e; exact he (by omega)
  rw [heq, sameL_len he]
  clear he heq
  go_enter Tryz.func211, Tryz.ntmps211
  go_wp2_with fail
  go_loopw [1, 10] (fun v i wr => ∃ k : Nat, i = .int .i64 k ∧ k ≤ l.length ∧ v = .bool false ∧ Hid (Below w.heap.size w wr)) (fun _ i _ => l.length - (intOf i).toNat)
  case atStart => exact ⟨0, rfl, Nat.zero_le _, rfl, hdn (Below.refl _ _)⟩
  case round =>
   obtain ⟨k, rfl, hk, rfl, HB⟩ := hrel
   by_cases hkl : k < l.length
   ·obtain ⟨b1, o1, rfl, hx⟩ : ∃ b o, p1 = some ⟨b, o, none⟩ ∧ ∀ k x, l[k]? = some x → w.rangeAt b (o + k * 2) (Hp.cells x) ∧ triv w x := by
     rcases H1.out with h | h
     ·rw [h] at hkl; simp at hkl
     ·exact h
    have hcl := enters93
    clear hx
    go_wp2_with fail
    refine (cloFHp _ _ _ _ _ _).mono ?_; rintro en w2 ⟨rfl, hb2⟩
    have HB2 : Hid (Below w.heap.size w w2) := hdn (HB.out.trans (hb2.mono HB.out.size))
    clear hb2
    go_wp2_with fail
    go_roundw
    case rel => exact ⟨k + 1, by go_num, by omega, rfl, HB2⟩
    case measure => simp [intOf]; omega
   ·go_wp2_with fail
    go_ret
    exact ⟨rfl, HB.out⟩
theorem allHp (l m : List Hp) (p1 p2 : Option Addr) (c1 c2 : Nat) (w : World) (h1 : Lay 2 Hp.cells triv w p1 l) (h2 : Lay 2 Hp.cells triv w p2 m) (hS : ∀ x ∈ l, ∀ y ∈ m, OkHp x y) :
  Calls Tryz.prog 200 #[.slice p1 l.length c1, .slice p2 m.length c2, .func (.func 201) #[] #[]] w fun en w' => en = .returned (.bool (sameL sameHp l m)) ∧ Below w.heap.size w w' := by
 have ha : Below w.heap.size w ((w.alloc (.cells #[.slice p2 m.length c2] 43)).alloc (.cells #[.func (.func 201) #[] #[]] 222)) := ((Below.refl _ _).alloc (Nat.le_refl _) _).alloc (by simp) _
 have HF := hdn (foldHp l m p1 p2 c1 c2 (w.heap.size + 1) w.heap.size ((w.alloc (.cells #[.slice p2 m.length c2] 43)).alloc (.cells #[.func (.func 201) #[] #[]] 222)) (h1.below ha (fun _ h => triv_below h ha)) (h2.below ha (fun _ h => triv_below h ha))
  (cell_of_row _ _ 0 _ _ _ (heap_alloc2_new w _ _)) (cell_of_row _ _ 0 _ _ _ (heap_alloc2_old w _ _)) hS)
 have HA := hdn ha
 have hl1 := h1.1
 have hl2 := h2.1
 clear ha h1 h2 hS
 go_enter Tryz.func200, Tryz.ntmps200
 go_wp2_with fail
 refine (HF.out).mono ?_; rintro en w2 ⟨rfl, hb2⟩
 have HB2 : Hid (Below w.heap.size w w2) := hdn (HA.out.trans (hb2.mono HA.out.size))
 clear hb2
 go_wp2_with fail
 go_ret
 exact ⟨rfl, HB2.out⟩
end Go.Proofs.YtdlchhimkelinaaGreatDoor
namespace Go.Proofs.YtdlchhimkelinaaGreatDoor
open Go.RowKit Go.Sort
theorem hop_any (x y : Hp) (b1 q1 b2 q2 : Nat) (w : World) (hx : w.rangeAt b1 q1 (Hp.cells x)) (hy : w.rangeAt b2 q2 (Hp.cells y)) (_rx : triv w x) (_ry : triv w y) :
  Calls Tryz.prog 201 #[.pointer (some ⟨b1, q1, none⟩), .pointer (some ⟨b2, q2, none⟩)] w fun en w' => en = .returned (.bool (sameHp x y)) ∧ Below w.heap.size w w' := by
 have cx0 := cell_at hx 0 _ rfl
 have cy0 := cell_at hy 0 _ rfl
 rw [Nat.add_zero] at cx0 cy0
 have kx0 := cell_regrown cx0
 have ky0 := cell_regrown cy0
 show Calls _ _ _ _ (fun en w' => en = .returned (.bool ((x.name.toList == y.name.toList))) ∧ Below w.heap.size w w')
 generalize e0 : (x.name.toList == y.name.toList) = v0
 clear hx hy _rx _ry
 cases v0
 ·go_enter Tryz.func201, Tryz.ntmps201
  go_wp2_with fail
  refine wp_region_quiet_below (by kernel_rfl) (by kernel_rfl) ?_
  repeat (go_big_quiet_step (fail))
  refine wpQuiet_nil ?_
  intro _ hw'
  obtain ⟨⟨dq, osq⟩, hw''⟩ := hw'
  subst hw''
  have HB3 := hdn (below_regrown w dq osq)
  generalize grow (redrawn w dq) osq = w3 at HB3 ⊢
  go_wp2_with fail
  go_ret
  exact ⟨rfl, HB3.out⟩
 ·go_enter Tryz.func201, Tryz.ntmps201
  go_wp2_with fail
  refine wp_region_quiet_below (by kernel_rfl) (by kernel_rfl) ?_
  repeat (go_big_quiet_step (fail))
  refine wpQuiet_nil ?_
  intro _ hw'
  obtain ⟨⟨dq, osq⟩, hw''⟩ := hw'
  subst hw''
  have HB3 := hdn (below_regrown w dq osq)
  generalize grow (redrawn w dq) osq = w3 at HB3 ⊢
  go_wp2_with fail
  go_ret
  exact ⟨rfl, HB3.out⟩
theorem okHp (x y : Hp) : OkHp x y := fun b1 q1 b2 q2 w hx hy rx ry => hop_any x y b1 q1 b2 q2 w hx hy rx ry
theorem termS_any (x y : Tm) (b1 q1 b2 q2 : Nat) (w : World) (hx : w.rangeAt b1 q1 (Tm.cells x)) (hy : w.rangeAt b2 q2 (Tm.cells y)) (_rx : triv w x) (_ry : triv w y) :
  Calls Tryz.prog 202 #[.pointer (some ⟨b1, q1, none⟩), .pointer (some ⟨b2, q2, none⟩)] w fun en w' => en = .returned (.bool (sameTm x y)) ∧ Below w.heap.size w w' := by
 have cx0 := cell_at hx 0 _ rfl
 have cy0 := cell_at hy 0 _ rfl
 rw [Nat.add_zero] at cx0 cy0
 have kx0 := cell_regrown cx0
 have ky0 := cell_regrown cy0
 have cx1 := cell_at hx 1 _ rfl
 have cy1 := cell_at hy 1 _ rfl
 have kx1 := cell_regrown cx1
 have ky1 := cell_regrown cy1
 show Calls _ _ _ _ (fun en w' => en = .returned (.bool ((x.name.toList == y.name.toList) && ((x.n == y.n)))) ∧ Below w.heap.size w w')
 generalize e0 : (x.name.toList == y.name.toList) = v0
 generalize e1 : (x.n == y.n) = v1
 clear hx hy _rx _ry
 cases v0
 ·go_enter Tryz.func202, Tryz.ntmps202
  go_wp2_with fail
  refine wp_region_quiet_below (by kernel_rfl) (by kernel_rfl) ?_
  repeat (go_big_quiet_step (fail))
  refine wpQuiet_nil ?_
  intro _ hw'
  obtain ⟨⟨dq, osq⟩, hw''⟩ := hw'
  subst hw''
  have HB3 := hdn (below_regrown w dq osq)
  generalize grow (redrawn w dq) osq = w3 at HB3 ⊢
  go_wp2_with fail
  go_ret
  exact ⟨rfl, HB3.out⟩
 ·cases v1
  ·go_enter Tryz.func202, Tryz.ntmps202
   go_wp2_with fail
   refine wp_region_quiet_below (by kernel_rfl) (by kernel_rfl) ?_
   repeat (go_big_quiet_step (fail))
   refine wpQuiet_nil ?_
   intro _ hw'
   obtain ⟨⟨dq, osq⟩, hw''⟩ := hw'
   subst hw''
   have HB3 := hdn (below_regrown w dq osq)
   generalize grow (redrawn w dq) osq = w3 at HB3 ⊢
   go_wp2_with fail
   go_ret
   exact ⟨rfl, HB3.out⟩
  ·go_enter Tryz.func202, Tryz.ntmps202
   go_wp2_with fail
   refine wp_region_quiet_below (by kernel_rfl) (by kernel_rfl) ?_
   repeat (go_big_quiet_step (fail))
   refine wpQuiet_nil ?_
   intro _ hw'
   obtain ⟨⟨dq, osq⟩, hw''⟩ := hw'
   subst hw''
   have HB3 := hdn (below_regrown w dq osq)
   generalize grow (redrawn w dq) osq = w3 at HB3 ⊢
   go_wp2_with fail
   go_ret
   exact ⟨rfl, HB3.out⟩
theorem pathS_any (x y : Pth) (b1 q1 b2 q2 : Nat) (w : World) (hx : w.rangeAt b1 q1 (Pth.cells x)) (hy : w.rangeAt b2 q2 (Pth.cells y)) (rx : pthLies w x) (ry : pthLies w y) :
  Calls Tryz.prog 188 #[.pointer (some ⟨b1, q1, none⟩), .pointer (some ⟨b2, q2, none⟩)] w fun en w' => en = .returned (.bool (samePth x y)) ∧ Below w.heap.size w w' := by
 have cx0 := cell_at hx 0 _ rfl
 have cy0 := cell_at hy 0 _ rfl
 rw [Nat.add_zero] at cx0 cy0
 have kx0 := cell_regrown cx0
 have ky0 := cell_regrown cy0
 have C1 : ∀ w', Below w.heap.size w w' → Calls Tryz.prog 200 #[.slice x.hops.p x.hops.l.length x.hops.cap, .slice y.hops.p y.hops.l.length y.hops.cap, .func (.func 201) #[] #[]] w' fun en w'' => en = .returned (.bool (sameL sameHp x.hops.l y.hops.l)) ∧ Below w'.heap.size w' w'' := fun w' hb =>
  allHp _ _ _ _ _ _ w' (Lay.of_sl (pthLies_below rx hb) (by decide)) (Lay.of_sl (pthLies_below ry hb) (by decide)) (fun a _ b _ => okHp a b)
 have cx1 := cell_at hx 2 _ rfl
 have cy1 := cell_at hy 2 _ rfl
 have kx1 := cell_regrown cx1
 have ky1 := cell_regrown cy1
 show Calls _ _ _ _ (fun en w' => en = .returned (.bool ((x.name.toList == y.name.toList) && (sameL sameHp x.hops.l y.hops.l))) ∧ Below w.heap.size w w')
 generalize e0 : (x.name.toList == y.name.toList) = v0
 generalize sameL sameHp x.hops.l y.hops.l = v1 at C1 ⊢
 clear hx hy rx ry
 have cC1 : ∀ dd os, Calls Tryz.prog 200 #[.slice x.hops.p x.hops.l.length x.hops.cap, .slice y.hops.p y.hops.l.length y.hops.cap, .func (.func 201) #[] #[]] (grow (redrawn w dd) os) fun en w'' => en = .returned (.bool v1) ∧ ∃ p : Regrown, w'' = grow (redrawn w p.d) p.os := fun dd os => Calls.regrown_of (C1 _ (below_regrown _ _ _))
 clear C1
 cases v0
 ·go_enter Tryz.func188, Tryz.ntmps188
  go_wp2_with fail
  refine wp_region_quiet_below (by kernel_rfl) (by kernel_rfl) ?_
  repeat (go_big_quiet_step (first | (with_reducible exact cC1 _ _)))
  refine wpQuiet_nil ?_
  intro _ hw'
  obtain ⟨⟨dq, osq⟩, hw''⟩ := hw'
  subst hw''
  have HB3 := hdn (below_regrown w dq osq)
  generalize grow (redrawn w dq) osq = w3 at HB3 ⊢
  go_wp2_with fail
  go_ret
  exact ⟨rfl, HB3.out⟩
 ·cases v1
  ·go_enter Tryz.func188, Tryz.ntmps188
   go_wp2_with fail
   refine wp_region_quiet_below (by kernel_rfl) (by kernel_rfl) ?_
   repeat (go_big_quiet_step (first | (with_reducible exact cC1 _ _)))
   refine wpQuiet_nil ?_
   intro _ hw'
   obtain ⟨⟨dq, osq⟩, hw''⟩ := hw'
   subst hw''
   have HB3 := hdn (below_regrown w dq osq)
   generalize grow (redrawn w dq) osq = w3 at HB3 ⊢
   go_wp2_with fail
   go_ret
   exact ⟨rfl, HB3.out⟩
  ·go_enter Tryz.func188, Tryz.ntmps188
   go_wp2_with fail
   refine wp_region_quiet_below (by kernel_rfl) (by kernel_rfl) ?_
   repeat (go_big_quiet_step (first | (with_reducible exact cC1 _ _)))
   refine wpQuiet_nil ?_
   intro _ hw'
   obtain ⟨⟨dq, osq⟩, hw''⟩ := hw'
   subst hw''
   have HB3 := hdn (below_regrown w dq osq)
   generalize grow (redrawn w dq) osq = w3 at HB3 ⊢
   go_wp2_with fail
   go_ret
   exact ⟨rfl, HB3.out⟩
theorem valueS_any (x y : Vl) (b1 q1 b2 q2 : Nat) (w : World) (hx : w.rangeAt b1 q1 (Vl.cells x)) (hy : w.rangeAt b2 q2 (Vl.cells y)) (rx : vlLies w x) (ry : vlLies w y) :
  Calls Tryz.prog 189 #[.pointer (some ⟨b1, q1, none⟩), .pointer (some ⟨b2, q2, none⟩)] w fun en w' => en = .returned (.bool (sameVl x y)) ∧ Below w.heap.size w w' := by
 have cx0 := cell_at hx 0 _ rfl
 have cy0 := cell_at hy 0 _ rfl
 rw [Nat.add_zero] at cx0 cy0
 have kx0 := cell_regrown cx0
 have ky0 := cell_regrown cy0
 have cx1 := cell_at hx 5 _ rfl
 have cy1 := cell_at hy 5 _ rfl
 have kx1 := cell_regrown cx1
 have ky1 := cell_regrown cy1
 have C2 : ∀ w', Below w.heap.size w w' → Calls Tryz.prog 188 #[.pointer (some ⟨b1, q1 + 2, none⟩), .pointer (some ⟨b2, q2 + 2, none⟩)] w' fun en w'' => en = .returned (.bool (samePth x.path y.path)) ∧ Below w'.heap.size w' w'' := fun w' hb =>
  pathS_any _ _ _ _ _ _ w' (rangeAt_below (rangeAt_sub hx 2 3 rfl) hb) (rangeAt_below (rangeAt_sub hy 2 3 rfl) hb) (pthLies_of (vlLies_below rx hb)) (pthLies_of (vlLies_below ry hb))
 have C3 : ∀ w', Below w.heap.size w w' → Calls Tryz.prog 202 #[.pointer (some ⟨b1, q1 + 6, none⟩), .pointer (some ⟨b2, q2 + 6, none⟩)] w' fun en w'' => en = .returned (.bool (sameTm x.left y.left)) ∧ Below w'.heap.size w' w'' := fun w' hb =>
  termS_any _ _ _ _ _ _ w' (rangeAt_below (rangeAt_sub hx 6 3 rfl) hb) (rangeAt_below (rangeAt_sub hy 6 3 rfl) hb) trivial trivial
 have C4 : ∀ w', Below w.heap.size w w' → Calls Tryz.prog 202 #[.pointer (some ⟨b1, q1 + 9, none⟩), .pointer (some ⟨b2, q2 + 9, none⟩)] w' fun en w'' => en = .returned (.bool (sameTm x.right y.right)) ∧ Below w'.heap.size w' w'' := fun w' hb =>
  termS_any _ _ _ _ _ _ w' (rangeAt_below (rangeAt_sub hx 9 3 rfl) hb) (rangeAt_below (rangeAt_sub hy 9 3 rfl) hb) trivial trivial
 show Calls _ _ _ _ (fun en w' => en = .returned (.bool ((x.kind == y.kind) && ((x.type.toList == y.type.toList) && (samePth x.path y.path && (sameTm x.left y.left && (sameTm x.right y.right)))))) ∧ Below w.heap.size w w')
 generalize e0 : (x.kind == y.kind) = v0
 generalize e1 : (x.type.toList == y.type.toList) = v1
 generalize samePth x.path y.path = v2 at C2 ⊢
 generalize sameTm x.left y.left = v3 at C3 ⊢
 generalize sameTm x.right y.right = v4 at C4 ⊢
 clear hx hy rx ry
 have cC2 : ∀ dd os, Calls Tryz.prog 188 #[.pointer (some ⟨b1, q1 + 2, none⟩), .pointer (some ⟨b2, q2 + 2, none⟩)] (grow (redrawn w dd) os) fun en w'' => en = .returned (.bool v2) ∧ ∃ p : Regrown, w'' = grow (redrawn w p.d) p.os := fun dd os => Calls.regrown_of (C2 _ (below_regrown _ _ _))
 clear C2
 have cC3 : ∀ dd os, Calls Tryz.prog 202 #[.pointer (some ⟨b1, q1 + 6, none⟩), .pointer (some ⟨b2, q2 + 6, none⟩)] (grow (redrawn w dd) os) fun en w'' => en = .returned (.bool v3) ∧ ∃ p : Regrown, w'' = grow (redrawn w p.d) p.os := fun dd os => Calls.regrown_of (C3 _ (below_regrown _ _ _))
 clear C3
 have cC4 : ∀ dd os, Calls Tryz.prog 202 #[.pointer (some ⟨b1, q1 + 9, none⟩), .pointer (some ⟨b2, q2 + 9, none⟩)] (grow (redrawn w dd) os) fun en w'' => en = .returned (.bool v4) ∧ ∃ p : Regrown, w'' = grow (redrawn w p.d) p.os := fun dd os => Calls.regrown_of (C4 _ (below_regrown _ _ _))
 clear C4
 cases v0
 ·go_enter Tryz.func189, Tryz.ntmps189
  go_wp2_with fail
  refine wp_region_quiet_below (by kernel_rfl) (by kernel_rfl) ?_
  repeat (go_big_quiet_step (first | (with_reducible exact cC2 _ _) | (with_reducible exact cC3 _ _) | (with_reducible exact cC4 _ _)))
  refine wpQuiet_nil ?_
  intro _ hw'
  obtain ⟨⟨dq, osq⟩, hw''⟩ := hw'
  subst hw''
  have HB3 := hdn (below_regrown w dq osq)
  generalize grow (redrawn w dq) osq = w3 at HB3 ⊢
  go_wp2_with fail
  go_ret
  exact ⟨rfl, HB3.out⟩
 ·cases v1
  ·go_enter Tryz.func189, Tryz.ntmps189
   go_wp2_with fail
   refine wp_region_quiet_below (by kernel_rfl) (by kernel_rfl) ?_
   repeat (go_big_quiet_step (first | (with_reducible exact cC2 _ _) | (with_reducible exact cC3 _ _) | (with_reducible exact cC4 _ _)))
   refine wpQuiet_nil ?_
   intro _ hw'
   obtain ⟨⟨dq, osq⟩, hw''⟩ := hw'
   subst hw''
   have HB3 := hdn (below_regrown w dq osq)
   generalize grow (redrawn w dq) osq = w3 at HB3 ⊢
   go_wp2_with fail
   go_ret
   exact ⟨rfl, HB3.out⟩
  ·cases v2
   ·go_enter Tryz.func189, Tryz.ntmps189
    go_wp2_with fail
    refine wp_region_quiet_below (by kernel_rfl) (by kernel_rfl) ?_
    repeat (go_big_quiet_step (first | (with_reducible exact cC2 _ _) | (with_reducible exact cC3 _ _) | (with_reducible exact cC4 _ _)))
    refine wpQuiet_nil ?_
    intro _ hw'
    obtain ⟨⟨dq, osq⟩, hw''⟩ := hw'
    subst hw''
    have HB3 := hdn (below_regrown w dq osq)
    generalize grow (redrawn w dq) osq = w3 at HB3 ⊢
    go_wp2_with fail
    go_ret
    exact ⟨rfl, HB3.out⟩
   ·cases v3
    ·go_enter Tryz.func189, Tryz.ntmps189
     go_wp2_with fail
     refine wp_region_quiet_below (by kernel_rfl) (by kernel_rfl) ?_
     repeat (go_big_quiet_step (first | (with_reducible exact cC2 _ _) | (with_reducible exact cC3 _ _) | (with_reducible exact cC4 _ _)))
     refine wpQuiet_nil ?_
     intro _ hw'
     obtain ⟨⟨dq, osq⟩, hw''⟩ := hw'
     subst hw''
     have HB3 := hdn (below_regrown w dq osq)
     generalize grow (redrawn w dq) osq = w3 at HB3 ⊢
     go_wp2_with fail
     go_ret
     exact ⟨rfl, HB3.out⟩
    ·cases v4
     ·go_enter Tryz.func189, Tryz.ntmps189
      go_wp2_with fail
      refine wp_region_quiet_below (by kernel_rfl) (by kernel_rfl) ?_
      repeat (go_big_quiet_step (first | (with_reducible exact cC2 _ _) | (with_reducible exact cC3 _ _) | (with_reducible exact cC4 _ _)))
      refine wpQuiet_nil ?_
      intro _ hw'
      obtain ⟨⟨dq, osq⟩, hw''⟩ := hw'
      subst hw''
      have HB3 := hdn (below_regrown w dq osq)
      generalize grow (redrawn w dq) osq = w3 at HB3 ⊢
      go_wp2_with fail
      go_ret
      exact ⟨rfl, HB3.out⟩
     ·go_enter Tryz.func189, Tryz.ntmps189
      go_wp2_with fail
      refine wp_region_quiet_below (by kernel_rfl) (by kernel_rfl) ?_
      repeat (go_big_quiet_step (first | (with_reducible exact cC2 _ _) | (with_reducible exact cC3 _ _) | (with_reducible exact cC4 _ _)))
      refine wpQuiet_nil ?_
      intro _ hw'
      obtain ⟨⟨dq, osq⟩, hw''⟩ := hw'
      subst hw''
      have HB3 := hdn (below_regrown w dq osq)
      generalize grow (redrawn w dq) osq = w3 at HB3 ⊢
      go_wp2_with fail
      go_ret
      exact ⟨rfl, HB3.out⟩
def cdLies (w : World) (x : Cd) : Prop := vlLies w x.left ∧ vlLies w x.right
theorem condS_any (x y : Cd) (b1 q1 b2 q2 : Nat) (w : World) (hx : w.rangeAt b1 q1 (Cd.cells x)) (hy : w.rangeAt b2 q2 (Cd.cells y)) (rx : cdLies w x) (ry : cdLies w y) :
  Calls Tryz.prog 190 #[.pointer (some ⟨b1, q1, none⟩), .pointer (some ⟨b2, q2, none⟩)] w fun en w' => en = .returned (.bool (sameCd x y)) ∧ Below w.heap.size w w' := by
 have cx0 := cell_at hx 0 _ rfl
 have cy0 := cell_at hy 0 _ rfl
 rw [Nat.add_zero] at cx0 cy0
 have kx0 := cell_regrown cx0
 have ky0 := cell_regrown cy0
 have C1 : ∀ w', Below w.heap.size w w' → Calls Tryz.prog 189 #[.pointer (some ⟨b1, q1 + 2, none⟩), .pointer (some ⟨b2, q2 + 2, none⟩)] w' fun en w'' => en = .returned (.bool (sameVl x.left y.left)) ∧ Below w'.heap.size w' w'' := fun w' hb =>
  valueS_any _ _ _ _ _ _ w' (rangeAt_below (rangeAt_sub hx 2 12 rfl) hb) (rangeAt_below (rangeAt_sub hy 2 12 rfl) hb) (vlLies_below rx.1 hb) (vlLies_below ry.1 hb)
 have C2 : ∀ w', Below w.heap.size w w' → Calls Tryz.prog 189 #[.pointer (some ⟨b1, q1 + 14, none⟩), .pointer (some ⟨b2, q2 + 14, none⟩)] w' fun en w'' => en = .returned (.bool (sameVl x.right y.right)) ∧ Below w'.heap.size w' w'' := fun w' hb =>
  valueS_any _ _ _ _ _ _ w' (rangeAt_below (rangeAt_sub hx 14 12 rfl) hb) (rangeAt_below (rangeAt_sub hy 14 12 rfl) hb) (vlLies_below rx.2 hb) (vlLies_below ry.2 hb)
 show Calls _ _ _ _ (fun en w' => en = .returned (.bool ((x.kind == y.kind) && (sameVl x.left y.left && (sameVl x.right y.right)))) ∧ Below w.heap.size w w')
 generalize e0 : (x.kind == y.kind) = v0
 generalize sameVl x.left y.left = v1 at C1 ⊢
 generalize sameVl x.right y.right = v2 at C2 ⊢
 clear hx hy rx ry
 have cC1 : ∀ dd os, Calls Tryz.prog 189 #[.pointer (some ⟨b1, q1 + 2, none⟩), .pointer (some ⟨b2, q2 + 2, none⟩)] (grow (redrawn w dd) os) fun en w'' => en = .returned (.bool v1) ∧ ∃ p : Regrown, w'' = grow (redrawn w p.d) p.os := fun dd os => Calls.regrown_of (C1 _ (below_regrown _ _ _))
 clear C1
 have cC2 : ∀ dd os, Calls Tryz.prog 189 #[.pointer (some ⟨b1, q1 + 14, none⟩), .pointer (some ⟨b2, q2 + 14, none⟩)] (grow (redrawn w dd) os) fun en w'' => en = .returned (.bool v2) ∧ ∃ p : Regrown, w'' = grow (redrawn w p.d) p.os := fun dd os => Calls.regrown_of (C2 _ (below_regrown _ _ _))
 clear C2
 cases v0
 ·go_enter Tryz.func190, Tryz.ntmps190
  go_wp2_with fail
  refine wp_region_quiet_below (by kernel_rfl) (by kernel_rfl) ?_
  repeat (go_big_quiet_step (first | (with_reducible exact cC1 _ _) | (with_reducible exact cC2 _ _)))
  refine wpQuiet_nil ?_
  intro _ hw'
  obtain ⟨⟨dq, osq⟩, hw''⟩ := hw'
  subst hw''
  have HB3 := hdn (below_regrown w dq osq)
  generalize grow (redrawn w dq) osq = w3 at HB3 ⊢
  go_wp2_with fail
  go_ret
  exact ⟨rfl, HB3.out⟩
 ·cases v1
  ·go_enter Tryz.func190, Tryz.ntmps190
   go_wp2_with fail
   refine wp_region_quiet_below (by kernel_rfl) (by kernel_rfl) ?_
   repeat (go_big_quiet_step (first | (with_reducible exact cC1 _ _) | (with_reducible exact cC2 _ _)))
   refine wpQuiet_nil ?_
   intro _ hw'
   obtain ⟨⟨dq, osq⟩, hw''⟩ := hw'
   subst hw''
   have HB3 := hdn (below_regrown w dq osq)
   generalize grow (redrawn w dq) osq = w3 at HB3 ⊢
   go_wp2_with fail
   go_ret
   exact ⟨rfl, HB3.out⟩
  ·cases v2
   ·go_enter Tryz.func190, Tryz.ntmps190
    go_wp2_with fail
    refine wp_region_quiet_below (by kernel_rfl) (by kernel_rfl) ?_
    repeat (go_big_quiet_step (first | (with_reducible exact cC1 _ _) | (with_reducible exact cC2 _ _)))
    refine wpQuiet_nil ?_
    intro _ hw'
    obtain ⟨⟨dq, osq⟩, hw''⟩ := hw'
    subst hw''
    have HB3 := hdn (below_regrown w dq osq)
    generalize grow (redrawn w dq) osq = w3 at HB3 ⊢
    go_wp2_with fail
    go_ret
    exact ⟨rfl, HB3.out⟩
   ·go_enter Tryz.func190, Tryz.ntmps190
    go_wp2_with fail
    refine wp_region_quiet_below (by kernel_rfl) (by kernel_rfl) ?_
    repeat (go_big_quiet_step (first | (with_reducible exact cC1 _ _) | (with_reducible exact cC2 _ _)))
    refine wpQuiet_nil ?_
    intro _ hw'
    obtain ⟨⟨dq, osq⟩, hw''⟩ := hw'
    subst hw''
    have HB3 := hdn (below_regrown w dq osq)
    generalize grow (redrawn w dq) osq = w3 at HB3 ⊢
    go_wp2_with fail
    go_ret
    exact ⟨rfl, HB3.out⟩
end Go.Proofs.YtdlchhimkelinaaGreatDoor
namespace Go.Proofs.YtdlchhimkelinaaGreatDoor
open Go.RowKit Go.Sort
theorem enters83 : ∀ args w, (callFunc 204 args).run Tryz.prog w = .ok (.enter 204 args) w := enters Tryz.func204 (by kernel_rfl) rfl
/-- What is asked of the function that says whether two items are the same. -/
def OkVl (x y : Vl) : Prop := ∀ (b1 q1 b2 q2 : Nat) (w : World), w.rangeAt b1 q1 (Vl.cells x) → w.rangeAt b2 q2 (Vl.cells y) → vlLies w x → vlLies w y →
 Calls Tryz.prog 189 #[.pointer (some ⟨b1, q1, none⟩), .pointer (some ⟨b2, q2, none⟩)] w fun en w' => en = .returned (.bool (sameVl x y)) ∧ Below w.heap.size w w'
theorem cloFVl (i : Int) (b1 q1 bs bb : Nat) (w : World) :
  Calls Tryz.prog 204 #[.bool false, .int .i64 i, .pointer (some ⟨b1, q1, none⟩), .pointer (some ⟨bs, 0, none⟩), .pointer (some ⟨bb, 0, none⟩)] w fun en w' => en = .returned (.bool false) ∧ Below w.heap.size w w' := by
 go_enter Tryz.func204, Tryz.ntmps204
 go_wp2_with fail
 go_quiet (fail)
 go_wp2_with fail
 go_ret
 exact ⟨rfl, below_drewN_ (Below.refl _ _) _⟩
theorem cloTVl (v : Bool) (k n c b1 q1 b2 o2 bs bb : Nat) (w : World) (hk : k < n)
  (hs : w.cell? ⟨bs, 0, none⟩ = some (.func (.func 189) #[] #[])) (hb : w.cell? ⟨bb, 0, none⟩ = some (.slice (some ⟨b2, o2, none⟩) n c))
  (hS : ∀ w', Below w.heap.size w w' → Calls Tryz.prog 189 #[.pointer (some ⟨b1, q1, none⟩), .pointer (some ⟨b2, o2 + k * 12, none⟩)] w' fun en w'' => en = .returned (.bool v) ∧ Below w'.heap.size w' w'') :
  Calls Tryz.prog 204 #[.bool true, .int .i64 k, .pointer (some ⟨b1, q1, none⟩), .pointer (some ⟨bs, 0, none⟩), .pointer (some ⟨bb, 0, none⟩)] w fun en w' => en = .returned (.bool v) ∧ Below w.heap.size w w' := by
 have cS : ∀ dd os, Calls Tryz.prog 189 #[.pointer (some ⟨b1, q1, none⟩), .pointer (some ⟨b2, o2 + k * 12, none⟩)] (grow (redrawn w dd) os) fun en w'' => en = .returned (.bool v) ∧ ∃ p : Regrown, w'' = grow (redrawn w p.d) p.os :=
  fun dd os => Calls.regrown_of (hS _ (below_regrown _ _ _))
 have ks := cell_regrown hs
 have kb := cell_regrown hb
 have hk0 : (0 : Int) ≤ (k : Int) := Int.natCast_nonneg _
 have hk1 : (k : Int) < (n : Int) := by omega
 clear hS hs hb
 go_enter Tryz.func204, Tryz.ntmps204
 go_wp2_with fail
 refine wp_region_quiet_below (by kernel_rfl) (by kernel_rfl) ?_
 repeat (go_big_quiet_step (with_reducible exact cS _ _))
 refine wpQuiet_nil ?_
 intro _ hw'
 obtain ⟨⟨dq, osq⟩, hw''⟩ := hw'
 subst hw''
 have HB3 := hdn (below_regrown w dq osq)
 generalize grow (redrawn w dq) osq = w3 at HB3 ⊢
 go_wp2_with fail
 go_ret
 exact ⟨rfl, HB3.out⟩
theorem foldVl (l m : List Vl) (p1 p2 : Option Addr) (c1 c2 bs bb : Nat) (w : World) (h1 : Lay 12 Vl.cells vlLies w p1 l) (h2 : Lay 12 Vl.cells vlLies w p2 m)
  (hs : w.cell? ⟨bs, 0, none⟩ = some (.func (.func 189) #[] #[])) (hb : w.cell? ⟨bb, 0, none⟩ = some (.slice p2 m.length c2)) (hS : ∀ x ∈ l, ∀ y ∈ m, OkVl x y) :
  Calls Tryz.prog 203 #[.slice p1 l.length c1, .bool ((l.length : Int) == (m.length : Int)), .func (.func 204) #[] #[.pointer (some ⟨bs, 0, none⟩), .pointer (some ⟨bb, 0, none⟩)]] w fun en w' => en = .returned (.bool (sameL sameVl l m)) ∧ Below w.heap.size w w' := by
 obtain ⟨hl1, h1⟩ := h1
 obtain ⟨_, h2⟩ := h2
 have H1 := hdn h1
 have H2 := hdn h2
 have HS := hdn hS
 have HBS := hdn hs
 have HBB := hdn hb
 clear h1 h2 hS hs hb
 by_cases he : l.length = m.length
 ·have heq : ((l.length : Int) == (m.length : Int)) = true := by rw [he]; simp
  rw [heq]
  have HE := hdn he
  clear he heq
  go_enter Tryz.func203, Tryz.ntmps203
  go_wp2_with fail
  go_loopw [1, 10] (fun v i wr => ∃ k : Nat, i = .int .i64 k ∧ k ≤ l.length ∧ v = .bool (sameL sameVl (l.take k) (m.take k)) ∧ Hid (Below w.heap.size w wr)) (fun _ i _ => l.length - (intOf i).toNat)
  case atStart => exact ⟨0, rfl, Nat.zero_le _, rfl, hdn (Below.refl _ _)⟩
  case round =>
   obtain ⟨k, rfl, hk, rfl, HB⟩ := hrel
   by_cases hkl : k < l.length
   ·have hkm : k < m.length := by have := HE.out; omega
    obtain ⟨b1, o1, rfl, hx⟩ : ∃ b o, p1 = some ⟨b, o, none⟩ ∧ ∀ k x, l[k]? = some x → w.rangeAt b (o + k * 12) (Vl.cells x) ∧ vlLies w x := by
     rcases H1.out with h | h
     ·rw [h] at hkl; simp at hkl
     ·exact h
    obtain ⟨b2, o2, rfl, hy⟩ : ∃ b o, p2 = some ⟨b, o, none⟩ ∧ ∀ k x, m[k]? = some x → w.rangeAt b (o + k * 12) (Vl.cells x) ∧ vlLies w x := by
     rcases H2.out with h | h
     ·rw [h] at hkm; simp at hkm
     ·exact h
    have hx1 := hx k l[k] (List.getElem?_eq_getElem hkl)
    have hy1 := hy k m[k] (List.getElem?_eq_getElem hkm)
    have hSS : ∀ w', Below wr.heap.size wr w' → Calls Tryz.prog 189 #[.pointer (some ⟨b1, o1 + k * 12, none⟩), .pointer (some ⟨b2, o2 + k * 12, none⟩)] w' fun en w'' => en = .returned (.bool (sameVl l[k] m[k])) ∧ Below w'.heap.size w' w'' := fun w' hb' =>
     have hb2 := HB.out.trans (hb'.mono HB.out.size)
     HS.out l[k] (List.getElem_mem _) m[k] (List.getElem_mem _) _ _ _ _ w' (rangeAt_below hx1.1 hb2) (rangeAt_below hy1.1 hb2) (vlLies_below hx1.2 hb2) (vlLies_below hy1.2 hb2)
    have hst := sameL_step (f := sameVl) k hkl hkm
    generalize sameVl l[k] m[k] = vb at hSS hst
    have HSS := hdn hSS
    have HST := hdn hst
    have HCT : Hid (Calls Tryz.prog 204 #[.bool true, .int .i64 k, .pointer (some ⟨b1, o1 + k * 12, none⟩), .pointer (some ⟨bs, 0, none⟩), .pointer (some ⟨bb, 0, none⟩)] wr fun en w' => en = .returned (.bool vb) ∧ Below wr.heap.size wr w') :=
     hdn (cloTVl vb k m.length c2 b1 (o1 + k * 12) b2 o2 bs bb wr hkm ((HB.out.cell (p := ⟨bs, 0, none⟩) (World.block_lt_of_cell? w _ HBS.out)).trans HBS.out) ((HB.out.cell (p := ⟨bb, 0, none⟩) (World.block_lt_of_cell? w _ HBB.out)).trans HBB.out) HSS.out)
    have hcl := enters83
    clear hx hy hx1 hy1 hSS hst
    generalize sameL sameVl (l.take k) (m.take k) = sb at HST ⊢
    cases sb
    ·go_wp2_with fail
     refine (cloFVl _ _ _ _ _ _).mono ?_; rintro en w2 ⟨rfl, hb2⟩
     have HB2 : Hid (Below w.heap.size w w2) := hdn (HB.out.trans (hb2.mono HB.out.size))
     clear hb2
     go_wp2_with fail
     go_roundw
     case rel => exact ⟨k + 1, by go_num, by omega, by rw [HST.out]; rfl, HB2⟩
     case measure => simp [intOf]; omega
    ·go_wp2_with fail
     refine (HCT.out).mono ?_; rintro en w2 ⟨rfl, hb2⟩
     have HB2 : Hid (Below w.heap.size w w2) := hdn (HB.out.trans (hb2.mono HB.out.size))
     clear hb2
     go_wp2_with fail
     go_roundw
     case rel => exact ⟨k + 1, by go_num, by omega, by rw [HST.out]; rfl, HB2⟩
     case measure => simp [intOf]; omega
   ·have h1 : l.take k = l := List.take_of_length_le (by omega)
    have h2 : m.take k = m := List.take_of_length_le (by have := HE.out; omega)
    rw [h1, h2]
    clear h1 h2
    go_wp2_with fail
    go_ret
    exact ⟨rfl, HB.out⟩
 ·have heq : ((l.length : Int) == (m.length : Int)) = false := by
   rw [Bool.eq_false_iff]; intro e; rw [beq_iff_eq] at e; exact he (by omega)
  rw [heq, sameL_len he]
  clear he heq
  go_enter Tryz.func203, Tryz.ntmps203
  go_wp2_with fail
  go_loopw [1, 10] (fun v i wr => ∃ k : Nat, i = .int .i64 k ∧ k ≤ l.length ∧ v = .bool false ∧ Hid (Below w.heap.size w wr)) (fun _ i _ => l.length - (intOf i).toNat)
  case atStart => exact ⟨0, rfl, Nat.zero_le _, rfl, hdn (Below.refl _ _)⟩
  case round =>
   obtain ⟨k, rfl, hk, rfl, HB⟩ := hrel
   by_cases hkl : k < l.length
   ·obtain ⟨b1, o1, rfl, hx⟩ : ∃ b o, p1 = some ⟨b, o, none⟩ ∧ ∀ k x, l[k]? = some x → w.rangeAt b (o + k * 12) (Vl.cells x) ∧ vlLies w x := by
     rcases H1.out with h | h
     ·rw [h] at hkl; simp at hkl
     ·exact h
    have hcl := enters83
    clear hx
    go_wp2_with fail
    refine (cloFVl _ _ _ _ _ _).mono ?_; rintro en w2 ⟨rfl, hb2⟩
    have HB2 : Hid (Below w.heap.size w w2) := hdn (HB.out.trans (hb2.mono HB.out.size))
    clear hb2
    go_wp2_with fail
    go_roundw
    case rel => exact ⟨k + 1, by go_num, by omega, rfl, HB2⟩
    case measure => simp [intOf]; omega
   ·go_wp2_with fail
    go_ret
    exact ⟨rfl, HB.out⟩
theorem allVl (l m : List Vl) (p1 p2 : Option Addr) (c1 c2 : Nat) (w : World) (h1 : Lay 12 Vl.cells vlLies w p1 l) (h2 : Lay 12 Vl.cells vlLies w p2 m) (hS : ∀ x ∈ l, ∀ y ∈ m, OkVl x y) :
  Calls Tryz.prog 191 #[.slice p1 l.length c1, .slice p2 m.length c2, .func (.func 189) #[] #[]] w fun en w' => en = .returned (.bool (sameL sameVl l m)) ∧ Below w.heap.size w w' := by
 have ha : Below w.heap.size w ((w.alloc (.cells #[.slice p2 m.length c2] 52)).alloc (.cells #[.func (.func 189) #[] #[]] 211)) := ((Below.refl _ _).alloc (Nat.le_refl _) _).alloc (by simp) _
 have HF := hdn (foldVl l m p1 p2 c1 c2 (w.heap.size + 1) w.heap.size ((w.alloc (.cells #[.slice p2 m.length c2] 52)).alloc (.cells #[.func (.func 189) #[] #[]] 211)) (h1.below ha (fun _ h => vlLies_below h ha)) (h2.below ha (fun _ h => vlLies_below h ha))
  (cell_of_row _ _ 0 _ _ _ (heap_alloc2_new w _ _)) (cell_of_row _ _ 0 _ _ _ (heap_alloc2_old w _ _)) hS)
 have HA := hdn ha
 have hl1 := h1.1
 have hl2 := h2.1
 clear ha h1 h2 hS
 go_enter Tryz.func191, Tryz.ntmps191
 go_wp2_with fail
 refine (HF.out).mono ?_; rintro en w2 ⟨rfl, hb2⟩
 have HB2 : Hid (Below w.heap.size w w2) := hdn (HA.out.trans (hb2.mono HA.out.size))
 clear hb2
 go_wp2_with fail
 go_ret
 exact ⟨rfl, HB2.out⟩
theorem okVl (x y : Vl) : OkVl x y := fun b1 q1 b2 q2 w hx hy rx ry => valueS_any x y b1 q1 b2 q2 w hx hy rx ry
end Go.Proofs.YtdlchhimkelinaaGreatDoor
