/-
  Plain: programs as trees, the cells that each part has in memory, and how they lie there. How what is handed in reads: programs and statements as trees that lie in memory. Plain: what lies in memory, cell by cell; rows of one's own. Plain: when programs are the same, but for places. Plain: a program
-/
import Derived.Test.YtdlchhimkelinaaGreatDoorRows
import Derived.WalkKit
import Derived.Deep.MidRow
import Derived.Deep.WholeRow
import Derived.Lib.Hide
import Derived.Lib.QuietBelow
import Derived.BigQuiet
import Derived.WalkLawsBesides
import Derived.Laws.Tables
import Derived.Test.YtdlchhimkelinaaGreatDoorP01
import Derived.RegionTactic
import Derived.Deep.DeepCutAuto
set_option maxHeartbeats 6400000
set_option maxRecDepth 100000
namespace Go.Proofs.YtdlchhimkelinaaGreatDoor
open Go.RowKit Go.Sort
/-- A slice: where, how much room, and its items. -/
structure Sl (α : Type) where
 p : Option Addr
 cap : Nat
 l : List α
structure Hp where
 name : ByteArray
 pos : Int
structure Pth where
 name : ByteArray
 pos : Int
 hops : Sl Hp
structure Tm where
 name : ByteArray
 n : Int
 pos : Int
structure Vl where
 kind : Int
 pos : Int
 path : Pth
 type : ByteArray
 left : Tm
 right : Tm
structure Cd where
 kind : Int
 pos : Int
 left : Vl
 right : Vl
/-- A statement but for its lists of statements. -/
structure Hd where
 kind : Int
 pos : Int
 place : Pth
 value : Vl
 cond : Cd
 name : ByteArray
 args : Sl Vl
 both : Bool
/-- Statements: the first one's own, where its Then and its Else lie and what they are, the others. -/
inductive SL where
 | nil : SL
 | cons (h : Hd) (tp : Option Addr) (tc : Nat) (t : SL) (ep : Option Addr) (ec : Nat) (e : SL) (r : SL) : SL
def SL.len : SL → Nat
 | .nil => 0
 | .cons _ _ _ _ _ _ _ r => r.len + 1
structure Dc where
 type : ByteArray
 name : ByteArray
 pos : Int
structure Sr where
 name : ByteArray
 pos : Int
 fields : Sl Dc
structure Pc where
 name : ByteArray
 pos : Int
 fin : Int
 params : Sl Dc
 locals_ : Sl Dc
 bp : Option Addr
 bc : Nat
 body : SL
structure Pg where
 structs : Sl Sr
 globals : Sl Dc
 procs : Sl Pc
def Sl.v {α : Type} (s : Sl α) : Value := .slice s.p s.l.length s.cap
abbrev Hp.cells (h : Hp) : List Value := [.string h.name, .int .i64 h.pos]
abbrev Pth.cells (h : Pth) : List Value := [.string h.name, .int .i64 h.pos, .slice h.hops.p h.hops.l.length h.hops.cap]
abbrev Tm.cells (t : Tm) : List Value := [.string t.name, .int .i64 t.n, .int .i64 t.pos]
abbrev Vl.cells (v : Vl) : List Value :=
 [.int .i64 v.kind, .int .i64 v.pos, .string v.path.name, .int .i64 v.path.pos, .slice v.path.hops.p v.path.hops.l.length v.path.hops.cap, .string v.type,
 .string v.left.name, .int .i64 v.left.n, .int .i64 v.left.pos, .string v.right.name, .int .i64 v.right.n, .int .i64 v.right.pos]
abbrev Cd.cells (c : Cd) : List Value :=
 [.int .i64 c.kind, .int .i64 c.pos,
 .int .i64 c.left.kind, .int .i64 c.left.pos, .string c.left.path.name, .int .i64 c.left.path.pos, .slice c.left.path.hops.p c.left.path.hops.l.length c.left.path.hops.cap, .string c.left.type,
 .string c.left.left.name, .int .i64 c.left.left.n, .int .i64 c.left.left.pos, .string c.left.right.name, .int .i64 c.left.right.n, .int .i64 c.left.right.pos,
 .int .i64 c.right.kind, .int .i64 c.right.pos, .string c.right.path.name, .int .i64 c.right.path.pos, .slice c.right.path.hops.p c.right.path.hops.l.length c.right.path.hops.cap, .string c.right.type,
 .string c.right.left.name, .int .i64 c.right.left.n, .int .i64 c.right.left.pos, .string c.right.right.name, .int .i64 c.right.right.n, .int .i64 c.right.right.pos]
abbrev Dc.cells (d : Dc) : List Value := [.string d.type, .string d.name, .int .i64 d.pos]
abbrev Sr.cells (s : Sr) : List Value := [.string s.name, .int .i64 s.pos, .slice s.fields.p s.fields.l.length s.fields.cap]
abbrev Pc.cells (p : Pc) : List Value := [.string p.name, .int .i64 p.pos, .int .i64 p.fin, .slice p.params.p p.params.l.length p.params.cap, .slice p.locals_.p p.locals_.l.length p.locals_.cap, .slice p.bp p.body.len p.bc]
abbrev Pg.cells (p : Pg) : List Value := [.slice p.structs.p p.structs.l.length p.structs.cap, .slice p.globals.p p.globals.l.length p.globals.cap, .slice p.procs.p p.procs.l.length p.procs.cap]
/-- The 48 cells of a statement. -/
def scells (h : Hd) (tp : Option Addr) (tn tc : Nat) (ep : Option Addr) (en ec : Nat) : List Value :=
 [.int .i64 h.kind, .int .i64 h.pos,
 .string h.place.name, .int .i64 h.place.pos, .slice h.place.hops.p h.place.hops.l.length h.place.hops.cap,
 .int .i64 h.value.kind, .int .i64 h.value.pos, .string h.value.path.name, .int .i64 h.value.path.pos, .slice h.value.path.hops.p h.value.path.hops.l.length h.value.path.hops.cap, .string h.value.type,
 .string h.value.left.name, .int .i64 h.value.left.n, .int .i64 h.value.left.pos, .string h.value.right.name, .int .i64 h.value.right.n, .int .i64 h.value.right.pos,
 .int .i64 h.cond.kind, .int .i64 h.cond.pos,
 .int .i64 h.cond.left.kind, .int .i64 h.cond.left.pos, .string h.cond.left.path.name, .int .i64 h.cond.left.path.pos, .slice h.cond.left.path.hops.p h.cond.left.path.hops.l.length h.cond.left.path.hops.cap, .string h.cond.left.type,
 .string h.cond.left.left.name, .int .i64 h.cond.left.left.n, .int .i64 h.cond.left.left.pos, .string h.cond.left.right.name, .int .i64 h.cond.left.right.n, .int .i64 h.cond.left.right.pos,
 .int .i64 h.cond.right.kind, .int .i64 h.cond.right.pos, .string h.cond.right.path.name, .int .i64 h.cond.right.path.pos, .slice h.cond.right.path.hops.p h.cond.right.path.hops.l.length h.cond.right.path.hops.cap, .string h.cond.right.type,
 .string h.cond.right.left.name, .int .i64 h.cond.right.left.n, .int .i64 h.cond.right.left.pos, .string h.cond.right.right.name, .int .i64 h.cond.right.right.n, .int .i64 h.cond.right.right.pos,
 .string h.name, .slice h.args.p h.args.l.length h.args.cap, .slice tp tn tc, .slice ep en ec, .bool h.both]
/-- A slice lies in memory: its items' cells, one behind the other, and what they lead to. -/
def slLies {α : Type} (w : World) (size bytes : Nat) (cells : α → List Value) (R : α → Prop) (s : Sl α) : Prop :=
 s.l.length * bytes ≤ 140737488351232 ∧ (s.l = [] ∨ ∃ b o, s.p = some ⟨b, o, none⟩ ∧ ∀ k x, s.l[k]? = some x → w.rangeAt b (o + k * size) (cells x) ∧ R x)
def hopsLie (w : World) (s : Sl Hp) : Prop := slLies w 2 24 Hp.cells (fun _ => True) s
def vlLies (w : World) (v : Vl) : Prop := hopsLie w v.path.hops
def argsLie (w : World) (s : Sl Vl) : Prop := slLies w 12 144 Vl.cells (vlLies w) s
def hdLies (w : World) (h : Hd) : Prop :=
 hopsLie w h.place.hops ∧ vlLies w h.value ∧ vlLies w h.cond.left ∧ vlLies w h.cond.right ∧ argsLie w h.args ∧ h.name.size ≤ maxLen
/-- Statements lie in block 'b' from offset 'o' on. -/
def lies (w : World) : SL → Nat → Nat → Prop
 | .nil, _, _ => True
 | .cons h tp tc t ep ec e r, b, o =>
  w.rangeAt b o (scells h tp t.len tc ep e.len ec) ∧ hdLies w h ∧ (t.len * 608 ≤ 140737488351232 ∧ (t = .nil ∨ ∃ b' o', tp = some ⟨b', o', none⟩ ∧ lies w t b' o')) ∧ (e.len * 608 ≤ 140737488351232 ∧ (e = .nil ∨ ∃ b' o', ep = some ⟨b', o', none⟩ ∧ lies w e b' o')) ∧ lies w r b (o + 48)
/-- A slice of statements lies in memory. -/
def sLies (w : World) (p : Option Addr) (l : SL) : Prop := l.len * 608 ≤ 140737488351232 ∧ (l = .nil ∨ ∃ b o, p = some ⟨b, o, none⟩ ∧ lies w l b o)
theorem rangeAt_below {w w' : World} {b o : Nat} {cs : List Value} (h : w.rangeAt b o cs) (hb : Below w.heap.size w w') : w'.rangeAt b o cs := fun j v hv => by
 have := h j v hv
 rw [hb.cell (World.block_lt_of_cell? w _ this)]; exact this
theorem slLies_below {α : Type} {w w' : World} {size bytes : Nat} {cells : α → List Value} {R R' : α → Prop} {s : Sl α} (h : slLies w size bytes cells R s) (hb : Below w.heap.size w w') (hR : ∀ x, R x → R' x) : slLies w' size bytes cells R' s := by
 obtain ⟨hl, h⟩ := h
 refine ⟨hl, ?_⟩
 rcases h with h | ⟨b, o, hp, hx⟩
 ·exact .inl h
 ·exact .inr ⟨b, o, hp, fun k x hk => ⟨rangeAt_below (hx k x hk).1 hb, hR x (hx k x hk).2⟩⟩
theorem hopsLie_below {w w' : World} {s : Sl Hp} (h : hopsLie w s) (hb : Below w.heap.size w w') : hopsLie w' s := slLies_below h hb (fun _ h => h)
theorem vlLies_below {w w' : World} {v : Vl} (h : vlLies w v) (hb : Below w.heap.size w w') : vlLies w' v := hopsLie_below h hb
theorem argsLie_below {w w' : World} {s : Sl Vl} (h : argsLie w s) (hb : Below w.heap.size w w') : argsLie w' s := slLies_below h hb (fun _ h => vlLies_below h hb)
theorem hdLies_below {w w' : World} {h : Hd} (H : hdLies w h) (hb : Below w.heap.size w w') : hdLies w' h :=
 ⟨hopsLie_below H.1 hb, vlLies_below H.2.1 hb, vlLies_below H.2.2.1 hb, vlLies_below H.2.2.2.1 hb, argsLie_below H.2.2.2.2.1 hb, H.2.2.2.2.2⟩
theorem lies_below {w w' : World} (hb : Below w.heap.size w w') : ∀ (l : SL) (b o : Nat), lies w l b o → lies w' l b o
 | .nil, _, _, _ => trivial
 | .cons h tp tc t ep ec e r, b, o, H => by
  obtain ⟨h1, h2, ⟨l3, h3⟩, ⟨l4, h4⟩, h5⟩ := H
  refine ⟨rangeAt_below h1 hb, hdLies_below h2 hb, ⟨l3, ?_⟩, ⟨l4, ?_⟩, lies_below hb r b _ h5⟩
  ·rcases h3 with h | ⟨b', o', hp, h⟩
   ·exact .inl h
   ·exact .inr ⟨b', o', hp, lies_below hb t b' o' h⟩
  ·rcases h4 with h | ⟨b', o', hp, h⟩
   ·exact .inl h
   ·exact .inr ⟨b', o', hp, lies_below hb e b' o' h⟩
theorem sLies_below {w w' : World} {p : Option Addr} {l : SL} (h : sLies w p l) (hb : Below w.heap.size w w') : sLies w' p l := by
 obtain ⟨hl, h⟩ := h
 refine ⟨hl, ?_⟩
 rcases h with h | ⟨b, o, hp, h⟩
 ·exact .inl h
 ·exact .inr ⟨b, o, hp, lies_below hb l b o h⟩
/-- What holds of both lists of each statement of a list. -/
def SL.each (P : SL → Prop) : SL → Prop
 | .nil => True
 | .cons _ _ _ t _ _ e r => P t ∧ P e ∧ r.each P
/-- Lists within lists: what holds of a list as soon as it holds of those within it holds of all. -/
theorem SL.all {P : SL → Prop} (h : ∀ l, l.each P → P l) : ∀ l, P l ∧ l.each P
 | .nil => ⟨h _ trivial, trivial⟩
 | .cons hd tp tc t ep ec e r => by
  have ht := SL.all h t
  have he := SL.all h e
  have hr := SL.all h r
  exact ⟨h _ ⟨ht.1, he.1, hr.2⟩, ht.1, he.1, hr.2⟩
/-- A struct's value goes into the block that was made last. -/
theorem wpList_store_new {P : Program} {ops : Array Oper} {rest : List Oper} {op : Oper} {a : Act} {w : World} {Q : Exit → Act → World → Prop} (hgd : op.guard = none) (ty : TypeId) (x y : Operand) (ho : op.op = .store ty x y)
  (c c' : Array Value) (hx : a.eval x = .pointer (some ⟨w.heap.size, 0, none⟩)) (hy : a.eval y = .agg c') (hi : (P.info? ty).map (·.size) = some c'.size) (hc : c.size = c'.size) (h1 : c'.all (·.oneCell') = true)
  (h : wpList P ops Q rest (a.put op.dst undef) (w.alloc (.cells c' ty))) : wpList P ops Q (op :: rest) a (w.alloc (.cells c ty)) :=
 wpList_plain hgd fun _ hK => by
  unfold Oper.wp execOp
  simp only [ho, hx, hy, Instr.storeAt, Instr.sureAddr, Sem.run_bind, Sem.run_pure, Result.andThen_ok, run_storeVar_new w ty c c' hi hc h1]
  exact hK _ _ h
/-- A struct's value out of the middle of a block, its cells as an array. -/
theorem wpList_load_arr {P : Program} {ops : Array Oper} {rest : List Oper} {op : Oper} {a : Act} {w : World} {Q : Exit → Act → World → Prop} (hgd : op.guard = none) (ty : TypeId) (x : Operand) (ho : op.op = .load ty x)
  (b o : Nat) (hx : a.eval x = .pointer (some ⟨b, o, none⟩)) (cs : Array Value) (d : TypeDesc) (hc : w.rangeAt b o cs.toList)
  (hu : P.underlying ty = some d) (hd : d.isRow = true) (hi : (P.info? ty).map (·.size) = some cs.size)
  (h : wpList P ops Q rest (a.put op.dst (.agg cs)) w) : wpList P ops Q (op :: rest) a w :=
 wpList_load_mid hgd ty x ho b o hx cs.toList d hc hu hd (by simpa using hi) (by simpa using h)
theorem ret_int {k : IntKind} {a b : Int} (h : a = b) : Ending.returned (.int k a) = .returned (.int k b) := by rw [h]
theorem ret_bool {a b : Bool} (h : a = b) : Ending.returned (.bool a) = .returned (.bool b) := by rw [h]
theorem Tryz.own : ownKnob Tryz.prog.godebug = none := by kernel_rfl
theorem size57 : (Tryz.prog.info? 54).map (·.size) = some 48 := by kernel_rfl
theorem size52 : (Tryz.prog.info? 49).map (·.size) = some 12 := by kernel_rfl
def sarr (h : Hd) (tp : Option Addr) (tn tc : Nat) (ep : Option Addr) (en ec : Nat) : Array Value := (scells h tp tn tc ep en ec).toArray
theorem scells_one (h : Hd) (tp : Option Addr) (tn tc : Nat) (ep : Option Addr) (en ec : Nat) : (scells h tp tn tc ep en ec).toArray.all (·.oneCell') = true := by
 simp [scells, Value.oneCell']
end Go.Proofs.YtdlchhimkelinaaGreatDoor
namespace Go.Proofs.YtdlchhimkelinaaGreatDoor
open Go.RowKit Go.Sort
def declsLie (w : World) (s : Sl Dc) : Prop := slLies w 3 40 Dc.cells (fun _ => True) s
def srsLie (w : World) (s : Sl Sr) : Prop := slLies w 3 48 Sr.cells (fun x => declsLie w x.fields) s
def pcLies (w : World) (x : Pc) : Prop := declsLie w x.params ∧ declsLie w x.locals_ ∧ sLies w x.bp x.body
def pcsLie (w : World) (s : Sl Pc) : Prop := slLies w 6 104 Pc.cells (pcLies w) s
def pgLies (w : World) (p : Pg) : Prop := srsLie w p.structs ∧ declsLie w p.globals ∧ pcsLie w p.procs
theorem declsLie_below {w w' : World} {s : Sl Dc} (h : declsLie w s) (hb : Below w.heap.size w w') : declsLie w' s := slLies_below h hb (fun _ h => h)
theorem srsLie_below {w w' : World} {s : Sl Sr} (h : srsLie w s) (hb : Below w.heap.size w w') : srsLie w' s := slLies_below h hb (fun _ h => declsLie_below h hb)
theorem pcLies_below {w w' : World} {x : Pc} (h : pcLies w x) (hb : Below w.heap.size w w') : pcLies w' x := ⟨declsLie_below h.1 hb, declsLie_below h.2.1 hb, sLies_below h.2.2 hb⟩
theorem pcsLie_below {w w' : World} {s : Sl Pc} (h : pcsLie w s) (hb : Below w.heap.size w w') : pcsLie w' s := slLies_below h hb (fun _ h => pcLies_below h hb)
theorem pgLies_below {w w' : World} {p : Pg} (h : pgLies w p) (hb : Below w.heap.size w w') : pgLies w' p := ⟨srsLie_below h.1 hb, declsLie_below h.2.1 hb, pcsLie_below h.2.2 hb⟩
end Go.Proofs.YtdlchhimkelinaaGreatDoor
namespace Go.Proofs.YtdlchhimkelinaaGreatDoor
open Go.RowKit Go.Sort
theorem enters {F : FuncId} {fn : Func} {c : Code} (hf : Tryz.prog.funcs[F]? = some fn) (hname : (fn.name == "runtime.NumGoroutine") = false) (hb : fn.body = some c) : ∀ args w, (callFunc F args).run Tryz.prog w = .ok (.enter F args) w := by
 intro args w
 have h1 : fn.name ≠ "runtime.NumGoroutine" := by simpa using hname
 simp [callFunc, hf, h1, hb, mark]
theorem cell_at {w : World} {b q : Nat} {cs : List Value} (h : w.rangeAt b q cs) (j : Nat) (v : Value) (hv : cs[j]? = some v) : w.cell? ⟨b, q + j, none⟩ = some v := h j v hv
theorem below_drewN_ {B : Nat} {a w : World} (h : Below B a w) (n : Nat) : Below B a (w.drewN n) := ⟨h.os, h.tape, h.output, h.size, h.block⟩
def triv {α : Type} (_ : World) (_ : α) : Prop := True
theorem triv_below {α : Type} {w w' : World} {x : α} (_ : triv w x) (_ : Below w.heap.size w w') : triv w' x := trivial
def srLies (w : World) (x : Sr) : Prop := declsLie w x.fields
theorem srLies_below {w w' : World} {x : Sr} (h : srLies w x) (hb : Below w.heap.size w w') : srLies w' x := declsLie_below h hb
end Go.Proofs.YtdlchhimkelinaaGreatDoor
namespace Go.Proofs.YtdlchhimkelinaaGreatDoor
open Go.RowKit Go.Sort
def sameL {α : Type} (f : α → α → Bool) : List α → List α → Bool
 | [], [] => true
 | a :: l, b :: m => f a b && sameL f l m
 | [], _ :: _ => false
 | _ :: _, [] => false
theorem sameL_len {α : Type} {f : α → α → Bool} : ∀ {l m : List α}, l.length ≠ m.length → sameL f l m = false
 | [], [], h => absurd rfl h
 | a :: l, b :: m, h => by
  simp only [List.length_cons, ne_eq, Nat.add_right_cancel_iff] at h
  rw [sameL, sameL_len h, Bool.and_false]
 | [], _ :: _, _ => rfl
 | _ :: _, [], _ => rfl
theorem sameL_step {α : Type} {f : α → α → Bool} : ∀ {l m : List α} (k : Nat) (h1 : k < l.length) (h2 : k < m.length), sameL f (l.take (k + 1)) (m.take (k + 1)) = (sameL f (l.take k) (m.take k) && f l[k] m[k])
 | a :: l, b :: m, 0, _, _ => by simp [sameL]
 | a :: l, b :: m, k + 1, h1, h2 => by
  simp only [List.length_cons, Nat.add_lt_add_iff_right] at h1 h2
  have := sameL_step (f := f) (l := l) (m := m) k h1 h2
  simp only [List.take_succ_cons, sameL, List.getElem_cons_succ] at this ⊢
  rw [this, Bool.and_assoc]
theorem sameL_refl {α : Type} {f : α → α → Bool} : ∀ (l : List α), (∀ a, a ∈ l → f a a = true) → sameL f l l = true
 | [], _ => rfl
 | a :: l, h => by rw [sameL, h a (by simp), sameL_refl l (fun b hb => h b (by simp [hb]))]; rfl
def sameHp (a b : Hp) : Bool := a.name.toList == b.name.toList
def sameDc (a b : Dc) : Bool := (a.type.toList == b.type.toList) && (a.name.toList == b.name.toList)
def sameTm (a b : Tm) : Bool := (a.name.toList == b.name.toList) && (a.n == b.n)
def samePth (a b : Pth) : Bool := (a.name.toList == b.name.toList) && sameL sameHp a.hops.l b.hops.l
def sameVl (a b : Vl) : Bool := (a.kind == b.kind) && ((a.type.toList == b.type.toList) && (samePth a.path b.path && (sameTm a.left b.left && sameTm a.right b.right)))
def sameCd (a b : Cd) : Bool := (a.kind == b.kind) && (sameVl a.left b.left && sameVl a.right b.right)
def sameSr (a b : Sr) : Bool := (a.name.toList == b.name.toList) && sameL sameDc a.fields.l b.fields.l
/-- A statement's own, but for its lists of statements. -/
def sameHd (a b : Hd) : Bool := (a.kind == b.kind) && ((a.name.toList == b.name.toList) && ((a.both == b.both) && (samePth a.place b.place && (sameVl a.value b.value && (sameCd a.cond b.cond && sameL sameVl a.args.l b.args.l)))))
def sameSL : SL → SL → Bool
 | .nil, .nil => true
 | .cons h _ _ t _ _ e r, .cons h' _ _ t' _ _ e' r' => (sameHd h h' && (sameSL t t' && sameSL e e')) && sameSL r r'
 | .nil, .cons _ _ _ _ _ _ _ _ => false
 | .cons _ _ _ _ _ _ _ _, .nil => false
def samePc (a b : Pc) : Bool := (a.name.toList == b.name.toList) && (sameL sameDc a.params.l b.params.l && (sameL sameDc a.locals_.l b.locals_.l && sameSL a.body b.body))
def samePg (a b : Pg) : Bool := sameL sameSr a.structs.l b.structs.l && (sameL sameDc a.globals.l b.globals.l && sameL samePc a.procs.l b.procs.l)
/-- A statement as one item of a list. -/
structure It where
 h : Hd
 tp : Option Addr
 tc : Nat
 t : SL
 ep : Option Addr
 ec : Nat
 e : SL
def It.cells (x : It) : List Value := scells x.h x.tp x.t.len x.tc x.ep x.e.len x.ec
def SL.items : SL → List It
 | .nil => []
 | .cons h tp tc t ep ec e r => ⟨h, tp, tc, t, ep, ec, e⟩ :: r.items
theorem SL.items_len : ∀ (l : SL), l.items.length = l.len
 | .nil => rfl
 | .cons _ _ _ _ _ _ _ r => by simp only [SL.items, List.length_cons, SL.len, SL.items_len r]
def itLies (w : World) (x : It) : Prop := hdLies w x.h ∧ sLies w x.tp x.t ∧ sLies w x.ep x.e
theorem itLies_below {w w' : World} {x : It} (h : itLies w x) (hb : Below w.heap.size w w') : itLies w' x := ⟨hdLies_below h.1 hb, sLies_below h.2.1 hb, sLies_below h.2.2 hb⟩
theorem lies_items {w : World} {b : Nat} : ∀ (l : SL) (o : Nat), lies w l b o → ∀ k x, l.items[k]? = some x → w.rangeAt b (o + k * 48) x.cells ∧ itLies w x
 | .nil, _, _, k, x, h => by simp [SL.items] at h
 | .cons hd tp tc t ep ec e r, o, ⟨h1, h2, h3, h4, h5⟩, 0, x, h => by
  simp only [SL.items, List.getElem?_cons_zero, Option.some.injEq] at h
  subst h
  exact ⟨by rw [Nat.zero_mul, Nat.add_zero]; exact h1, h2, h3, h4⟩
 | .cons hd tp tc t ep ec e r, o, ⟨h1, h2, h3, h4, h5⟩, k + 1, x, h => by
  simp only [SL.items, List.getElem?_cons_succ] at h
  have := lies_items r (o + 48) h5 k x h
  rwa [show o + 48 + k * 48 = o + (k + 1) * 48 by omega] at this
/-- A list's items lie in memory (its length is modest). -/
def Lay {α : Type} (size : Nat) (cells : α → List Value) (R : World → α → Prop) (w : World) (p : Option Addr) (l : List α) : Prop :=
 l.length ≤ 6000000000000 ∧ (l = [] ∨ ∃ b o, p = some ⟨b, o, none⟩ ∧ ∀ k x, l[k]? = some x → w.rangeAt b (o + k * size) (cells x) ∧ R w x)
theorem Lay.below {α : Type} {size : Nat} {cells : α → List Value} {R : World → α → Prop} {w w' : World} {p : Option Addr} {l : List α} (h : Lay size cells R w p l) (hb : Below w.heap.size w w') (hR : ∀ x, R w x → R w' x) : Lay size cells R w' p l := by
 obtain ⟨h0, h⟩ := h
 refine ⟨h0, ?_⟩
 rcases h with h | ⟨b, o, hp, hx⟩
 ·exact .inl h
 ·exact .inr ⟨b, o, hp, fun k x hk => ⟨rangeAt_below (hx k x hk).1 hb, hR x (hx k x hk).2⟩⟩
theorem Lay.of_sl {α : Type} {size bytes : Nat} {cells : α → List Value} {R : World → α → Prop} {w : World} {s : Sl α} (h : slLies w size bytes cells (R w) s) (hb : 24 ≤ bytes) : Lay size cells R w s.p s.l := by
 obtain ⟨h0, h⟩ := h
 refine ⟨?_, h⟩
 have := Nat.mul_le_mul_left s.l.length hb
 omega
theorem Lay.of_sLies {w : World} {p : Option Addr} {l : SL} (h : sLies w p l) : Lay 48 It.cells itLies w p l.items := by
 obtain ⟨h0, h⟩ := h
 refine ⟨by rw [SL.items_len]; omega, ?_⟩
 rcases h with rfl | ⟨b, o, hp, hl⟩
 ·exact .inl rfl
 ·exact .inr ⟨b, o, hp, lies_items l o hl⟩
def sameIt (x y : It) : Bool := sameHd x.h y.h && (sameSL x.t y.t && sameSL x.e y.e)
theorem sameSL_items : ∀ (l m : SL), sameSL l m = sameL sameIt l.items m.items
 | .nil, .nil => rfl
 | .cons h tp tc t ep ec e r, .cons h' tp' tc' t' ep' ec' e' r' => by
  simp only [sameSL, SL.items, sameL, sameIt]
  rw [sameSL_items r r']
 | .nil, .cons _ _ _ _ _ _ _ _ => rfl
 | .cons _ _ _ _ _ _ _ _, .nil => rfl
/-- What holds of each list within holds of each item's. -/
theorem SL.each_items {P : SL → Prop} : ∀ {l : SL}, l.each P → ∀ x ∈ l.items, P x.t ∧ P x.e
 | .nil, _, x, hx => by simp [SL.items] at hx
 | .cons h tp tc t ep ec e r, ⟨h1, h2, h3⟩, x, hx => by
  simp only [SL.items, List.mem_cons] at hx
  rcases hx with rfl | hx
  ·exact ⟨h1, h2⟩
  ·exact SL.each_items h3 x hx
theorem rangeAt_sub {w : World} {b q : Nat} {cs : List Value} (h : w.rangeAt b q cs) (o n : Nat) {cs' : List Value} (hs : (cs.drop o).take n = cs') : w.rangeAt b (q + o) cs' := fun j v hv => by
 rw [← hs] at hv
 rw [Nat.add_assoc]
 refine h (o + j) v ?_
 rw [List.getElem?_take] at hv
 split at hv
 ·rwa [List.getElem?_drop] at hv
 ·cases hv
def pthLies (w : World) (x : Pth) : Prop := slLies w 2 24 Hp.cells (triv w) x.hops
theorem pthLies_of {w : World} {x : Pth} (h : hopsLie w x.hops) : pthLies w x := h
theorem pthLies_below {w w' : World} {x : Pth} (h : pthLies w x) (hb : Below w.heap.size w w') : pthLies w' x := slLies_below h hb (fun _ h => h)
theorem decls_of {w : World} {s : Sl Dc} (h : declsLie w s) : slLies w 3 40 Dc.cells (triv w) s := h
theorem srs_of {w : World} {s : Sl Sr} (h : srsLie w s) : slLies w 3 48 Sr.cells (srLies w) s := h
end Go.Proofs.YtdlchhimkelinaaGreatDoor
namespace Go.Proofs.YtdlchhimkelinaaGreatDoor
open Go.RowKit Go.Sort
/-! What is left when places and addresses are struck. -/
def Sl.er {α : Type} (f : α → α) (s : Sl α) : Sl α := ⟨none, 0, s.l.map f⟩
def Hp.er (x : Hp) : Hp := ⟨x.name, 0⟩
def Pth.er (x : Pth) : Pth := ⟨x.name, 0, x.hops.er Hp.er⟩
def Tm.er (x : Tm) : Tm := ⟨x.name, x.n, 0⟩
def Vl.er (x : Vl) : Vl := ⟨x.kind, 0, x.path.er, x.type, x.left.er, x.right.er⟩
def Cd.er (x : Cd) : Cd := ⟨x.kind, 0, x.left.er, x.right.er⟩
def Hd.er (x : Hd) : Hd := ⟨x.kind, 0, x.place.er, x.value.er, x.cond.er, x.name, x.args.er Vl.er, x.both⟩
def SL.er : SL → SL
 | .nil => .nil
 | .cons h _ _ t _ _ e r => .cons h.er none 0 t.er none 0 e.er r.er
def Dc.er (x : Dc) : Dc := ⟨x.type, x.name, 0⟩
def Sr.er (x : Sr) : Sr := ⟨x.name, 0, x.fields.er Dc.er⟩
def Pc.er (x : Pc) : Pc := ⟨x.name, 0, 0, x.params.er Dc.er, x.locals_.er Dc.er, none, 0, x.body.er⟩
def Pg.er (x : Pg) : Pg := ⟨x.structs.er Sr.er, x.globals.er Dc.er, x.procs.er Pc.er⟩
theorem sameL_er {α : Type} {f : α → α → Bool} {g : α → α} (h : ∀ a b, f a b = f (g a) (g b)) : ∀ (l m : List α), sameL f l m = sameL f (l.map g) (m.map g)
 | [], [] => rfl
 | a :: l, b :: m => by simp only [sameL, List.map_cons]; rw [h a b, sameL_er h l m]
 | [], _ :: _ => rfl
 | _ :: _, [] => rfl
theorem sameHp_er (a b : Hp) : sameHp a b = sameHp a.er b.er := rfl
theorem sameDc_er (a b : Dc) : sameDc a b = sameDc a.er b.er := rfl
theorem samePth_er (a b : Pth) : samePth a b = samePth a.er b.er := by
 simp only [samePth, Pth.er, Sl.er]; rw [sameL_er sameHp_er]
theorem sameTm_er (a b : Tm) : sameTm a b = sameTm a.er b.er := rfl
theorem sameVl_er (a b : Vl) : sameVl a b = sameVl a.er b.er := by
 simp only [sameVl, Vl.er]; rw [samePth_er, sameTm_er a.left, sameTm_er a.right]
theorem sameCd_er (a b : Cd) : sameCd a b = sameCd a.er b.er := by
 simp only [sameCd, Cd.er]; rw [sameVl_er a.left, sameVl_er a.right]
theorem sameHd_er (a b : Hd) : sameHd a b = sameHd a.er b.er := by
 simp only [sameHd, Hd.er, Sl.er]; rw [samePth_er, sameVl_er a.value, sameCd_er, sameL_er sameVl_er]
theorem sameSL_er : ∀ (a b : SL), sameSL a b = sameSL a.er b.er
 | .nil, .nil => rfl
 | .cons h tp tc t ep ec e r, .cons h' tp' tc' t' ep' ec' e' r' => by
  simp only [sameSL, SL.er]; rw [sameHd_er, sameSL_er t t', sameSL_er e e', sameSL_er r r']
 | .nil, .cons _ _ _ _ _ _ _ _ => rfl
 | .cons _ _ _ _ _ _ _ _, .nil => rfl
theorem sameSr_er (a b : Sr) : sameSr a b = sameSr a.er b.er := by
 simp only [sameSr, Sr.er, Sl.er]; rw [sameL_er sameDc_er]
theorem samePc_er (a b : Pc) : samePc a b = samePc a.er b.er := by
 simp only [samePc, Pc.er, Sl.er]; rw [sameL_er sameDc_er a.params.l, sameL_er sameDc_er a.locals_.l, sameSL_er]
theorem samePg_er (a b : Pg) : samePg a b = samePg a.er b.er := by
 simp only [samePg, Pg.er, Sl.er]; rw [sameL_er sameSr_er, sameL_er sameDc_er, sameL_er samePc_er]
theorem sameHp_refl (a : Hp) : sameHp a a = true := by simp [sameHp]
theorem sameDc_refl (a : Dc) : sameDc a a = true := by simp [sameDc]
theorem samePth_refl (a : Pth) : samePth a a = true := by simp [samePth, sameL_refl _ (fun x _ => sameHp_refl x)]
theorem sameTm_refl (a : Tm) : sameTm a a = true := by simp [sameTm]
theorem sameVl_refl (a : Vl) : sameVl a a = true := by simp [sameVl, samePth_refl, sameTm_refl]
theorem sameCd_refl (a : Cd) : sameCd a a = true := by simp [sameCd, sameVl_refl]
theorem sameHd_refl (a : Hd) : sameHd a a = true := by simp [sameHd, samePth_refl, sameVl_refl, sameCd_refl, sameL_refl _ (fun x _ => sameVl_refl x)]
theorem sameSL_refl : ∀ (a : SL), sameSL a a = true
 | .nil => rfl
 | .cons h tp tc t ep ec e r => by simp only [sameSL]; rw [sameHd_refl, sameSL_refl t, sameSL_refl e, sameSL_refl r]; rfl
theorem sameSr_refl (a : Sr) : sameSr a a = true := by simp [sameSr, sameL_refl _ (fun x _ => sameDc_refl x)]
theorem samePc_refl (a : Pc) : samePc a a = true := by simp [samePc, sameL_refl _ (fun x _ => sameDc_refl x), sameSL_refl]
theorem samePg_refl (a : Pg) : samePg a a = true := by simp [samePg, sameL_refl _ (fun x _ => sameSr_refl x), sameL_refl _ (fun x _ => sameDc_refl x), sameL_refl _ (fun x _ => samePc_refl x)]
/-- What is one but for places and addresses is the same. -/
theorem samePg_of {a b : Pg} (h : a.er = b.er) : samePg a b = true := by rw [samePg_er, h]; exact samePg_refl _
/-! No places. -/
/-- Items make a list of statements. -/
def SL.of : List It → SL
 | [] => .nil
 | x :: l => .cons x.h x.tp x.tc x.t x.ep x.ec x.e (SL.of l)
theorem SL.items_of : ∀ (l : List It), (SL.of l).items = l
 | [] => rfl
 | x :: l => by simp only [SL.of, SL.items, SL.items_of l]
theorem SL.of_items : ∀ (l : SL), SL.of l.items = l
 | .nil => rfl
 | .cons _ _ _ _ _ _ _ r => by simp only [SL.items, SL.of, SL.of_items r]
def It.er (x : It) : It := ⟨x.h.er, none, 0, x.t.er, none, 0, x.e.er⟩
theorem SL.er_items : ∀ (l : SL), l.er.items = l.items.map It.er
 | .nil => rfl
 | .cons _ _ _ _ _ _ _ r => by simp only [SL.er, SL.items, List.map_cons, SL.er_items r, It.er]
theorem SL.er_of (l : List It) : (SL.of l).er = SL.of (l.map It.er) := by
 rw [← SL.of_items (SL.of l).er, SL.er_items, SL.items_of]
/-! Worlds with blocks struck out. -/
/-- The world without the blocks that are struck. -/
def mask (S : Nat → Bool) (w : World) : World := { w with heap := w.heap.mapIdx fun i o => if S i then .cells #[] 0 else o }
/-- What can be read in one world can be read in the other. -/
def Ext (w w' : World) : Prop := ∀ b o v, w.cell? ⟨b, o, none⟩ = some v → w'.cell? ⟨b, o, none⟩ = some v
theorem Ext.refl (w : World) : Ext w w := fun _ _ _ h => h
theorem Ext.trans {a b c : World} (h : Ext a b) (k : Ext b c) : Ext a c := fun _ _ _ x => k _ _ _ (h _ _ _ x)
theorem mask_cell {S : Nat → Bool} {w : World} {b o : Nat} : (mask S w).cell? ⟨b, o, none⟩ = if S b then none else w.cell? ⟨b, o, none⟩ := by
 unfold mask World.cell?
 simp only [Array.getElem?_mapIdx]
 cases hb : w.heap[b]? with
 | none => simp
 | some ob =>
  simp only [Option.map_some]
  by_cases hs : S b = true
  ·simp [hs]
  ·simp [hs]
theorem Ext.mask (S : Nat → Bool) (w : World) : Ext (mask S w) w := fun b o v h => by
 rw [mask_cell] at h
 split at h
 ·cases h
 ·exact h
/-- From one struck world to another. -/
theorem Ext.of_mask {S T : Nat → Bool} {w w' : World} (h : ∀ b, S b = false → b < w.heap.size → T b = false ∧ w'.heap[b]? = w.heap[b]?) : Ext (YtdlchhimkelinaaGreatDoor.mask S w) (YtdlchhimkelinaaGreatDoor.mask T w') := fun b o v hc => by
 rw [mask_cell] at hc ⊢
 split at hc
 ·cases hc
 ·rename_i hs
  have hs' : S b = false := by simpa using hs
  have hlt := World.block_lt_of_cell? w _ hc
  obtain ⟨h1, h2⟩ := h b hs' hlt
  rw [if_neg (by simp [h1])]
  exact (World.cell?_of_block (w := w) h2).trans hc
theorem rangeAt_ext {w w' : World} (h : Ext w w') {b o : Nat} {cs : List Value} (hr : w.rangeAt b o cs) : w'.rangeAt b o cs := fun j v hv => h _ _ _ (hr j v hv)
theorem slLies_ext {α : Type} {w w' : World} {size bytes : Nat} {cells : α → List Value} {R R' : α → Prop} {s : Sl α} (h : Ext w w') (hs : slLies w size bytes cells R s) (hR : ∀ x, R x → R' x) : slLies w' size bytes cells R' s := by
 obtain ⟨hl, hs⟩ := hs
 refine ⟨hl, ?_⟩
 rcases hs with hs | ⟨b, o, hp, hx⟩
 ·exact .inl hs
 ·exact .inr ⟨b, o, hp, fun k x hk => ⟨rangeAt_ext h (hx k x hk).1, hR x (hx k x hk).2⟩⟩
theorem hopsLie_ext {w w' : World} (h : Ext w w') {s : Sl Hp} (hs : hopsLie w s) : hopsLie w' s := slLies_ext h hs (fun _ h => h)
theorem vlLies_ext {w w' : World} (h : Ext w w') {v : Vl} (hs : vlLies w v) : vlLies w' v := hopsLie_ext h hs
theorem argsLie_ext {w w' : World} (h : Ext w w') {s : Sl Vl} (hs : argsLie w s) : argsLie w' s := slLies_ext h hs (fun _ hv => vlLies_ext h hv)
theorem hdLies_ext {w w' : World} (h : Ext w w') {x : Hd} (H : hdLies w x) : hdLies w' x :=
 ⟨hopsLie_ext h H.1, vlLies_ext h H.2.1, vlLies_ext h H.2.2.1, vlLies_ext h H.2.2.2.1, argsLie_ext h H.2.2.2.2.1, H.2.2.2.2.2⟩
theorem lies_ext {w w' : World} (hx : Ext w w') : ∀ (l : SL) (b o : Nat), lies w l b o → lies w' l b o
 | .nil, _, _, _ => trivial
 | .cons h tp tc t ep ec e r, b, o, H => by
  obtain ⟨h1, h2, ⟨l3, h3⟩, ⟨l4, h4⟩, h5⟩ := H
  refine ⟨rangeAt_ext hx h1, hdLies_ext hx h2, ⟨l3, ?_⟩, ⟨l4, ?_⟩, lies_ext hx r b _ h5⟩
  ·rcases h3 with h | ⟨b', o', hp, h⟩
   ·exact .inl h
   ·exact .inr ⟨b', o', hp, lies_ext hx t b' o' h⟩
  ·rcases h4 with h | ⟨b', o', hp, h⟩
   ·exact .inl h
   ·exact .inr ⟨b', o', hp, lies_ext hx e b' o' h⟩
theorem sLies_ext {w w' : World} (hx : Ext w w') {p : Option Addr} {l : SL} (h : sLies w p l) : sLies w' p l := by
 obtain ⟨hl, h⟩ := h
 refine ⟨hl, ?_⟩
 rcases h with h | ⟨b, o, hp, h⟩
 ·exact .inl h
 ·exact .inr ⟨b, o, hp, lies_ext hx l b o h⟩
theorem itLies_ext {w w' : World} (hx : Ext w w') {x : It} (h : itLies w x) : itLies w' x := ⟨hdLies_ext hx h.1, sLies_ext hx h.2.1, sLies_ext hx h.2.2⟩
theorem declsLie_ext {w w' : World} (h : Ext w w') {s : Sl Dc} (hs : declsLie w s) : declsLie w' s := slLies_ext h hs (fun _ h => h)
theorem srsLie_ext {w w' : World} (h : Ext w w') {s : Sl Sr} (hs : srsLie w s) : srsLie w' s := slLies_ext h hs (fun _ hv => declsLie_ext h hv)
theorem pcLies_ext {w w' : World} (h : Ext w w') {x : Pc} (hs : pcLies w x) : pcLies w' x := ⟨declsLie_ext h hs.1, declsLie_ext h hs.2.1, sLies_ext h hs.2.2⟩
theorem pcsLie_ext {w w' : World} (h : Ext w w') {s : Sl Pc} (hs : pcsLie w s) : pcsLie w' s := slLies_ext h hs (fun _ hv => pcLies_ext h hv)
theorem pgLies_ext {w w' : World} (h : Ext w w') {p : Pg} (hs : pgLies w p) : pgLies w' p := ⟨srsLie_ext h hs.1, declsLie_ext h hs.2.1, pcsLie_ext h hs.2.2⟩
/-- The blocks that were there are struck: what lies in the rest is new. -/
def fresh (B : Nat) (w : World) : World := mask (fun b => decide (b < B)) w
theorem fresh_mono {B B' : Nat} (h : B' ≤ B) (w : World) : Ext (fresh B w) (fresh B' w) := Ext.of_mask (fun b hb _ => by
 simp only [decide_eq_false_iff_not] at hb ⊢
 exact ⟨by omega, trivial⟩)
theorem fresh_below {B : Nat} {w w' : World} (h : Below w.heap.size w w') : Ext (fresh B w) (fresh B w') := Ext.of_mask (fun b hb hlt => ⟨hb, h.block b hlt⟩)
end Go.Proofs.YtdlchhimkelinaaGreatDoor
namespace Go.Proofs.YtdlchhimkelinaaGreatDoor
open Go.RowKit Go.Sort
theorem below_drew {B : Nat} {w w' : World} (h : Below B w w') : Below B w w'.drew := below_drewN_ h 1
/-- A block that is the call's own, whole. -/
def Bk (w : World) (g : Nat) (t : TypeId) (cs : Array Value) : Prop := w.heap[g]? = some (.cells cs t (0, 0))
theorem Bk.set_ {w : World} {g : Nat} {t : TypeId} {cs : Array Value} (h : Bk w g t cs) (i : Nat) (u : Value) : Bk (w.setCell ⟨g, i, none⟩ u) g t (cs.setIfInBounds i u) := by
 unfold Bk at h ⊢
 simp [World.setCell, Array.getElem?_modify, h]
theorem Bk.far {w : World} {g : Nat} {t : TypeId} {cs : Array Value} (h : Bk w g t cs) {p : Addr} (hp : g ≠ p.block) (u : Value) : Bk (w.setCell p u) g t cs := (Below.heap_setCell w p u g hp).trans h
theorem Bk.cell {w : World} {g : Nat} {t : TypeId} {cs : Array Value} (h : Bk w g t cs) (i : Nat) : w.cell? ⟨g, i, none⟩ = cs[i]? := cell_of_row w g i cs t (0, 0) h
theorem grownBy_setC (w : World) (a : Addr) (v : Value) : w.grownBy (w.setCell a v) (some a.block) :=
 ⟨rfl, rfl, rfl, by simp [World.setCell], fun i _ hne => Below.heap_setCell w a v i (fun e => hne (by rw [e]))⟩
theorem Bk.frozen {w : World} {g : Nat} {t : TypeId} {cs : Array Value} (h : Bk w g t cs) (i : Nat) : w.frozen? ⟨g, i, none⟩ = false := frozen_of_row w g i cs t h
theorem Bk.below {B : Nat} {w w' : World} {g : Nat} {t : TypeId} {cs : Array Value} (h : Bk w g t cs) (hb : Below B w w') (hg : g < B) : Bk w' g t cs := (hb.block g hg).trans h
end Go.Proofs.YtdlchhimkelinaaGreatDoor
namespace Go.Proofs.YtdlchhimkelinaaGreatDoor
open Go.RowKit Go.Sort
/-- The signs of a text that was read to its end: just the last one is the End, which has no text. -/
structure Good (l : List Tx.Sg) : Prop where
 fin : ∀ k x, l[k]? = some x → (x.kind = 0 ↔ k + 1 = l.length)
 none : ∀ k x, l[k]? = some x → k + 1 = l.length → x.text = ByteArray.empty
 len : l.length ≤ 6000000
/-- The parser in block pb, its signs in block sb. -/
structure PS (w : World) (pb sb cap : Nat) (l : List Tx.Sg) (i : Nat) (o b : Int) : Prop where
 blk : Bk w pb 123 #[.slice (some ⟨sb, 0, Option.none⟩) l.length cap, .int .i64 i, .int .i64 o, .int .i64 b]
 row : ∀ k x, l[k]? = some x → w.rangeAt sb (k * 4) [.int .i64 x.kind, .int .i64 x.pos, .string x.text, .int .i64 x.num]
 ne : sb ≠ pb
 lt : i < l.length
theorem PS.below {w w' : World} {pb sb cap : Nat} {l : List Tx.Sg} {i : Nat} {o b : Int} (h : PS w pb sb cap l i o b) (hb : Below w.heap.size w w') : PS w' pb sb cap l i o b :=
 ⟨h.blk.below hb (Array.getElem?_eq_some_iff.1 h.blk).1, fun k x hx => rangeAt_below (h.row k x hx) hb, h.ne, h.lt⟩
theorem PS.pb_lt {w : World} {pb sb cap : Nat} {l : List Tx.Sg} {i : Nat} {o b : Int} (h : PS w pb sb cap l i o b) : pb < w.heap.size := (Array.getElem?_eq_some_iff.1 h.blk).1
/-- The sign that comes next. -/
theorem PS.sign {w : World} {pb sb cap : Nat} {l : List Tx.Sg} {i : Nat} {o b : Int} (h : PS w pb sb cap l i o b) {x : Tx.Sg} (hx : l[i]? = some x) :
  w.cell? ⟨sb, i * 4, none⟩ = some (.int .i64 x.kind) ∧ w.cell? ⟨sb, i * 4 + 1, none⟩ = some (.int .i64 x.pos) ∧ w.cell? ⟨sb, i * 4 + 2, none⟩ = some (.string x.text) ∧ w.cell? ⟨sb, i * 4 + 3, none⟩ = some (.int .i64 x.num) := by
 have hr := h.row i x hx
 exact ⟨by have := cell_at hr 0 _ rfl; rwa [Nat.add_zero] at this, cell_at hr 1 _ rfl, cell_at hr 2 _ rfl, cell_at hr 3 _ rfl⟩
theorem ahead_any (x : Tx.Sg) {pb sb cap : Nat} {l : List Tx.Sg} {i : Nat} {o b : Int} (w : World) (h : PS w pb sb cap l i o b) (hg : Good l) (hx : l[i]? = some x) :
  Calls Tryz.prog 58 #[.pointer (some ⟨pb, 0, none⟩)] w fun e w' => e = .returned (.agg #[.int .i64 x.kind, .int .i64 x.pos, .string x.text, .int .i64 x.num]) ∧ Below w.heap.size w w' := by
 have hl : l.length ≤ 6000000 := hg.len
 have hi : i < l.length := h.lt
 obtain ⟨wA, hwA⟩ : ∃ wA : World, wA = w.alloc (.cells #[.int .i64 0, .int .i64 0, .string ByteArray.empty, .int .i64 0] 106) := ⟨_, rfl⟩
 have hn : Below w.heap.size w wA := by rw [hwA]; exact (Below.refl _ _).alloc (Nat.le_refl _) _
 have hk : Bk wA w.heap.size 106 #[.int .i64 0, .int .i64 0, .string ByteArray.empty, .int .i64 0] := by rw [hwA]; exact heap_alloc_new _ _
 have hb := (h.below hn).blk
 have p0 : wA.cell? ⟨pb, 0, none⟩ = some (.slice (some ⟨sb, 0, none⟩) l.length cap) := hb.cell 0
 have p1 : wA.cell? ⟨pb, 1, none⟩ = some (.int .i64 i) := hb.cell 1
 obtain ⟨c0, c1, c2, c3⟩ := (h.below hn).sign hx
 have z0 : wA.cell? ⟨w.heap.size, 0, none⟩ = some (.int .i64 0) := hk.cell 0
 have z1 : wA.cell? ⟨w.heap.size, 1, none⟩ = some (.int .i64 0) := hk.cell 1
 have z2 : wA.cell? ⟨w.heap.size, 2, none⟩ = some (.string ByteArray.empty) := hk.cell 2
 have z3 : wA.cell? ⟨w.heap.size, 3, none⟩ = some (.int .i64 0) := hk.cell 3
 have f0 := hk.frozen 0
 have f1 := hk.frozen 1
 have f2 := hk.frozen 2
 have f3 := hk.frozen 3
 have hi0 : (0 : Int) ≤ (i : Int) := Int.natCast_nonneg _
 have hi1 : (i : Int) < (l.length : Int) := by omega
 have HN := hdn hn
 have HK := hdn hk
 clear h hx hg hn hb hk
 go_enter Tryz.func58, Tryz.ntmps58
 go_wp2_with fail
 change Code.wp _ _ _ _ (w.alloc (.cells #[.int .i64 0, .int .i64 0, .string ByteArray.empty, .int .i64 0] 106))
 rw [← hwA]
 clear hwA
 go_region
 go_wp2_with fail
 have hB : Bk ((((wA.setCell ⟨w.heap.size, 0, none⟩ (.int .i64 x.kind)).setCell ⟨w.heap.size, 1, none⟩ (.int .i64 x.pos)).setCell ⟨w.heap.size, 2, none⟩ (.string x.text)).setCell ⟨w.heap.size, 3, none⟩ (.int .i64 x.num)).drew w.heap.size 106 #[.int .i64 x.kind, .int .i64 x.pos, .string x.text, .int .i64 x.num] := ((((HK.out).set_ 0 _).set_ 1 _).set_ 2 _).set_ 3 _
 have hW := below_drew (((((HN.out).setCell (p := ⟨w.heap.size, 0, none⟩) (Nat.le_refl _) (.int .i64 x.kind)).setCell (p := ⟨w.heap.size, 1, none⟩) (Nat.le_refl _) (.int .i64 x.pos)).setCell (p := ⟨w.heap.size, 2, none⟩) (Nat.le_refl _) (.string x.text)).setCell (p := ⟨w.heap.size, 3, none⟩) (Nat.le_refl _) (.int .i64 x.num))
 generalize ((((wA.setCell ⟨w.heap.size, 0, none⟩ (.int .i64 x.kind)).setCell ⟨w.heap.size, 1, none⟩ (.int .i64 x.pos)).setCell ⟨w.heap.size, 2, none⟩ (.string x.text)).setCell ⟨w.heap.size, 3, none⟩ (.int .i64 x.num)).drew = w4 at hB hW ⊢
 have e0 := hB.cell 0
 have e1 := hB.cell 1
 have e2 := hB.cell 2
 have e3 := hB.cell 3
 exact bodyPost_ret (v := .agg #[.int .i64 x.kind, .int .i64 x.pos, .string x.text, .int .i64 x.num]) (by simp [results, Tryz.results58, go_sem, e0, e1, e2, e3]) rfl ⟨rfl, hW⟩
theorem field79_0 (k : Int) (b c d : Value) (w : World) : (Instr.field 106 (.agg #[.int .i64 k, b, c, d]) 0).run Tryz.prog w = .ok (.int .i64 k) w := by kernel_rfl
theorem field79_1 (k : Int) (a c d : Value) (w : World) : (Instr.field 106 (.agg #[a, .int .i64 k, c, d]) 1).run Tryz.prog w = .ok (.int .i64 k) w := by kernel_rfl
theorem field79_2 (s : ByteArray) (a b d : Value) (w : World) : (Instr.field 106 (.agg #[a, b, .string s, d]) 2).run Tryz.prog w = .ok (.string s) w := by kernel_rfl
theorem field79_3 (k : Int) (a b c : Value) (w : World) : (Instr.field 106 (.agg #[a, b, c, .int .i64 k]) 3).run Tryz.prog w = .ok (.int .i64 k) w := by kernel_rfl
attribute [local go_sem] field79_0 field79_1 field79_2 field79_3
theorem stands_any (x : Tx.Sg) (s : ByteArray) {pb sb cap : Nat} {l : List Tx.Sg} {i : Nat} {o b : Int} (w : World) (h : PS w pb sb cap l i o b) (hg : Good l) (hx : l[i]? = some x) :
  Calls Tryz.prog 136 #[.pointer (some ⟨pb, 0, none⟩), .string s] w fun e w' => e = .returned (.bool (x.text.toList == s.toList)) ∧ Below w.heap.size w w' := by
 have HA := hdn (ahead_any x w h hg hx)
 clear h hg hx
 go_enter Tryz.func136, Tryz.ntmps136
 go_wp2_with fail
 refine (HA.out).mono ?_; rintro en w1 ⟨rfl, hb⟩
 have HB := hdn hb
 clear hb
 go_wp2_with fail
 go_ret
 exact ⟨rfl, HB.out⟩
end Go.Proofs.YtdlchhimkelinaaGreatDoor
namespace Go.Proofs.YtdlchhimkelinaaGreatDoor
open Go.RowKit Go.Sort
attribute [local go_sem] field79_0 field79_1 field79_2 field79_3
/-- What the parser panics with. -/
def faultAt (p err : Int) : Ending := .panicked [{ v := .iface 120 (.agg #[.int .i64 p, .int .i64 err]), recovered := false }]
theorem stop_any (x : Tx.Sg) (err : Int) {pb sb cap : Nat} {l : List Tx.Sg} {i : Nat} {o b : Int} (w : World) (h : PS w pb sb cap l i o b) (hg : Good l) (hx : l[i]? = some x) :
  Calls Tryz.prog 59 #[.pointer (some ⟨pb, 0, none⟩), .int .i64 err] w fun e w' => e = faultAt x.pos err ∧ Below w.heap.size w w' := by
 have HA := hdn (ahead_any x w h hg hx)
 clear h hg hx
 go_enter Tryz.func59, Tryz.ntmps59
 go_wp2_with fail
 refine (HA.out).mono ?_; rintro en w1 ⟨rfl, hb⟩
 have HB := hdn hb
 clear hb
 go_wp2
 exact ⟨rfl, rfl, HB.out⟩
theorem Good.more {l : List Tx.Sg} (hg : Good l) {i : Nat} {x : Tx.Sg} (hx : l[i]? = some x) (hk : x.kind ≠ 0) : i + 1 < l.length := by
 have hi := (List.getElem?_eq_some_iff.1 hx).1
 have : ¬ i + 1 = l.length := fun e => hk ((hg.fin i x hx).2 e)
 omega
theorem Good.kind {l : List Tx.Sg} (hg : Good l) {i : Nat} {x : Tx.Sg} {s : ByteArray} (hx : l[i]? = some x) (ht : (x.text.toList == s.toList) = true) (hs : s.toList.length ≠ 0) : x.kind ≠ 0 := fun h0 => by
 have h1 := (hg.fin i x hx).1 h0
 have h2 := hg.none i x hx h1
 rw [h2, beq_iff_eq] at ht
 rw [← ht] at hs
 exact hs (by rw [Lib.toList_data]; rfl)
/-- The parser goes one sign further. -/
theorem PS.step {w : World} {pb sb cap : Nat} {l : List Tx.Sg} {i : Nat} {o b : Int} (h : PS w pb sb cap l i o b) (hi : i + 1 < l.length) : PS (w.setCell ⟨pb, 1, none⟩ (.int .i64 ((i + 1 : Nat) : Int))) pb sb cap l (i + 1) o b :=
 ⟨h.blk.set_ 1 _, fun k x hx j v hv => (World.cell?_setCell_other _ _ _ _ (by intro e; injection e with e; exact h.ne e.symm)).trans (h.row k x hx j v hv), h.ne, hi⟩
theorem PS.far {w w' : World} {pb sb cap g : Nat} {l : List Tx.Sg} {i : Nat} {o b : Int} (h : PS w pb sb cap l i o b) (hb : w.grownBy w' (some g)) (h1 : g ≠ pb) (h2 : g ≠ sb) : PS w' pb sb cap l i o b :=
 ⟨(hb.block pb h.pb_lt (by intro e; injection e with e; exact h1 e.symm)).trans h.blk, fun k x hx j v hv => hb.cell (h.row k x hx j v hv) (by intro e; injection e with e; exact h2 e.symm), h.ne, h.lt⟩
theorem PS.sb_lt {w : World} {pb sb cap : Nat} {l : List Tx.Sg} {i : Nat} {o b : Int} (h : PS w pb sb cap l i o b) : sb < w.heap.size := by
 have hi := h.lt
 have := World.block_lt_of_cell? w _ (h.row i l[i] (List.getElem?_eq_getElem hi) 0 _ rfl)
 exact this
theorem grownBy_tr {a b c : World} {r : Option Nat} (h : a.grownBy b r) (k : b.grownBy c r) : a.grownBy c r :=
 ⟨k.os.trans h.os, k.tape.trans h.tape, k.output.trans h.output, Nat.le_trans h.size k.size, fun i hi hne => (k.block i (Nat.lt_of_lt_of_le hi h.size) hne).trans (h.block i hi hne)⟩
theorem take_any (x : Tx.Sg) {pb sb cap : Nat} {l : List Tx.Sg} {i : Nat} {o b : Int} (w : World) (h : PS w pb sb cap l i o b) (hg : Good l) (hx : l[i]? = some x) (hk : x.kind ≠ 0) :
  Calls Tryz.prog 137 #[.pointer (some ⟨pb, 0, none⟩)] w fun e w' => e = .returned (.agg #[.int .i64 x.kind, .int .i64 x.pos, .string x.text, .int .i64 x.num]) ∧ PS w' pb sb cap l (i + 1) o b ∧ w.grownBy w' (some pb) := by
 have hl : l.length ≤ 6000000 := hg.len
 have hi : i + 1 < l.length := hg.more hx hk
 have hn : Below w.heap.size w (w.alloc (.cells #[.int .i64 0, .int .i64 0, .string ByteArray.empty, .int .i64 0] 106)) := (Below.refl _ _).alloc (Nat.le_refl _) _
 have hk0 : Bk (w.alloc (.cells #[.int .i64 0, .int .i64 0, .string ByteArray.empty, .int .i64 0] 106)) w.heap.size 106 #[.int .i64 0, .int .i64 0, .string ByteArray.empty, .int .i64 0] := heap_alloc_new _ _
 have HP0 := hdn (h.below hn)
 have HA := hdn (ahead_any x _ (h.below hn) hg hx)
 have HN := hdn hn; have HK := hdn hk0
 have HNE : Hid (w.heap.size ≠ pb ∧ w.heap.size ≠ sb) := hdn ⟨fun e => by have := h.pb_lt; omega, fun e => by have := h.sb_lt; omega⟩
 have HZ : Hid ((w.alloc (.cells #[.int .i64 0, .int .i64 0, .string ByteArray.empty, .int .i64 0] 106)).heap.size = w.heap.size + 1) := hdn (by simp)
 have HI := hdn hi
 clear h hg hx hk hn hk0
 go_enter Tryz.func137, Tryz.ntmps137
 go_wp2_with fail
 refine (HA.out).mono ?_; rintro en w1 ⟨rfl, hb⟩
 generalize w.alloc (.cells #[.int .i64 0, .int .i64 0, .string ByteArray.empty, .int .i64 0] 106) = wA at HP0 HA HN HK HZ hb
 have HW1 : Hid (Below w.heap.size w w1) := hdn (HN.out.trans (hb.mono HN.out.size))
 have HK1 := hdn (HK.out.below hb (by rw [HZ.out]; omega))
 have HP1 := hdn (HP0.out.below hb)
 clear hb
 go_upto_region 2 with fail
 have hm : Below w1.heap.size w1 (w1.alloc (.cells #[.int .i64 x.kind, .int .i64 x.pos, .string x.text, .int .i64 x.num] 106)) := (Below.refl _ _).alloc (Nat.le_refl _) _
 have HP2 := hdn (HP1.out.below hm)
 have HKR := hdn (HK1.out.below hm (Array.getElem?_eq_some_iff.1 HK1.out).1)
 have HKT : Hid (Bk (w1.alloc (.cells #[.int .i64 x.kind, .int .i64 x.pos, .string x.text, .int .i64 x.num] 106)) w1.heap.size 106 #[.int .i64 x.kind, .int .i64 x.pos, .string x.text, .int .i64 x.num]) := hdn (heap_alloc_new _ _)
 have HW2 : Hid (Below w.heap.size w (w1.alloc (.cells #[.int .i64 x.kind, .int .i64 x.pos, .string x.text, .int .i64 x.num] 106))) := hdn (HW1.out.trans (hm.mono HW1.out.size))
 have HTP : Hid (w1.heap.size ≠ pb ∧ w1.heap.size ≠ w.heap.size) := hdn ⟨fun e => by have := HP1.out.pb_lt; omega, fun e => by have := (Array.getElem?_eq_some_iff.1 HK1.out).1; omega⟩
 clear hm
 obtain ⟨T, hT⟩ : ∃ T, T = w1.heap.size := ⟨_, rfl⟩
 rw [← hT] at HKT HTP ⊢
 clear hT
 generalize w1.alloc (.cells #[.int .i64 x.kind, .int .i64 x.pos, .string x.text, .int .i64 x.num] 106) = w2 at HP2 HKR HKT HW2 ⊢
 have p1 : w2.cell? ⟨pb, 1, none⟩ = some (.int .i64 i) := HP2.out.blk.cell 1
 have g1 := HP2.out.blk.frozen 1
 go_upto_region 3 with fail
 have hgb := grownBy_setC w2 ⟨pb, 1, none⟩ (.int .i64 ((i + 1 : Nat) : Int))
 have HP3 : Hid (PS (w2.setCell ⟨pb, 1, none⟩ (.int .i64 ((i : Int) + 1))) pb sb cap l (i + 1) o b) := hdn (HP2.out.step HI.out)
 have HG3 : Hid (w.grownBy (w2.setCell ⟨pb, 1, none⟩ (.int .i64 ((i : Int) + 1))) (some pb)) := hdn ⟨hgb.os.trans HW2.out.os, hgb.tape.trans HW2.out.tape, hgb.output.trans HW2.out.output, Nat.le_trans HW2.out.size hgb.size, fun k hk hne => (hgb.block k (Nat.lt_of_lt_of_le hk HW2.out.size) hne).trans (HW2.out.block k hk)⟩
 have HKR3 : Hid (Bk (w2.setCell ⟨pb, 1, none⟩ (.int .i64 ((i : Int) + 1))) w.heap.size 106 #[.int .i64 0, .int .i64 0, .string ByteArray.empty, .int .i64 0]) := hdn (HKR.out.far (p := ⟨pb, 1, none⟩) HNE.out.1 _)
 have HKT3 : Hid (Bk (w2.setCell ⟨pb, 1, none⟩ (.int .i64 ((i : Int) + 1))) T 106 #[.int .i64 x.kind, .int .i64 x.pos, .string x.text, .int .i64 x.num]) := hdn (HKT.out.far (p := ⟨pb, 1, none⟩) HTP.out.1 _)
 clear hgb p1 g1
 generalize w2.setCell ⟨pb, 1, none⟩ (.int .i64 ((i : Int) + 1)) = w3 at HP3 HG3 HKR3 HKT3 ⊢
 have t0 : w3.cell? ⟨T, 0, none⟩ = some (.int .i64 x.kind) := HKT3.out.cell 0
 have t1 : w3.cell? ⟨T, 1, none⟩ = some (.int .i64 x.pos) := HKT3.out.cell 1
 have t2 : w3.cell? ⟨T, 2, none⟩ = some (.string x.text) := HKT3.out.cell 2
 have t3 : w3.cell? ⟨T, 3, none⟩ = some (.int .i64 x.num) := HKT3.out.cell 3
 have r0 : w3.cell? ⟨w.heap.size, 0, none⟩ = some (.int .i64 0) := HKR3.out.cell 0
 have r1 : w3.cell? ⟨w.heap.size, 1, none⟩ = some (.int .i64 0) := HKR3.out.cell 1
 have r2 : w3.cell? ⟨w.heap.size, 2, none⟩ = some (.string ByteArray.empty) := HKR3.out.cell 2
 have r3 : w3.cell? ⟨w.heap.size, 3, none⟩ = some (.int .i64 0) := HKR3.out.cell 3
 have f0 := HKR3.out.frozen 0
 have f1 := HKR3.out.frozen 1
 have f2 := HKR3.out.frozen 2
 have f3 := HKR3.out.frozen 3
 go_wp2_with fail
 clear t0 t1 t2 t3 r0 r1 r2 r3 f0 f1 f2 f3
 have hB : Bk ((((w3.setCell ⟨w.heap.size, 0, none⟩ (.int .i64 x.kind)).setCell ⟨w.heap.size, 1, none⟩ (.int .i64 x.pos)).setCell ⟨w.heap.size, 2, none⟩ (.string x.text)).setCell ⟨w.heap.size, 3, none⟩ (.int .i64 x.num)) w.heap.size 106 #[.int .i64 x.kind, .int .i64 x.pos, .string x.text, .int .i64 x.num] := (((HKR3.out.set_ 0 _).set_ 1 _).set_ 2 _).set_ 3 _
 have hF : w3.grownBy ((((w3.setCell ⟨w.heap.size, 0, none⟩ (.int .i64 x.kind)).setCell ⟨w.heap.size, 1, none⟩ (.int .i64 x.pos)).setCell ⟨w.heap.size, 2, none⟩ (.string x.text)).setCell ⟨w.heap.size, 3, none⟩ (.int .i64 x.num)) (some w.heap.size) := grownBy_tr (grownBy_tr (grownBy_tr (grownBy_setC _ ⟨w.heap.size, 0, none⟩ _) (grownBy_setC _ ⟨w.heap.size, 1, none⟩ _)) (grownBy_setC _ ⟨w.heap.size, 2, none⟩ _)) (grownBy_setC _ ⟨w.heap.size, 3, none⟩ _)
 generalize (((w3.setCell ⟨w.heap.size, 0, none⟩ (.int .i64 x.kind)).setCell ⟨w.heap.size, 1, none⟩ (.int .i64 x.pos)).setCell ⟨w.heap.size, 2, none⟩ (.string x.text)).setCell ⟨w.heap.size, 3, none⟩ (.int .i64 x.num) = w4 at hB hF ⊢
 have e0 := hB.cell 0
 have e1 := hB.cell 1
 have e2 := hB.cell 2
 have e3 := hB.cell 3
 exact bodyPost_ret (v := .agg #[.int .i64 x.kind, .int .i64 x.pos, .string x.text, .int .i64 x.num]) (by simp [results, Tryz.results137, go_sem, e0, e1, e2, e3]) rfl ⟨rfl, HP3.out.far hF HNE.out.1 HNE.out.2, ⟨hF.os.trans HG3.out.os, hF.tape.trans HG3.out.tape, hF.output.trans HG3.out.output, Nat.le_trans HG3.out.size hF.size, fun k hk hne => (hF.block k (Nat.lt_of_lt_of_le hk HG3.out.size) (by intro e; injection e with e; omega)).trans (HG3.out.block k hk hne)⟩⟩
end Go.Proofs.YtdlchhimkelinaaGreatDoor
namespace Go.Proofs.YtdlchhimkelinaaGreatDoor
open Go.RowKit Go.Sort
attribute [local go_sem] field79_0 field79_1 field79_2 field79_3
theorem grownBy_of {a b : World} (h : Below a.heap.size a b) (r : Option Nat) : a.grownBy b r := ⟨h.os, h.tape, h.output, h.size, fun i hi _ => h.block i hi⟩
theorem below_grown {a b c : World} {r : Option Nat} (h : Below a.heap.size a b) (k : b.grownBy c r) : a.grownBy c r := grownBy_tr (grownBy_of h r) k
section
variable {pb sb cap : Nat} {l : List Tx.Sg} {i : Nat} {o b : Int}
theorem may_yes (x : Tx.Sg) (s : ByteArray) (w : World) (h : PS w pb sb cap l i o b) (hg : Good l) (hx : l[i]? = some x) (ht : (x.text.toList == s.toList) = true) (hs : s.toList.length ≠ 0) :
  Calls Tryz.prog 100 #[.pointer (some ⟨pb, 0, none⟩), .string s] w fun e w' => e = .returned (.bool true) ∧ PS w' pb sb cap l (i + 1) o b ∧ w.grownBy w' (some pb) := by
 have HA : Hid (Calls Tryz.prog 136 #[.pointer (some ⟨pb, 0, none⟩), .string s] w fun e w' => e = .returned (.bool true) ∧ Below w.heap.size w w') := hdn ((stands_any x s w h hg hx).mono fun e w' ⟨h1, h2⟩ => ⟨by rw [h1, ht], h2⟩)
 have HT : Hid (∀ w', Below w.heap.size w w' → Calls Tryz.prog 137 #[.pointer (some ⟨pb, 0, none⟩)] w' fun e w'' => e = .returned (.agg #[.int .i64 x.kind, .int .i64 x.pos, .string x.text, .int .i64 x.num]) ∧ PS w'' pb sb cap l (i + 1) o b ∧ w'.grownBy w'' (some pb)) := hdn (fun w' hb => take_any x w' (h.below hb) hg hx (hg.kind hx ht hs))
 clear h hg hx ht hs
 go_enter Tryz.func100, Tryz.ntmps100
 go_wp2_with fail
 refine (HA.out).mono ?_; rintro en w1 ⟨rfl, hb⟩
 have HB := hdn hb
 clear hb
 go_wp2_with fail
 refine (HT.out w1 HB.out).mono ?_; rintro en w2 ⟨rfl, h2, h3⟩
 have H2 := hdn h2; have H3 := hdn h3
 clear h2 h3
 go_wp2_with fail
 go_ret
 exact ⟨rfl, H2.out, below_grown HB.out H3.out⟩
theorem may_no (x : Tx.Sg) (s : ByteArray) (w : World) (h : PS w pb sb cap l i o b) (hg : Good l) (hx : l[i]? = some x) (ht : (x.text.toList == s.toList) = false) :
  Calls Tryz.prog 100 #[.pointer (some ⟨pb, 0, none⟩), .string s] w fun e w' => e = .returned (.bool false) ∧ Below w.heap.size w w' := by
 have HA : Hid (Calls Tryz.prog 136 #[.pointer (some ⟨pb, 0, none⟩), .string s] w fun e w' => e = .returned (.bool false) ∧ Below w.heap.size w w') := hdn ((stands_any x s w h hg hx).mono fun e w' ⟨h1, h2⟩ => ⟨by rw [h1, ht], h2⟩)
 clear h hg hx ht
 go_enter Tryz.func100, Tryz.ntmps100
 go_wp2_with fail
 refine (HA.out).mono ?_; rintro en w1 ⟨rfl, hb⟩
 have HB := hdn hb
 clear hb
 go_wp2_with fail
 go_ret
 exact ⟨rfl, HB.out⟩
/-- The end of a call that hands back a sign through a result of its own. -/
theorem sign_result {w2 : World} {x : Tx.Sg} {R : Nat} (hk : Bk w2 R 106 #[.int .i64 0, .int .i64 0, .string ByteArray.empty, .int .i64 0]) :
  Bk ((((w2.setCell ⟨R, 0, none⟩ (.int .i64 x.kind)).setCell ⟨R, 1, none⟩ (.int .i64 x.pos)).setCell ⟨R, 2, none⟩ (.string x.text)).setCell ⟨R, 3, none⟩ (.int .i64 x.num)) R 106 #[.int .i64 x.kind, .int .i64 x.pos, .string x.text, .int .i64 x.num] ∧
  w2.grownBy ((((w2.setCell ⟨R, 0, none⟩ (.int .i64 x.kind)).setCell ⟨R, 1, none⟩ (.int .i64 x.pos)).setCell ⟨R, 2, none⟩ (.string x.text)).setCell ⟨R, 3, none⟩ (.int .i64 x.num)) (some R) :=
 ⟨(((hk.set_ 0 _).set_ 1 _).set_ 2 _).set_ 3 _, grownBy_tr (grownBy_tr (grownBy_tr (grownBy_setC _ ⟨R, 0, none⟩ _) (grownBy_setC _ ⟨R, 1, none⟩ _)) (grownBy_setC _ ⟨R, 2, none⟩ _)) (grownBy_setC _ ⟨R, 3, none⟩ _)⟩
theorem grownBy_own {w wA w2 w4 : World} {pb : Nat} (h1 : Below w.heap.size w wA) (h2 : wA.grownBy w2 (some pb)) (h3 : w2.grownBy w4 (some w.heap.size)) : w.grownBy w4 (some pb) :=
 ⟨h3.os.trans (h2.os.trans h1.os), h3.tape.trans (h2.tape.trans h1.tape), h3.output.trans (h2.output.trans h1.output), Nat.le_trans h1.size (Nat.le_trans h2.size h3.size), fun k hk hne =>
  (h3.block k (Nat.lt_of_lt_of_le hk (Nat.le_trans h1.size h2.size)) (by intro e; injection e with e; omega)).trans ((h2.block k (Nat.lt_of_lt_of_le hk h1.size) hne).trans (h1.block k hk))⟩
theorem must_yes (x : Tx.Sg) (s : ByteArray) (w : World) (h : PS w pb sb cap l i o b) (hg : Good l) (hx : l[i]? = some x) (ht : (x.text.toList == s.toList) = true) (hs : s.toList.length ≠ 0) :
  Calls Tryz.prog 98 #[.pointer (some ⟨pb, 0, none⟩), .string s] w fun e w' => e = .returned (.agg #[.int .i64 x.kind, .int .i64 x.pos, .string x.text, .int .i64 x.num]) ∧ PS w' pb sb cap l (i + 1) o b ∧ w.grownBy w' (some pb) := by
 have hn : Below w.heap.size w (w.alloc (.cells #[.int .i64 0, .int .i64 0, .string ByteArray.empty, .int .i64 0] 106)) := (Below.refl _ _).alloc (Nat.le_refl _) _
 have HK : Hid (Bk (w.alloc (.cells #[.int .i64 0, .int .i64 0, .string ByteArray.empty, .int .i64 0] 106)) w.heap.size 106 #[.int .i64 0, .int .i64 0, .string ByteArray.empty, .int .i64 0]) := hdn (heap_alloc_new _ _)
 have HZ : Hid ((w.alloc (.cells #[.int .i64 0, .int .i64 0, .string ByteArray.empty, .int .i64 0] 106)).heap.size = w.heap.size + 1) := hdn (by simp)
 have HNE : Hid (w.heap.size ≠ pb ∧ w.heap.size ≠ sb) := hdn ⟨fun e => by have := h.pb_lt; omega, fun e => by have := h.sb_lt; omega⟩
 have HN := hdn hn
 have hp := h.below hn
 generalize hwA : w.alloc (.cells #[.int .i64 0, .int .i64 0, .string ByteArray.empty, .int .i64 0] 106) = wA at HK HZ HN hp
 have HA : Hid (Calls Tryz.prog 136 #[.pointer (some ⟨pb, 0, none⟩), .string s] wA fun e w' => e = .returned (.bool true) ∧ Below wA.heap.size wA w') := hdn ((stands_any x s wA hp hg hx).mono fun e w' ⟨h1, h2⟩ => ⟨by rw [h1, ht], h2⟩)
 have HT : Hid (∀ w', Below wA.heap.size wA w' → Calls Tryz.prog 137 #[.pointer (some ⟨pb, 0, none⟩)] w' fun e w'' => e = .returned (.agg #[.int .i64 x.kind, .int .i64 x.pos, .string x.text, .int .i64 x.num]) ∧ PS w'' pb sb cap l (i + 1) o b ∧ w'.grownBy w'' (some pb)) := hdn (fun w' hb => take_any x w' (hp.below hb) hg hx (hg.kind hx ht hs))
 clear h hg hx ht hs hp hn
 go_enter Tryz.func98, Tryz.ntmps98
 go_wp2_with fail
 rw [show w.alloc (.cells #[.int .i64 0, .int .i64 0, .string ⟨#[]⟩, .int .i64 0] 106) = wA from hwA]
 clear hwA
 refine (HA.out).mono ?_; rintro en w1 ⟨rfl, hb⟩
 have HB := hdn hb
 clear hb
 go_wp2_with fail
 refine (HT.out w1 HB.out).mono ?_; rintro en w2 ⟨rfl, h2, h3⟩
 have H2 := hdn h2; have H3 := hdn (below_grown HB.out h3)
 have HK2 : Hid (Bk w2 w.heap.size 106 #[.int .i64 0, .int .i64 0, .string ByteArray.empty, .int .i64 0]) := hdn ((H3.out.block _ (by rw [HZ.out]; omega) (by intro e; injection e with e; exact HNE.out.1 e)).trans HK.out)
 clear h2 h3
 have r0 : w2.cell? ⟨w.heap.size, 0, none⟩ = some (.int .i64 0) := HK2.out.cell 0
 have r1 : w2.cell? ⟨w.heap.size, 1, none⟩ = some (.int .i64 0) := HK2.out.cell 1
 have r2 : w2.cell? ⟨w.heap.size, 2, none⟩ = some (.string ByteArray.empty) := HK2.out.cell 2
 have r3 : w2.cell? ⟨w.heap.size, 3, none⟩ = some (.int .i64 0) := HK2.out.cell 3
 have f0 := HK2.out.frozen 0
 have f1 := HK2.out.frozen 1
 have f2 := HK2.out.frozen 2
 have f3 := HK2.out.frozen 3
 go_wp2_with fail
 clear r0 r1 r2 r3 f0 f1 f2 f3
 obtain ⟨hB, hF⟩ := sign_result (x := x) HK2.out
 generalize (((w2.setCell ⟨w.heap.size, 0, none⟩ (.int .i64 x.kind)).setCell ⟨w.heap.size, 1, none⟩ (.int .i64 x.pos)).setCell ⟨w.heap.size, 2, none⟩ (.string x.text)).setCell ⟨w.heap.size, 3, none⟩ (.int .i64 x.num) = w4 at hB hF ⊢
 have e0 := hB.cell 0
 have e1 := hB.cell 1
 have e2 := hB.cell 2
 have e3 := hB.cell 3
 exact bodyPost_ret (v := .agg #[.int .i64 x.kind, .int .i64 x.pos, .string x.text, .int .i64 x.num]) (by simp [results, Tryz.results98, go_sem, e0, e1, e2, e3]) rfl ⟨rfl, H2.out.far hF HNE.out.1 HNE.out.2, grownBy_own HN.out H3.out hF⟩
theorem name_yes (x : Tx.Sg) (w : World) (h : PS w pb sb cap l i o b) (hg : Good l) (hx : l[i]? = some x) (ht : x.kind = 1) :
  Calls Tryz.prog 99 #[.pointer (some ⟨pb, 0, none⟩)] w fun e w' => e = .returned (.agg #[.int .i64 x.kind, .int .i64 x.pos, .string x.text, .int .i64 x.num]) ∧ PS w' pb sb cap l (i + 1) o b ∧ w.grownBy w' (some pb) := by
 have hn : Below w.heap.size w (w.alloc (.cells #[.int .i64 0, .int .i64 0, .string ByteArray.empty, .int .i64 0] 106)) := (Below.refl _ _).alloc (Nat.le_refl _) _
 have HK : Hid (Bk (w.alloc (.cells #[.int .i64 0, .int .i64 0, .string ByteArray.empty, .int .i64 0] 106)) w.heap.size 106 #[.int .i64 0, .int .i64 0, .string ByteArray.empty, .int .i64 0]) := hdn (heap_alloc_new _ _)
 have HZ : Hid ((w.alloc (.cells #[.int .i64 0, .int .i64 0, .string ByteArray.empty, .int .i64 0] 106)).heap.size = w.heap.size + 1) := hdn (by simp)
 have HNE : Hid (w.heap.size ≠ pb ∧ w.heap.size ≠ sb) := hdn ⟨fun e => by have := h.pb_lt; omega, fun e => by have := h.sb_lt; omega⟩
 have HN := hdn hn
 have hp := h.below hn
 generalize hwA : w.alloc (.cells #[.int .i64 0, .int .i64 0, .string ByteArray.empty, .int .i64 0] 106) = wA at HK HZ HN hp
 have HA : Hid (Calls Tryz.prog 58 #[.pointer (some ⟨pb, 0, none⟩)] wA fun e w' => e = .returned (.agg #[.int .i64 1, .int .i64 x.pos, .string x.text, .int .i64 x.num]) ∧ Below wA.heap.size wA w') := hdn ((ahead_any x wA hp hg hx).mono fun e w' ⟨h1, h2⟩ => ⟨by rw [h1, ht], h2⟩)
 have HT : Hid (∀ w', Below wA.heap.size wA w' → Calls Tryz.prog 137 #[.pointer (some ⟨pb, 0, none⟩)] w' fun e w'' => e = .returned (.agg #[.int .i64 x.kind, .int .i64 x.pos, .string x.text, .int .i64 x.num]) ∧ PS w'' pb sb cap l (i + 1) o b ∧ w'.grownBy w'' (some pb)) := hdn (fun w' hb => take_any x w' (hp.below hb) hg hx (by rw [ht]; decide))
 clear h hg hx ht hp hn
 go_enter Tryz.func99, Tryz.ntmps99
 go_wp2_with fail
 rw [show w.alloc (.cells #[.int .i64 0, .int .i64 0, .string ⟨#[]⟩, .int .i64 0] 106) = wA from hwA]
 clear hwA
 refine (HA.out).mono ?_; rintro en w1 ⟨rfl, hb⟩
 have HB := hdn hb
 clear hb
 go_wp2_with fail
 refine (HT.out w1 HB.out).mono ?_; rintro en w2 ⟨rfl, h2, h3⟩
 have H2 := hdn h2; have H3 := hdn (below_grown HB.out h3)
 have HK2 : Hid (Bk w2 w.heap.size 106 #[.int .i64 0, .int .i64 0, .string ByteArray.empty, .int .i64 0]) := hdn ((H3.out.block _ (by rw [HZ.out]; omega) (by intro e; injection e with e; exact HNE.out.1 e)).trans HK.out)
 clear h2 h3
 have r0 : w2.cell? ⟨w.heap.size, 0, none⟩ = some (.int .i64 0) := HK2.out.cell 0
 have r1 : w2.cell? ⟨w.heap.size, 1, none⟩ = some (.int .i64 0) := HK2.out.cell 1
 have r2 : w2.cell? ⟨w.heap.size, 2, none⟩ = some (.string ByteArray.empty) := HK2.out.cell 2
 have r3 : w2.cell? ⟨w.heap.size, 3, none⟩ = some (.int .i64 0) := HK2.out.cell 3
 have f0 := HK2.out.frozen 0
 have f1 := HK2.out.frozen 1
 have f2 := HK2.out.frozen 2
 have f3 := HK2.out.frozen 3
 go_wp2_with fail
 clear r0 r1 r2 r3 f0 f1 f2 f3
 obtain ⟨hB, hF⟩ := sign_result (x := x) HK2.out
 generalize (((w2.setCell ⟨w.heap.size, 0, none⟩ (.int .i64 x.kind)).setCell ⟨w.heap.size, 1, none⟩ (.int .i64 x.pos)).setCell ⟨w.heap.size, 2, none⟩ (.string x.text)).setCell ⟨w.heap.size, 3, none⟩ (.int .i64 x.num) = w4 at hB hF ⊢
 have e0 := hB.cell 0
 have e1 := hB.cell 1
 have e2 := hB.cell 2
 have e3 := hB.cell 3
 exact bodyPost_ret (v := .agg #[.int .i64 x.kind, .int .i64 x.pos, .string x.text, .int .i64 x.num]) (by simp [results, Tryz.results99, go_sem, e0, e1, e2, e3]) rfl ⟨rfl, H2.out.far hF HNE.out.1 HNE.out.2, grownBy_own HN.out H3.out hF⟩
theorem must_no (x : Tx.Sg) (s : ByteArray) (w : World) (h : PS w pb sb cap l i o b) (hg : Good l) (hx : l[i]? = some x) (ht : (x.text.toList == s.toList) = false) :
  Calls Tryz.prog 98 #[.pointer (some ⟨pb, 0, none⟩), .string s] w fun e w' => e = faultAt x.pos 5 ∧ Below w.heap.size w w' := by
 have hn : Below w.heap.size w (w.alloc (.cells #[.int .i64 0, .int .i64 0, .string ByteArray.empty, .int .i64 0] 106)) := (Below.refl _ _).alloc (Nat.le_refl _) _
 have hp := h.below hn
 have HA : Hid (Calls Tryz.prog 136 #[.pointer (some ⟨pb, 0, none⟩), .string s] (w.alloc (.cells #[.int .i64 0, .int .i64 0, .string ByteArray.empty, .int .i64 0] 106)) fun e w' => e = .returned (.bool false) ∧ Below (w.alloc (.cells #[.int .i64 0, .int .i64 0, .string ByteArray.empty, .int .i64 0] 106)).heap.size (w.alloc (.cells #[.int .i64 0, .int .i64 0, .string ByteArray.empty, .int .i64 0] 106)) w') := hdn ((stands_any x s _ hp hg hx).mono fun e w' ⟨h1, h2⟩ => ⟨by rw [h1, ht], h2⟩)
 have HT : Hid (∀ w', Below (w.alloc (.cells #[.int .i64 0, .int .i64 0, .string ByteArray.empty, .int .i64 0] 106)).heap.size (w.alloc (.cells #[.int .i64 0, .int .i64 0, .string ByteArray.empty, .int .i64 0] 106)) w' → Calls Tryz.prog 59 #[.pointer (some ⟨pb, 0, none⟩), .int .i64 5] w' fun e w'' => e = faultAt x.pos 5 ∧ Below w'.heap.size w' w'') := hdn (fun w' hb => stop_any x 5 w' (hp.below hb) hg hx)
 have HN := hdn hn
 clear h hg hx ht hp hn
 go_enter Tryz.func98, Tryz.ntmps98
 go_wp2_with fail
 refine (HA.out).mono ?_; rintro en w1 ⟨rfl, hb⟩
 have HB := hdn hb
 clear hb
 go_wp2_with fail
 refine (HT.out w1 HB.out).mono ?_; rintro en w2 ⟨rfl, h2⟩
 exact ⟨rfl, rfl, HN.out.trans ((HB.out.trans (h2.mono HB.out.size)).mono HN.out.size)⟩
theorem name_no (x : Tx.Sg) (w : World) (h : PS w pb sb cap l i o b) (hg : Good l) (hx : l[i]? = some x) (ht : x.kind ≠ 1) :
  Calls Tryz.prog 99 #[.pointer (some ⟨pb, 0, none⟩)] w fun e w' => e = faultAt x.pos 5 ∧ Below w.heap.size w w' := by
 have hn : Below w.heap.size w (w.alloc (.cells #[.int .i64 0, .int .i64 0, .string ByteArray.empty, .int .i64 0] 106)) := (Below.refl _ _).alloc (Nat.le_refl _) _
 have hp := h.below hn
 have HA : Hid (Calls Tryz.prog 58 #[.pointer (some ⟨pb, 0, none⟩)] (w.alloc (.cells #[.int .i64 0, .int .i64 0, .string ByteArray.empty, .int .i64 0] 106)) fun e w' => e = .returned (.agg #[.int .i64 x.kind, .int .i64 x.pos, .string x.text, .int .i64 x.num]) ∧ Below (w.alloc (.cells #[.int .i64 0, .int .i64 0, .string ByteArray.empty, .int .i64 0] 106)).heap.size (w.alloc (.cells #[.int .i64 0, .int .i64 0, .string ByteArray.empty, .int .i64 0] 106)) w') := hdn (ahead_any x _ hp hg hx)
 have HT : Hid (∀ w', Below (w.alloc (.cells #[.int .i64 0, .int .i64 0, .string ByteArray.empty, .int .i64 0] 106)).heap.size (w.alloc (.cells #[.int .i64 0, .int .i64 0, .string ByteArray.empty, .int .i64 0] 106)) w' → Calls Tryz.prog 59 #[.pointer (some ⟨pb, 0, none⟩), .int .i64 5] w' fun e w'' => e = faultAt x.pos 5 ∧ Below w'.heap.size w' w'') := hdn (fun w' hb => stop_any x 5 w' (hp.below hb) hg hx)
 have HN := hdn hn
 have hq : (x.kind != 1) = true := by simpa using ht
 clear h hg hx ht hp hn
 go_enter Tryz.func99, Tryz.ntmps99
 go_wp2_with fail
 refine (HA.out).mono ?_; rintro en w1 ⟨rfl, hb⟩
 have HB := hdn hb
 clear hb
 go_wp2_with fail
 refine (HT.out w1 HB.out).mono ?_; rintro en w2 ⟨rfl, h2⟩
 exact ⟨rfl, rfl, HN.out.trans ((HB.out.trans (h2.mono HB.out.size)).mono HN.out.size)⟩
theorem behind_any (y : Tx.Sg) (w : World) (h : PS w pb sb cap l i o b) (hg : Good l) (hy : l[i + 1]? = some y) :
  Calls Tryz.prog 138 #[.pointer (some ⟨pb, 0, none⟩)] w fun e w' => e = .returned (.string y.text) ∧ Below w.heap.size w w' := by
 have hl : l.length ≤ 6000000 := hg.len
 have hi : i + 1 < l.length := (List.getElem?_eq_some_iff.1 hy).1
 have p0 : w.cell? ⟨pb, 0, none⟩ = some (.slice (some ⟨sb, 0, none⟩) l.length cap) := h.blk.cell 0
 have p1 : w.cell? ⟨pb, 1, none⟩ = some (.int .i64 i) := h.blk.cell 1
 have hr := h.row (i + 1) y hy
 have c2 := cell_at hr 2 _ rfl
 have hi0 : (0 : Int) ≤ (i : Int) + 1 := by omega
 have hi1 : (i : Int) + 1 < (l.length : Int) := by omega
 have hi2 : ((i : Int) + 1).toNat = i + 1 := by omega
 clear h hg hy hr
 go_enter Tryz.func138, Tryz.ntmps138
 go_wp2_with fail
 go_quiet (fail)
 go_wp2_with fail
 go_ret
 exact ⟨rfl, below_drewN_ (Below.refl _ _) _⟩
end
end Go.Proofs.YtdlchhimkelinaaGreatDoor
namespace Go.Proofs.YtdlchhimkelinaaGreatDoor
open Go.RowKit Go.Sort
namespace Pr
/-- A sign without its place. -/
structure Tk where
 kind : Int
 text : ByteArray
 num : Int
def tk (x : Tx.Sg) : Tk := ⟨x.kind, x.text, x.num⟩
/-- How far the parser is: the sign that comes next, the braces open, the statements begun. -/
structure St where
 i : Nat
 o : Int
 b : Int
def St.go (u : St) : St := ⟨u.i + 1, u.o, u.b⟩
/-- What a part of the parser makes: an error's number and the sign's, or something and how far it is. -/
abbrev Res (α : Type) := Except (Int × Nat) (α × St)
/-- One after the other, as long as nothing is wrong. -/
def th {α β : Type} (r : Res α) (f : α → St → Res β) : Res β :=
 match r with
 | .error e => .error e
 | .ok (x, u) => f x u
def noTm : Tm := ⟨ByteArray.empty, 0, 0⟩
def noPth : Pth := ⟨ByteArray.empty, 0, ⟨none, 0, []⟩⟩
def noVl : Vl := ⟨0, 0, noPth, ByteArray.empty, noTm, noTm⟩
def noCd : Cd := ⟨0, 0, noVl, noVl⟩
def noHd : Hd := ⟨0, 0, noPth, noVl, noCd, ByteArray.empty, ⟨none, 0, []⟩, false⟩
section
variable (t : List Tk)
def sg (i : Nat) : Tk := t.getD i ⟨0, ByteArray.empty, 0⟩
def is (i : Nat) (s : ByteArray) : Bool := (sg t i).text.toList == s.toList
def must (s : ByteArray) (u : St) : Res Tk := if is t u.i s then .ok (sg t u.i, u.go) else .error (5, u.i)
def name (u : St) : Res Tk := if (sg t u.i).kind = 1 then .ok (sg t u.i, u.go) else .error (5, u.i)
def hops : Nat → List Hp → St → Res (List Hp)
 | 0, acc, u => if is t u.i ⟨#[45, 62]⟩ then .error (11, u.i) else .ok (acc, u)
 | n + 1, acc, u => if is t u.i ⟨#[45, 62]⟩ then (th (name t u.go) fun x u => hops n (acc ++ [⟨x.text, 0⟩]) u) else .ok (acc, u)
def path (u : St) : Res Pth :=
 th (name t u) fun x u =>
 th (hops t 8 [] u) fun l u =>
 .ok (⟨x.text, 0, ⟨none, 0, l⟩⟩, u)
def term (u : St) : Res Tm :=
 if (sg t u.i).kind = 2 then .ok (⟨ByteArray.empty, (sg t u.i).num, 0⟩, u.go)
 else
  th (name t u) fun x u =>
  .ok (⟨x.text, 0, 0⟩, u)
def side (u : St) : Res Vl :=
 if is t u.i ⟨#[110, 117, 108, 108]⟩ then .ok (noVl, u.go)
 else if (sg t u.i).kind = 2 then
  th (term t u) fun x u =>
  .ok ({ noVl with kind := 4, left := x }, u)
 else
  th (path t u) fun x u =>
  .ok ({ noVl with kind := 1, path := x }, u)
def sums (u : St) : Bool := ((sg t u.i).kind == 1 || (sg t u.i).kind == 2) && (is t (u.i + 1) ⟨#[43]⟩ || is t (u.i + 1) ⟨#[45]⟩)
def sum (u : St) : Res Vl :=
 th (term t u) fun x u =>
 th (term t u.go) fun y v =>
 .ok ({ noVl with kind := if is t u.i ⟨#[45]⟩ then 6 else 5, left := x, right := y }, v)
def value (u : St) : Res Vl :=
 if is t u.i ⟨#[110, 101, 119]⟩ then
  th (name t u.go) fun x u =>
  .ok ({ noVl with kind := 2, type := x.text }, u)
 else if is t u.i ⟨#[105, 110, 112, 117, 116]⟩ then .ok ({ noVl with kind := 3 }, u.go)
 else if sums t u then sum t u else side t u
def relation (u : St) : Res Int :=
 if is t u.i ⟨#[61, 61]⟩ then .ok (1, u.go)
 else if is t u.i ⟨#[33, 61]⟩ then .ok (2, u.go)
 else if is t u.i ⟨#[60]⟩ then .ok (3, u.go)
 else
  th (must t ⟨#[62, 61]⟩ u) fun _ u =>
  .ok (4, u)
def cond (u : St) : Res Cd :=
 if is t u.i ⟨#[63]⟩ then .ok (noCd, u.go)
 else
  th (side t u) fun x u =>
  th (relation t u) fun k u =>
  th (side t u) fun y u =>
  .ok (⟨k, 0, x, y⟩, u)
def held (u : St) : Res Cd :=
 th (must t ⟨#[40]⟩ u) fun _ u =>
 th (cond t u) fun c u =>
 th (must t ⟨#[41]⟩ u) fun _ u =>
 .ok (c, u)
/-- The items behind the first one, up to the closing parenthesis. -/
def more {α : Type} (item : St → Res α) : Nat → List α → St → Res (List α)
 | 0, _, _ => .error (0, 0)
 | n + 1, acc, u =>
  if is t u.i ⟨#[44]⟩ then (th (item u.go) fun x u => more item n (acc ++ [x]) u)
  else
   th (must t ⟨#[41]⟩ u) fun _ u =>
   .ok (acc, u)
def listed {α : Type} (item : St → Res α) (u : St) : Res (List α) :=
 th (must t ⟨#[40]⟩ u) fun _ u =>
 if is t u.i ⟨#[41]⟩ then .ok ([], u.go)
 else
  th (item u) fun x u =>
  more t item (t.length + 1) [x] u
def pointer (u : St) : Res Dc :=
 th (name t u) fun x u =>
 th (must t ⟨#[42]⟩ u) fun _ u =>
 th (name t u) fun y u =>
 .ok (⟨x.text, y.text, 0⟩, u)
def variable_ (u : St) : Res Dc :=
 if is t u.i ⟨#[105, 110, 116]⟩ then
  th (name t u.go) fun x u =>
  .ok (⟨ByteArray.empty, x.text, 0⟩, u)
 else pointer t u
def decl (u : St) : Res Dc :=
 th (variable_ t u) fun d u =>
 th (must t ⟨#[59]⟩ u) fun _ u =>
 .ok (d, u)
def declares (u : St) : Bool := is t u.i ⟨#[105, 110, 116]⟩ || ((sg t u.i).kind == 1 && is t (u.i + 1) ⟨#[42]⟩)
def begins (u : St) : Bool :=
 is t u.i ⟨#[59]⟩ || is t u.i ⟨#[123]⟩ || is t u.i ⟨#[102, 114, 101, 101]⟩ || is t u.i ⟨#[105, 102]⟩ || is t u.i ⟨#[119, 104, 105, 108, 101]⟩ || (sg t u.i).kind == 1
/-- A brace may not stand where twenty are open. -/
def mustHold (u : St) : Res Unit := if is t u.i ⟨#[123]⟩ && u.o == 20 then .error (6, u.i) else .ok ((), u)
def count (u : St) : Res Unit :=
 th (mustHold t u) fun _ u =>
 if u.b = 400 then .error (11, u.i) else .ok ((), ⟨u.i, u.o, u.b + 1⟩)
def block (rec : St → Res SL) (u : St) : Res SL :=
 th (mustHold t u) fun _ u =>
 th (must t ⟨#[123]⟩ u) fun _ u =>
 th (rec ⟨u.i, u.o + 1, u.b⟩) fun l u =>
 th (must t ⟨#[125]⟩ u) fun _ u =>
 .ok (l, ⟨u.i, u.o - 1, u.b⟩)
def free (u : St) : Res Hd :=
 th (must t ⟨#[102, 114, 101, 101]⟩ u) fun _ u =>
 th (must t ⟨#[40]⟩ u) fun _ u =>
 th (path t u) fun x u =>
 th (must t ⟨#[41]⟩ u) fun _ u =>
 th (must t ⟨#[59]⟩ u) fun _ u =>
 .ok ({ noHd with kind := 2, place := x }, u)
def branch (rec : St → Res SL) (u : St) : Res (Hd × SL × SL) :=
 th (must t ⟨#[105, 102]⟩ u) fun _ u =>
 th (held t u) fun c u =>
 th (block t rec u) fun a u =>
 if is t u.i ⟨#[101, 108, 115, 101]⟩ then
  th (block t rec u.go) fun e u =>
  .ok (({ noHd with kind := 4, cond := c, both := true }, a, e), u)
 else .ok (({ noHd with kind := 4, cond := c }, a, .nil), u)
def loop (rec : St → Res SL) (u : St) : Res (Hd × SL × SL) :=
 th (must t ⟨#[119, 104, 105, 108, 101]⟩ u) fun _ u =>
 th (held t u) fun c u =>
 th (block t rec u) fun a u =>
 .ok (({ noHd with kind := 5, cond := c }, a, .nil), u)
def named (u : St) : Res Hd :=
 if is t (u.i + 1) ⟨#[40]⟩ then
  th (name t u) fun x u =>
  th (listed t (side t) u) fun l u =>
  th (must t ⟨#[59]⟩ u) fun _ u =>
  .ok ({ noHd with kind := 3, name := x.text, args := ⟨none, 0, l⟩ }, u)
 else
  th (path t u) fun x u =>
  th (must t ⟨#[61]⟩ u) fun _ u =>
  th (value t u) fun v u =>
  th (must t ⟨#[59]⟩ u) fun _ u =>
  .ok ({ noHd with kind := 1, place := x, value := v }, u)
def stmt (rec : St → Res SL) (u : St) : Res (Hd × SL × SL) :=
 th (count t u) fun _ u =>
 if is t u.i ⟨#[59]⟩ then .ok ((noHd, .nil, .nil), u.go)
 else if is t u.i ⟨#[123]⟩ then
  th (block t rec u) fun l u =>
  .ok (({ noHd with kind := 6 }, l, .nil), u)
 else if is t u.i ⟨#[102, 114, 101, 101]⟩ then
  th (free t u) fun h u =>
  .ok ((h, .nil, .nil), u)
 else if is t u.i ⟨#[105, 102]⟩ then branch t rec u
 else if is t u.i ⟨#[119, 104, 105, 108, 101]⟩ then loop t rec u
 else
  th (named t u) fun h u =>
  .ok ((h, .nil, .nil), u)
/-- Statements, with fuel: each one takes a sign at least. -/
def stmts : Nat → St → Res SL
 | 0, _ => .error (0, 0)
 | n + 1, u =>
  if begins t u then
   th (stmt t (stmts n) u) fun (h, a, e) u =>
   th (stmts n u) fun r u =>
   .ok (.cons h none 0 a none 0 e r, u)
  else .ok (.nil, u)
def fields : Nat → List Dc → St → Res (List Dc)
 | 0, _, _ => .error (0, 0)
 | n + 1, acc, u =>
  if is t u.i ⟨#[125]⟩ then .ok (acc, u.go)
  else
   th (pointer t u) fun d u =>
   th (must t ⟨#[59]⟩ u) fun _ u =>
   fields n (acc ++ [d]) u
def structure_ (u : St) : Res Sr :=
 th (must t ⟨#[115, 116, 114, 117, 99, 116]⟩ u) fun _ u =>
 th (name t u) fun x u =>
 th (must t ⟨#[123]⟩ u) fun _ u =>
 th (fields t (t.length + 1) [] u) fun l u =>
 .ok (⟨x.text, 0, ⟨none, 0, l⟩⟩, u)
def locals : Nat → List Dc → St → Res (List Dc)
 | 0, _, _ => .error (0, 0)
 | n + 1, acc, u => if declares t u then (th (decl t u) fun d u => locals n (acc ++ [d]) u) else .ok (acc, u)
def proc (u : St) : Res Pc :=
 th (must t ⟨#[118, 111, 105, 100]⟩ u) fun _ u =>
 th (name t u) fun x u =>
 th (listed t (variable_ t) u) fun ps u =>
 th (must t ⟨#[123]⟩ u) fun _ u =>
 th (locals t (t.length + 1) [] u) fun ls u =>
 th (stmts t (t.length + 1) u) fun body u =>
 th (must t ⟨#[125]⟩ u) fun _ u =>
 .ok (⟨x.text, 0, 0, ⟨none, 0, ps⟩, ⟨none, 0, ls⟩, none, 0, body⟩, u)
def program : Nat → List Sr → List Dc → List Pc → St → Res Pg
 | 0, _, _, _, _ => .error (0, 0)
 | n + 1, ss, gs, ps, u =>
  if (sg t u.i).kind = 0 then .ok (⟨⟨none, 0, ss⟩, ⟨none, 0, gs⟩, ⟨none, 0, ps⟩⟩, u)
  else if is t u.i ⟨#[115, 116, 114, 117, 99, 116]⟩ then (th (structure_ t u) fun x u => program n (ss ++ [x]) gs ps u)
  else if is t u.i ⟨#[118, 111, 105, 100]⟩ then (th (proc t u) fun x u => program n ss gs (ps ++ [x]) u)
  else (th (decl t u) fun x u => program n ss (gs ++ [x]) ps u)
/-- What a reading of all signs makes, or the number of what is wrong. -/
def whole {α : Type} (read : St → Res α) : Except (Int × Nat) α :=
 match read ⟨0, 0, 0⟩ with
 | .error e => .error e
 | .ok (x, u) => if (sg t u.i).kind = 0 then .ok x else .error (5, u.i)
end
theorem sg_tk {l : List Tx.Sg} {i : Nat} {x : Tx.Sg} (h : l[i]? = some x) : sg (l.map tk) i = tk x := by
 unfold sg; rw [List.getD_eq_getElem?_getD, List.getElem?_map, h]; rfl
theorem is_tk {l : List Tx.Sg} {i : Nat} {x : Tx.Sg} (h : l[i]? = some x) (s : ByteArray) : is (l.map tk) i s = (x.text.toList == s.toList) := by
 unfold is; rw [sg_tk h]; rfl
end Pr
end Go.Proofs.YtdlchhimkelinaaGreatDoor
