/-
  DERIVED. Plain: programs as trees, the cells that each part has in memory, and how they lie there.
-/
import Derived.Test.YtjkgkigfmcegoaaRows
import Derived.WalkKit
import Derived.Deep.MidRow
import Derived.Deep.WholeRow
import Derived.Lib.Hide
import Derived.Lib.QuietBelow
import Derived.BigQuiet
namespace Go.Proofs.Ytjkgkigfmcegoaa
open Go.RowKit Go.Sort

/-- A slice: where, how much room, and its items. -/
structure Sl (α : Type) where
  p : Option Addr
  cap : Nat
  l : List α
structure Hp where
  name : ByteArray
  pos : Int
structure Pth where
  name : ByteArray
  pos : Int
  hops : Sl Hp
structure Tm where
  name : ByteArray
  n : Int
  pos : Int
structure Vl where
  kind : Int
  pos : Int
  path : Pth
  type : ByteArray
  left : Tm
  right : Tm
structure Cd where
  kind : Int
  pos : Int
  left : Vl
  right : Vl
/-- A statement but for its lists of statements. -/
structure Hd where
  kind : Int
  pos : Int
  place : Pth
  value : Vl
  cond : Cd
  name : ByteArray
  args : Sl Vl
  both : Bool
/-- Statements: the first one's own, where its Then and its Else lie and what they are, the others. -/
inductive SL where
  | nil : SL
  | cons (h : Hd) (tp : Option Addr) (tc : Nat) (t : SL) (ep : Option Addr) (ec : Nat) (e : SL) (r : SL) : SL
def SL.len : SL → Nat
  | .nil => 0
  | .cons _ _ _ _ _ _ _ r => r.len + 1
structure Dc where
  type : ByteArray
  name : ByteArray
  pos : Int
structure Sr where
  name : ByteArray
  pos : Int
  fields : Sl Dc
structure Pc where
  name : ByteArray
  pos : Int
  fin : Int
  params : Sl Dc
  locals_ : Sl Dc
  bp : Option Addr
  bc : Nat
  body : SL
structure Pg where
  structs : Sl Sr
  globals : Sl Dc
  procs : Sl Pc

def Sl.v {α : Type} (s : Sl α) : Value := .slice s.p s.l.length s.cap
def iv (n : Int) : Value := .int .i64 n
abbrev Hp.cells (h : Hp) : List Value := [.string h.name, .int .i64 h.pos]
abbrev Pth.cells (h : Pth) : List Value := [.string h.name, .int .i64 h.pos, .slice h.hops.p h.hops.l.length h.hops.cap]
abbrev Tm.cells (t : Tm) : List Value := [.string t.name, .int .i64 t.n, .int .i64 t.pos]
abbrev Vl.cells (v : Vl) : List Value :=
  [.int .i64 v.kind, .int .i64 v.pos, .string v.path.name, .int .i64 v.path.pos, .slice v.path.hops.p v.path.hops.l.length v.path.hops.cap, .string v.type,
   .string v.left.name, .int .i64 v.left.n, .int .i64 v.left.pos, .string v.right.name, .int .i64 v.right.n, .int .i64 v.right.pos]
abbrev Cd.cells (c : Cd) : List Value :=
  [.int .i64 c.kind, .int .i64 c.pos,
   .int .i64 c.left.kind, .int .i64 c.left.pos, .string c.left.path.name, .int .i64 c.left.path.pos, .slice c.left.path.hops.p c.left.path.hops.l.length c.left.path.hops.cap, .string c.left.type,
   .string c.left.left.name, .int .i64 c.left.left.n, .int .i64 c.left.left.pos, .string c.left.right.name, .int .i64 c.left.right.n, .int .i64 c.left.right.pos,
   .int .i64 c.right.kind, .int .i64 c.right.pos, .string c.right.path.name, .int .i64 c.right.path.pos, .slice c.right.path.hops.p c.right.path.hops.l.length c.right.path.hops.cap, .string c.right.type,
   .string c.right.left.name, .int .i64 c.right.left.n, .int .i64 c.right.left.pos, .string c.right.right.name, .int .i64 c.right.right.n, .int .i64 c.right.right.pos]
abbrev Dc.cells (d : Dc) : List Value := [.string d.type, .string d.name, .int .i64 d.pos]
abbrev Sr.cells (s : Sr) : List Value := [.string s.name, .int .i64 s.pos, .slice s.fields.p s.fields.l.length s.fields.cap]
abbrev Pc.cells (p : Pc) : List Value := [.string p.name, .int .i64 p.pos, .int .i64 p.fin, .slice p.params.p p.params.l.length p.params.cap, .slice p.locals_.p p.locals_.l.length p.locals_.cap, .slice p.bp p.body.len p.bc]
abbrev Pg.cells (p : Pg) : List Value := [.slice p.structs.p p.structs.l.length p.structs.cap, .slice p.globals.p p.globals.l.length p.globals.cap, .slice p.procs.p p.procs.l.length p.procs.cap]
/-- The 48 cells of a statement. -/
def scells (h : Hd) (tp : Option Addr) (tn tc : Nat) (ep : Option Addr) (en ec : Nat) : List Value :=
  [.int .i64 h.kind, .int .i64 h.pos,
   .string h.place.name, .int .i64 h.place.pos, .slice h.place.hops.p h.place.hops.l.length h.place.hops.cap,
   .int .i64 h.value.kind, .int .i64 h.value.pos, .string h.value.path.name, .int .i64 h.value.path.pos, .slice h.value.path.hops.p h.value.path.hops.l.length h.value.path.hops.cap, .string h.value.type,
   .string h.value.left.name, .int .i64 h.value.left.n, .int .i64 h.value.left.pos, .string h.value.right.name, .int .i64 h.value.right.n, .int .i64 h.value.right.pos,
   .int .i64 h.cond.kind, .int .i64 h.cond.pos,
   .int .i64 h.cond.left.kind, .int .i64 h.cond.left.pos, .string h.cond.left.path.name, .int .i64 h.cond.left.path.pos, .slice h.cond.left.path.hops.p h.cond.left.path.hops.l.length h.cond.left.path.hops.cap, .string h.cond.left.type,
   .string h.cond.left.left.name, .int .i64 h.cond.left.left.n, .int .i64 h.cond.left.left.pos, .string h.cond.left.right.name, .int .i64 h.cond.left.right.n, .int .i64 h.cond.left.right.pos,
   .int .i64 h.cond.right.kind, .int .i64 h.cond.right.pos, .string h.cond.right.path.name, .int .i64 h.cond.right.path.pos, .slice h.cond.right.path.hops.p h.cond.right.path.hops.l.length h.cond.right.path.hops.cap, .string h.cond.right.type,
   .string h.cond.right.left.name, .int .i64 h.cond.right.left.n, .int .i64 h.cond.right.left.pos, .string h.cond.right.right.name, .int .i64 h.cond.right.right.n, .int .i64 h.cond.right.right.pos,
   .string h.name, .slice h.args.p h.args.l.length h.args.cap, .slice tp tn tc, .slice ep en ec, .bool h.both]

/-- A slice lies in memory: its items' cells, one behind the other, and what they lead to. -/
def slLies {α : Type} (w : World) (size : Nat) (_ : Nat) (cells : α → List Value) (R : α → Prop) (s : Sl α) : Prop :=
  s.l.length ≤ 1048576 ∧ (s.l = [] ∨ ∃ b o, s.p = some ⟨b, o, none⟩ ∧ ∀ k x, s.l[k]? = some x → w.rangeAt b (o + k * size) (cells x) ∧ R x)

def hopsLie (w : World) (s : Sl Hp) : Prop := slLies w 2 24 Hp.cells (fun _ => True) s
def vlLies (w : World) (v : Vl) : Prop := hopsLie w v.path.hops
def argsLie (w : World) (s : Sl Vl) : Prop := slLies w 12 144 Vl.cells (vlLies w) s
def hdLies (w : World) (h : Hd) : Prop :=
  hopsLie w h.place.hops ∧ vlLies w h.value ∧ vlLies w h.cond.left ∧ vlLies w h.cond.right ∧ argsLie w h.args ∧ h.name.size ≤ maxLen
/-- Statements lie in block 'b' from offset 'o' on. -/
def lies (w : World) : SL → Nat → Nat → Prop
  | .nil, _, _ => True
  | .cons h tp tc t ep ec e r, b, o =>
    w.rangeAt b o (scells h tp t.len tc ep e.len ec) ∧ hdLies w h ∧ (t.len ≤ 1048576 ∧ (t = .nil ∨ ∃ b' o', tp = some ⟨b', o', none⟩ ∧ lies w t b' o')) ∧ (e.len ≤ 1048576 ∧ (e = .nil ∨ ∃ b' o', ep = some ⟨b', o', none⟩ ∧ lies w e b' o')) ∧ lies w r b (o + 48)
/-- A slice of statements lies in memory. -/
def sLies (w : World) (p : Option Addr) (l : SL) : Prop := l.len ≤ 1048576 ∧ (l = .nil ∨ ∃ b o, p = some ⟨b, o, none⟩ ∧ lies w l b o)

theorem rangeAt_below {w w' : World} {b o : Nat} {cs : List Value} (h : w.rangeAt b o cs) (hb : Below w.heap.size w w') : w'.rangeAt b o cs := fun j v hv => by
  have := h j v hv
  rw [hb.cell (World.block_lt_of_cell? w _ this)]; exact this
theorem slLies_below {α : Type} {w w' : World} {size bytes : Nat} {cells : α → List Value} {R R' : α → Prop} {s : Sl α} (h : slLies w size bytes cells R s) (hb : Below w.heap.size w w') (hR : ∀ x, R x → R' x) : slLies w' size bytes cells R' s := by
  obtain ⟨hl, h⟩ := h
  refine ⟨hl, ?_⟩
  rcases h with h | ⟨b, o, hp, hx⟩
  · exact .inl h
  · exact .inr ⟨b, o, hp, fun k x hk => ⟨rangeAt_below (hx k x hk).1 hb, hR x (hx k x hk).2⟩⟩
theorem hopsLie_below {w w' : World} {s : Sl Hp} (h : hopsLie w s) (hb : Below w.heap.size w w') : hopsLie w' s := slLies_below h hb (fun _ h => h)
theorem vlLies_below {w w' : World} {v : Vl} (h : vlLies w v) (hb : Below w.heap.size w w') : vlLies w' v := hopsLie_below h hb
theorem argsLie_below {w w' : World} {s : Sl Vl} (h : argsLie w s) (hb : Below w.heap.size w w') : argsLie w' s := slLies_below h hb (fun _ h => vlLies_below h hb)
theorem hdLies_below {w w' : World} {h : Hd} (H : hdLies w h) (hb : Below w.heap.size w w') : hdLies w' h :=
  ⟨hopsLie_below H.1 hb, vlLies_below H.2.1 hb, vlLies_below H.2.2.1 hb, vlLies_below H.2.2.2.1 hb, argsLie_below H.2.2.2.2.1 hb, H.2.2.2.2.2⟩
theorem lies_below {w w' : World} (hb : Below w.heap.size w w') : ∀ (l : SL) (b o : Nat), lies w l b o → lies w' l b o
  | .nil, _, _, _ => trivial
  | .cons h tp tc t ep ec e r, b, o, H => by
    obtain ⟨h1, h2, ⟨l3, h3⟩, ⟨l4, h4⟩, h5⟩ := H
    refine ⟨rangeAt_below h1 hb, hdLies_below h2 hb, ⟨l3, ?_⟩, ⟨l4, ?_⟩, lies_below hb r b _ h5⟩
    · rcases h3 with h | ⟨b', o', hp, h⟩
      · exact .inl h
      · exact .inr ⟨b', o', hp, lies_below hb t b' o' h⟩
    · rcases h4 with h | ⟨b', o', hp, h⟩
      · exact .inl h
      · exact .inr ⟨b', o', hp, lies_below hb e b' o' h⟩
theorem sLies_below {w w' : World} {p : Option Addr} {l : SL} (h : sLies w p l) (hb : Below w.heap.size w w') : sLies w' p l := by
  obtain ⟨hl, h⟩ := h
  refine ⟨hl, ?_⟩
  rcases h with h | ⟨b, o, hp, h⟩
  · exact .inl h
  · exact .inr ⟨b, o, hp, lies_below hb l b o h⟩

/-- What holds of both lists of each statement of a list. -/
def SL.each (P : SL → Prop) : SL → Prop
  | .nil => True
  | .cons _ _ _ t _ _ e r => P t ∧ P e ∧ r.each P
/-- Lists within lists: what holds of a list as soon as it holds of those within it holds of all. -/
theorem SL.all {P : SL → Prop} (h : ∀ l, l.each P → P l) : ∀ l, P l ∧ l.each P
  | .nil => ⟨h _ trivial, trivial⟩
  | .cons hd tp tc t ep ec e r => by
    have ht := SL.all h t
    have he := SL.all h e
    have hr := SL.all h r
    exact ⟨h _ ⟨ht.1, he.1, hr.2⟩, ht.1, he.1, hr.2⟩

/-- A struct's value goes into the block that was made last. -/
theorem wpList_store_new {P : Program} {ops : Array Oper} {rest : List Oper} {op : Oper} {a : Act} {w : World} {Q : Exit → Act → World → Prop} (hgd : op.guard = none) (ty : TypeId) (x y : Operand) (ho : op.op = .store ty x y)
    (c c' : Array Value) (hx : a.eval x = .pointer (some ⟨w.heap.size, 0, none⟩)) (hy : a.eval y = .agg c') (hi : (P.info? ty).map (·.size) = some c'.size) (hc : c.size = c'.size) (h1 : c'.all (·.oneCell') = true)
    (h : wpList P ops Q rest (a.put op.dst undef) (w.alloc (.cells c' ty))) : wpList P ops Q (op :: rest) a (w.alloc (.cells c ty)) :=
  wpList_plain hgd fun _ hK => by
    unfold Oper.wp execOp
    simp only [ho, hx, hy, Instr.storeAt, Instr.sureAddr, Sem.run_bind, Sem.run_pure, Result.andThen_ok, run_storeVar_new w ty c c' hi hc h1]
    exact hK _ _ h

/-- A struct's value out of the middle of a block, its cells as an array. -/
theorem wpList_load_arr {P : Program} {ops : Array Oper} {rest : List Oper} {op : Oper} {a : Act} {w : World} {Q : Exit → Act → World → Prop} (hgd : op.guard = none) (ty : TypeId) (x : Operand) (ho : op.op = .load ty x)
    (b o : Nat) (hx : a.eval x = .pointer (some ⟨b, o, none⟩)) (cs : Array Value) (d : TypeDesc) (hc : w.rangeAt b o cs.toList)
    (hu : P.underlying ty = some d) (hd : d.isRow = true) (hi : (P.info? ty).map (·.size) = some cs.size)
    (h : wpList P ops Q rest (a.put op.dst (.agg cs)) w) : wpList P ops Q (op :: rest) a w :=
  wpList_load_mid hgd ty x ho b o hx cs.toList d hc hu hd (by simpa using hi) (by simpa using h)
theorem ret_int {k : IntKind} {a b : Int} (h : a = b) : Ending.returned (.int k a) = .returned (.int k b) := by rw [h]
theorem ret_bool {a b : Bool} (h : a = b) : Ending.returned (.bool a) = .returned (.bool b) := by rw [h]

theorem Try.own : ownKnob Try.prog.godebug = none := by kernel_rfl
theorem Try.laidOut : laidOutB Try.prog = true := by kernel_rfl
theorem size93 : (Try.prog.info? 93).map (·.size) = some 48 := by kernel_rfl
theorem size88 : (Try.prog.info? 88).map (·.size) = some 12 := by kernel_rfl
def sarr (h : Hd) (tp : Option Addr) (tn tc : Nat) (ep : Option Addr) (en ec : Nat) : Array Value := (scells h tp tn tc ep en ec).toArray
theorem sarr_size (h : Hd) (tp : Option Addr) (tn tc : Nat) (ep : Option Addr) (en ec : Nat) : (sarr h tp tn tc ep en ec).size = 48 := rfl
theorem scells_size (h : Hd) (tp : Option Addr) (tn tc : Nat) (ep : Option Addr) (en ec : Nat) : (scells h tp tn tc ep en ec).length = 48 := rfl
theorem scells_one (h : Hd) (tp : Option Addr) (tn tc : Nat) (ep : Option Addr) (en ec : Nat) : (scells h tp tn tc ep en ec).toArray.all (·.oneCell') = true := by
  simp [scells, Value.oneCell']

end Go.Proofs.Ytjkgkigfmcegoaa
