/-
  Plain: programs as trees, the cells that each part has in memory, and how they lie there. The walk of the law's own weight of statements. Plain: how deep, how many, how many loops, which names are called. The walks of the fold over statements that comes to a number, and of Deep, Count, Loops. The wa
-/
import Derived.Test.YtmhpaacjioeknaaGreatRows
import Derived.WalkKit
import Derived.Deep.MidRow
import Derived.Deep.WholeRow
import Derived.Lib.Hide
import Derived.Lib.QuietBelow
import Derived.BigQuiet
import Derived.WalkLawsBesides
import Derived.Laws.AppendOwnNone
import Derived.OwnWalk
import Derived.Lib.SmallJoins
import Derived.Maps.OwnSet
import Derived.Maps.AppendAt
import Derived.StillTailTactics
import Derived.Deep.RegionHeld3
set_option maxHeartbeats 6400000
set_option maxRecDepth 100000
namespace Go.Proofs.YtmhpaacjioeknaaGreat
theorem hdn {p : Prop} (h : p) : Go.RowKit.Hid p := Go.Lib.hid h
end Go.Proofs.YtmhpaacjioeknaaGreat
namespace Go.Proofs.YtmhpaacjioeknaaGreat
open Go.RowKit Go.Sort
/-- A slice: where, how much room, and its items. -/
structure Sl (α : Type) where
 p : Option Addr
 cap : Nat
 l : List α
structure Hp where
 name : ByteArray
 pos : Int
structure Pth where
 name : ByteArray
 pos : Int
 hops : Sl Hp
structure Tm where
 name : ByteArray
 n : Int
 pos : Int
structure Vl where
 kind : Int
 pos : Int
 path : Pth
 type : ByteArray
 left : Tm
 right : Tm
structure Cd where
 kind : Int
 pos : Int
 left : Vl
 right : Vl
/-- A statement but for its lists of statements. -/
structure Hd where
 kind : Int
 pos : Int
 place : Pth
 value : Vl
 cond : Cd
 name : ByteArray
 args : Sl Vl
 both : Bool
/-- Statements: the first one's own, where its Then and its Else lie and what they are, the others. -/
inductive SL where
 | nil : SL
 | cons (h : Hd) (tp : Option Addr) (tc : Nat) (t : SL) (ep : Option Addr) (ec : Nat) (e : SL) (r : SL) : SL
def SL.len : SL → Nat
 | .nil => 0
 | .cons _ _ _ _ _ _ _ r => r.len + 1
structure Dc where
 type : ByteArray
 name : ByteArray
 pos : Int
structure Sr where
 name : ByteArray
 pos : Int
 fields : Sl Dc
structure Pc where
 name : ByteArray
 pos : Int
 fin : Int
 params : Sl Dc
 locals_ : Sl Dc
 bp : Option Addr
 bc : Nat
 body : SL
structure Pg where
 structs : Sl Sr
 globals : Sl Dc
 procs : Sl Pc
def Sl.v {α : Type} (s : Sl α) : Value := .slice s.p s.l.length s.cap
def iv (n : Int) : Value := .int .i64 n
abbrev Hp.cells (h : Hp) : List Value := [.string h.name, .int .i64 h.pos]
abbrev Pth.cells (h : Pth) : List Value := [.string h.name, .int .i64 h.pos, .slice h.hops.p h.hops.l.length h.hops.cap]
abbrev Tm.cells (t : Tm) : List Value := [.string t.name, .int .i64 t.n, .int .i64 t.pos]
abbrev Vl.cells (v : Vl) : List Value :=
 [.int .i64 v.kind, .int .i64 v.pos, .string v.path.name, .int .i64 v.path.pos, .slice v.path.hops.p v.path.hops.l.length v.path.hops.cap, .string v.type,
 .string v.left.name, .int .i64 v.left.n, .int .i64 v.left.pos, .string v.right.name, .int .i64 v.right.n, .int .i64 v.right.pos]
abbrev Cd.cells (c : Cd) : List Value :=
 [.int .i64 c.kind, .int .i64 c.pos,
 .int .i64 c.left.kind, .int .i64 c.left.pos, .string c.left.path.name, .int .i64 c.left.path.pos, .slice c.left.path.hops.p c.left.path.hops.l.length c.left.path.hops.cap, .string c.left.type,
 .string c.left.left.name, .int .i64 c.left.left.n, .int .i64 c.left.left.pos, .string c.left.right.name, .int .i64 c.left.right.n, .int .i64 c.left.right.pos,
 .int .i64 c.right.kind, .int .i64 c.right.pos, .string c.right.path.name, .int .i64 c.right.path.pos, .slice c.right.path.hops.p c.right.path.hops.l.length c.right.path.hops.cap, .string c.right.type,
 .string c.right.left.name, .int .i64 c.right.left.n, .int .i64 c.right.left.pos, .string c.right.right.name, .int .i64 c.right.right.n, .int .i64 c.right.right.pos]
abbrev Dc.cells (d : Dc) : List Value := [.string d.type, .string d.name, .int .i64 d.pos]
abbrev Sr.cells (s : Sr) : List Value := [.string s.name, .int .i64 s.pos, .slice s.fields.p s.fields.l.length s.fields.cap]
abbrev Pc.cells (p : Pc) : List Value := [.string p.name, .int .i64 p.pos, .int .i64 p.fin, .slice p.params.p p.params.l.length p.params.cap, .slice p.locals_.p p.locals_.l.length p.locals_.cap, .slice p.bp p.body.len p.bc]
abbrev Pg.cells (p : Pg) : List Value := [.slice p.structs.p p.structs.l.length p.structs.cap, .slice p.globals.p p.globals.l.length p.globals.cap, .slice p.procs.p p.procs.l.length p.procs.cap]
/-- The 48 cells of a statement. -/
def scells (h : Hd) (tp : Option Addr) (tn tc : Nat) (ep : Option Addr) (en ec : Nat) : List Value :=
 [.int .i64 h.kind, .int .i64 h.pos,
 .string h.place.name, .int .i64 h.place.pos, .slice h.place.hops.p h.place.hops.l.length h.place.hops.cap,
 .int .i64 h.value.kind, .int .i64 h.value.pos, .string h.value.path.name, .int .i64 h.value.path.pos, .slice h.value.path.hops.p h.value.path.hops.l.length h.value.path.hops.cap, .string h.value.type,
 .string h.value.left.name, .int .i64 h.value.left.n, .int .i64 h.value.left.pos, .string h.value.right.name, .int .i64 h.value.right.n, .int .i64 h.value.right.pos,
 .int .i64 h.cond.kind, .int .i64 h.cond.pos,
 .int .i64 h.cond.left.kind, .int .i64 h.cond.left.pos, .string h.cond.left.path.name, .int .i64 h.cond.left.path.pos, .slice h.cond.left.path.hops.p h.cond.left.path.hops.l.length h.cond.left.path.hops.cap, .string h.cond.left.type,
 .string h.cond.left.left.name, .int .i64 h.cond.left.left.n, .int .i64 h.cond.left.left.pos, .string h.cond.left.right.name, .int .i64 h.cond.left.right.n, .int .i64 h.cond.left.right.pos,
 .int .i64 h.cond.right.kind, .int .i64 h.cond.right.pos, .string h.cond.right.path.name, .int .i64 h.cond.right.path.pos, .slice h.cond.right.path.hops.p h.cond.right.path.hops.l.length h.cond.right.path.hops.cap, .string h.cond.right.type,
 .string h.cond.right.left.name, .int .i64 h.cond.right.left.n, .int .i64 h.cond.right.left.pos, .string h.cond.right.right.name, .int .i64 h.cond.right.right.n, .int .i64 h.cond.right.right.pos,
 .string h.name, .slice h.args.p h.args.l.length h.args.cap, .slice tp tn tc, .slice ep en ec, .bool h.both]
/-- A slice lies in memory: its items' cells, one behind the other, and what they lead to. -/
def slLies {α : Type} (w : World) (size bytes : Nat) (cells : α → List Value) (R : α → Prop) (s : Sl α) : Prop :=
 s.l.length * bytes ≤ 140737488351232 ∧ (s.l = [] ∨ ∃ b o, s.p = some ⟨b, o, none⟩ ∧ ∀ k x, s.l[k]? = some x → w.rangeAt b (o + k * size) (cells x) ∧ R x)
def hopsLie (w : World) (s : Sl Hp) : Prop := slLies w 2 24 Hp.cells (fun _ => True) s
def vlLies (w : World) (v : Vl) : Prop := hopsLie w v.path.hops
def argsLie (w : World) (s : Sl Vl) : Prop := slLies w 12 144 Vl.cells (vlLies w) s
def hdLies (w : World) (h : Hd) : Prop :=
 hopsLie w h.place.hops ∧ vlLies w h.value ∧ vlLies w h.cond.left ∧ vlLies w h.cond.right ∧ argsLie w h.args ∧ h.name.size ≤ maxLen
/-- Statements lie in block 'b' from offset 'o' on. -/
def lies (w : World) : SL → Nat → Nat → Prop
 | .nil, _, _ => True
 | .cons h tp tc t ep ec e r, b, o =>
  w.rangeAt b o (scells h tp t.len tc ep e.len ec) ∧ hdLies w h ∧ (t.len * 608 ≤ 140737488351232 ∧ (t = .nil ∨ ∃ b' o', tp = some ⟨b', o', none⟩ ∧ lies w t b' o')) ∧ (e.len * 608 ≤ 140737488351232 ∧ (e = .nil ∨ ∃ b' o', ep = some ⟨b', o', none⟩ ∧ lies w e b' o')) ∧ lies w r b (o + 48)
/-- A slice of statements lies in memory. -/
def sLies (w : World) (p : Option Addr) (l : SL) : Prop := l.len * 608 ≤ 140737488351232 ∧ (l = .nil ∨ ∃ b o, p = some ⟨b, o, none⟩ ∧ lies w l b o)
theorem rangeAt_below {w w' : World} {b o : Nat} {cs : List Value} (h : w.rangeAt b o cs) (hb : Below w.heap.size w w') : w'.rangeAt b o cs := fun j v hv => by
 have := h j v hv
 rw [hb.cell (World.block_lt_of_cell? w _ this)]; exact this
theorem slLies_below {α : Type} {w w' : World} {size bytes : Nat} {cells : α → List Value} {R R' : α → Prop} {s : Sl α} (h : slLies w size bytes cells R s) (hb : Below w.heap.size w w') (hR : ∀ x, R x → R' x) : slLies w' size bytes cells R' s := by
 obtain ⟨hl, h⟩ := h
 refine ⟨hl, ?_⟩
 rcases h with h | ⟨b, o, hp, hx⟩
 ·exact .inl h
 ·exact .inr ⟨b, o, hp, fun k x hk => ⟨rangeAt_below (hx k x hk).1 hb, hR x (hx k x hk).2⟩⟩
theorem hopsLie_below {w w' : World} {s : Sl Hp} (h : hopsLie w s) (hb : Below w.heap.size w w') : hopsLie w' s := slLies_below h hb (fun _ h => h)
theorem vlLies_below {w w' : World} {v : Vl} (h : vlLies w v) (hb : Below w.heap.size w w') : vlLies w' v := hopsLie_below h hb
theorem argsLie_below {w w' : World} {s : Sl Vl} (h : argsLie w s) (hb : Below w.heap.size w w') : argsLie w' s := slLies_below h hb (fun _ h => vlLies_below h hb)
theorem hdLies_below {w w' : World} {h : Hd} (H : hdLies w h) (hb : Below w.heap.size w w') : hdLies w' h :=
 ⟨hopsLie_below H.1 hb, vlLies_below H.2.1 hb, vlLies_below H.2.2.1 hb, vlLies_below H.2.2.2.1 hb, argsLie_below H.2.2.2.2.1 hb, H.2.2.2.2.2⟩
theorem lies_below {w w' : World} (hb : Below w.heap.size w w') : ∀ (l : SL) (b o : Nat), lies w l b o → lies w' l b o
 | .nil, _, _, _ => trivial
 | .cons h tp tc t ep ec e r, b, o, H => by
  obtain ⟨h1, h2, ⟨l3, h3⟩, ⟨l4, h4⟩, h5⟩ := H
  refine ⟨rangeAt_below h1 hb, hdLies_below h2 hb, ⟨l3, ?_⟩, ⟨l4, ?_⟩, lies_below hb r b _ h5⟩
  ·rcases h3 with h | ⟨b', o', hp, h⟩
   ·exact .inl h
   ·exact .inr ⟨b', o', hp, lies_below hb t b' o' h⟩
  ·rcases h4 with h | ⟨b', o', hp, h⟩
   ·exact .inl h
   ·exact .inr ⟨b', o', hp, lies_below hb e b' o' h⟩
theorem sLies_below {w w' : World} {p : Option Addr} {l : SL} (h : sLies w p l) (hb : Below w.heap.size w w') : sLies w' p l := by
 obtain ⟨hl, h⟩ := h
 refine ⟨hl, ?_⟩
 rcases h with h | ⟨b, o, hp, h⟩
 ·exact .inl h
 ·exact .inr ⟨b, o, hp, lies_below hb l b o h⟩
/-- What holds of both lists of each statement of a list. -/
def SL.each (P : SL → Prop) : SL → Prop
 | .nil => True
 | .cons _ _ _ t _ _ e r => P t ∧ P e ∧ r.each P
/-- Lists within lists: what holds of a list as soon as it holds of those within it holds of all. -/
theorem SL.all {P : SL → Prop} (h : ∀ l, l.each P → P l) : ∀ l, P l ∧ l.each P
 | .nil => ⟨h _ trivial, trivial⟩
 | .cons hd tp tc t ep ec e r => by
  have ht := SL.all h t
  have he := SL.all h e
  have hr := SL.all h r
  exact ⟨h _ ⟨ht.1, he.1, hr.2⟩, ht.1, he.1, hr.2⟩
/-- A struct's value goes into the block that was made last. -/
theorem wpList_store_new {P : Program} {ops : Array Oper} {rest : List Oper} {op : Oper} {a : Act} {w : World} {Q : Exit → Act → World → Prop} (hgd : op.guard = none) (ty : TypeId) (x y : Operand) (ho : op.op = .store ty x y)
  (c c' : Array Value) (hx : a.eval x = .pointer (some ⟨w.heap.size, 0, none⟩)) (hy : a.eval y = .agg c') (hi : (P.info? ty).map (·.size) = some c'.size) (hc : c.size = c'.size) (h1 : c'.all (·.oneCell') = true)
  (h : wpList P ops Q rest (a.put op.dst undef) (w.alloc (.cells c' ty))) : wpList P ops Q (op :: rest) a (w.alloc (.cells c ty)) :=
 wpList_plain hgd fun _ hK => by
  unfold Oper.wp execOp
  simp only [ho, hx, hy, Instr.storeAt, Instr.sureAddr, Sem.run_bind, Sem.run_pure, Result.andThen_ok, run_storeVar_new w ty c c' hi hc h1]
  exact hK _ _ h
/-- A struct's value out of the middle of a block, its cells as an array. -/
theorem wpList_load_arr {P : Program} {ops : Array Oper} {rest : List Oper} {op : Oper} {a : Act} {w : World} {Q : Exit → Act → World → Prop} (hgd : op.guard = none) (ty : TypeId) (x : Operand) (ho : op.op = .load ty x)
  (b o : Nat) (hx : a.eval x = .pointer (some ⟨b, o, none⟩)) (cs : Array Value) (d : TypeDesc) (hc : w.rangeAt b o cs.toList)
  (hu : P.underlying ty = some d) (hd : d.isRow = true) (hi : (P.info? ty).map (·.size) = some cs.size)
  (h : wpList P ops Q rest (a.put op.dst (.agg cs)) w) : wpList P ops Q (op :: rest) a w :=
 wpList_load_mid hgd ty x ho b o hx cs.toList d hc hu hd (by simpa using hi) (by simpa using h)
theorem ret_int {k : IntKind} {a b : Int} (h : a = b) : Ending.returned (.int k a) = .returned (.int k b) := by rw [h]
theorem ret_bool {a b : Bool} (h : a = b) : Ending.returned (.bool a) = .returned (.bool b) := by rw [h]
theorem Tryz.own : ownKnob Tryz.prog.godebug = none := by kernel_rfl
theorem Tryz.laidOut : laidOutB Tryz.prog = true := by kernel_rfl
theorem size57 : (Tryz.prog.info? 103).map (·.size) = some 48 := by kernel_rfl
def sarr (h : Hd) (tp : Option Addr) (tn tc : Nat) (ep : Option Addr) (en ec : Nat) : Array Value := (scells h tp tn tc ep en ec).toArray
theorem scells_one (h : Hd) (tp : Option Addr) (tn tc : Nat) (ep : Option Addr) (en ec : Nat) : (scells h tp tn tc ep en ec).toArray.all (·.oneCell') = true := by
 simp [scells, Value.oneCell']
end Go.Proofs.YtmhpaacjioeknaaGreat
namespace Go.Proofs.YtmhpaacjioeknaaGreat
open Go.RowKit Go.Sort
def hw (h : Hd) : Int := h.args.l.length + h.place.hops.l.length + h.value.path.hops.l.length + h.cond.left.path.hops.l.length + h.cond.right.path.hops.l.length
/-- The weight, from n on, of statements at a depth. -/
def wtGo : SL → Int → Int → Int
 | .nil, _, n => n
 | .cons h _ _ t _ _ e r, d, n => if n < 2000 then wtGo r d (n + hw h + (if 40 < d + 1 then 2000 else min (wtGo t (d + 1) t.len) 2000) + (if 40 < d + 1 then 2000 else min (wtGo e (d + 1) e.len) 2000)) else n
def wt (l : SL) (d : Int) : Int := if 40 < d then 2000 else min (wtGo l d l.len) 2000
theorem wtGo_cons (h : Hd) (tp : Option Addr) (tc : Nat) (t : SL) (ep : Option Addr) (ec : Nat) (e r : SL) (d n : Int) :
  wtGo (.cons h tp tc t ep ec e r) d n = if n < 2000 then wtGo r d (n + hw h + wt t (d + 1) + wt e (d + 1)) else n := rfl
theorem hw_nonneg (h : Hd) : 0 ≤ hw h := by unfold hw; omega
theorem wtGo_ge : ∀ (l : SL) (d n : Int), n ≤ wtGo l d n ∧ (0 ≤ n → 0 ≤ wt l d)
 | .nil, d, n => ⟨Int.le_refl _, fun _ => by unfold wt wtGo SL.len; split <;> omega⟩
 | .cons h tp tc t ep ec e r, d, n => by
  have ht := (wtGo_ge t (d + 1) 0).2 (Int.le_refl _)
  have he := (wtGo_ge e (d + 1) 0).2 (Int.le_refl _)
  have hh := hw_nonneg h
  have key : ∀ n, n ≤ wtGo (.cons h tp tc t ep ec e r) d n := fun n => by
   rw [wtGo_cons]; split
   ·have := (wtGo_ge r d (n + hw h + wt t (d + 1) + wt e (d + 1))).1; omega
   ·omega
  refine ⟨key n, fun _ => ?_⟩
  unfold wt; split
  ·omega
  ·have := key (SL.cons h tp tc t ep ec e r).len; omega
theorem wt_nonneg (l : SL) (d : Int) : 0 ≤ wt l d := (wtGo_ge l d 0).2 (Int.le_refl _)
theorem wt_le (l : SL) (d : Int) : wt l d ≤ 2000 := by unfold wt; split <;> omega
def wtOk (l : SL) : Prop := ∀ (p : Option Addr) (c : Nat) (d : Int) (w : World), 0 ≤ d → d ≤ 41 → sLies w p l →
   Calls Tryz.prog 24 #[.slice p l.len c, .int .i64 d] w fun e w' => e = .returned (.int .i64 (wt l d)) ∧ Below w.heap.size w w'
theorem weight_one (l : SL) (hP : l.each wtOk)
  (p : Option Addr) (c : Nat) (d : Int) (w : World) (hd0 : 0 ≤ d) (hd1 : d ≤ 41) (hl : sLies w p l) :
  Calls Tryz.prog 24 #[.slice p l.len c, .int .i64 d] w fun e w' => e = .returned (.int .i64 (wt l d)) ∧ Below w.heap.size w w' := by
 obtain ⟨hlen, hl⟩ := hl
 have hlen' : l.len ≤ 300000000000 := by omega
 clear hlen
 have HP := hdn hP
 clear hP
 by_cases hd : 40 < d
 ·have HE : Hid (wt l d = 2000) := hdn (by unfold wt; rw [if_pos hd])
  go_enter Tryz.func24, Tryz.ntmps24
  go_wp2_with fail
  go_ret
  exact ⟨ret_int (by rw [HE.out]), Below.refl _ _⟩
 ·have HE : Hid (wt l d = min (wtGo l d l.len) 2000) := hdn (by unfold wt; rw [if_neg hd])
  go_enter Tryz.func24, Tryz.ntmps24
  go_wp2_with fail
  have hd2 : d ≤ 40 := by omega
  clear hd
  go_loopw [5, 6] (fun v i wr => ∃ (k : Nat) (rest : SL) (n : Int), i = .int .i64 k ∧ v = .int .i64 n ∧ k ≤ l.len ∧ 0 ≤ n ∧ n ≤ 40000000000000 ∧ Hid (k + rest.len = l.len) ∧ Hid (wtGo l d l.len = wtGo rest d n) ∧
    Hid (rest = .nil ∨ ∃ b o, p = some ⟨b, o, none⟩ ∧ lies w rest b (o + k * 48)) ∧ Hid (rest.each (wtOk)) ∧ Hid (Below w.heap.size w wr)) (fun _ i _ => l.len - (intOf i).toNat)
  case atStart => exact ⟨0, l, l.len, rfl, rfl, Nat.zero_le _, by omega, by omega, hdn (Nat.zero_add _), hdn rfl, hdn (by simpa using hl), HP, hdn (Below.refl _ _)⟩
  case round =>
   obtain ⟨k, rest, n, rfl, rfl, hk, hn0, hn1, HK, HG, HL, HQ, HB⟩ := hrel
   by_cases hnn : n < 2000
   ·cases rest with
    | nil =>
     have hk' : l.len ≤ k := by have := HK.out; simp only [SL.len] at this; omega
     go_wp2_with fail
     go_ret
     exact ⟨ret_int (by rw [HE.out, HG.out]; unfold wtGo; omega), HB.out⟩
    | cons h tp tc t ep ec e r =>
     have hkl : k < l.len := by have := HK.out; simp only [SL.len] at this; omega
     have hr := HL.out
     obtain ⟨b, o, rfl, hrg, hhd, hts, hes, hrs⟩ : ∃ b o, p = some ⟨b, o, none⟩ ∧ w.rangeAt b (o + k * 48) (scells h tp t.len tc ep e.len ec) ∧ hdLies w h ∧ sLies w tp t ∧ sLies w ep e ∧ (r = .nil ∨ lies w r b (o + k * 48 + 48)) := by
      rcases hr with hr | ⟨b, o, hp, h1, h2, h3, h4, h5⟩
      ·cases hr
      ·exact ⟨b, o, hp, h1, h2, h3, h4, .inr h5⟩
     obtain ⟨hQt, hQe, hQr⟩ := HQ.out
     obtain ⟨cs, hcs⟩ : ∃ cs, cs = sarr h tp t.len tc ep e.len ec := ⟨_, rfl⟩
     have HRG : Hid (wr.rangeAt b (o + k * 48) cs.toList) := hdn (by rw [hcs]; exact rangeAt_below hrg HB.out)
     have HSZ : Hid ((Tryz.prog.info? 103).map (·.size) = some cs.size) := hdn (by rw [hcs]; exact size57)
     have HZ : Hid (48 = cs.size) := hdn (by rw [hcs]; rfl)
     have HON : Hid (cs.all (·.oneCell') = true) := hdn (by rw [hcs]; exact scells_one _ _ _ _ _ _ _)
     have c44 : cs[44]? = some (.slice h.args.p h.args.l.length h.args.cap) := by rw [hcs]; rfl
     have c4 : cs[4]? = some (.slice h.place.hops.p h.place.hops.l.length h.place.hops.cap) := by rw [hcs]; rfl
     have c9 : cs[9]? = some (.slice h.value.path.hops.p h.value.path.hops.l.length h.value.path.hops.cap) := by rw [hcs]; rfl
     have c23 : cs[23]? = some (.slice h.cond.left.path.hops.p h.cond.left.path.hops.l.length h.cond.left.path.hops.cap) := by rw [hcs]; rfl
     have c35 : cs[35]? = some (.slice h.cond.right.path.hops.p h.cond.right.path.hops.l.length h.cond.right.path.hops.cap) := by rw [hcs]; rfl
     have c45 : cs[45]? = some (.slice tp t.len tc) := by rw [hcs]; rfl
     have c46 : cs[46]? = some (.slice ep e.len ec) := by rw [hcs]; rfl
     clear hcs
     have b1 : h.args.l.length ≤ 6000000000000 := by have := hhd.2.2.2.2.1.1; omega
     have b2 : h.place.hops.l.length ≤ 6000000000000 := by have := hhd.1.1; omega
     have b3 : h.value.path.hops.l.length ≤ 6000000000000 := by have := hhd.2.1.1; omega
     have b4 : h.cond.left.path.hops.l.length ≤ 6000000000000 := by have := hhd.2.2.1.1; omega
     have b5 : h.cond.right.path.hops.l.length ≤ 6000000000000 := by have := hhd.2.2.2.1.1; omega
     have HHD := hdn hhd
     have HTS := hdn hts
     have HES := hdn hes
     have HRS := hdn hrs
     have HQT := hdn hQt
     have HQE := hdn hQe
     have HQR := hdn hQr
     clear hhd hts hes hrs hQt hQe hQr hrg hr
     go_wp2_with (first | ((with_reducible show wpList _ _ _ (Oper.mk (some 25) _ _ _ _ _ :: _) _ _); refine wpList_load_arr rfl 103 (.tmp 24) rfl b (o + k * 48) rfl cs _ HRG.out Tryz.underlying103 rfl HSZ.out ?_) | ((with_reducible show wpList _ _ _ (Oper.mk none (Op.store _ _ _) _ _ _ _ :: _) _ _); refine wpList_store_new rfl 103 (.tmp 7) (.tmp 25) rfl _ cs rfl rfl HSZ.out HZ.out HON.out ?_))
     have k45 := cell_regrown (w := wr.alloc (.cells cs 103)) (a := ⟨wr.heap.size, 45, none⟩) ((World.cell?_alloc_at _ _ _ _ rfl).trans c45)
     have k46 := cell_regrown (w := wr.alloc (.cells cs 103)) (a := ⟨wr.heap.size, 46, none⟩) ((World.cell?_alloc_at _ _ _ _ rfl).trans c46)
     have hB1 : Below w.heap.size w (wr.alloc (.cells cs 103)) := HB.out.alloc HB.out.size _
     have cT : ∀ dd os, Calls Tryz.prog 24 #[.slice tp t.len tc, .int .i64 (d + 1)] (grow (redrawn (wr.alloc (.cells cs 103)) dd) os) fun e w'' => e = .returned (.int .i64 (wt t (d + 1))) ∧ ∃ p : Regrown, w'' = grow (redrawn (wr.alloc (.cells cs 103)) p.d) p.os :=
      fun dd os => Calls.regrown_of (HQT.out _ _ _ _ (by omega) (by omega) (sLies_below (sLies_below HTS.out hB1) (below_regrown _ _ _)))
     have cE : ∀ dd os, Calls Tryz.prog 24 #[.slice ep e.len ec, .int .i64 (d + 1)] (grow (redrawn (wr.alloc (.cells cs 103)) dd) os) fun e' w'' => e' = .returned (.int .i64 (wt e (d + 1))) ∧ ∃ p : Regrown, w'' = grow (redrawn (wr.alloc (.cells cs 103)) p.d) p.os :=
      fun dd os => Calls.regrown_of (HQE.out _ _ _ _ (by omega) (by omega) (sLies_below (sLies_below HES.out hB1) (below_regrown _ _ _)))
     have HBB := hdn hB1
     clear hB1
     have t0 := wt_nonneg t (d + 1)
     have t1 := wt_le t (d + 1)
     have e0 := wt_nonneg e (d + 1)
     have e1 := wt_le e (d + 1)
     refine wp_region_quiet_below (by kernel_rfl) (by kernel_rfl) ?_
     repeat (go_big_quiet_step (first | (with_reducible exact cT _ _) | (with_reducible exact cE _ _)))
     refine wpQuiet_nil ?_
     intro _ hw'
     obtain ⟨⟨dq, osq⟩, hw''⟩ := hw'
     subst hw''
     have HB3 : Hid (Below w.heap.size w (grow (redrawn (wr.alloc (.cells cs 103)) dq) osq)) := hdn (HBB.out.trans ((below_regrown _ dq osq).mono HBB.out.size))
     generalize grow (redrawn (wr.alloc (.cells cs 103)) dq) osq = w3 at HB3 ⊢
     go_wp2_with fail
     go_roundw
     case rel =>
      refine ⟨k + 1, r, n + hw h + wt t (d + 1) + wt e (d + 1), by go_num, ?_, by omega, by have := hw_nonneg h; omega, by unfold hw; omega, hdn (by have := HK.out; simp only [SL.len] at this; omega), hdn ?_, hdn ?_, HQR, HB3⟩
      ·congr 1; unfold hw; omega
      ·rw [HG.out, wtGo_cons, if_pos hnn]
      ·rcases HRS.out with hr | hr
       ·exact .inl hr
       ·exact .inr ⟨b, o, rfl, by rw [show o + (k + 1) * 48 = o + k * 48 + 48 by omega]; exact hr⟩
     case measure => simp [intOf]; omega
   ·have HN : Hid (wtGo rest d n = n) := hdn (by
     cases rest with
     | nil => rfl
     | cons => rw [wtGo_cons, if_neg hnn])
    go_wp2_with fail
    all_goals
     go_ret
     exact ⟨ret_int (by rw [HE.out, HG.out, HN.out]; omega), HB.out⟩
theorem weight_any (l : SL) (p : Option Addr) (c : Nat) (d : Int) (w : World) (hd0 : 0 ≤ d) (hd1 : d ≤ 41) (hl : sLies w p l) :
  Calls Tryz.prog 24 #[.slice p l.len c, .int .i64 d] w fun e w' => e = .returned (.int .i64 (wt l d)) ∧ Below w.heap.size w w' :=
 (SL.all (P := wtOk) (fun l h p c d w a b hl => weight_one l h p c d w a b hl) l).1 p c d w hd0 hd1 hl
end Go.Proofs.YtmhpaacjioeknaaGreat
namespace Go.Proofs.YtmhpaacjioeknaaGreat
/-- How many statements. -/
def SL.count : SL → Nat
 | .nil => 0
 | .cons _ _ _ t _ _ e r => 1 + t.count + e.count + r.count
def SL.cntFrom : SL → Int → Int
 | .nil, a => a
 | .cons _ _ _ t _ _ e r, a => r.cntFrom (a + 1 + t.cntFrom 0 + e.cntFrom 0)
theorem SL.cntFrom_eq : ∀ (l : SL) (a : Int), l.cntFrom a = a + l.count
 | .nil, a => by simp [SL.cntFrom, SL.count]
 | .cons _ _ _ t _ _ e r, a => by
  simp only [SL.cntFrom, SL.count]
  rw [SL.cntFrom_eq t, SL.cntFrom_eq e, SL.cntFrom_eq r]
  omega
/-- Does a statement count as one that has a list? -/
def hold (kind : Int) (tn en : Nat) : Bool := kind == 4 || kind == 5 || kind == 6 || decide (0 < tn) || decide (0 < en)
def blk (kind : Int) : Bool := kind == 4 || kind == 5 || kind == 6
/-- A weight that is small bounds how many there are. -/
theorem count_le_wtGo : ∀ (l : SL) (d n : Int), wtGo l d n ≤ 1000 → n ≤ 1000 → 0 ≤ n → (l.count : Int) - l.len + n ≤ wtGo l d n
 | .nil, d, n, h, _, _ => by simp [SL.count, SL.len, wtGo]
 | .cons h tp tc t ep ec e r, d, n, hs, hn, h0 => by
  rw [wtGo_cons, if_pos (by omega)] at hs ⊢
  have hh := hw_nonneg h
  have t0 := wt_nonneg t (d + 1)
  have e0 := wt_nonneg e (d + 1)
  have hg := (wtGo_ge r d (n + hw h + wt t (d + 1) + wt e (d + 1))).1
  have hr := count_le_wtGo r d (n + hw h + wt t (d + 1) + wt e (d + 1)) hs (by omega) (by omega)
  have key : ∀ x : SL, (wtGo x (d + 1) x.len ≤ 1000 → (x.len : Int) ≤ 1000 → (0 : Int) ≤ x.len → (x.count : Int) - x.len + x.len ≤ wtGo x (d + 1) x.len) → wt x (d + 1) ≤ 1000 → (x.count : Int) ≤ wt x (d + 1) := fun x ih hx => by
   unfold wt at hx ⊢
   split at hx
   ·omega
   ·rename_i hd
    rw [if_neg hd]
    have hge := (wtGo_ge x (d + 1) x.len).1
    have := ih (by omega) (by omega) (by omega)
    omega
  have ht := key t (count_le_wtGo t (d + 1) t.len) (by omega)
  have he := key e (count_le_wtGo e (d + 1) e.len) (by omega)
  simp only [SL.count, SL.len]
  omega
theorem count_small (l : SL) (h : wt l 0 ≤ 1000) : l.count ≤ 1000 := by
 unfold wt at h
 rw [if_neg (by omega)] at h
 have hge := (wtGo_ge l 0 l.len).1
 have := count_le_wtGo l 0 l.len (by omega) (by omega) (by omega)
 omega
end Go.Proofs.YtmhpaacjioeknaaGreat
namespace Go.Proofs.YtmhpaacjioeknaaGreat
open Go.RowKit Go.Sort
/-- What a step of a fold over statements comes to: asked of the function that is handed in. -/
def StepI (F : FuncId) (g : Hd → SL → SL → Int → Int) (P : SL → Prop) : Prop :=
 ∀ (h : Hd) (tp : Option Addr) (tc : Nat) (t : SL) (ep : Option Addr) (ec : Nat) (e : SL) (a i : Int) (b q : Nat) (w : World), P t → P e → w.rangeAt b q (scells h tp t.len tc ep e.len ec) → sLies w tp t → sLies w ep e →
  0 ≤ a → a + 1 + t.count + e.count ≤ 10000 →
  Calls Tryz.prog F #[.int .i64 a, .int .i64 i, .pointer (some ⟨b, q, none⟩)] w fun en w' => en = .returned (.int .i64 (g h t e a)) ∧ Below w.heap.size w w'
/-- The fold's own number. -/
def foldI (g : Hd → SL → SL → Int → Int) : SL → Int → Int
 | .nil, a => a
 | .cons h _ _ t _ _ e r, a => foldI g r (g h t e a)
theorem foldI_any (F : FuncId) (g : Hd → SL → SL → Int → Int) (P : SL → Prop) (hF : ∀ args w, (callFunc F args).run Tryz.prog w = .ok (.enter F args) w)
  (hg : ∀ h t e a, 0 ≤ a → 0 ≤ g h t e a ∧ g h t e a ≤ a + 1 + SL.count t + SL.count e) (hS : StepI F g P)
  (l : SL) (p : Option Addr) (c : Nat) (a : Int) (w : World) (hP : l.each P) (hl : sLies w p l) (ha : 0 ≤ a) (hc : a + l.count ≤ 10000) :
  Calls Tryz.prog 60 #[.slice p l.len c, .int .i64 a, .func (.func F) #[] #[]] w fun en w' => en = .returned (.int .i64 (foldI g l a)) ∧ Below w.heap.size w w' := by
 obtain ⟨hlen, hl⟩ := hl
 have hlen' : l.len ≤ 300000000000 := by omega
 have HP := hdn hP
 have HS := hdn hS
 have HGB := hdn hg
 have HFF := hdn hF
 have HCN := hdn hc
 clear hlen hP hS hg hF hc
 go_enter Tryz.func60, Tryz.ntmps60
 go_wp2_with fail
 go_loopw [1, 10] (fun v i wr => ∃ (k : Nat) (rest : SL) (n : Int), i = .int .i64 k ∧ v = .int .i64 n ∧ k ≤ l.len ∧ 0 ≤ n ∧ Hid (n + rest.count ≤ 10000) ∧ Hid (k + rest.len = l.len) ∧ Hid (foldI g l a = foldI g rest n) ∧
    Hid (rest = .nil ∨ ∃ b o, p = some ⟨b, o, none⟩ ∧ lies w rest b (o + k * 48)) ∧ Hid (rest.each P) ∧ Hid (Below w.heap.size w wr)) (fun _ i _ => l.len - (intOf i).toNat)
 case atStart => exact ⟨0, l, a, rfl, rfl, Nat.zero_le _, ha, HCN, hdn (Nat.zero_add _), hdn rfl, hdn (by simpa using hl), HP, hdn (Below.refl _ _)⟩
 case round =>
  obtain ⟨k, rest, n, rfl, rfl, hk, hn0, HN, HK, HG, HL, HQ, HB⟩ := hrel
  cases rest with
  | nil =>
   have hk' : l.len ≤ k := by have := HK.out; simp only [SL.len] at this; omega
   go_wp2_with fail
   go_ret
   exact ⟨ret_int (by rw [HG.out]; rfl), HB.out⟩
  | cons h tp tc t ep ec e r =>
   have hkl : k < l.len := by have := HK.out; simp only [SL.len] at this; omega
   have hr := HL.out
   obtain ⟨b, o, rfl, hrg, hhd, hts, hes, hrs⟩ : ∃ b o, p = some ⟨b, o, none⟩ ∧ w.rangeAt b (o + k * 48) (scells h tp t.len tc ep e.len ec) ∧ hdLies w h ∧ sLies w tp t ∧ sLies w ep e ∧ (r = .nil ∨ lies w r b (o + k * 48 + 48)) := by
    rcases hr with hr | ⟨b, o, hp, h1, h2, h3, h4, h5⟩
    ·cases hr
    ·exact ⟨b, o, hp, h1, h2, h3, h4, .inr h5⟩
   obtain ⟨hQt, hQe, hQr⟩ := HQ.out
   have HC := hdn (HS.out h tp tc t ep ec e n k b (o + k * 48) wr hQt hQe (rangeAt_below hrg HB.out) (sLies_below hts HB.out) (sLies_below hes HB.out) hn0 (by have := HN.out; simp only [SL.count] at this; omega))
   have HQR := hdn hQr
   have HRS := hdn hrs
   have hf1 := HFF.out
   clear hrg hhd hts hes hrs hQt hQe hQr hr
   go_wp2_with fail
   refine (HC.out).mono ?_; rintro en w3 ⟨rfl, hb⟩
   have HB3 : Hid (Below w.heap.size w w3) := hdn (HB.out.trans (hb.mono HB.out.size))
   clear hb hf1
   go_wp2_with fail
   go_roundw
   case rel =>
    refine ⟨k + 1, r, g h t e n, by go_num, rfl, by omega, ((HGB.out) h t e n hn0).1, hdn ?_, hdn (by have := HK.out; simp only [SL.len] at this; omega), hdn (by rw [HG.out]; rfl), hdn ?_, HQR, HB3⟩
    ·have := HN.out; have := ((HGB.out) h t e n hn0).2; simp only [SL.count] at *; omega
    ·rcases HRS.out with hr | hr
     ·exact .inl hr
     ·exact .inr ⟨b, o, rfl, by rw [show o + (k + 1) * 48 = o + k * 48 + 48 by omega]; exact hr⟩
   case measure => simp [intOf]; omega
theorem enters {F : FuncId} {fn : Func} {c : Code} (hf : Tryz.prog.funcs[F]? = some fn) (hname : (fn.name == "runtime.NumGoroutine") = false) (hb : fn.body = some c) : ∀ args w, (callFunc F args).run Tryz.prog w = .ok (.enter F args) w := by
 intro args w
 have h1 : fn.name ≠ "runtime.NumGoroutine" := by simpa using hname
 simp [callFunc, hf, h1, hb, mark]
theorem enters28 : ∀ args w, (callFunc 61 args).run Tryz.prog w = .ok (.enter 61 args) w := enters Tryz.func61 (by kernel_rfl) rfl
/-- A statement's cell. -/
theorem cell_at {w : World} {b q : Nat} {cs : List Value} (h : w.rangeAt b q cs) (j : Nat) (v : Value) (hv : cs[j]? = some v) : w.cell? ⟨b, q + j, none⟩ = some v := h j v hv
/-- What each of the three is on lists within lists. -/
def okI (F : FuncId) (G : SL → Int → Int) (l : SL) : Prop := ∀ (p : Option Addr) (c : Nat) (w : World), sLies w p l → l.count ≤ 10000 →
 Calls Tryz.prog F #[.slice p l.len c] w fun e w' => e = .returned (.int .i64 (G l 0)) ∧ Below w.heap.size w w'
theorem stepCount : StepI 61 (fun _ t e a => a + 1 + t.cntFrom 0 + e.cntFrom 0) (okI 48 SL.cntFrom) := by
 intro h tp tc t ep ec e a i b q w hT hE hr ht he ha hc
 show Calls _ _ _ _ (fun en w' => en = .returned (.int .i64 (a + 1 + t.cntFrom 0 + e.cntFrom 0)) ∧ Below w.heap.size w w')
 have c45 := cell_at hr 45 _ rfl
 have c46 := cell_at hr 46 _ rfl
 have ht0 := SL.cntFrom_eq t 0
 have he0 := SL.cntFrom_eq e 0
 have ht1 : 0 ≤ t.cntFrom 0 := by omega
 have he1 : 0 ≤ e.cntFrom 0 := by omega
 have ht2 : a + 1 + t.cntFrom 0 + e.cntFrom 0 ≤ 10000 := by omega
 have ht3 : a + 1 + t.cntFrom 0 ≤ 10000 := by omega
 clear ht0 he0
 have cT : ∀ dd os, Calls Tryz.prog 48 #[.slice tp t.len tc] (grow (redrawn w dd) os) fun en w'' => en = .returned (.int .i64 (t.cntFrom 0)) ∧ ∃ p : Regrown, w'' = grow (redrawn w p.d) p.os :=
  fun dd os => Calls.regrown_of (hT _ _ _ (sLies_below ht (below_regrown _ _ _)) (by omega))
 have cE : ∀ dd os, Calls Tryz.prog 48 #[.slice ep e.len ec] (grow (redrawn w dd) os) fun en w'' => en = .returned (.int .i64 (e.cntFrom 0)) ∧ ∃ p : Regrown, w'' = grow (redrawn w p.d) p.os :=
  fun dd os => Calls.regrown_of (hE _ _ _ (sLies_below he (below_regrown _ _ _)) (by omega))
 have k45 := cell_regrown c45
 have k46 := cell_regrown c46
 clear hr ht he hT hE
 generalize t.cntFrom 0 = dt at *
 generalize e.cntFrom 0 = de at *
 go_enter Tryz.func61, Tryz.ntmps61
 go_wp2_with fail
 refine wp_region_quiet_below (by kernel_rfl) (by kernel_rfl) ?_
 repeat (go_big_quiet_step (first | (with_reducible exact cT _ _) | (with_reducible exact cE _ _)))
 refine wpQuiet_nil ?_
 intro _ hw'
 obtain ⟨⟨dq, osq⟩, hw''⟩ := hw'
 subst hw''
 have HB3 := hdn (below_regrown w dq osq)
 generalize grow (redrawn w dq) osq = w3 at HB3 ⊢
 go_wp2_with fail
 go_ret
 exact ⟨ret_int (by simp), HB3.out⟩
theorem foldI_eq {g : Hd → SL → SL → Int → Int} {G : SL → Int → Int} (h0 : ∀ a, G .nil a = a) (h1 : ∀ h tp tc t ep ec e r a, G (.cons h tp tc t ep ec e r) a = G r (g h t e a)) : ∀ l a, foldI g l a = G l a
 | .nil, a => (h0 a).symm
 | .cons h tp tc t ep ec e r, a => by rw [h1]; exact foldI_eq h0 h1 r _
theorem count_one (l : SL) (hP : l.each (okI 48 SL.cntFrom)) : okI 48 SL.cntFrom l := by
 intro p c w hl hc
 have HC := hdn (foldI_any 61 _ _ enters28 (fun h t e a ha => by
  have ht := SL.cntFrom_eq t 0; have he := SL.cntFrom_eq e 0
  omega) stepCount l p c 0 w hP hl (Int.le_refl _) (by omega))
 have HE : Hid (foldI (fun _ t e a => a + 1 + t.cntFrom 0 + e.cntFrom 0) l 0 = l.cntFrom 0) := hdn (foldI_eq (fun _ => rfl) (fun _ _ _ _ _ _ _ _ _ => rfl) l 0)
 go_enter Tryz.func48, Tryz.ntmps48
 go_wp2_with (go_at_call 60; refine (HC.out).mono ?_; rintro en w' ⟨rfl, hb⟩)
 go_ret
 exact ⟨ret_int (by rw [HE.out]), by assumption⟩
theorem count_any (l : SL) : okI 48 SL.cntFrom l := (SL.all count_one l).1
end Go.Proofs.YtmhpaacjioeknaaGreat
namespace Go.Proofs.YtmhpaacjioeknaaGreat
open Go.RowKit Go.Sort
/-- The first of what is left of a list that lies in memory. -/
theorem lies_head {w : World} {p : Option Addr} {k : Nat} {h : Hd} {tp : Option Addr} {tc : Nat} {t : SL} {ep : Option Addr} {ec : Nat} {e r : SL}
  (hr : SL.cons h tp tc t ep ec e r = .nil ∨ ∃ b o, p = some ⟨b, o, none⟩ ∧ lies w (.cons h tp tc t ep ec e r) b (o + k * 48)) :
  ∃ b o, p = some ⟨b, o, none⟩ ∧ w.rangeAt b (o + k * 48) (scells h tp t.len tc ep e.len ec) ∧ hdLies w h ∧ sLies w tp t ∧ sLies w ep e ∧ (r = .nil ∨ ∃ b' o', (some ⟨b, o, none⟩ : Option Addr) = some ⟨b', o', none⟩ ∧ lies w r b' (o' + (k + 1) * 48)) := by
 rcases hr with hr | ⟨b, o, hp, h1, h2, h3, h4, h5⟩
 ·cases hr
 ·exact ⟨b, o, hp, h1, h2, h3, h4, .inr ⟨b, o, rfl, by rw [show o + (k + 1) * 48 = o + k * 48 + 48 by omega]; exact h5⟩⟩
end Go.Proofs.YtmhpaacjioeknaaGreat
namespace Go.Proofs.YtmhpaacjioeknaaGreat
open Go.RowKit Go.Sort
/-- The names that are called, in order. -/
def SL.every : SL → List ByteArray
 | .nil => []
 | .cons h _ _ t _ _ e r => (if h.kind = 3 then [h.name] else []) ++ t.every ++ e.every ++ r.every
theorem SL.every_le : ∀ (l : SL), l.every.length ≤ l.count
 | .nil => Nat.le_refl _
 | .cons h _ _ t _ _ e r => by
  have ht := SL.every_le t; have he := SL.every_le e; have hr := SL.every_le r
  simp only [SL.every, SL.count, List.length_append]
  split <;> simp <;> omega
def sv (l : List ByteArray) : List Value := l.map Value.string
theorem sv_append (a b : List ByteArray) : sv (a ++ b) = sv a ++ sv b := by simp [sv]
theorem sv_len (a : List ByteArray) : (sv a).length = a.length := by simp [sv]
theorem sv_one (a : List ByteArray) : ∀ u ∈ sv a, u.oneCell' = true := by
 intro u hu; simp only [sv, List.mem_map] at hu; obtain ⟨x, _, rfl⟩ := hu; rfl
theorem info9 : (Tryz.prog.info? 9).map (fun i => (i.zero, i.size, i.bytes)) = some (some (.string ByteArray.empty), 1, 16) := by kernel_rfl
theorem own_below {w w' : World} {B : Nat} {e : TypeId} {k : Nat} {v : Value} {n : Nat} {xs : List Value} (h : w.ownsRow B e k v n xs) (hb : Below w.heap.size w w') : w'.ownsRow B e k v n xs :=
 h.kept (w' := w') (row := none) ⟨hb.os, hb.tape, hb.output, hb.size, fun i hi _ => hb.block i hi⟩ (by cases v.ownBlock <;> simp)
theorem own_base {w : World} {B B' : Nat} {e : TypeId} {k : Nat} {v : Value} {n : Nat} {xs : List Value} (h : w.ownsRow B e k v n xs) (hB : B' ≤ B) : w.ownsRow B' e k v n xs := by
 refine ⟨h.1, ?_⟩
 rcases h.2 with h | ⟨g, cap, cur, h1, h2, h3⟩
 ·exact .inl h
 ·exact .inr ⟨g, cap, cur, h1, by omega, h3⟩
theorem own_shape {w : World} {base : Nat} {e : TypeId} {size : Nat} {v : Value} {n : Nat} {xs : List Value} (h : w.ownsRow base e size v n xs) : ∃ a c, v = .slice a n c := by
 rcases h.2 with ⟨rfl, rfl⟩ | ⟨g, cap, _, rfl, _⟩
 ·exact ⟨_, _, rfl⟩
 ·exact ⟨_, _, rfl⟩
/-- 'out = append(out, more...)', both of the call's own, of texts. -/
theorem wpList_append_sv {w : World} {ops : Array Oper} {rest : List Oper} {o : Oper} {a : Act} {Q : Exit → Act → World → Prop} (hgd : o.guard = none) (s x : Operand)
  (ho : o.op = .call { callee := .builtin .append, args := #[s, x], argTypes := #[78, 78] }) (base base2 : Nat) (v : Value) (ns : List ByteArray) (hs : a.eval s = v) (hown : w.ownsRow base 9 1 v ns.length (sv ns))
  (v2 : Value) (ms : List ByteArray) (hx : a.eval x = v2) (hown2 : w.ownsRow base2 9 1 v2 ms.length (sv ms)) (hn : ns.length + ms.length ≤ 1000000) (hbase : base ≤ w.heap.size)
  (h : ∀ v' w', w'.ownsRow base 9 1 v' (ns ++ ms).length (sv (ns ++ ms)) → Below base w w' → wpList Tryz.prog ops Q rest (a.put o.dst v') w') : wpList Tryz.prog ops Q (o :: rest) a w := by
 obtain ⟨i0, hi0, hz0, hz1, hz2⟩ := info_parts info9
 rcases hown2.2 with ⟨rfl, h0⟩ | ⟨g, cap, cur, rfl, hg, hhp, hc1, hc2, hc3, hc4⟩
 ·have hms : ms = [] := List.length_eq_zero_iff.1 h0
  subst hms
  rw [List.append_nil] at h
  exact wpList_append_own_none hgd s x 78 ho base 9 i0 1 Tryz.underlying78 hi0 v ns.length (sv ns) hs hown hx (h v w hown (Below.refl _ _))
 ·refine wpList_append_own _ hgd s x 78 ho base 9 i0 (.string ByteArray.empty) 1 16 Tryz.underlying78 hi0 hz0 hz1 hz2 rfl (by decide) v ns.length (sv ns) hs hown ⟨g, 0, none⟩ ms.length cap (sv ms) hx (by rw [sv_len]; omega) (fun j u hj => ?_) (sv_one ms) (by unfold maxLen; omega) (by omega) hbase (fun v' w' h1 h2 _ => ?_)
  ·have hj' : j < ms.length := by have := (List.getElem?_eq_some_iff.1 hj).1; rw [sv_len] at this; exact this
   rw [show (⟨g, 0, none⟩ : Addr).add j = ⟨g, j, none⟩ by rw [Addr.add_mid]; simp, hown2.cellAt j (by omega), ← hj]
  ·refine h v' w' (by rw [List.length_append, sv_append]; exact h1) ((Below.refl _ _).grown h2 hbase (fun k hk => (hown.lt k hk).1))
/-- A text laid in a new block of its own. -/
theorem own_new (w : World) (s : ByteArray) : (w.alloc (.cells #[.string s] 9)).ownsRow w.heap.size 9 1 (.slice (some ⟨w.heap.size, 0, none⟩) 1 1) ([s] : List ByteArray).length (sv [s]) :=
 ⟨rfl, .inr ⟨w.heap.size, 1, #[.string s], rfl, Nat.le_refl _, heap_alloc_new w _, Nat.le_refl _, by decide, rfl, rfl⟩⟩
def everyOk (l : SL) : Prop := ∀ (p : Option Addr) (c : Nat) (w : World), sLies w p l → l.count ≤ 10000 →
 Calls Tryz.prog 56 #[.slice p l.len c] w fun en w' => ∃ v, en = .returned v ∧ w'.ownsRow w.heap.size 9 1 v l.every.length (sv l.every) ∧ Below w.heap.size w w'
theorem every_one (l : SL) (hP : l.each everyOk) : everyOk l := by
 intro p c w hl hc
 obtain ⟨hlen, hl⟩ := hl
 have hlen' : l.len ≤ 300000000000 := by omega
 have HP := hdn hP
 have HCN := hdn (Nat.le_trans (SL.every_le l) hc)
 have HCC := hdn hc
 clear hlen hP hc
 go_enter Tryz.func56, Tryz.ntmps56
 go_wp2_with fail
 go_loopw [3, 4] (fun v i wr => ∃ (k : Nat) (rest : SL) (ns : List ByteArray), i = .int .i64 k ∧ k ≤ l.len ∧ Hid (wr.ownsRow w.heap.size 9 1 v ns.length (sv ns)) ∧ Hid (rest.count ≤ 10000) ∧ Hid (k + rest.len = l.len) ∧ Hid (l.every = ns ++ rest.every) ∧
    Hid (rest = .nil ∨ ∃ b o, p = some ⟨b, o, none⟩ ∧ lies w rest b (o + k * 48)) ∧ Hid (rest.each everyOk) ∧ Hid (Below w.heap.size w wr)) (fun _ i _ => l.len - (intOf i).toNat)
 case atStart => exact ⟨0, l, [], rfl, Nat.zero_le _, hdn (World.ownsRow_nil _ _ _ _), HCC, hdn (Nat.zero_add _), hdn rfl, hdn (by simpa using hl), HP, hdn (Below.refl _ _)⟩
 case round =>
  obtain ⟨k, rest, ns, rfl, hk, HO, HCR, HK, HG, HL, HQ, HB⟩ := hrel
  cases rest with
  | nil =>
   have hk' : l.len ≤ k := by have := HK.out; simp only [SL.len] at this; omega
   go_wp2_with fail
   have HF : Hid (l.every = ns) := hdn (by rw [HG.out]; simp [SL.every])
   obtain ⟨a0, c0, rfl⟩ := own_shape HO.out
   go_ret
   exact ⟨_, rfl, by rw [HF.out]; exact HO.out, HB.out⟩
  | cons h tp tc t ep ec e r =>
   have hkl : k < l.len := by have := HK.out; simp only [SL.len] at this; omega
   obtain ⟨b, o, rfl, hrg, hhd, hts, hes, hrs⟩ := lies_head HL.out
   obtain ⟨hQt, hQe, hQr⟩ := HQ.out
   have hcr := HCR.out
   simp only [SL.count] at hcr
   have HQR := hdn hQr
   have HRS := hdn hrs
   have hlt := World.block_lt_of_cell? w _ (cell_at hrg 0 _ rfl)
   have D : ∀ w', Below w.heap.size w w' → w'.cell? ⟨b, o + k * 48 + 45, none⟩ = some (.slice tp t.len tc) ∧ w'.cell? ⟨b, o + k * 48 + 46, none⟩ = some (.slice ep e.len ec) := fun w' hb =>
    ⟨cell_at (rangeAt_below hrg hb) 45 _ rfl, cell_at (rangeAt_below hrg hb) 46 _ rfl⟩
   have HD := hdn D
   have CT : ∀ w', Below w.heap.size w w' → Hid (Calls Tryz.prog 56 #[.slice tp t.len tc] w' fun en w'' => ∃ v, en = .returned v ∧ w''.ownsRow w'.heap.size 9 1 v t.every.length (sv t.every) ∧ Below w'.heap.size w' w'') := fun w' hb => hdn (hQt _ _ _ (sLies_below hts hb) (by omega))
   have CE : ∀ w', Below w.heap.size w w' → Hid (Calls Tryz.prog 56 #[.slice ep e.len ec] w' fun en w'' => ∃ v, en = .returned v ∧ w''.ownsRow w'.heap.size 9 1 v e.every.length (sv e.every) ∧ Below w'.heap.size w' w'') := fun w' hb => hdn (hQe _ _ _ (sLies_below hes hb) (by omega))
   have HCT := hdn CT
   have HCE := hdn CE
   have c0 := cell_at (rangeAt_below hrg HB.out) 0 _ rfl
   rw [Nat.add_zero] at c0
   have c43 := cell_at (rangeAt_below hrg HB.out) 43 _ rfl
   have HT3 : ∀ x, h.kind = x → Hid (l.every = (ns ++ (if x = 3 then [h.name] else []) ++ t.every ++ e.every) ++ r.every) := fun x hx => hdn (by rw [HG.out, ← hx]; simp [SL.every])
   have HLE := HCN.out
   clear CT CE D hrg hhd hts hes hrs hQt hQe hQr hcr
   generalize h.name = nm at c43 HT3
   generalize h.kind = kind at c0 HT3
   have HTT := HT3 kind rfl
   clear HT3
   by_cases hk3 : kind = 3
   ·rw [if_pos hk3] at HTT
    have HLL : Hid ((ns ++ [nm] ++ t.every ++ e.every).length ≤ 10000) := hdn (by rw [HTT.out, List.length_append] at HLE; omega)
    subst hk3
    clear HLE
    go_wp2_with ((with_reducible show wpList _ _ _ (Oper.mk (some 24) _ _ _ _ _ :: _) _ _); refine wpList_append_sv rfl (.tmp 17) (.tmp 23) rfl w.heap.size wr.heap.size _ ns rfl (HO.out.alloc _) _ [nm] rfl (own_new _ _) (by have := HLL.out; simp only [List.length_append, List.length_cons, List.length_nil] at *; omega) (Nat.le_trans HB.out.size (by simp)) ?_; intro v1 w1 hown1 hb1; have HO1 := hdn hown1; have HB1 : Hid (Below w.heap.size w w1) := hdn ((HB.out.alloc HB.out.size _).trans hb1); have d45 := (HD.out w1 HB1.out).1; clear hown1 hb1)
    refine ((HCT.out _ HB1.out).out).mono ?_; rintro en w2 ⟨v2, rfl, ho2, hb2⟩
    have HO2 := hdn ho2
    have HO1' := hdn (own_below HO1.out hb2)
    have HB2 : Hid (Below w.heap.size w w2) := hdn (HB1.out.trans (hb2.mono HB1.out.size))
    have HS2 : Hid (w.heap.size ≤ w2.heap.size) := hdn HB2.out.size
    clear ho2 hb2
    go_wp2_with ((with_reducible show wpList _ _ _ (Oper.mk (some 32) _ _ _ _ _ :: _) _ _); refine wpList_append_sv rfl (.tmp 25) (.tmp 31) rfl w.heap.size _ _ (ns ++ [nm]) rfl HO1'.out _ t.every rfl HO2.out (by have := HLL.out; simp only [List.length_append] at *; omega) HS2.out ?_; intro v3 w3 hown3 hb3; have HO3 := hdn hown3; have HB3 : Hid (Below w.heap.size w w3) := hdn (HB2.out.trans hb3); have d46 := (HD.out w3 HB3.out).2; clear hown3 hb3)
    refine ((HCE.out _ HB3.out).out).mono ?_; rintro en w4 ⟨v4, rfl, ho4, hb4⟩
    have HO4 := hdn ho4
    have HO3' := hdn (own_below HO3.out hb4)
    have HB4 : Hid (Below w.heap.size w w4) := hdn (HB3.out.trans (hb4.mono HB3.out.size))
    have HS4 : Hid (w.heap.size ≤ w4.heap.size) := hdn HB4.out.size
    clear ho4 hb4
    go_wp2_with ((with_reducible show wpList _ _ _ (Oper.mk (some 40) _ _ _ _ _ :: _) _ _); refine wpList_append_sv rfl (.tmp 33) (.tmp 39) rfl w.heap.size _ _ (ns ++ [nm] ++ t.every) rfl HO3'.out _ e.every rfl HO4.out (by have := HLL.out; simp only [List.length_append] at *; omega) HS4.out ?_; intro v5 w5 hown5 hb5; have HO5 := hdn hown5; have HB5 : Hid (Below w.heap.size w w5) := hdn (HB4.out.trans hb5); clear hown5 hb5)
    go_roundw
    case rel =>
     exact ⟨k + 1, r, ns ++ [nm] ++ t.every ++ e.every, by go_num, by omega, HO5, hdn (by have := HCR.out; simp only [SL.count] at this; omega), hdn (by have := HK.out; simp only [SL.len] at this; omega), hdn (by first | exact HTT.out | (rw [HTT.out]; simp)), HRS, HQR, HB5⟩
    case measure => simp [intOf]; omega
   ·rw [if_neg hk3] at HTT
    have HLL : Hid ((ns ++ t.every ++ e.every).length ≤ 10000) := hdn (by rw [HTT.out, List.length_append] at HLE; simp only [List.append_nil] at HLE; omega)
    have hk3' : (kind == 3) = false := by simpa using hk3
    have d45 := (HD.out wr HB.out).1
    clear HLE hk3
    go_wp2_with fail
    refine ((HCT.out _ HB.out).out).mono ?_; rintro en w2 ⟨v2, rfl, ho2, hb2⟩
    have HO2 := hdn ho2
    have HO1' := hdn (own_below HO.out hb2)
    have HB2 : Hid (Below w.heap.size w w2) := hdn (HB.out.trans (hb2.mono HB.out.size))
    have HS2 : Hid (w.heap.size ≤ w2.heap.size) := hdn HB2.out.size
    clear ho2 hb2
    go_wp2_with ((with_reducible show wpList _ _ _ (Oper.mk (some 32) _ _ _ _ _ :: _) _ _); refine wpList_append_sv rfl (.tmp 25) (.tmp 31) rfl w.heap.size _ _ (ns) rfl HO1'.out _ t.every rfl HO2.out (by have := HLL.out; simp only [List.length_append] at *; omega) HS2.out ?_; intro v3 w3 hown3 hb3; have HO3 := hdn hown3; have HB3 : Hid (Below w.heap.size w w3) := hdn (HB2.out.trans hb3); have d46 := (HD.out w3 HB3.out).2; clear hown3 hb3)
    refine ((HCE.out _ HB3.out).out).mono ?_; rintro en w4 ⟨v4, rfl, ho4, hb4⟩
    have HO4 := hdn ho4
    have HO3' := hdn (own_below HO3.out hb4)
    have HB4 : Hid (Below w.heap.size w w4) := hdn (HB3.out.trans (hb4.mono HB3.out.size))
    have HS4 : Hid (w.heap.size ≤ w4.heap.size) := hdn HB4.out.size
    clear ho4 hb4
    go_wp2_with ((with_reducible show wpList _ _ _ (Oper.mk (some 40) _ _ _ _ _ :: _) _ _); refine wpList_append_sv rfl (.tmp 33) (.tmp 39) rfl w.heap.size _ _ (ns ++ t.every) rfl HO3'.out _ e.every rfl HO4.out (by have := HLL.out; simp only [List.length_append] at *; omega) HS4.out ?_; intro v5 w5 hown5 hb5; have HO5 := hdn hown5; have HB5 : Hid (Below w.heap.size w w5) := hdn (HB4.out.trans hb5); clear hown5 hb5)
    go_roundw
    case rel =>
     exact ⟨k + 1, r, ns ++ t.every ++ e.every, by go_num, by omega, HO5, hdn (by have := HCR.out; simp only [SL.count] at this; omega), hdn (by have := HK.out; simp only [SL.len] at this; omega), hdn (by first | exact HTT.out | (rw [HTT.out]; simp)), HRS, HQR, HB5⟩
    case measure => simp [intOf]; omega
theorem every_any (l : SL) : everyOk l := (SL.all every_one l).1
end Go.Proofs.YtmhpaacjioeknaaGreat
namespace Go.Proofs.YtmhpaacjioeknaaGreat
open Go.RowKit Go.Sort
def eqs (a b : ByteArray) : Bool := a.toList == b.toList
def has (out : List ByteArray) (x : ByteArray) : Bool := out.any fun y => eqs y x
/-- Each once, behind those that are there. -/
def uq : List ByteArray → List ByteArray → List ByteArray
 | out, [] => out
 | out, x :: xs => uq (if has out x then out else out ++ [x]) xs
theorem uq_append : ∀ (out xs ys : List ByteArray), uq out (xs ++ ys) = uq (uq out xs) ys
 | out, [], ys => rfl
 | out, x :: xs, ys => by simp only [List.cons_append, uq]; exact uq_append _ xs ys
theorem uq_len : ∀ (out xs : List ByteArray), (uq out xs).length ≤ out.length + xs.length
 | out, [] => Nat.le_refl _
 | out, x :: xs => by
  simp only [uq]
  have := uq_len (if has out x then out else out ++ [x]) xs
  split at this <;> simp_all <;> omega
theorem has_step (out : List ByteArray) (x : ByteArray) (j : Nat) (h : j < out.length) : has (out.take (j + 1)) x = (has (out.take j) x || eqs out[j] x) := by
 unfold has
 rw [List.take_succ_eq_append_getElem h, List.any_append]; simp only [List.any_cons, List.any_nil, Bool.or_false]
theorem below_drewN {B : Nat} {a w : World} (h : Below B a w) (n : Nat) : Below B a (w.drewN n) := ⟨h.os, h.tape, h.output, h.size, h.block⟩
theorem cell_sv {w : World} {B : Nat} {g cap : Nat} {l : List ByteArray} (h : w.ownsRow B 9 1 (.slice (some ⟨g, 0, none⟩) l.length cap) l.length (sv l)) (j : Nat) (hj : j < l.length) : w.cell? ⟨g, j, none⟩ = some (.string l[j]) := by
 rw [h.cellAt j (by omega)]; simp [sv, hj]
theorem refCalls_any (l : SL) (p : Option Addr) (c : Nat) (w : World) (hl : sLies w p l) (hc : l.count ≤ 10000) :
  Calls Tryz.prog 40 #[.slice p l.len c] w fun en w' => ∃ v, en = .returned v ∧ w'.ownsRow w.heap.size 9 1 v (uq [] l.every).length (sv (uq [] l.every)) ∧ Below w.heap.size w w' := by
 have HE := hdn (every_any l p c w hl hc)
 have hle := SL.every_le l
 have hlen : l.every.length ≤ 10000 := by omega
 clear hl hle hc
 generalize l.every = xs at *
 go_enter Tryz.func40, Tryz.ntmps40
 go_wp2_with fail
 refine (HE.out).mono ?_; rintro en w1 ⟨va, rfl, hoa, hba⟩
 have HOA := hdn hoa
 have HBA := hdn hba
 clear hoa hba
 obtain ⟨A1, c1, rfl⟩ := own_shape HOA.out
 go_wp2_with fail
 go_loopw [4, 5] (fun v i wr => ∃ (k : Nat) (ns : List ByteArray), i = .int .i64 k ∧ k ≤ xs.length ∧ Hid (wr.ownsRow w1.heap.size 9 1 v ns.length (sv ns)) ∧ Hid (ns.length ≤ k) ∧ Hid (uq [] xs = uq ns (xs.drop k)) ∧ Hid (Below w1.heap.size w1 wr)) (fun _ i _ => xs.length - (intOf i).toNat)
 case atStart => exact ⟨0, [], rfl, Nat.zero_le _, hdn (World.ownsRow_nil _ _ _ _), hdn (Nat.le_refl _), hdn rfl, hdn (Below.refl _ _)⟩
 case round =>
  obtain ⟨k, ns, rfl, hk, HO, HN, HU, HB⟩ := hrel
  by_cases hkl : k < xs.length
  ·obtain ⟨g1, d1, f1⟩ := Go.Joins.ownsRow_form HOA.out (by omega)
   injection f1 with f1 f1a f1b
   clear f1a f1b
   subst f1
   have cx : wr.cell? ⟨g1, k, none⟩ = some (.string xs[k]) := (HB.out.cell (p := ⟨g1, k, none⟩) (World.block_lt_of_cell? w1 _ (cell_sv HOA.out k hkl))).trans (cell_sv HOA.out k hkl)
   obtain ⟨A2, c2, rfl⟩ := own_shape HO.out
   have hnl : ns.length ≤ 10000 := by have := HN.out; omega
   have HUS : Hid (uq ns (xs.drop k) = uq (if has ns xs[k] then ns else ns ++ [xs[k]]) (xs.drop (k + 1))) := hdn (by rw [List.drop_eq_getElem_cons hkl]; rfl)
   obtain ⟨x, hx⟩ : ∃ x, x = xs[k] := ⟨_, rfl⟩
   rw [← hx] at cx HUS
   clear hx
   go_wp2_with fail
   obtain ⟨wo, rfl⟩ : ∃ wo : World, wo = wr := ⟨_, rfl⟩
   go_loopw [6, 7] (fun s i w2 => ∃ (j : Nat), i = .int .i64 j ∧ j ≤ ns.length ∧ s = .bool (has (ns.take j) x) ∧ Hid (Below wo.heap.size wo w2)) (fun _ i _ => ns.length - (intOf i).toNat)
   case atStart => exact ⟨0, rfl, Nat.zero_le _, rfl, hdn (Below.refl _ _)⟩
   case round =>
    obtain ⟨w2, rfl⟩ : ∃ w2 : World, w2 = wr := ⟨_, rfl⟩
    obtain ⟨j, rfl, hj, rfl, HB2⟩ := hrel
    have HBW : Hid (Below w1.heap.size w1 w2) := hdn (HB.out.trans (HB2.out.mono HB.out.size))
    have HO2 := hdn (own_below HO.out HB2.out)
    have cx2 : w2.cell? ⟨g1, k, none⟩ = some (.string x) := (HB2.out.cell (p := ⟨g1, k, none⟩) (World.block_lt_of_cell? wo _ cx)).trans cx
    by_cases hjl : j < ns.length
    ·obtain ⟨g2, d2, f2⟩ := Go.Joins.ownsRow_form HO2.out (by omega)
     injection f2 with f2 f2a f2b
     clear f2a f2b
     subst f2
     have cy := cell_sv HO2.out j hjl
     have hst := has_step ns x j hjl
     generalize ns[j] = y at cy hst
     have HST := hdn hst
     clear hst
     have hj0 : (0 : Int) ≤ (j : Int) := Int.natCast_nonneg _
     have hj1 : (j : Int) < (ns.length : Int) := by omega
     have hk0 : (0 : Int) ≤ (k : Int) := Int.natCast_nonneg _
     have hk1 : (k : Int) < (xs.length : Int) := by omega
     generalize has (ns.take j) x = sb at HST ⊢
     cases sb
     ·go_wp2_with fail
      go_quiet (fail)
      go_wp2_with fail
      go_roundw
      case rel => exact ⟨j + 1, by go_num, by omega, by rw [HST.out]; rfl, hdn (below_drewN HB2.out _)⟩
      case measure => simp [intOf]; omega
     ·go_wp2_with fail
      go_quiet (fail)
      go_wp2_with fail
      go_roundw
      case rel => exact ⟨j + 1, by go_num, by omega, by rw [HST.out]; rfl, hdn (below_drewN HB2.out _)⟩
      case measure => simp [intOf]; omega
    ·have hjn : ns.take j = ns := List.take_of_length_le (by omega)
     rw [hjn]
     clear hjn
     generalize has ns x = sb at HUS ⊢
     cases sb
     ·go_wp2_with ((with_reducible show wpList _ _ _ (Oper.mk (some 42) _ _ _ _ _ :: _) _ _); refine wpList_append_sv rfl (.tmp 36) (.tmp 41) rfl w1.heap.size w2.heap.size _ ns rfl (HO2.out.alloc _) _ [x] rfl (own_new _ _) (by simp only [List.length_cons, List.length_nil]; omega) (Nat.le_trans HBW.out.size (by simp)) ?_; intro v5 w5 hown5 hb5; have HO5 := hdn hown5; have HB5 : Hid (Below w1.heap.size w1 w5) := hdn ((HBW.out.alloc HBW.out.size _).trans hb5); clear hown5 hb5)
      go_roundw
      case rel => exact ⟨k + 1, ns ++ [x], by go_num, by omega, HO5, hdn (by have := HN.out; simp only [List.length_append, List.length_cons, List.length_nil]; omega), hdn (by rw [HU.out, HUS.out]; rfl), HB5⟩
      case measure => simp [intOf]; omega
     ·go_wp2_with fail
      go_roundw
      case rel => exact ⟨k + 1, ns, by go_num, by omega, HO2, hdn (by have := HN.out; omega), hdn (by rw [HU.out, HUS.out]; rfl), HBW⟩
      case measure => simp [intOf]; omega
  ·have HF : Hid (uq [] xs = ns) := hdn (by rw [HU.out, List.drop_eq_nil_of_le (by omega)]; rfl)
   go_wp2_with fail
   obtain ⟨a0, c0, rfl⟩ := own_shape HO.out
   go_ret
   exact ⟨_, rfl, by rw [HF.out]; exact own_base HO.out HBA.out.size, HBA.out.trans (HB.out.mono HBA.out.size)⟩
end Go.Proofs.YtmhpaacjioeknaaGreat
namespace Go.Proofs.YtmhpaacjioeknaaGreat
open Go.RowKit Go.Sort Go.Maps
/-- Of what was there only the map's block and one row may have turned. -/
structure Kp (B : Nat) (r : Option Nat) (w w' : World) : Prop where
 os : w'.os = w.os
 tape : w'.tape = w.tape
 output : w'.output = w.output
 size : w.heap.size ≤ w'.heap.size
 block : ∀ k, k < w.heap.size → k ≠ B → some k ≠ r → w'.heap[k]? = w.heap[k]?
/-- The row is the one that was there, or a new one. -/
def Nx (w : World) (r r' : Option Nat) : Prop := r' = r ∨ ∃ k, w.heap.size ≤ k ∧ r' = some k
theorem Kp.refl (B : Nat) (r : Option Nat) (w : World) : Kp B r w w := ⟨rfl, rfl, rfl, Nat.le_refl _, fun _ _ _ _ => rfl⟩
theorem Kp.trans {B : Nat} {r r1 : Option Nat} {w w1 w2 : World} (h : Kp B r w w1) (hr : Nx w r r1) (h2 : Kp B r1 w1 w2) : Kp B r w w2 :=
 ⟨h2.os.trans h.os, h2.tape.trans h.tape, h2.output.trans h.output, Nat.le_trans h.size h2.size, fun k hk hB hk' => by
  rw [h2.block k (Nat.lt_of_lt_of_le hk h.size) hB ?_, h.block k hk hB hk']
  rcases hr with rfl | ⟨j, hj, rfl⟩
  ·exact hk'
  ·intro e; injection e with e; omega⟩
theorem Nx.refl (w : World) (r : Option Nat) : Nx w r r := .inl rfl
theorem Nx.trans {w w1 : World} {r r1 r2 : Option Nat} (h : Nx w r r1) (hw : w.heap.size ≤ w1.heap.size) (h2 : Nx w1 r1 r2) : Nx w r r2 := by
 rcases h2 with rfl | ⟨k, hk, rfl⟩
 ·exact h
 ·exact .inr ⟨k, by omega, rfl⟩
theorem Kp.of_below {B : Nat} {r : Option Nat} {w w' : World} (h : Below w.heap.size w w') : Kp B r w w' := ⟨h.os, h.tape, h.output, h.size, fun k hk _ _ => h.block k hk⟩
theorem Kp.of_row {B : Nat} {r : Option Nat} {w w' : World} (h : w.grownBy w' r) : Kp B r w w' := ⟨h.os, h.tape, h.output, h.size, fun k hk _ hr => h.block k hk hr⟩
theorem Kp.of_map {B : Nat} {r : Option Nat} {w w' : World} (h : w.grownBy w' (some B)) : Kp B r w w' := ⟨h.os, h.tape, h.output, h.size, fun k hk hB _ => h.block k hk (fun e => hB (by injection e))⟩
theorem Kp.below {B N : Nat} {r : Option Nat} {W w w' : World} (hb : Below N W w) (h : Kp B r w w') (hB : N ≤ B) (hr : ∀ k, r = some k → N ≤ k) (hs : N ≤ w.heap.size) : Below N W w' :=
 ⟨h.os.trans hb.os, h.tape.trans hb.tape, h.output.trans hb.output, Nat.le_trans hb.size h.size, fun k hk => by
  rw [h.block k (by omega) (by omega) (fun e => by have := hr k e.symm; omega)]; exact hb.block k hk⟩
theorem Kp.heap {B k : Nat} {r : Option Nat} {w w' : World} {o : Obj} (h : Kp B r w w') (hk : w.heap[k]? = some o) (hB : k ≠ B) (hr : some k ≠ r) : w'.heap[k]? = some o := by
 rw [h.block k (Array.getElem?_eq_some_iff.1 hk).1 hB hr]; exact hk
/-- The set of the names. -/
def lits (ns : List ByteArray) : List Lit := ns.map fun s => .string s.data.toList
def setB (ns : List ByteArray) : DataW Unit := setOf (.agg []) (lits ns)
/-- The map's block is the set of the names. -/
def owns (w : World) (B : Nat) (ns : List ByteArray) : Prop := w.ownsMap Tryz.prog 9 (unitElem (H := Unit)) B ns.length (setB ns)
theorem toList_data (s : ByteArray) : s.toList = s.data.toList := ByteArray.toList_eq s
theorem lits_key (ns : List ByteArray) : ∀ x ∈ lits ns, Go.WideAt.IsKeyLit x := by
 intro x hx
 simp only [lits, List.mem_map] at hx
 obtain ⟨s, _, rfl⟩ := hx
 first | exact trivial | (simp [Go.WideAt.IsKeyLit]; done) | constructor
theorem has_set (ns : List ByteArray) (x : ByteArray) : Maps.has (setB ns) (.string x.data.toList) = YtmhpaacjioeknaaGreat.has ns x := by
 unfold setB
 rw [has_setOf _ _ _ (lits_key ns)]
 unfold lits YtmhpaacjioeknaaGreat.has eqs
 rw [List.any_map]
 congr 1
 funext y
 simp only [Function.comp, Lit.sameKey, toList_data]
theorem set_snoc (ns : List ByteArray) (x : ByteArray) : setB (ns ++ [x]) = (setB ns).put (.string x.data.toList) (.agg []) := by
 unfold setB lits
 rw [List.map_append]; exact setOf_snoc _ _ _
theorem owns_of_block {w w' : World} {B : Nat} {ns : List ByteArray} (h : owns w B ns) (hb : w'.heap[B]? = w.heap[B]?) : owns w' B ns := by
 obtain ⟨es, clock, h1, h2⟩ := h
 exact ⟨es, clock, by rw [hb]; exact h1, h2⟩
theorem owns_lt {w : World} {B : Nat} {ns : List ByteArray} (h : owns w B ns) : B < w.heap.size := by
 obtain ⟨es, clock, h1, h2⟩ := h
 exact (Array.getElem?_eq_some_iff.1 h1).1
theorem owns_below {w w' : World} {B : Nat} {ns : List ByteArray} (h : owns w B ns) (hb : Below w.heap.size w w') : owns w' B ns := owns_of_block h (hb.block B (owns_lt h))
theorem owns_ne {w : World} {B k : Nat} {ns : List ByteArray} {cs : Array Value} {t : TypeId} {fr : Nat × Nat} (h : owns w B ns) (hk : w.heap[k]? = some (.cells cs t fr)) : k ≠ B := by
 rintro rfl
 obtain ⟨es, clock, h1, h2⟩ := h
 rw [hk] at h1; cases h1
theorem row_ne {w : World} {base k n : Nat} {v : Value} {xs : List Value} {cs : Array Value} {t : TypeId} {fr : Nat × Nat} (h : w.ownsRow base 9 1 v n xs) (hk : w.heap[k]? = some (.cells cs t fr)) (ht : t ≠ 9) : some k ≠ v.ownBlock := by
 rcases h.2 with ⟨rfl, _⟩ | ⟨g, cap, cur, rfl, _, hh, _⟩
 ·intro e; cases e
 ·intro e
  injection e with e
  subst e
  rw [hk] at hh; injection hh with hh; injection hh with _ h2 _; exact ht h2
theorem row_map_ne {w : World} {base B n : Nat} {v : Value} {xs : List Value} {ns : List ByteArray} (h : w.ownsRow base 9 1 v n xs) (ho : owns w B ns) : some B ≠ v.ownBlock := by
 obtain ⟨es, clock, h1, h2⟩ := ho
 rcases h.2 with ⟨rfl, _⟩ | ⟨g, cap, cur, rfl, _, hh, _⟩
 ·intro e; cases e
 ·intro e
  injection e with e
  subst e
  rw [h1] at hh; cases hh
theorem law9 : Keyed Tryz.prog 9 := string_keyed Tryz.underlying9
theorem zero87 (w : World) : (zeroValue 129).run Tryz.prog w = .ok (.agg #[]) w := by kernel_rfl
end Go.Proofs.YtmhpaacjioeknaaGreat
namespace Go.Proofs.YtmhpaacjioeknaaGreat
open Go.RowKit Go.Sort Go.Maps Go.WideMaps
/-- What a call leaves: names, each once; the set of them; all else as it was. -/
def NamesPost (W : World) (B : Nat) (v : Value) (ms : List ByteArray) (w : World) (en : Ending) (w' : World) : Prop :=
 ∃ v', en = .returned v' ∧ w'.ownsRow W.heap.size 9 1 v' ms.length (sv ms) ∧ owns w' B ms ∧ Kp B v.ownBlock w w' ∧ Nx w v.ownBlock v'.ownBlock
def callsOk (W : World) (l : SL) : Prop := ∀ (p : Option Addr) (c B : Nat) (v : Value) (ns : List ByteArray) (w : World), sLies W p l → Below W.heap.size W w → W.heap.size ≤ B → owns w B ns → w.ownsRow W.heap.size 9 1 v ns.length (sv ns) → ns.length + l.count ≤ 10000 →
 Calls Tryz.prog 49 #[.slice p l.len c, v, .map (some B)] w (NamesPost W B v (uq ns l.every) w)
def stepN (h : Hd) (t e : SL) (ns : List ByteArray) : List ByteArray := uq (uq (if h.kind = 3 then (if has ns h.name then ns else ns ++ [h.name]) else ns) t.every) e.every
theorem new_cells (w : World) (s : ByteArray) : ∀ j u, (sv [s])[j]? = some u → (w.alloc (.cells #[.string s] 9)).cell? ((⟨w.heap.size, 0, none⟩ : Addr).add j) = some u := by
 intro j u hj
 have hj' : j < 1 := by have := (List.getElem?_eq_some_iff.1 hj).1; exact this
 obtain rfl : j = 0 := by omega
 rw [show (⟨w.heap.size, 0, none⟩ : Addr).add 0 = ⟨w.heap.size, 0, none⟩ by simp [Addr.add], (own_new w s).cellAt 0 (by decide), ← hj]
theorem stepNames (W : World) (h : Hd) (tp : Option Addr) (tc : Nat) (t : SL) (ep : Option Addr) (ec : Nat) (e : SL) (i : Int) (b q B bx : Nat) (v : Value) (ns : List ByteArray) (w : World)
  (hT : callsOk W t) (hE : callsOk W e) (hr : W.rangeAt b q (scells h tp t.len tc ep e.len ec)) (hht : sLies W tp t) (hhe : sLies W ep e) (hnm : h.name.size ≤ maxLen)
  (hb : Below W.heap.size W w) (hB : W.heap.size ≤ B) (ho : owns w B ns) (hv : w.ownsRow W.heap.size 9 1 v ns.length (sv ns)) (hx : w.heap[bx]? = some (.cells #[.map (some B)] 112 (0, 0))) (hc : ns.length + 1 + t.count + e.count ≤ 10000) :
  Calls Tryz.prog 63 #[v, .int .i64 i, .pointer (some ⟨b, q, none⟩), .pointer (some ⟨bx, 0, none⟩)] w (NamesPost W B v (stepN h t e ns) w) := by
 obtain ⟨A, c0, rfl⟩ := own_shape hv
 have HT := hdn hT
 have HE := hdn hE
 have HB := hdn hb
 have HO := hdn ho
 have HV := hdn hv
 have HX := hdn hx
 have HR := hdn hr
 have HHT := hdn hht
 have HHE := hdn hhe
 have hbl := World.block_lt_of_cell? W _ (cell_at hr 0 _ rfl)
 have k0 := cell_at (rangeAt_below hr hb) 0 _ rfl
 rw [Nat.add_zero] at k0
 have k43 := cell_at (rangeAt_below hr hb) 43 _ rfl
 have kx : w.cell? ⟨bx, 0, none⟩ = some (.map (some B)) := cell_of_row w bx 0 _ _ _ hx
 have hL : ∀ w' : World, w'.heap[B]? = w.heap[B]? → (Instr.lookup 112 (.map (some B)) (.string h.name) true).run Tryz.prog w' = .ok (.tuple #[.agg #[], .bool (YtmhpaacjioeknaaGreat.has ns h.name)]) w' := fun w' hw' => by
  obtain ⟨z, ps, h1, hz⟩ := (owns_of_block (w' := w') ho hw').look_ok law9 Tryz.underlying112 (zero87 w') unitElem_mk (keyOf_string_mk Tryz.underlying9 hnm)
  obtain ⟨rfl, _⟩ := unitElem_inv hz
  rwa [show Maps.has (setB ns) (.string h.name.data.toList) = YtmhpaacjioeknaaGreat.has ns h.name from has_set _ _] at h1
 have hL1 := hL w.drew rfl
 have hL2 := hL (w.alloc (.cells #[] 129)).drew (Below.heap_alloc w _ B (owns_lt ho))
 have hbl2 : b < w.heap.size := Nat.lt_of_lt_of_le hbl hb.size
 have hbx2 : bx < w.heap.size := (Array.getElem?_eq_some_iff.1 hx).1
 clear hL hT hE hb ho hv hx hr hht hhe
 have HSN : Hid (stepN h t e ns = uq (uq (if h.kind = 3 then (if YtmhpaacjioeknaaGreat.has ns h.name then ns else ns ++ [h.name]) else ns) t.every) e.every) := hdn rfl
 have HNM1 : ∀ w', Below W.heap.size W w' → w'.cell? ⟨b, q + 43, none⟩ = some (.string h.name) := fun w' hb => cell_at (rangeAt_below HR.out hb) 43 _ rfl
 have HNM := hdn HNM1
 have HNZ := hdn hnm
 clear HNM1 hnm
 unfold NamesPost
 rw [HSN.out]
 generalize h.name = nm at *
 generalize h.kind = kind at *
 generalize YtmhpaacjioeknaaGreat.has ns nm = fd at *
 have hcase : (¬ kind = 3) ∨ (kind = 3 ∧ fd = true) ∨ (kind = 3 ∧ fd = false) := by cases fd <;> simp <;> omega
 rcases hcase with hk3 | ⟨rfl, rfl⟩ | ⟨rfl, rfl⟩
 ·have hk3' : (kind == 3) = false := by simpa using hk3
  rw [if_neg hk3]
  clear hk3
  have HBA : Hid (Below w.heap.size w (w.alloc (.cells #[] 129)).drew) := hdn (below_drewN ((Below.refl _ _).alloc (Nat.le_refl _) _) 1)
  have HB1 : Hid (Below W.heap.size W (w.alloc (.cells #[] 129)).drew) := hdn (HB.out.trans (HBA.out.mono HB.out.size))
  have HO1 : Hid (owns (w.alloc (.cells #[] 129)).drew B ns) := hdn (owns_below HO.out HBA.out)
  have HV1 : Hid ((w.alloc (.cells #[] 129)).drew.ownsRow W.heap.size 9 1 (.slice A ns.length c0) ns.length (sv ns)) := hdn (own_below HV.out HBA.out)
  have HX1 : Hid ((w.alloc (.cells #[] 129)).drew.heap[bx]? = some (.cells #[.map (some B)] 112 (0, 0))) := hdn (by rw [HBA.out.block bx hbx2]; exact HX.out)
  have HK1 : Hid (Kp B (Value.slice A ns.length c0).ownBlock w (w.alloc (.cells #[] 129)).drew) := hdn (Kp.of_below HBA.out)
  have HN1 : Hid (Nx w (Value.slice A ns.length c0).ownBlock (Value.slice A ns.length c0).ownBlock) := hdn (Nx.refl _ _)
  have HC1 : Hid (ns.length + t.count ≤ 10000) := hdn (by omega)
  have HC2 : Hid (ns.length + t.count + e.count ≤ 10000) := hdn (by omega)
  go_enter Tryz.func63, Tryz.ntmps63
  go_wp2_with fail
  go_region_held3 (fun w' => w'.cell? ⟨b, q + 43, none⟩ = some (.string nm) ∧ w'.cell? ⟨bx, 0, none⟩ = some (.map (some B)) ∧ (Instr.lookup 112 (.map (some B)) (.string nm) true).run Tryz.prog w' = .ok (.tuple #[.agg #[], .bool fd]) w') (first | go_keep | (go_split_ands; refine ⟨by go_keep, by go_keep, ?_⟩; first | exact hL1 | exact hL2)) ((fail))
  all_goals
   go_wp2_with fail
   have e45 : ((w.alloc (.cells #[] 129)).drew).cell? ⟨b, q + 45, none⟩ = some (.slice tp t.len tc) := cell_at (rangeAt_below HR.out HB1.out) 45 _ rfl
   have e46 : ((w.alloc (.cells #[] 129)).drew).cell? ⟨b, q + 46, none⟩ = some (.slice ep e.len ec) := cell_at (rangeAt_below HR.out HB1.out) 46 _ rfl
   have ex : ((w.alloc (.cells #[] 129)).drew).cell? ⟨bx, 0, none⟩ = some (.map (some B)) := cell_of_row _ bx 0 _ _ _ HX1.out
   have HCT := hdn (HT.out tp tc B (Value.slice A ns.length c0) ns ((w.alloc (.cells #[] 129)).drew).drew HHT.out (below_drewN HB1.out 1) hB (owns_of_block HO1.out rfl) (HV1.out.drew) HC1.out)
   have HBD : Hid (Below ((w.alloc (.cells #[] 129)).drew).heap.size ((w.alloc (.cells #[] 129)).drew) ((w.alloc (.cells #[] 129)).drew).drew) := hdn (below_drewN (Below.refl _ _) 1)
   go_region_held3 (fun w' => w'.cell? ⟨b, q + 45, none⟩ = some (.slice tp t.len tc) ∧ w'.cell? ⟨b, q + 46, none⟩ = some (.slice ep e.len ec) ∧ w'.cell? ⟨bx, 0, none⟩ = some (.map (some B))) (first | exact ⟨f45, f46, fx⟩ | exact ⟨g45, g46, gx⟩ | go_keep)
    ((first
     | (go_at_call 49; (with_reducible refine (HCT.out).mono ?_); rintro en w2 ⟨v2, rfl, hv2, ho2, hk2, hn2⟩; obtain ⟨A2, d2, rfl⟩ := own_shape hv2; have HV2 := hdn hv2; have HO2 := hdn ho2; have HK2 : Hid (Kp B ((Value.slice A ns.length c0)).ownBlock ((w.alloc (.cells #[] 129)).drew) w2) := hdn (Kp.trans (Kp.of_below HBD.out) (Nx.refl _ _) hk2); have HN2 : Hid (Nx ((w.alloc (.cells #[] 129)).drew) ((Value.slice A ns.length c0)).ownBlock (Value.slice A2 (uq ns t.every).length d2).ownBlock) := hdn (Nx.trans (Nx.refl _ _) HBD.out.size hn2); have HB2 : Hid (Below W.heap.size W w2) := hdn (Kp.below HB1.out HK2.out hB (fun k hk => (HV1.out.lt k hk).1) HB1.out.size); have hx2 := HK2.out.heap HX1.out (owns_ne HO1.out HX1.out) (row_ne HV1.out HX1.out (by decide)); have f45 : w2.cell? ⟨b, q + 45, none⟩ = some (.slice tp t.len tc) := cell_at (rangeAt_below HR.out HB2.out) 45 _ rfl; have f46 : w2.cell? ⟨b, q + 46, none⟩ = some (.slice ep e.len ec) := cell_at (rangeAt_below HR.out HB2.out) 46 _ rfl; have fx : w2.cell? ⟨bx, 0, none⟩ = some (.map (some B)) := cell_of_row w2 bx 0 _ _ _ hx2; have HCE := hdn (HE.out ep ec B _ (uq ns t.every) w2 HHE.out HB2.out hB HO2.out HV2.out (by have := uq_len (ns) t.every; have := SL.every_le t; have := HC2.out; omega)); have HX2 := hdn hx2; clear hv2 ho2 hk2 hn2 hx2)
     | (go_at_call 49; (with_reducible refine (HCE.out).mono ?_); rintro en w3 ⟨v3, rfl, hv3, ho3, hk3, hn3⟩; have HV3 := hdn hv3; have HO3 := hdn ho3; have HK3 := hdn hk3; have HN3 := hdn hn3; obtain ⟨A3, d3, rfl⟩ := own_shape hv3; have HB3 : Hid (Below W.heap.size W w3) := hdn (Kp.below HB2.out HK3.out hB (fun k hk => (HV2.out.lt k hk).1) HB2.out.size); have hx3 := HK3.out.heap HX2.out (owns_ne HO2.out HX2.out) (row_ne HV2.out HX2.out (by decide)); have g45 : w3.cell? ⟨b, q + 45, none⟩ = some (.slice tp t.len tc) := cell_at (rangeAt_below HR.out HB3.out) 45 _ rfl; have g46 : w3.cell? ⟨b, q + 46, none⟩ = some (.slice ep e.len ec) := cell_at (rangeAt_below HR.out HB3.out) 46 _ rfl; have gx : w3.cell? ⟨bx, 0, none⟩ = some (.map (some B)) := cell_of_row w3 bx 0 _ _ _ hx3; clear hv3 ho3 hk3 hn3 hx3)))
   all_goals
    go_wp2_with fail
    go_ret
    exact ⟨_, rfl, HV3.out, HO3.out, (HK1.out.trans HN1.out HK2.out).trans (Nx.trans HN1.out HK1.out.size HN2.out) HK3.out, Nx.trans (Nx.trans HN1.out HK1.out.size HN2.out) (HK1.out.trans HN1.out HK2.out).size HN3.out⟩
 ·rw [if_pos rfl, if_pos rfl]
  have HBA : Hid (Below w.heap.size w (w.alloc (.cells #[] 129)).drew) := hdn (below_drewN ((Below.refl _ _).alloc (Nat.le_refl _) _) 1)
  have HB1 : Hid (Below W.heap.size W (w.alloc (.cells #[] 129)).drew) := hdn (HB.out.trans (HBA.out.mono HB.out.size))
  have HO1 : Hid (owns (w.alloc (.cells #[] 129)).drew B ns) := hdn (owns_below HO.out HBA.out)
  have HV1 : Hid ((w.alloc (.cells #[] 129)).drew.ownsRow W.heap.size 9 1 (.slice A ns.length c0) ns.length (sv ns)) := hdn (own_below HV.out HBA.out)
  have HX1 : Hid ((w.alloc (.cells #[] 129)).drew.heap[bx]? = some (.cells #[.map (some B)] 112 (0, 0))) := hdn (by rw [HBA.out.block bx hbx2]; exact HX.out)
  have HK1 : Hid (Kp B (Value.slice A ns.length c0).ownBlock w (w.alloc (.cells #[] 129)).drew) := hdn (Kp.of_below HBA.out)
  have HN1 : Hid (Nx w (Value.slice A ns.length c0).ownBlock (Value.slice A ns.length c0).ownBlock) := hdn (Nx.refl _ _)
  have HC1 : Hid (ns.length + t.count ≤ 10000) := hdn (by omega)
  have HC2 : Hid (ns.length + t.count + e.count ≤ 10000) := hdn (by omega)
  go_enter Tryz.func63, Tryz.ntmps63
  go_wp2_with fail
  go_region_held3 (fun w' => w'.cell? ⟨b, q + 43, none⟩ = some (.string nm) ∧ w'.cell? ⟨bx, 0, none⟩ = some (.map (some B)) ∧ (Instr.lookup 112 (.map (some B)) (.string nm) true).run Tryz.prog w' = .ok (.tuple #[.agg #[], .bool true]) w') (first | go_keep | (go_split_ands; refine ⟨by go_keep, by go_keep, ?_⟩; first | exact hL1 | exact hL2)) ((fail))
  all_goals
   go_wp2_with fail
   have e45 : ((w.alloc (.cells #[] 129)).drew).cell? ⟨b, q + 45, none⟩ = some (.slice tp t.len tc) := cell_at (rangeAt_below HR.out HB1.out) 45 _ rfl
   have e46 : ((w.alloc (.cells #[] 129)).drew).cell? ⟨b, q + 46, none⟩ = some (.slice ep e.len ec) := cell_at (rangeAt_below HR.out HB1.out) 46 _ rfl
   have ex : ((w.alloc (.cells #[] 129)).drew).cell? ⟨bx, 0, none⟩ = some (.map (some B)) := cell_of_row _ bx 0 _ _ _ HX1.out
   have HCT := hdn (HT.out tp tc B (Value.slice A ns.length c0) ns ((w.alloc (.cells #[] 129)).drew).drew HHT.out (below_drewN HB1.out 1) hB (owns_of_block HO1.out rfl) (HV1.out.drew) HC1.out)
   have HBD : Hid (Below ((w.alloc (.cells #[] 129)).drew).heap.size ((w.alloc (.cells #[] 129)).drew) ((w.alloc (.cells #[] 129)).drew).drew) := hdn (below_drewN (Below.refl _ _) 1)
   go_region_held3 (fun w' => w'.cell? ⟨b, q + 45, none⟩ = some (.slice tp t.len tc) ∧ w'.cell? ⟨b, q + 46, none⟩ = some (.slice ep e.len ec) ∧ w'.cell? ⟨bx, 0, none⟩ = some (.map (some B))) (first | exact ⟨f45, f46, fx⟩ | exact ⟨g45, g46, gx⟩ | go_keep)
    ((first
     | (go_at_call 49; (with_reducible refine (HCT.out).mono ?_); rintro en w2 ⟨v2, rfl, hv2, ho2, hk2, hn2⟩; obtain ⟨A2, d2, rfl⟩ := own_shape hv2; have HV2 := hdn hv2; have HO2 := hdn ho2; have HK2 : Hid (Kp B ((Value.slice A ns.length c0)).ownBlock ((w.alloc (.cells #[] 129)).drew) w2) := hdn (Kp.trans (Kp.of_below HBD.out) (Nx.refl _ _) hk2); have HN2 : Hid (Nx ((w.alloc (.cells #[] 129)).drew) ((Value.slice A ns.length c0)).ownBlock (Value.slice A2 (uq ns t.every).length d2).ownBlock) := hdn (Nx.trans (Nx.refl _ _) HBD.out.size hn2); have HB2 : Hid (Below W.heap.size W w2) := hdn (Kp.below HB1.out HK2.out hB (fun k hk => (HV1.out.lt k hk).1) HB1.out.size); have hx2 := HK2.out.heap HX1.out (owns_ne HO1.out HX1.out) (row_ne HV1.out HX1.out (by decide)); have f45 : w2.cell? ⟨b, q + 45, none⟩ = some (.slice tp t.len tc) := cell_at (rangeAt_below HR.out HB2.out) 45 _ rfl; have f46 : w2.cell? ⟨b, q + 46, none⟩ = some (.slice ep e.len ec) := cell_at (rangeAt_below HR.out HB2.out) 46 _ rfl; have fx : w2.cell? ⟨bx, 0, none⟩ = some (.map (some B)) := cell_of_row w2 bx 0 _ _ _ hx2; have HCE := hdn (HE.out ep ec B _ (uq ns t.every) w2 HHE.out HB2.out hB HO2.out HV2.out (by have := uq_len (ns) t.every; have := SL.every_le t; have := HC2.out; omega)); have HX2 := hdn hx2; clear hv2 ho2 hk2 hn2 hx2)
     | (go_at_call 49; (with_reducible refine (HCE.out).mono ?_); rintro en w3 ⟨v3, rfl, hv3, ho3, hk3, hn3⟩; have HV3 := hdn hv3; have HO3 := hdn ho3; have HK3 := hdn hk3; have HN3 := hdn hn3; obtain ⟨A3, d3, rfl⟩ := own_shape hv3; have HB3 : Hid (Below W.heap.size W w3) := hdn (Kp.below HB2.out HK3.out hB (fun k hk => (HV2.out.lt k hk).1) HB2.out.size); have hx3 := HK3.out.heap HX2.out (owns_ne HO2.out HX2.out) (row_ne HV2.out HX2.out (by decide)); have g45 : w3.cell? ⟨b, q + 45, none⟩ = some (.slice tp t.len tc) := cell_at (rangeAt_below HR.out HB3.out) 45 _ rfl; have g46 : w3.cell? ⟨b, q + 46, none⟩ = some (.slice ep e.len ec) := cell_at (rangeAt_below HR.out HB3.out) 46 _ rfl; have gx : w3.cell? ⟨bx, 0, none⟩ = some (.map (some B)) := cell_of_row w3 bx 0 _ _ _ hx3; clear hv3 ho3 hk3 hn3 hx3)))
   all_goals
    go_wp2_with fail
    go_ret
    exact ⟨_, rfl, HV3.out, HO3.out, (HK1.out.trans HN1.out HK2.out).trans (Nx.trans HN1.out HK1.out.size HN2.out) HK3.out, Nx.trans (Nx.trans HN1.out HK1.out.size HN2.out) (HK1.out.trans HN1.out HK2.out).size HN3.out⟩
 ·rw [if_pos rfl, if_neg (by decide)]
  have HBA : Hid (Below w.heap.size w (w.alloc (.cells #[] 129)).drew) := hdn (below_drewN ((Below.refl _ _).alloc (Nat.le_refl _) _) 1)
  have HB1 : Hid (Below W.heap.size W (w.alloc (.cells #[] 129)).drew) := hdn (HB.out.trans (HBA.out.mono HB.out.size))
  have HO1 : Hid (owns (w.alloc (.cells #[] 129)).drew B ns) := hdn (owns_below HO.out HBA.out)
  have HV1 : Hid ((w.alloc (.cells #[] 129)).drew.ownsRow W.heap.size 9 1 (.slice A ns.length c0) ns.length (sv ns)) := hdn (own_below HV.out HBA.out)
  have HX1 : Hid ((w.alloc (.cells #[] 129)).drew.heap[bx]? = some (.cells #[.map (some B)] 112 (0, 0))) := hdn (by rw [HBA.out.block bx hbx2]; exact HX.out)
  have HK1 : Hid (Kp B (Value.slice A ns.length c0).ownBlock w (w.alloc (.cells #[] 129)).drew) := hdn (Kp.of_below HBA.out)
  have HN1 : Hid (Nx w (Value.slice A ns.length c0).ownBlock (Value.slice A ns.length c0).ownBlock) := hdn (Nx.refl _ _)
  go_enter Tryz.func63, Tryz.ntmps63
  go_wp2_with fail
  go_region_held3 (fun w' => w'.cell? ⟨b, q + 43, none⟩ = some (.string nm) ∧ w'.cell? ⟨bx, 0, none⟩ = some (.map (some B)) ∧ (Instr.lookup 112 (.map (some B)) (.string nm) true).run Tryz.prog w' = .ok (.tuple #[.agg #[], .bool false]) w') (first | go_keep | (go_split_ands; refine ⟨by go_keep, by go_keep, ?_⟩; first | exact hL1 | exact hL2)) ((fail))
  all_goals
   go_wp2_with fail
   generalize (w.alloc (.cells #[] 129)).drew = W1 at HBA HB1 HO1 HV1 HX1 HK1 HN1 ⊢
   have HOD : Hid (owns W1.drew B ns) := hdn (owns_of_block HO1.out rfl)
   have hkx1 : W1.cell? ⟨bx, 0, none⟩ = some (.map (some B)) := cell_of_row _ bx 0 _ _ _ HX1.out
   have h431 : W1.cell? ⟨b, q + 43, none⟩ = some (.string nm) := HNM.out _ HB1.out
   go_still_tail 6, (by kernel_rfl)
   change wpList _ _ _ _ _ W1.drew
   obtain ⟨i0, hi0, hz0, hz1, hz2⟩ := info_parts info9
   have HI0 := hdn hi0; have HZ0 := hdn hz0; have HZ1 := hdn hz1; have HZ2 := hdn hz2
   clear hi0 hz0 hz1 hz2
   go_wp2_with (first | (at_mapUpdate; refine wpList_mapUpdate_own (H := Unit) _ rfl _ _ _ 112 rfl 9 129 law9 Tryz.underlying112 _ B ns.length (setB ns) rfl HOD.out (by unfold maxLen; omega) _ _ _ rfl rfl (keyOf_string_mk Tryz.underlying9 HNZ.out) (.agg []) [] unitElem_mk ?_; intro w2 hown2 hg2; have HO2 : Hid (owns w2 B (ns ++ [nm])) := hdn (by unfold owns; rw [set_snoc, List.length_append]; exact hown2); have HK2 : Hid (Kp B (Value.slice A ns.length c0).ownBlock w w2) := hdn ((Kp.of_below (below_drewN HBA.out 1)).trans (Nx.refl _ _) (Kp.of_map hg2)); have HB2 : Hid (Below W.heap.size W w2) := hdn (Kp.below HB.out HK2.out hB (fun k hk => (HV.out.lt k hk).1) HB.out.size); have e43 : w2.cell? ⟨b, q + 43, none⟩ = some (.string nm) := HNM.out _ HB2.out; have HV2 : Hid (w2.ownsRow W.heap.size 9 1 (Value.slice A ns.length c0) ns.length (sv ns)) := hdn ((HV1.out.drew).kept hg2 (.inr (Ne.symm (row_map_ne HV1.out HO1.out)))); have HX2 := hdn (HK2.out.heap HX.out (owns_ne HO.out HX.out) (row_ne HV.out HX.out (by decide))); have HS2 : Hid (W.heap.size ≤ w2.heap.size) := hdn HB2.out.size; clear hown2 hg2) | ((with_reducible show wpList _ _ _ (Oper.mk (some 40) _ _ _ _ _ :: _) _ _); refine wpList_append_own_at _ rfl (.tmp 34) (.tmp 39) 78 rfl W.heap.size 9 i0 (.string ByteArray.empty) 1 16 Tryz.underlying78 HI0.out HZ0.out HZ1.out HZ2.out rfl (by decide) (Value.slice A ns.length c0) ns.length (sv ns) rfl (HV2.out.alloc _) ⟨w2.heap.size, 0, none⟩ 1 1 (sv [nm]) rfl rfl (new_cells w2 nm) (sv_one _) (by unfold maxLen; omega) (by omega) (Nat.le_trans HS2.out (by simp)) ?_; intro v3 w3 hown3 hg3 _ hloc3; obtain ⟨A3, d3, rfl⟩ := own_shape hown3; have HK3 : Hid (Kp B (Value.slice A ns.length c0).ownBlock w w3) := hdn ((HK2.out.trans (Nx.refl _ _) (Kp.of_below ((Below.refl _ _).alloc (Nat.le_refl _) (.cells #[.string nm] 9)))).trans (Nx.refl _ _) (Kp.of_row hg3)); have HN3 : Hid (Nx w (Value.slice A ns.length c0).ownBlock (Value.slice A3 (ns.length + 1) d3).ownBlock) := hdn (hloc3.imp id (fun h => ⟨_, Nat.le_trans HK2.out.size (by simp), h⟩)); have HB3 : Hid (Below W.heap.size W w3) := hdn (Kp.below HB.out HK3.out hB (fun k hk => (HV.out.lt k hk).1) HB.out.size); have HO3 : Hid (owns w3 B (ns ++ [nm])) := hdn (owns_of_block HO2.out ((hg3.block B (by rw [World.size_alloc]; exact Nat.lt_succ_of_lt (owns_lt HO2.out)) (row_map_ne HV2.out HO2.out)).trans (Below.heap_alloc _ _ _ (owns_lt HO2.out)))); have HV3 : Hid (w3.ownsRow W.heap.size 9 1 (.slice A3 (ns.length + 1) d3) (ns ++ [nm]).length (sv (ns ++ [nm]))) := hdn (by rw [sv_append, List.length_append]; exact hown3); have HX3 := hdn (HK3.out.heap HX.out (owns_ne HO.out HX.out) (row_ne HV.out HX.out (by decide))); clear hown3 hg3 hloc3))
   have HB1 := HB3
   have HO1 := HO3
   have HV1 := HV3
   have HX1 := HX3
   have HK1 := HK3
   have HN1 := HN3
   have HC1 : Hid ((ns ++ [nm]).length + t.count ≤ 10000) := hdn (by simp only [List.length_append, List.length_cons, List.length_nil]; omega)
   have HC2 : Hid ((ns ++ [nm]).length + t.count + e.count ≤ 10000) := hdn (by simp only [List.length_append, List.length_cons, List.length_nil]; omega)
   have e45 : (w3).cell? ⟨b, q + 45, none⟩ = some (.slice tp t.len tc) := cell_at (rangeAt_below HR.out HB1.out) 45 _ rfl
   have e46 : (w3).cell? ⟨b, q + 46, none⟩ = some (.slice ep e.len ec) := cell_at (rangeAt_below HR.out HB1.out) 46 _ rfl
   have ex : (w3).cell? ⟨bx, 0, none⟩ = some (.map (some B)) := cell_of_row _ bx 0 _ _ _ HX1.out
   have HCT := hdn (HT.out tp tc B (Value.slice A3 (ns.length + 1) d3) (ns ++ [nm]) (w3).drew HHT.out (below_drewN HB1.out 1) hB (owns_of_block HO1.out rfl) (HV1.out.drew) HC1.out)
   have HBD : Hid (Below (w3).heap.size (w3) (w3).drew) := hdn (below_drewN (Below.refl _ _) 1)
   go_region_held3 (fun w' => w'.cell? ⟨b, q + 45, none⟩ = some (.slice tp t.len tc) ∧ w'.cell? ⟨b, q + 46, none⟩ = some (.slice ep e.len ec) ∧ w'.cell? ⟨bx, 0, none⟩ = some (.map (some B))) (first | exact ⟨f45, f46, fx⟩ | exact ⟨g45, g46, gx⟩ | go_keep)
    ((first
     | (go_at_call 49; (with_reducible refine (HCT.out).mono ?_); rintro en w2 ⟨v2, rfl, hv2, ho2, hk2, hn2⟩; obtain ⟨A2, d2, rfl⟩ := own_shape hv2; have HV2 := hdn hv2; have HO2 := hdn ho2; have HK2 : Hid (Kp B ((Value.slice A3 (ns.length + 1) d3)).ownBlock (w3) w2) := hdn (Kp.trans (Kp.of_below HBD.out) (Nx.refl _ _) hk2); have HN2 : Hid (Nx (w3) ((Value.slice A3 (ns.length + 1) d3)).ownBlock (Value.slice A2 (uq (ns ++ [nm]) t.every).length d2).ownBlock) := hdn (Nx.trans (Nx.refl _ _) HBD.out.size hn2); have HB2 : Hid (Below W.heap.size W w2) := hdn (Kp.below HB1.out HK2.out hB (fun k hk => (HV1.out.lt k hk).1) HB1.out.size); have hx2 := HK2.out.heap HX1.out (owns_ne HO1.out HX1.out) (row_ne HV1.out HX1.out (by decide)); have f45 : w2.cell? ⟨b, q + 45, none⟩ = some (.slice tp t.len tc) := cell_at (rangeAt_below HR.out HB2.out) 45 _ rfl; have f46 : w2.cell? ⟨b, q + 46, none⟩ = some (.slice ep e.len ec) := cell_at (rangeAt_below HR.out HB2.out) 46 _ rfl; have fx : w2.cell? ⟨bx, 0, none⟩ = some (.map (some B)) := cell_of_row w2 bx 0 _ _ _ hx2; have HCE := hdn (HE.out ep ec B _ (uq (ns ++ [nm]) t.every) w2 HHE.out HB2.out hB HO2.out HV2.out (by have := uq_len ((ns ++ [nm])) t.every; have := SL.every_le t; have := HC2.out; omega)); have HX2 := hdn hx2; clear hv2 ho2 hk2 hn2 hx2)
     | (go_at_call 49; (with_reducible refine (HCE.out).mono ?_); rintro en w3 ⟨v3, rfl, hv3, ho3, hk3, hn3⟩; have HV3 := hdn hv3; have HO3 := hdn ho3; have HK3 := hdn hk3; have HN3 := hdn hn3; obtain ⟨A3, d3, rfl⟩ := own_shape hv3; have HB3 : Hid (Below W.heap.size W w3) := hdn (Kp.below HB2.out HK3.out hB (fun k hk => (HV2.out.lt k hk).1) HB2.out.size); have hx3 := HK3.out.heap HX2.out (owns_ne HO2.out HX2.out) (row_ne HV2.out HX2.out (by decide)); have g45 : w3.cell? ⟨b, q + 45, none⟩ = some (.slice tp t.len tc) := cell_at (rangeAt_below HR.out HB3.out) 45 _ rfl; have g46 : w3.cell? ⟨b, q + 46, none⟩ = some (.slice ep e.len ec) := cell_at (rangeAt_below HR.out HB3.out) 46 _ rfl; have gx : w3.cell? ⟨bx, 0, none⟩ = some (.map (some B)) := cell_of_row w3 bx 0 _ _ _ hx3; clear hv3 ho3 hk3 hn3 hx3)))
   all_goals
    go_wp2_with fail
    go_ret
    exact ⟨_, rfl, HV3.out, HO3.out, (HK1.out.trans HN1.out HK2.out).trans (Nx.trans HN1.out HK1.out.size HN2.out) HK3.out, Nx.trans (Nx.trans HN1.out HK1.out.size HN2.out) (HK1.out.trans HN1.out HK2.out).size HN3.out⟩
end Go.Proofs.YtmhpaacjioeknaaGreat
