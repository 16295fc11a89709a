/-
  Plain: the parser over signs without places; what it makes has no places and no addresses. The walks of the parser's terms. The walks of the parser's small calls as what the plain parser says; the relation, the braces, the statements counted. The walks of the parser: statements counted; may a statem
-/
import Derived.Test.YtdlchhimkelinaaGreatDoorK03
import Derived.Test.YtdlchhimkelinaaGreatDoorK02
import Derived.BigQuiet
import Derived.Deep.AppendLies
import Derived.Deep.WholeRow
import Derived.Deep.RegionLaw
import Derived.Deep.LoopGhost
import Derived.Great.BuildSlice
import Derived.IntWalk
import Derived.Lib.SmallJoins
import Derived.Test.YtdlchhimkelinaaGreatDoorK01
set_option maxHeartbeats 6400000
set_option maxRecDepth 100000
namespace Go.Proofs.YtdlchhimkelinaaGreatDoor
open Go.RowKit Go.Sort
namespace Pr
/-- A sign without its place. -/
structure Tk where
 kind : Int
 text : ByteArray
 num : Int
def tk (x : Tx.Sg) : Tk := ⟨x.kind, x.text, x.num⟩
/-- How far the parser is: the sign that comes next, the braces open, the statements begun. -/
structure St where
 i : Nat
 o : Int
 b : Int
def St.go (u : St) : St := ⟨u.i + 1, u.o, u.b⟩
/-- What a part of the parser makes: an error's number and the sign's, or something and how far it is. -/
abbrev Res (α : Type) := Except (Int × Nat) (α × St)
/-- One after the other, as long as nothing is wrong. -/
def th {α β : Type} (r : Res α) (f : α → St → Res β) : Res β :=
 match r with
 | .error e => .error e
 | .ok (x, u) => f x u
def noTm : Tm := ⟨ByteArray.empty, 0, 0⟩
def noPth : Pth := ⟨ByteArray.empty, 0, ⟨none, 0, []⟩⟩
def noVl : Vl := ⟨0, 0, noPth, ByteArray.empty, noTm, noTm⟩
def noCd : Cd := ⟨0, 0, noVl, noVl⟩
def noHd : Hd := ⟨0, 0, noPth, noVl, noCd, ByteArray.empty, ⟨none, 0, []⟩, false⟩
section
variable (t : List Tk)
def sg (i : Nat) : Tk := t.getD i ⟨0, ByteArray.empty, 0⟩
def is (i : Nat) (s : ByteArray) : Bool := (sg t i).text.toList == s.toList
def must (s : ByteArray) (u : St) : Res Tk := if is t u.i s then .ok (sg t u.i, u.go) else .error (5, u.i)
def name (u : St) : Res Tk := if (sg t u.i).kind = 1 then .ok (sg t u.i, u.go) else .error (5, u.i)
def hops : Nat → List Hp → St → Res (List Hp)
 | 0, acc, u => if is t u.i ⟨#[45, 62]⟩ then .error (11, u.i) else .ok (acc, u)
 | n + 1, acc, u => if is t u.i ⟨#[45, 62]⟩ then (th (name t u.go) fun x u => hops n (acc ++ [⟨x.text, 0⟩]) u) else .ok (acc, u)
def path (u : St) : Res Pth :=
 th (name t u) fun x u =>
 th (hops t 8 [] u) fun l u =>
 .ok (⟨x.text, 0, ⟨none, 0, l⟩⟩, u)
def term (u : St) : Res Tm :=
 if (sg t u.i).kind = 2 then .ok (⟨ByteArray.empty, (sg t u.i).num, 0⟩, u.go)
 else
  th (name t u) fun x u =>
  .ok (⟨x.text, 0, 0⟩, u)
def side (u : St) : Res Vl :=
 if is t u.i ⟨#[110, 117, 108, 108]⟩ then .ok (noVl, u.go)
 else if (sg t u.i).kind = 2 then
  th (term t u) fun x u =>
  .ok ({ noVl with kind := 4, left := x }, u)
 else
  th (path t u) fun x u =>
  .ok ({ noVl with kind := 1, path := x }, u)
def sums (u : St) : Bool := ((sg t u.i).kind == 1 || (sg t u.i).kind == 2) && (is t (u.i + 1) ⟨#[43]⟩ || is t (u.i + 1) ⟨#[45]⟩)
def sum (u : St) : Res Vl :=
 th (term t u) fun x u =>
 th (term t u.go) fun y v =>
 .ok ({ noVl with kind := if is t u.i ⟨#[45]⟩ then 6 else 5, left := x, right := y }, v)
def value (u : St) : Res Vl :=
 if is t u.i ⟨#[110, 101, 119]⟩ then
  th (name t u.go) fun x u =>
  .ok ({ noVl with kind := 2, type := x.text }, u)
 else if is t u.i ⟨#[105, 110, 112, 117, 116]⟩ then .ok ({ noVl with kind := 3 }, u.go)
 else if sums t u then sum t u else side t u
def relation (u : St) : Res Int :=
 if is t u.i ⟨#[61, 61]⟩ then .ok (1, u.go)
 else if is t u.i ⟨#[33, 61]⟩ then .ok (2, u.go)
 else if is t u.i ⟨#[60]⟩ then .ok (3, u.go)
 else
  th (must t ⟨#[62, 61]⟩ u) fun _ u =>
  .ok (4, u)
def cond (u : St) : Res Cd :=
 if is t u.i ⟨#[63]⟩ then .ok (noCd, u.go)
 else
  th (side t u) fun x u =>
  th (relation t u) fun k u =>
  th (side t u) fun y u =>
  .ok (⟨k, 0, x, y⟩, u)
def held (u : St) : Res Cd :=
 th (must t ⟨#[40]⟩ u) fun _ u =>
 th (cond t u) fun c u =>
 th (must t ⟨#[41]⟩ u) fun _ u =>
 .ok (c, u)
/-- The items behind the first one, up to the closing parenthesis. -/
def more {α : Type} (item : St → Res α) : Nat → List α → St → Res (List α)
 | 0, _, _ => .error (0, 0)
 | n + 1, acc, u =>
  if is t u.i ⟨#[44]⟩ then (th (item u.go) fun x u => more item n (acc ++ [x]) u)
  else
   th (must t ⟨#[41]⟩ u) fun _ u =>
   .ok (acc, u)
def listed {α : Type} (item : St → Res α) (u : St) : Res (List α) :=
 th (must t ⟨#[40]⟩ u) fun _ u =>
 if is t u.i ⟨#[41]⟩ then .ok ([], u.go)
 else
  th (item u) fun x u =>
  more t item (t.length + 1) [x] u
def pointer (u : St) : Res Dc :=
 th (name t u) fun x u =>
 th (must t ⟨#[42]⟩ u) fun _ u =>
 th (name t u) fun y u =>
 .ok (⟨x.text, y.text, 0⟩, u)
def variable_ (u : St) : Res Dc :=
 if is t u.i ⟨#[105, 110, 116]⟩ then
  th (name t u.go) fun x u =>
  .ok (⟨ByteArray.empty, x.text, 0⟩, u)
 else pointer t u
def decl (u : St) : Res Dc :=
 th (variable_ t u) fun d u =>
 th (must t ⟨#[59]⟩ u) fun _ u =>
 .ok (d, u)
def declares (u : St) : Bool := is t u.i ⟨#[105, 110, 116]⟩ || ((sg t u.i).kind == 1 && is t (u.i + 1) ⟨#[42]⟩)
def begins (u : St) : Bool :=
 is t u.i ⟨#[59]⟩ || is t u.i ⟨#[123]⟩ || is t u.i ⟨#[102, 114, 101, 101]⟩ || is t u.i ⟨#[105, 102]⟩ || is t u.i ⟨#[119, 104, 105, 108, 101]⟩ || (sg t u.i).kind == 1
/-- A brace may not stand where twenty are open. -/
def mustHold (u : St) : Res Unit := if is t u.i ⟨#[123]⟩ && u.o == 20 then .error (6, u.i) else .ok ((), u)
def count (u : St) : Res Unit :=
 th (mustHold t u) fun _ u =>
 if u.b = 400 then .error (11, u.i) else .ok ((), ⟨u.i, u.o, u.b + 1⟩)
def block (rec : St → Res SL) (u : St) : Res SL :=
 th (mustHold t u) fun _ u =>
 th (must t ⟨#[123]⟩ u) fun _ u =>
 th (rec ⟨u.i, u.o + 1, u.b⟩) fun l u =>
 th (must t ⟨#[125]⟩ u) fun _ u =>
 .ok (l, ⟨u.i, u.o - 1, u.b⟩)
def free (u : St) : Res Hd :=
 th (must t ⟨#[102, 114, 101, 101]⟩ u) fun _ u =>
 th (must t ⟨#[40]⟩ u) fun _ u =>
 th (path t u) fun x u =>
 th (must t ⟨#[41]⟩ u) fun _ u =>
 th (must t ⟨#[59]⟩ u) fun _ u =>
 .ok ({ noHd with kind := 2, place := x }, u)
def branch (rec : St → Res SL) (u : St) : Res (Hd × SL × SL) :=
 th (must t ⟨#[105, 102]⟩ u) fun _ u =>
 th (held t u) fun c u =>
 th (block t rec u) fun a u =>
 if is t u.i ⟨#[101, 108, 115, 101]⟩ then
  th (block t rec u.go) fun e u =>
  .ok (({ noHd with kind := 4, cond := c, both := true }, a, e), u)
 else .ok (({ noHd with kind := 4, cond := c }, a, .nil), u)
def loop (rec : St → Res SL) (u : St) : Res (Hd × SL × SL) :=
 th (must t ⟨#[119, 104, 105, 108, 101]⟩ u) fun _ u =>
 th (held t u) fun c u =>
 th (block t rec u) fun a u =>
 .ok (({ noHd with kind := 5, cond := c }, a, .nil), u)
def named (u : St) : Res Hd :=
 if is t (u.i + 1) ⟨#[40]⟩ then
  th (name t u) fun x u =>
  th (listed t (side t) u) fun l u =>
  th (must t ⟨#[59]⟩ u) fun _ u =>
  .ok ({ noHd with kind := 3, name := x.text, args := ⟨none, 0, l⟩ }, u)
 else
  th (path t u) fun x u =>
  th (must t ⟨#[61]⟩ u) fun _ u =>
  th (value t u) fun v u =>
  th (must t ⟨#[59]⟩ u) fun _ u =>
  .ok ({ noHd with kind := 1, place := x, value := v }, u)
def stmt (rec : St → Res SL) (u : St) : Res (Hd × SL × SL) :=
 th (count t u) fun _ u =>
 if is t u.i ⟨#[59]⟩ then .ok ((noHd, .nil, .nil), u.go)
 else if is t u.i ⟨#[123]⟩ then
  th (block t rec u) fun l u =>
  .ok (({ noHd with kind := 6 }, l, .nil), u)
 else if is t u.i ⟨#[102, 114, 101, 101]⟩ then
  th (free t u) fun h u =>
  .ok ((h, .nil, .nil), u)
 else if is t u.i ⟨#[105, 102]⟩ then branch t rec u
 else if is t u.i ⟨#[119, 104, 105, 108, 101]⟩ then loop t rec u
 else
  th (named t u) fun h u =>
  .ok ((h, .nil, .nil), u)
/-- Statements, with fuel: each one takes a sign at least. -/
def stmts : Nat → St → Res SL
 | 0, _ => .error (0, 0)
 | n + 1, u =>
  if begins t u then
   th (stmt t (stmts n) u) fun (h, a, e) u =>
   th (stmts n u) fun r u =>
   .ok (.cons h none 0 a none 0 e r, u)
  else .ok (.nil, u)
def fields : Nat → List Dc → St → Res (List Dc)
 | 0, _, _ => .error (0, 0)
 | n + 1, acc, u =>
  if is t u.i ⟨#[125]⟩ then .ok (acc, u.go)
  else
   th (pointer t u) fun d u =>
   th (must t ⟨#[59]⟩ u) fun _ u =>
   fields n (acc ++ [d]) u
def structure_ (u : St) : Res Sr :=
 th (must t ⟨#[115, 116, 114, 117, 99, 116]⟩ u) fun _ u =>
 th (name t u) fun x u =>
 th (must t ⟨#[123]⟩ u) fun _ u =>
 th (fields t (t.length + 1) [] u) fun l u =>
 .ok (⟨x.text, 0, ⟨none, 0, l⟩⟩, u)
def locals : Nat → List Dc → St → Res (List Dc)
 | 0, _, _ => .error (0, 0)
 | n + 1, acc, u => if declares t u then (th (decl t u) fun d u => locals n (acc ++ [d]) u) else .ok (acc, u)
def proc (u : St) : Res Pc :=
 th (must t ⟨#[118, 111, 105, 100]⟩ u) fun _ u =>
 th (name t u) fun x u =>
 th (listed t (variable_ t) u) fun ps u =>
 th (must t ⟨#[123]⟩ u) fun _ u =>
 th (locals t (t.length + 1) [] u) fun ls u =>
 th (stmts t (t.length + 1) u) fun body u =>
 th (must t ⟨#[125]⟩ u) fun _ u =>
 .ok (⟨x.text, 0, 0, ⟨none, 0, ps⟩, ⟨none, 0, ls⟩, none, 0, body⟩, u)
def program : Nat → List Sr → List Dc → List Pc → St → Res Pg
 | 0, _, _, _, _ => .error (0, 0)
 | n + 1, ss, gs, ps, u =>
  if (sg t u.i).kind = 0 then .ok (⟨⟨none, 0, ss⟩, ⟨none, 0, gs⟩, ⟨none, 0, ps⟩⟩, u)
  else if is t u.i ⟨#[115, 116, 114, 117, 99, 116]⟩ then (th (structure_ t u) fun x u => program n (ss ++ [x]) gs ps u)
  else if is t u.i ⟨#[118, 111, 105, 100]⟩ then (th (proc t u) fun x u => program n ss gs (ps ++ [x]) u)
  else (th (decl t u) fun x u => program n ss (gs ++ [x]) ps u)
/-- What a reading of all signs makes, or the number of what is wrong. -/
def whole {α : Type} (read : St → Res α) : Except (Int × Nat) α :=
 match read ⟨0, 0, 0⟩ with
 | .error e => .error e
 | .ok (x, u) => if (sg t u.i).kind = 0 then .ok x else .error (5, u.i)
end
theorem sg_tk {l : List Tx.Sg} {i : Nat} {x : Tx.Sg} (h : l[i]? = some x) : sg (l.map tk) i = tk x := by
 unfold sg; rw [List.getD_eq_getElem?_getD, List.getElem?_map, h]; rfl
end Pr
end Go.Proofs.YtdlchhimkelinaaGreatDoor
namespace Go.Proofs.YtdlchhimkelinaaGreatDoor
open Go.RowKit Go.Sort
attribute [local go_sem] field79_0 field79_1 field79_2 field79_3
/-- The place of a sign; what is thrown at it. -/
def posAt (l : List Tx.Sg) (i : Nat) : Int := match l[i]? with | some x => x.pos | none => 0
def faultN (l : List Tx.Sg) (n : Int × Nat) : Ending := faultAt (posAt l n.2) n.1
/-- What a part of the parser ends in: what the plain parser says, and nothing of old is touched but the parser itself. -/
def Outc {α : Type} (K : World → Value → α → Prop) (w : World) (pb sb cap : Nat) (l : List Tx.Sg) (r : Pr.Res α) (e : Ending) (w' : World) : Prop :=
 w.grownBy w' (some pb) ∧ match r with
 | .ok (a, u) => ∃ v, e = .returned v ∧ K w' v a ∧ PS w' pb sb cap l u.i u.o u.b
 | .error n => ∃ _ : Unit, e = faultN l n
section
variable {pb sb cap : Nat} {l : List Tx.Sg} {i : Nat} {o b : Int}
/-- The end of a call that hands back a term through a result of its own. -/
theorem term_result {w2 : World} {n : ByteArray} {k p : Int} {R : Nat} {s : ByteArray} {a c : Int} (hk : Bk w2 R 47 #[.string s, .int .i64 a, .int .i64 c]) :
  Bk (((w2.setCell ⟨R, 0, none⟩ (.string n)).setCell ⟨R, 1, none⟩ (.int .i64 k)).setCell ⟨R, 2, none⟩ (.int .i64 p)) R 47 #[.string n, .int .i64 k, .int .i64 p] ∧
  w2.grownBy (((w2.setCell ⟨R, 0, none⟩ (.string n)).setCell ⟨R, 1, none⟩ (.int .i64 k)).setCell ⟨R, 2, none⟩ (.int .i64 p)) (some R) :=
 ⟨((hk.set_ 0 _).set_ 1 _).set_ 2 _, grownBy_tr (grownBy_tr (grownBy_setC _ ⟨R, 0, none⟩ _) (grownBy_setC _ ⟨R, 1, none⟩ _)) (grownBy_setC _ ⟨R, 2, none⟩ _)⟩
/-- Nothing of old but the parser is touched, if it is so up to a world from which on just a block of one's own is written. -/
theorem grownBy_mine {w w2 w4 : World} {pb : Nat} (h2 : w.grownBy w2 (some pb)) (h3 : w2.grownBy w4 (some w.heap.size)) : w.grownBy w4 (some pb) :=
 ⟨h3.os.trans h2.os, h3.tape.trans h2.tape, h3.output.trans h2.output, Nat.le_trans h2.size h3.size, fun k hk hne =>
  (h3.block k (Nat.lt_of_lt_of_le hk h2.size) (by intro e; injection e with e; omega)).trans (h2.block k hk hne)⟩
theorem PS.at {w : World} (h : PS w pb sb cap l i o b) : ∃ x, l[i]? = some x := ⟨l[i]'h.lt, List.getElem?_eq_getElem h.lt⟩
theorem grownBy_below {a b c : World} {r : Option Nat} (h : a.grownBy b r) (k : Below b.heap.size b c) : a.grownBy c r := grownBy_tr h (grownBy_of k r)
theorem grownBy_above {a b c : World} {r : Option Nat} (h : Below a.heap.size a b) (k : b.grownBy c r) : a.grownBy c r := below_grown h k
end
end Go.Proofs.YtdlchhimkelinaaGreatDoor
namespace Go.Proofs.YtdlchhimkelinaaGreatDoor
open Go.RowKit Go.Sort
attribute [local go_sem] field79_0 field79_1 field79_2 field79_3
theorem Outc.err {α : Type} {K : World → Value → α → Prop} {w w' : World} {pb sb cap : Nat} {l : List Tx.Sg} {r : Pr.Res α} {n : Int × Nat} (hr : r = .error n) (hg : w.grownBy w' (some pb)) : Outc K w pb sb cap l r (faultN l n) w' := by
 subst hr; exact ⟨hg, (), rfl⟩
theorem Outc.ok {α : Type} {K : World → Value → α → Prop} {w w' : World} {pb sb cap : Nat} {l : List Tx.Sg} {r : Pr.Res α} {v : Value} {a : α} {u : Pr.St} (hr : r = .ok (a, u)) (hg : w.grownBy w' (some pb)) (hk : K w' v a) (hp : PS w' pb sb cap l u.i u.o u.b) : Outc K w pb sb cap l r (.returned v) w' := by
 subst hr; exact ⟨hg, v, rfl, hk, hp⟩
theorem PS.same {w w' : World} {pb sb cap : Nat} {l : List Tx.Sg} {i : Nat} {o b : Int} (h : PS w pb sb cap l i o b) (hb : Below w.heap.size w w') : PS w' pb sb cap l i o b := h.below hb
section
variable {pb sb cap : Nat} {l : List Tx.Sg}
end
end Go.Proofs.YtdlchhimkelinaaGreatDoor
namespace Go.Proofs.YtdlchhimkelinaaGreatDoor
open Go.RowKit Go.Sort
attribute [local go_sem] field79_0 field79_1 field79_2 field79_3
section
variable {pb sb cap : Nat} {l : List Tx.Sg}
/-- One statement more has begun. -/
theorem PS.count {w : World} {i : Nat} {o b : Int} (h : PS w pb sb cap l i o b) (c : Int) : PS (w.setCell ⟨pb, 3, none⟩ (.int .i64 c)) pb sb cap l i o c :=
 ⟨h.blk.set_ 3 _, fun k x hx j v hv => (World.cell?_setCell_other _ _ _ _ (by intro e; injection e with e; exact h.ne e.symm)).trans (h.row k x hx j v hv), h.ne, h.lt⟩
/-- So many braces are open now. -/
theorem PS.open_ {w : World} {i : Nat} {o b : Int} (h : PS w pb sb cap l i o b) (c : Int) : PS (w.setCell ⟨pb, 2, none⟩ (.int .i64 c)) pb sb cap l i c b :=
 ⟨h.blk.set_ 2 _, fun k x hx j v hv => (World.cell?_setCell_other _ _ _ _ (by intro e; injection e with e; exact h.ne e.symm)).trans (h.row k x hx j v hv), h.ne, h.lt⟩
end
end Go.Proofs.YtdlchhimkelinaaGreatDoor
namespace Go.Proofs.YtdlchhimkelinaaGreatDoor
open Go.RowKit Go.Sort
attribute [local go_sem] field79_0 field79_1 field79_2 field79_3
section
variable {pb sb cap : Nat} {l : List Tx.Sg}
theorem Bk.kept {w w' : World} {b t : Nat} {cs : Array Value} {r : Nat} (h : Bk w b t cs) (hg : w.grownBy w' (some r)) (hne : b ≠ r) : Bk w' b t cs :=
 (hg.block b (Array.getElem?_eq_some_iff.1 h).1 (by intro e; injection e with e; exact hne e)).trans h
theorem Bk.lt {w : World} {b t : Nat} {cs : Array Value} (h : Bk w b t cs) : b < w.heap.size := (Array.getElem?_eq_some_iff.1 h).1
end
end Go.Proofs.YtdlchhimkelinaaGreatDoor
namespace Go.Proofs.YtdlchhimkelinaaGreatDoor
open Go.RowKit Go.Sort
attribute [local go_sem] field79_0 field79_1 field79_2 field79_3
section
variable {pb sb cap : Nat} {l : List Tx.Sg}
end
end Go.Proofs.YtdlchhimkelinaaGreatDoor
namespace Go.Proofs.YtdlchhimkelinaaGreatDoor
open Go.RowKit Go.Sort
attribute [local go_sem] field79_0 field79_1 field79_2 field79_3
section
variable {pb sb cap : Nat} {l : List Tx.Sg}
end
end Go.Proofs.YtdlchhimkelinaaGreatDoor
namespace Go.Proofs.YtdlchhimkelinaaGreatDoor
open Go.RowKit Go.Sort
theorem flat_at {α : Type} (f : α → List Value) (n : Nat) (hf : ∀ x, (f x).length = n) : ∀ (l : List α) (k : Nat) (x : α), l[k]? = some x → ∀ (j : Nat) (v : Value), (f x)[j]? = some v → (l.flatMap f)[k * n + j]? = some v
 | a :: l, 0, x, hx, j, v, hv => by
  simp only [List.getElem?_cons_zero, Option.some.injEq] at hx
  subst hx
  rw [List.flatMap_cons, Nat.zero_mul, Nat.zero_add, List.getElem?_append_left (List.getElem?_eq_some_iff.1 hv).1]; exact hv
 | a :: l, k + 1, x, hx, j, v, hv => by
  rw [List.getElem?_cons_succ] at hx
  rw [List.flatMap_cons, List.getElem?_append_right (by rw [hf]; rw [Nat.add_mul]; omega), hf, show (k + 1) * n + j - n = k * n + j by rw [Nat.add_mul]; omega]
  exact flat_at f n hf l k x hx j v hv
 | [], k, x, hx, _, _, _ => by simp at hx
theorem flat_len {α : Type} (f : α → List Value) (n : Nat) (hf : ∀ x, (f x).length = n) : ∀ (l : List α), (l.flatMap f).length = l.length * n
 | [] => by simp
 | a :: l => by rw [List.flatMap_cons, List.length_append, hf, flat_len f n hf l, List.length_cons, Nat.add_mul]; omega
/-- What a row of one's own holds lies in the new memory. -/
theorem own_lies {α : Type} {w : World} {B : Nat} {e : TypeId} {n : Nat} {v : Value} {l : List α} {f : α → List Value} (hf : ∀ x, (f x).length = n) (h : w.ownsRow B e n v l.length (l.flatMap f)) :
  ∃ (p : Option Addr) (c : Nat), v = .slice p l.length c ∧ (l = [] ∨ ∃ b o, p = some ⟨b, o, none⟩ ∧ B ≤ b ∧ v.ownBlock = some b ∧ ∀ k x, l[k]? = some x → (fresh B w).rangeAt b (o + k * n) (f x)) := by
 rcases h.2 with ⟨rfl, h0⟩ | ⟨g, cap, cur, rfl, hg, hr⟩
 ·have hl : l = [] := List.length_eq_zero_iff.1 h0
  subst hl
  exact ⟨_, _, rfl, .inl rfl⟩
 ·refine ⟨_, _, rfl, .inr ⟨g, 0, rfl, hg, rfl, fun k x hx j u hu => ?_⟩⟩
  have hat := flat_at f n hf l k x hx j u hu
  have hlt := (List.getElem?_eq_some_iff.1 hat).1
  rw [flat_len f n hf] at hlt
  unfold fresh
  rw [mask_cell, if_neg (by simp; omega), Nat.zero_add, h.cellAt _ hlt]
  exact hat
/-! What lies beside the parser's own blocks. -/
/-- All but what was there, and one block. -/
def rest (B : Nat) (r : Option Nat) (w : World) : World := mask (fun b => decide (b < B) || decide (some b = r)) w
theorem rest_below {B : Nat} {r : Option Nat} {w w' : World} (h : Below w.heap.size w w') : Ext (rest B r w) (rest B r w') := Ext.of_mask fun b hb hlt => ⟨hb, h.block b hlt⟩
theorem rest_fresh {B : Nat} {r : Option Nat} {w : World} : Ext (rest B r w) (fresh B w) := Ext.of_mask fun b hb _ => by
 simp only [Bool.or_eq_false_iff, decide_eq_false_iff_not] at hb ⊢
 exact ⟨hb.1, trivial⟩
theorem rest_grown {B g : Nat} {v : Value} {w w' : World} (h : w.grownBy w' v.ownBlock) (hat : v.ownBlock = some g ∨ g = w.heap.size) : Ext (rest B v.ownBlock w) (rest B (some g) w') := Ext.of_mask fun b hb hlt => by
 simp only [Bool.or_eq_false_iff, decide_eq_false_iff_not] at hb ⊢
 refine ⟨⟨hb.1, ?_⟩, h.block b hlt hb.2⟩
 rcases hat with hat | hat
 ·rw [← hat]; exact hb.2
 ·intro e; injection e with e; omega
/-- An old block turns: what is new stays. -/
theorem rest_par {B g : Nat} {r : Option Nat} {w w' : World} (h : w.grownBy w' (some g)) (hg : g < B) : Ext (rest B r w) (rest B r w') := Ext.of_mask fun b hb hlt => by
 simp only [Bool.or_eq_false_iff, decide_eq_false_iff_not] at hb ⊢
 exact ⟨hb, h.block b hlt (by intro e; injection e with e; omega)⟩
theorem fresh_par {B g : Nat} {w w' : World} (h : w.grownBy w' (some g)) (hg : g < B) : Ext (fresh B w) (fresh B w') := Ext.of_mask fun b hb hlt => by
 simp only [decide_eq_false_iff_not] at hb ⊢
 exact ⟨hb, h.block b hlt (by intro e; injection e with e; omega)⟩
theorem fresh_rest {B B' : Nat} {r : Option Nat} {w : World} (hB : B' ≤ B) (hr : ∀ g, r = some g → g < B) : Ext (fresh B w) (rest B' r w) := Ext.of_mask fun b hb _ => by
 simp only [decide_eq_false_iff_not, Bool.or_eq_false_iff] at hb ⊢
 exact ⟨⟨by omega, by intro e; have := hr b e.symm; omega⟩, trivial⟩
/-! Rows of one's own. -/
theorem own_par {w w' : World} {B g : Nat} {e : TypeId} {k n : Nat} {v : Value} {xs : List Value} (h : w.ownsRow B e k v n xs) (hg : w.grownBy w' (some g)) (hB : g < B) : w'.ownsRow B e k v n xs :=
 h.kept hg (by
  cases hv : v.ownBlock with
  | none => exact .inl rfl
  | some b => right; intro e; injection e with e; have := (h.lt b hv).1; omega)
theorem own_keep {w w' : World} {B : Nat} {e : TypeId} {k n : Nat} {v : Value} {xs : List Value} (h : w.ownsRow B e k v n xs) (hb : Below w.heap.size w w') : w'.ownsRow B e k v n xs :=
 h.kept (grownBy_of hb none) (by
  cases hv : v.ownBlock with
  | none => exact .inl rfl
  | some b => right; intro e; cases e)
/-- What kind of items a list has. -/
structure Kd (α : Type) where
 T : TypeId
 size : Nat
 bytes : Nat
 cells : α → List Value
 er : α → α
 R : World → α → Prop
 len : ∀ x, (cells x).length = size
 one : ∀ x, (cells x).toArray.all (·.oneCell') = true
 ext : ∀ {w w' : World} (x : α), Ext w w' → R w x → R w' x
namespace Kd
variable {α : Type} (K : Kd α)
/-- A list lies in memory. -/
def Ly (w : World) (p : Option Addr) (l : List α) : Prop :=
 l.length * K.bytes ≤ 140737488351232 ∧ (l = [] ∨ ∃ b o, p = some ⟨b, o, none⟩ ∧ ∀ k x, l[k]? = some x → w.rangeAt b (o + k * K.size) (K.cells x) ∧ K.R w x)
/-- What a call hands back: something that lies in what is new since. -/
def Val (B : Nat) (w : World) (v : Value) (a : α) : Prop := ∃ y, v = .agg (K.cells y).toArray ∧ K.er y = a ∧ K.R (fresh B w) y
/-- Items that were read, in a row of one's own. -/
def Gr (B : Nat) (xs : List α) (v : Value) (w : World) : Prop :=
 ∃ ys : List α, ys.map K.er = xs ∧ w.ownsRow B K.T K.size v xs.length (ys.flatMap K.cells) ∧ ∀ y ∈ ys, K.R (rest B v.ownBlock w) y
theorem Gr.nil {B : Nat} {v : Value} {w : World} (h : w.ownsRow B K.T K.size v 0 []) : K.Gr B [] v w := ⟨[], rfl, h, by simp⟩
theorem Gr.below {K : Kd α} {B : Nat} {xs : List α} {v : Value} {w w' : World} (h : K.Gr B xs v w) (hb : Below w.heap.size w w') : K.Gr B xs v w' := by
 obtain ⟨ys, h1, h2, h3⟩ := h
 exact ⟨ys, h1, own_keep h2 hb, fun y hy => K.ext y (rest_below hb) (h3 y hy)⟩
theorem Gr.par {K : Kd α} {B g : Nat} {xs : List α} {v : Value} {w w' : World} (h : K.Gr B xs v w) (hg : w.grownBy w' (some g)) (hB : g < B) : K.Gr B xs v w' := by
 obtain ⟨ys, h1, h2, h3⟩ := h
 exact ⟨ys, h1, own_par h2 hg hB, fun y hy => K.ext y (rest_par hg hB) (h3 y hy)⟩
/-- One item more. -/
theorem add {B g cap : Nat} {xs : List α} {ys : List α} {v : Value} {w w1 : World} {y : α} (h1 : ys.map K.er = xs) (h3 : ∀ y ∈ ys, K.R (rest B v.ownBlock w) y)
  (hg : w.grownBy w1 v.ownBlock) (hat : v.ownBlock = some g ∨ g = w.heap.size)
  (ho : w1.ownsRow B K.T K.size (.slice (some ⟨g, 0, none⟩) (xs.length + 1) cap) (xs.length + 1) (ys.flatMap K.cells ++ K.cells y))
  (hR : K.R (rest B v.ownBlock w) y) : K.Gr B (xs ++ [K.er y]) (.slice (some ⟨g, 0, none⟩) (xs.length + 1) cap) w1 := by
 refine ⟨ys ++ [y], by rw [List.map_append, h1]; rfl, ?_, ?_⟩
 ·rw [List.flatMap_append, List.flatMap_singleton, List.length_append, List.length_singleton]; exact ho
 ·intro z hz
  rcases List.mem_append.1 hz with hz | hz
  ·exact K.ext z (rest_grown hg hat) (h3 z hz)
  ·rw [List.mem_singleton.1 hz]; exact K.ext y (rest_grown hg hat) hR
/-- All of them. -/
theorem fin {B : Nat} {xs : List α} {v : Value} {w : World} (hl : xs.length * K.bytes ≤ 140737488351232) (h : K.Gr B xs v w) :
  ∃ s : Sl α, v = .slice s.p s.l.length s.cap ∧ s.l.map K.er = xs ∧ K.Ly (fresh B w) s.p s.l := by
 obtain ⟨ys, h1, h2, h3⟩ := h
 subst h1
 rw [List.length_map] at h2 hl
 obtain ⟨p, c, rfl, hp⟩ := own_lies K.len h2
 refine ⟨⟨p, c, ys⟩, rfl, rfl, hl, ?_⟩
 rcases hp with hp | ⟨b, o, rfl, hB, _, hx⟩
 ·exact .inl hp
 ·exact .inr ⟨b, o, rfl, fun k x hk => ⟨hx k x hk, K.ext x rest_fresh (h3 x (List.mem_of_getElem? hk))⟩⟩
theorem Val.par {K : Kd α} {B g : Nat} {v : Value} {a : α} {w w' : World} (h : K.Val B w v a) (hg : w.grownBy w' (some g)) (hB : g < B) : K.Val B w' v a := by
 obtain ⟨y, h1, h2, h3⟩ := h
 exact ⟨y, h1, h2, K.ext y (fresh_par hg hB) h3⟩
end Kd
/-! Structs loaded and stored whole. -/
theorem Bk.setRow {w : World} {R : Nat} {t : TypeId} {old : Array Value} (h : Bk w R t old) (cs : Array Value) : Bk (w.setRow R cs) R t cs ∧ w.grownBy (w.setRow R cs) (some R) := by
 refine ⟨?_, ⟨rfl, rfl, rfl, by simp [World.setRow], fun i _ hne => ?_⟩⟩
 ·unfold Bk at h ⊢
  simp [World.setRow, Array.getElem?_modify, h]
 ·have hne' : ¬ R = i := fun e => hne (by rw [e])
  simp [World.setRow, Array.getElem?_modify, hne']
/-- A struct's value goes into a block of its size. -/
theorem wpList_store_bk {P : Program} {ops : Array Oper} {rest : List Oper} {op : Oper} {a : Act} {w : World} {Q : Exit → Act → World → Prop} (hgd : op.guard = none) (ty : TypeId) (x y : Operand) (ho : op.op = .store ty x y)
  (R : Nat) (t : TypeId) (old cs : Array Value) (hx : a.eval x = .pointer (some ⟨R, 0, none⟩)) (hy : a.eval y = .agg cs) (hk : Bk w R t old) (hi : (P.info? ty).map (·.size) = some cs.size) (hc : old.size = cs.size) (h1 : cs.all (·.oneCell') = true)
  (h : ∀ w', Bk w' R t cs → w.grownBy w' (some R) → wpList P ops Q rest (a.put op.dst undef) w') : wpList P ops Q (op :: rest) a w :=
 wpList_plain hgd fun _ hK => by
  unfold Oper.wp execOp
  simp only [ho, hx, hy, Instr.storeAt, Instr.sureAddr, Sem.run_bind, Sem.run_pure, Result.andThen_ok, run_storeVar_row w R t ty old cs hk hi hc h1]
  exact hK _ _ (h _ (hk.setRow cs).1 (hk.setRow cs).2)
theorem Bk.range {w : World} {g : Nat} {t : TypeId} {cs : Array Value} (h : Bk w g t cs) : w.rangeAt g 0 cs.toList := fun j v hv => by
 rw [Nat.zero_add, h.cell]; simpa using hv
theorem PS.grown {w w' : World} {pb sb cap : Nat} {l : List Tx.Sg} {i : Nat} {o b : Int} {r : Option Nat} (h : PS w pb sb cap l i o b) (hg : w.grownBy w' r) (h1 : ∀ q, r = some q → q ≠ pb ∧ q ≠ sb) : PS w' pb sb cap l i o b :=
 ⟨(hg.block pb h.pb_lt (fun e => (h1 _ e.symm).1 rfl)).trans h.blk, fun k x hx j v hv => hg.cell (h.row k x hx j v hv) (fun e => (h1 _ e.symm).2 rfl), h.ne, h.lt⟩
theorem Bk.grown {w w' : World} {b t : Nat} {cs : Array Value} {r : Option Nat} (h : Bk w b t cs) (hg : w.grownBy w' r) (h1 : ∀ q, r = some q → q ≠ b) : Bk w' b t cs :=
 (hg.block b h.lt (fun e => h1 _ e.symm rfl)).trans h
theorem grownBy_up {a b c : World} {pb : Nat} {r : Option Nat} (h : a.grownBy b (some pb)) (k : b.grownBy c r) (h1 : ∀ q, r = some q → a.heap.size ≤ q) : a.grownBy c (some pb) :=
 ⟨k.os.trans h.os, k.tape.trans h.tape, k.output.trans h.output, Nat.le_trans h.size k.size, fun i hi hne =>
  (k.block i (Nat.lt_of_lt_of_le hi h.size) (fun e => by have := h1 i e.symm; omega)).trans (h.block i hi hne)⟩
def kDc : Kd Dc := ⟨77, 3, 40, Dc.cells, Dc.er, fun _ _ => True, fun _ => rfl, fun _ => by simp [Value.oneCell'], fun _ _ _ => trivial⟩
def kSr : Kd Sr := ⟨37, 3, 48, Sr.cells, Sr.er, fun w x => declsLie w x.fields, fun _ => rfl, fun _ => by simp [Value.oneCell'], fun _ h k => declsLie_ext h k⟩
def kPc : Kd Pc := ⟨40, 6, 104, Pc.cells, Pc.er, pcLies, fun _ => rfl, fun _ => by simp [Value.oneCell'], fun _ h k => pcLies_ext h k⟩
def kVl : Kd Vl := ⟨49, 12, 144, Vl.cells, Vl.er, vlLies, fun _ => rfl, fun _ => by simp [Value.oneCell'], fun _ h k => vlLies_ext h k⟩
def kIt : Kd It := ⟨54, 48, 608, It.cells, It.er, itLies, fun _ => rfl, fun _ => scells_one _ _ _ _ _ _ _, fun _ h k => itLies_ext h k⟩
def kPth : Kd Pth := ⟨45, 3, 40, Pth.cells, Pth.er, fun w x => hopsLie w x.hops, fun _ => rfl, fun _ => by simp [Value.oneCell'], fun _ h k => hopsLie_ext h k⟩
def kCd : Kd Cd := ⟨51, 26, 304, Cd.cells, Cd.er, fun w x => vlLies w x.left ∧ vlLies w x.right, fun _ => rfl, fun _ => by simp [Value.oneCell'], fun _ h k => ⟨vlLies_ext h k.1, vlLies_ext h k.2⟩⟩
end Go.Proofs.YtdlchhimkelinaaGreatDoor
namespace Go.Proofs.YtdlchhimkelinaaGreatDoor
open Go.RowKit Go.Sort
attribute [local go_sem] field79_0 field79_1 field79_2 field79_3
section
variable {pb sb cap : Nat} {l : List Tx.Sg}
theorem own_shape {w : World} {base : Nat} {e : TypeId} {size : Nat} {v : Value} {n : Nat} {xs : List Value} (h : w.ownsRow base e size v n xs) : ∃ a c, v = .slice a n c := by
 rcases h.2 with ⟨rfl, h0⟩ | ⟨g, cap, cur, rfl, hg, hr⟩
 ·subst h0; exact ⟨_, _, rfl⟩
 ·exact ⟨_, _, rfl⟩
theorem zinfoHp : (Tryz.prog.info? 165).map (fun i => (i.zero, i.size, i.bytes)) = some (some (.agg #[.string ByteArray.empty, .int .i64 0]), 2, 24) := by kernel_rfl
/-- The end of a call that hands back a path through a result of its own. -/
theorem path_result {w2 : World} {n : ByteArray} {p : Int} {v s : Value} {R : Nat} {a b : Value} (hk : Bk w2 R 45 #[a, b, s]) :
  Bk (((w2.setCell ⟨R, 0, none⟩ (.string n)).setCell ⟨R, 1, none⟩ (.int .i64 p)).setCell ⟨R, 2, none⟩ v) R 45 #[.string n, .int .i64 p, v] ∧
  w2.grownBy (((w2.setCell ⟨R, 0, none⟩ (.string n)).setCell ⟨R, 1, none⟩ (.int .i64 p)).setCell ⟨R, 2, none⟩ v) (some R) :=
 ⟨((hk.set_ 0 _).set_ 1 _).set_ 2 _, grownBy_tr (grownBy_tr (grownBy_setC _ ⟨R, 0, none⟩ _) (grownBy_setC _ ⟨R, 1, none⟩ _)) (grownBy_setC _ ⟨R, 2, none⟩ _)⟩
end
end Go.Proofs.YtdlchhimkelinaaGreatDoor
namespace Go.Proofs.YtdlchhimkelinaaGreatDoor
open Go.RowKit Go.Sort
/-- A row with some items set, from the o-th on. -/
def putC : List Value → Nat → List Value → List Value
 | l, _, [] => l
 | l, o, v :: r => putC (l.set o v) (o + 1) r
theorem Bk.setCells {C : Nat} {t : TypeId} : ∀ (vs : List Value) (o : Nat) (w : World) (old : List Value), Bk w C t old.toArray → Bk (w.setCells C o vs) C t (putC old o vs).toArray ∧ w.grownBy (w.setCells C o vs) (some C)
 | [], o, w, old, h => ⟨h, ⟨rfl, rfl, rfl, Nat.le_refl _, fun _ _ _ => rfl⟩⟩
 | v :: r, o, w, old, h => by
  have h1 : Bk (w.setCell ⟨C, o, none⟩ v) C t (old.set o v).toArray := by have := h.set_ o v; rwa [List.setIfInBounds_toArray] at this
  have h2 := Bk.setCells r (o + 1) (w.setCell ⟨C, o, none⟩ v) (old.set o v) h1
  exact ⟨h2.1, grownBy_tr (grownBy_setC w ⟨C, o, none⟩ v) h2.2⟩
/-- A struct's value goes into a part of a block. -/
theorem wpList_store_part {P : Program} {ops : Array Oper} {rest : List Oper} {op : Oper} {a : Act} {w : World} {Q : Exit → Act → World → Prop} (hgd : op.guard = none) (ty : TypeId) (x y : Operand) (ho : op.op = .store ty x y)
  (C off : Nat) (t : TypeId) (old cs : List Value) (hx : a.eval x = .pointer (some ⟨C, off, none⟩)) (hy : a.eval y = .agg cs.toArray) (hk : Bk w C t old.toArray) (hi : (P.info? ty).map (·.size) = some cs.toArray.size) (hc : off + cs.length ≤ old.length) (h1 : cs.toArray.all (·.oneCell') = true)
  (h : ∀ w', Bk w' C t (putC old off cs).toArray → w.grownBy w' (some C) → wpList P ops Q rest (a.put op.dst undef) w') : wpList P ops Q (op :: rest) a w :=
 wpList_plain hgd fun _ hK => by
  unfold Oper.wp execOp
  have ht : w.there C off cs.toArray.size := fun j hj => ⟨by rw [hk.cell]; rw [List.size_toArray] at hj; simp; omega, hk.frozen _⟩
  simp only [ho, hx, hy, Instr.storeAt, Instr.sureAddr, Sem.run_bind, Sem.run_pure, Result.andThen_ok, run_storeVar_mid w C off ty cs.toArray ht hi h1]
  have hh := Bk.setCells (C := C) (t := t) cs off w old hk
  exact hK _ _ (h _ hh.1 hh.2)
/-- A struct's value out of a block that is known whole. -/
theorem wpList_load_bk {P : Program} {ops : Array Oper} {rest : List Oper} {op : Oper} {a : Act} {w : World} {Q : Exit → Act → World → Prop} (hgd : op.guard = none) (ty : TypeId) (x : Operand) (ho : op.op = .load ty x)
  (C : Nat) (t : TypeId) (cs : Array Value) (hx : a.eval x = .pointer (some ⟨C, 0, none⟩)) (d : TypeDesc) (hk : Bk w C t cs)
  (hu : P.underlying ty = some d) (hd : d.isRow = true) (hi : (P.info? ty).map (·.size) = some cs.size)
  (h : wpList P ops Q rest (a.put op.dst (.agg cs)) w) : wpList P ops Q (op :: rest) a w :=
 wpList_load_arr hgd ty x ho C 0 hx cs d hk.range hu hd hi h
theorem size47 : (Tryz.prog.info? 49).map (·.size) = some 12 := by kernel_rfl
theorem size49 : (Tryz.prog.info? 51).map (·.size) = some 26 := by kernel_rfl
end Go.Proofs.YtdlchhimkelinaaGreatDoor
namespace Go.Proofs.YtdlchhimkelinaaGreatDoor
open Go.RowKit Go.Sort
attribute [local go_sem] field79_0 field79_1 field79_2 field79_3
section
variable {pb sb cap : Nat} {l : List Tx.Sg}
end
end Go.Proofs.YtdlchhimkelinaaGreatDoor
namespace Go.Proofs.YtdlchhimkelinaaGreatDoor
open Go.RowKit Go.Sort
attribute [local go_sem] field79_0 field79_1 field79_2 field79_3
section
variable {pb sb cap : Nat} {l : List Tx.Sg}
end
end Go.Proofs.YtdlchhimkelinaaGreatDoor
namespace Go.Proofs.YtdlchhimkelinaaGreatDoor
open Go.RowKit Go.Sort
attribute [local go_sem] field79_0 field79_1 field79_2 field79_3
section
variable {pb sb cap : Nat} {l : List Tx.Sg}
/-- A condition's first end. -/
theorem cd_set0 {w : World} {C : Nat} {c : Cd} (h : Bk w C 51 (Cd.cells c).toArray) (k : Int) : Bk (w.setCell ⟨C, 0, none⟩ (.int .i64 k)) C 51 (Cd.cells { c with kind := k }).toArray := h.set_ 0 _
theorem cd_put1 {w : World} {C : Nat} {c : Cd} {y : Vl} (h : Bk w C 51 (putC (Cd.cells c) 2 (Vl.cells y)).toArray) : Bk w C 51 (Cd.cells { c with left := y }).toArray := h
theorem cd_put2 {w : World} {C : Nat} {c : Cd} {y : Vl} (h : Bk w C 51 (putC (Cd.cells c) 14 (Vl.cells y)).toArray) : Bk w C 51 (Cd.cells { c with right := y }).toArray := h
end
end Go.Proofs.YtdlchhimkelinaaGreatDoor
namespace Go.Proofs.YtdlchhimkelinaaGreatDoor
open Go.RowKit Go.Sort
namespace Pr
theorem th_ok {α β : Type} {r : Res α} {f : α → St → Res β} {b : β} {v : St} (h : th r f = .ok (b, v)) : ∃ a u, r = .ok (a, u) ∧ f a u = .ok (b, v) := by
 unfold th at h
 split at h
 ·cases h
 ·rename_i x u; exact ⟨x, u, rfl, h⟩
/-- A part of the parser goes n signs on at least, and leaves the counts as they are. -/
def Fwd (n : Nat) (u v : St) : Prop := u.i + n ≤ v.i ∧ v.o = u.o ∧ v.b = u.b
theorem Fwd.tr {n m : Nat} {u v w : St} (h : Fwd n u v) (k : Fwd m v w) : Fwd (n + m) u w := ⟨by have := h.1; have := k.1; omega, k.2.1.trans h.2.1, k.2.2.trans h.2.2⟩
theorem Fwd.le {n m : Nat} {u v : St} (h : Fwd n u v) (hm : m ≤ n) : Fwd m u v := ⟨by have := h.1; omega, h.2⟩
theorem Fwd.go (u : St) : Fwd 1 u u.go := ⟨Nat.le_refl _, rfl, rfl⟩
theorem Fwd.refl (u : St) : Fwd 0 u u := ⟨Nat.le_refl _, rfl, rfl⟩
section
variable {t : List Tk}
theorem must_fwd {s : ByteArray} {u v : St} {x : Tk} (h : must t s u = .ok (x, v)) : Fwd 1 u v := by
 unfold must at h
 split at h
 ·injection h with h; injection h with _ h; subst h; exact Fwd.go u
 ·cases h
theorem name_fwd {u v : St} {x : Tk} (h : name t u = .ok (x, v)) : Fwd 1 u v := by
 unfold name at h
 split at h
 ·injection h with h; injection h with _ h; subst h; exact Fwd.go u
 ·cases h
theorem hops_fwd : ∀ (n : Nat) (acc : List Hp) (u : St) {l : List Hp} {v : St}, hops t n acc u = .ok (l, v) → Fwd 0 u v
 | 0, acc, u, l, v, h => by
  unfold hops at h
  split at h
  ·cases h
  ·injection h with h; injection h with _ h; subst h; exact Fwd.refl u
 | n + 1, acc, u, l, v, h => by
  unfold hops at h
  split at h
  ·obtain ⟨x, w, h1, h2⟩ := th_ok h
   exact (((Fwd.go u).tr (name_fwd h1)).tr (hops_fwd n _ w h2)).le (Nat.zero_le _)
  ·injection h with h; injection h with _ h; subst h; exact Fwd.refl u
theorem path_fwd {u v : St} {x : Pth} (h : path t u = .ok (x, v)) : Fwd 1 u v := by
 obtain ⟨a, u1, h1, h⟩ := th_ok h
 obtain ⟨b, u2, h2, h⟩ := th_ok h
 injection h with h; injection h with _ h; subst h
 exact (name_fwd h1).tr (hops_fwd _ _ _ h2)
theorem term_fwd {u v : St} {x : Tm} (h : term t u = .ok (x, v)) : Fwd 1 u v := by
 unfold term at h
 split at h
 ·injection h with h; injection h with _ h; subst h; exact Fwd.go u
 ·obtain ⟨a, u1, h1, h⟩ := th_ok h
  injection h with h; injection h with _ h; subst h
  exact name_fwd h1
theorem side_fwd {u v : St} {x : Vl} (h : side t u = .ok (x, v)) : Fwd 1 u v := by
 unfold side at h
 split at h
 ·injection h with h; injection h with _ h; subst h; exact Fwd.go u
 ·split at h
  ·obtain ⟨a, u1, h1, h⟩ := th_ok h
   injection h with h; injection h with _ h; subst h
   exact term_fwd h1
  ·obtain ⟨a, u1, h1, h⟩ := th_ok h
   injection h with h; injection h with _ h; subst h
   exact path_fwd h1
theorem sum_fwd {u v : St} {x : Vl} (h : sum t u = .ok (x, v)) : Fwd 1 u v := by
 obtain ⟨a, u1, h1, h⟩ := th_ok h
 obtain ⟨b, u2, h2, h⟩ := th_ok h
 injection h with h; injection h with _ h; subst h
 exact (((term_fwd h1).tr (Fwd.go u1)).tr (term_fwd h2)).le (by omega)
theorem value_fwd {u v : St} {x : Vl} (h : value t u = .ok (x, v)) : Fwd 1 u v := by
 unfold value at h
 split at h
 ·obtain ⟨a, u1, h1, h⟩ := th_ok h
  injection h with h; injection h with _ h; subst h
  exact ((Fwd.go u).tr (name_fwd h1)).le (by omega)
 ·split at h
  ·injection h with h; injection h with _ h; subst h; exact Fwd.go u
  ·split at h
   ·exact sum_fwd h
   ·exact side_fwd h
theorem relation_fwd {u v : St} {x : Int} (h : relation t u = .ok (x, v)) : Fwd 1 u v := by
 unfold relation at h
 split at h
 ·injection h with h; injection h with _ h; subst h; exact Fwd.go u
 ·split at h
  ·injection h with h; injection h with _ h; subst h; exact Fwd.go u
  ·split at h
   ·injection h with h; injection h with _ h; subst h; exact Fwd.go u
   ·obtain ⟨a, u1, h1, h⟩ := th_ok h
    injection h with h; injection h with _ h; subst h
    exact must_fwd h1
theorem cond_fwd {u v : St} {x : Cd} (h : cond t u = .ok (x, v)) : Fwd 1 u v := by
 unfold cond at h
 split at h
 ·injection h with h; injection h with _ h; subst h; exact Fwd.go u
 ·obtain ⟨a, u1, h1, h⟩ := th_ok h
  obtain ⟨b, u2, h2, h⟩ := th_ok h
  obtain ⟨c, u3, h3, h⟩ := th_ok h
  injection h with h; injection h with _ h; subst h
  exact (((side_fwd h1).tr (relation_fwd h2)).tr (side_fwd h3)).le (by omega)
theorem held_fwd {u v : St} {x : Cd} (h : held t u = .ok (x, v)) : Fwd 1 u v := by
 obtain ⟨a, u1, h1, h⟩ := th_ok h
 obtain ⟨b, u2, h2, h⟩ := th_ok h
 obtain ⟨c, u3, h3, h⟩ := th_ok h
 injection h with h; injection h with _ h; subst h
 exact (((must_fwd h1).tr (cond_fwd h2)).tr (must_fwd h3)).le (by omega)
theorem more_fwd {α : Type} {item : St → Res α} (hi : ∀ u x v, item u = .ok (x, v) → Fwd 1 u v) : ∀ (n : Nat) (acc : List α) (u : St) {l : List α} {v : St}, more t item n acc u = .ok (l, v) → Fwd 1 u v
 | 0, acc, u, l, v, h => by cases h
 | n + 1, acc, u, l, v, h => by
  unfold more at h
  split at h
  ·obtain ⟨x, w, h1, h2⟩ := th_ok h
   exact (((Fwd.go u).tr (hi _ _ _ h1)).tr (more_fwd hi n _ w h2)).le (by omega)
  ·obtain ⟨a, u1, h1, h⟩ := th_ok h
   injection h with h; injection h with _ h; subst h
   exact must_fwd h1
theorem listed_fwd {α : Type} {item : St → Res α} (hi : ∀ u x v, item u = .ok (x, v) → Fwd 1 u v) {u v : St} {l : List α} (h : listed t item u = .ok (l, v)) : Fwd 1 u v := by
 obtain ⟨a, u1, h1, h⟩ := th_ok h
 split at h
 ·injection h with h; injection h with _ h; subst h
  exact ((must_fwd h1).tr (Fwd.go u1)).le (by omega)
 ·obtain ⟨b, u2, h2, h⟩ := th_ok h
  exact (((must_fwd h1).tr (hi _ _ _ h2)).tr (more_fwd hi _ _ _ h)).le (by omega)
theorem pointer_fwd {u v : St} {x : Dc} (h : pointer t u = .ok (x, v)) : Fwd 1 u v := by
 obtain ⟨a, u1, h1, h⟩ := th_ok h
 obtain ⟨b, u2, h2, h⟩ := th_ok h
 obtain ⟨c, u3, h3, h⟩ := th_ok h
 injection h with h; injection h with _ h; subst h
 exact (((name_fwd h1).tr (must_fwd h2)).tr (name_fwd h3)).le (by omega)
theorem variable_fwd {u v : St} {x : Dc} (h : variable_ t u = .ok (x, v)) : Fwd 1 u v := by
 unfold variable_ at h
 split at h
 ·obtain ⟨a, u1, h1, h⟩ := th_ok h
  injection h with h; injection h with _ h; subst h
  exact ((Fwd.go u).tr (name_fwd h1)).le (by omega)
 ·exact pointer_fwd h
theorem decl_fwd {u v : St} {x : Dc} (h : decl t u = .ok (x, v)) : Fwd 1 u v := by
 obtain ⟨a, u1, h1, h⟩ := th_ok h
 obtain ⟨b, u2, h2, h⟩ := th_ok h
 injection h with h; injection h with _ h; subst h
 exact ((variable_fwd h1).tr (must_fwd h2)).le (by omega)
/-- The counts within their bounds. -/
def Inv (u : St) : Prop := 0 ≤ u.o ∧ u.o ≤ 20 ∧ 0 ≤ u.b ∧ u.b ≤ 400
/-- Statements go n signs on at least, leave as many braces open, and the counts within their bounds. -/
def Stp (n : Nat) (u v : St) : Prop := u.i + n ≤ v.i ∧ v.o = u.o ∧ (Inv u → Inv v)
theorem Fwd.stp {n : Nat} {u v : St} (h : Fwd n u v) : Stp n u v := ⟨h.1, h.2.1, fun hi => ⟨by rw [h.2.1]; exact hi.1, by rw [h.2.1]; exact hi.2.1, by rw [h.2.2]; exact hi.2.2.1, by rw [h.2.2]; exact hi.2.2.2⟩⟩
theorem Fwd.inv {n : Nat} {u v : St} (h : Fwd n u v) (hi : Inv u) : Inv v := h.stp.2.2 hi
theorem Stp.tr {n m : Nat} {u v w : St} (h : Stp n u v) (k : Stp m v w) : Stp (n + m) u w := ⟨by have := h.1; have := k.1; omega, k.2.1.trans h.2.1, fun hi => k.2.2 (h.2.2 hi)⟩
theorem Stp.le {n m : Nat} {u v : St} (h : Stp n u v) (hm : m ≤ n) : Stp m u v := ⟨by have := h.1; omega, h.2⟩
theorem mustHold_ok {u v : St} {x : Unit} (h : mustHold t u = .ok (x, v)) : v = u ∧ (is t u.i ⟨#[123]⟩ = true → u.o ≠ 20) := by
 unfold mustHold at h
 split at h
 ·cases h
 ·rename_i hn
  injection h with h; injection h with _ h; subst h
  exact ⟨rfl, fun h1 h2 => hn (by rw [h1, h2]; rfl)⟩
theorem count_ok {u v : St} {x : Unit} (h : count t u = .ok (x, v)) : v = ⟨u.i, u.o, u.b + 1⟩ ∧ u.b ≠ 400 := by
 obtain ⟨a, u1, h1, h2⟩ := th_ok h
 clear h
 obtain ⟨rfl, _⟩ := mustHold_ok h1
 split at h2
 ·cases h2
 ·rename_i hn
  injection h2 with h2; injection h2 with _ h2; subst h2
  exact ⟨rfl, hn⟩
theorem must_is {s : ByteArray} {u v : St} {x : Tk} (h : must t s u = .ok (x, v)) : is t u.i s = true ∧ v = u.go := by
 unfold must at h
 split at h
 ·rename_i hn; injection h with h; injection h with _ h; subst h; exact ⟨hn, rfl⟩
 ·cases h
theorem block_stp {rec : St → Res SL} (hr : ∀ u l v, rec u = .ok (l, v) → Stp 0 u v) {u v : St} {l : SL} (h : block t rec u = .ok (l, v)) : Stp 1 u v := by
 obtain ⟨a, u1, h1, h⟩ := th_ok h
 obtain ⟨b, u2, h2, h⟩ := th_ok h
 obtain ⟨c, u3, h3, h⟩ := th_ok h
 obtain ⟨d, u4, h4, h⟩ := th_ok h
 injection h with h; injection h with _ h; subst h
 obtain ⟨rfl, ho⟩ := mustHold_ok h1
 obtain ⟨hs, rfl⟩ := must_is h2
 have hS := hr _ _ _ h3
 have hF := must_fwd h4
 have ho20 := ho hs
 refine ⟨?_, ?_, fun hi => ?_⟩
 ·have := hS.1; have := hF.1; simp only [St.go] at *; omega
 ·have := hS.2.1; have := hF.2.1; simp only [St.go] at *; omega
 ·have hi2 : Inv ⟨u1.go.i, u1.go.o + 1, u1.go.b⟩ := ⟨by have := hi.1; simp only [St.go]; omega, by have := hi.2.1; simp only [St.go]; omega, hi.2.2⟩
  have hi3 := hF.inv (hS.2.2 hi2)
  have h5 := hF.2.1; have h6 := hS.2.1
  simp only [St.go] at h5 h6
  exact ⟨by have := hi.1; simp only; omega, by have := hi.2.1; simp only; omega, hi3.2.2⟩
theorem free_fwd {u v : St} {x : Hd} (h : free t u = .ok (x, v)) : Fwd 1 u v := by
 obtain ⟨a, u1, h1, h⟩ := th_ok h
 obtain ⟨b, u2, h2, h⟩ := th_ok h
 obtain ⟨c, u3, h3, h⟩ := th_ok h
 obtain ⟨d, u4, h4, h⟩ := th_ok h
 obtain ⟨e, u5, h5, h⟩ := th_ok h
 injection h with h; injection h with _ h; subst h
 exact (((((must_fwd h1).tr (must_fwd h2)).tr (path_fwd h3)).tr (must_fwd h4)).tr (must_fwd h5)).le (by omega)
theorem named_fwd {u v : St} {x : Hd} (h : named t u = .ok (x, v)) : Fwd 1 u v := by
 unfold named at h
 split at h
 ·obtain ⟨a, u1, h1, h⟩ := th_ok h
  obtain ⟨b, u2, h2, h⟩ := th_ok h
  obtain ⟨c, u3, h3, h⟩ := th_ok h
  injection h with h; injection h with _ h; subst h
  exact (((name_fwd h1).tr (listed_fwd (fun _ _ _ h => side_fwd h) h2)).tr (must_fwd h3)).le (by omega)
 ·obtain ⟨a, u1, h1, h⟩ := th_ok h
  obtain ⟨b, u2, h2, h⟩ := th_ok h
  obtain ⟨c, u3, h3, h⟩ := th_ok h
  obtain ⟨d, u4, h4, h⟩ := th_ok h
  injection h with h; injection h with _ h; subst h
  exact ((((path_fwd h1).tr (must_fwd h2)).tr (value_fwd h3)).tr (must_fwd h4)).le (by omega)
theorem branch_stp {rec : St → Res SL} (hr : ∀ u l v, rec u = .ok (l, v) → Stp 0 u v) {u v : St} {x : Hd × SL × SL} (h : branch t rec u = .ok (x, v)) : Stp 1 u v := by
 obtain ⟨a, u1, h1, h⟩ := th_ok h
 obtain ⟨b, u2, h2, h⟩ := th_ok h
 obtain ⟨c, u3, h3, h⟩ := th_ok h
 have hs := (((must_fwd h1).tr (held_fwd h2)).stp).tr (block_stp hr h3)
 split at h
 ·obtain ⟨d, u4, h4, h⟩ := th_ok h
  injection h with h; injection h with _ h; subst h
  exact ((hs.tr (Fwd.go u3).stp).tr (block_stp hr h4)).le (by omega)
 ·injection h with h; injection h with _ h; subst h
  exact hs.le (by omega)
theorem loop_stp {rec : St → Res SL} (hr : ∀ u l v, rec u = .ok (l, v) → Stp 0 u v) {u v : St} {x : Hd × SL × SL} (h : loop t rec u = .ok (x, v)) : Stp 1 u v := by
 obtain ⟨a, u1, h1, h⟩ := th_ok h
 obtain ⟨b, u2, h2, h⟩ := th_ok h
 obtain ⟨c, u3, h3, h⟩ := th_ok h
 injection h with h; injection h with _ h; subst h
 exact ((((must_fwd h1).tr (held_fwd h2)).stp).tr (block_stp hr h3)).le (by omega)
theorem count_stp {u v : St} {x : Unit} (h : count t u = .ok (x, v)) : Stp 0 u v := by
 obtain ⟨rfl, hn⟩ := count_ok h
 exact ⟨Nat.le_refl _, rfl, fun hi => ⟨hi.1, hi.2.1, by have := hi.2.2.1; simp only; omega, by have := hi.2.2.2; simp only; omega⟩⟩
theorem stmt_stp {rec : St → Res SL} (hr : ∀ u l v, rec u = .ok (l, v) → Stp 0 u v) {u v : St} {x : Hd × SL × SL} (h : stmt t rec u = .ok (x, v)) : Stp 1 u v := by
 obtain ⟨a, u1, h1, h⟩ := th_ok h
 have hc := count_stp h1
 have key : Stp 1 u1 v := by
  split at h
  ·injection h with h; injection h with _ h; subst h; exact (Fwd.go u1).stp
  ·split at h
   ·obtain ⟨b, u2, h2, h⟩ := th_ok h
    injection h with h; injection h with _ h; subst h; exact block_stp hr h2
   ·split at h
    ·obtain ⟨b, u2, h2, h⟩ := th_ok h
     injection h with h; injection h with _ h; subst h; exact (free_fwd h2).stp
    ·split at h
     ·exact branch_stp hr h
     ·split at h
      ·exact loop_stp hr h
      ·obtain ⟨b, u2, h2, h⟩ := th_ok h
       injection h with h; injection h with _ h; subst h; exact (named_fwd h2).stp
 exact (hc.tr key).le (by omega)
end
end Pr
end Go.Proofs.YtdlchhimkelinaaGreatDoor
namespace Go.Proofs.YtdlchhimkelinaaGreatDoor
open Go.RowKit Go.Sort
/-- A slice literal of one struct, its cells not looked at. -/
theorem wpList_one {P : Program} {ops : Array Oper} {rest : List Oper} {o : Oper} {a : Act} {w : World} {Q : Exit → Act → World → Prop} (hg : o.guard = none) (t e : TypeId) (x : Operand) (ho : o.op = .buildSlice t 1 #[(0, x)])
  (cs : Array Value) (hx : a.eval x = .agg cs) (hu : P.underlying t = some (.slice e)) (ie : TypeInfo) (z : Value) (n : Nat) (hie : P.info? e = some ie) (hz : ie.zero = some z) (hn : ie.size = n) (h0 : 0 < n) (h24 : n ≤ 16777216) (hcs : n = cs.size)
  (h : wpList P ops Q rest (a.put o.dst (.slice (some ⟨w.heap.size, 0, none⟩) 1 1)) (w.alloc (.cells cs e))) : wpList P ops Q (o :: rest) a w := by
 subst hn
 refine wpList_buildSlice hg t e 1 #[(0, x)] ho cs ie z hu hie hz (by omega) (by omega) ?_ h
 have hf := Great.fill_whole h0 [Value.agg cs] ((Array.range (1 * ie.size)).map (z.cells[· % z.cells.size]!)) (by intro v hv; rw [List.mem_singleton.1 hv]; exact hcs.symm) (by simp)
 simp only [List.zipIdx_cons, List.zipIdx_nil, List.map_cons, List.map_nil] at hf
 simp only [List.map_toArray, List.map_cons, List.map_nil, hx]
 rw [hf]
 simp [Value.cells]
theorem own_one {w : World} {B g : Nat} {e : TypeId} {cs : List Value} (hk : Bk w g e cs.toArray) (hB : B ≤ g) {n : Nat} (hn : cs.length = n) : w.ownsRow B e n (.slice (some ⟨g, 0, none⟩) 1 1) 1 cs :=
 ⟨by rw [hn, Nat.one_mul], .inr ⟨g, 1, cs.toArray, rfl, hB, hk, Nat.le_refl _, by decide, by simp [hn], by rw [Nat.one_mul, ← hn]; simp⟩⟩
theorem one_of {cs : List Value} (h : cs.toArray.all (·.oneCell') = true) : ∀ u ∈ cs, u.oneCell' = true := fun u hu => (Array.all_eq_true_iff_forall_mem.1 h) u (by simpa using hu)
namespace Kd
variable {α : Type} (K : Kd α)
/-- The first item of a row of one's own. -/
theorem Gr.one {B g : Nat} {w : World} {y : α} (hk : Bk w g K.T (K.cells y).toArray) (hB : B ≤ g) (hR : K.R (rest B (some g) w) y) : K.Gr B [K.er y] (.slice (some ⟨g, 0, none⟩) 1 1) w :=
 ⟨[y], rfl, by rw [List.flatMap_singleton]; exact own_one hk hB (K.len y), by intro z hz; rw [List.mem_singleton.1 hz]; exact hR⟩
/-- What is known of a kind of items' type. -/
structure Inf (P : Program) (t : TypeId) (i : TypeInfo) (z : Value) : Prop where
 und : P.underlying t = some (.slice K.T)
 info : P.info? K.T = some i
 zero : i.zero = some z
 size : i.size = K.size
 bytes : i.bytes = K.bytes
 cells : z.cells.size = K.size
 pos : 0 < K.size
theorem wp_push {P : Program} {o : Oper} {a : Act} {w : World} {R : Act → World → Prop} {Q : Exit → Act → World → Prop} (t : TypeId) (i : TypeInfo) (z : Value) (hI : K.Inf P t i z) (s x : Operand)
  (ho : o.op = .call { callee := .builtin .append, args := #[s, x], argTypes := #[t, t] })
  (B : Nat) (xs : List α) (v : Value) (hs : a.eval s = v) (hG : K.Gr B xs v w) (hB : B ≤ w.heap.size) (y : α) (hx : a.eval x = .slice (some ⟨w.heap.size, 0, none⟩) 1 1)
  (hR : K.R (rest B v.ownBlock w) y) (h63 : xs.length + 1 ≤ maxLen) (hb : (xs.length + 1) * K.bytes ≤ 140737488355328)
  (h : ∀ v' w', K.Gr B (xs ++ [K.er y]) v' w' → (∃ g cap, v' = .slice (some ⟨g, 0, none⟩) (xs.length + 1) cap) → w.grownBy w' v.ownBlock → (∀ q, v.ownBlock = some q → B ≤ q) → R (a.put o.dst v') w') : o.wp P a (w.alloc (.cells (K.cells y).toArray K.T)) R Q := by
 obtain ⟨ys, h1, h2, h3⟩ := hG
 have hm : Below w.heap.size w (w.alloc (.cells (K.cells y).toArray K.T)) := (Below.refl _ _).alloc (Nat.le_refl _) _
 refine wp_append_lies _ s x t ho B K.T i z K.size K.bytes hI.und hI.info hI.zero hI.size hI.bytes hI.cells hI.pos v xs.length _ hs (h2.alloc _) ⟨w.heap.size, 0, none⟩ 1 1 (K.cells y) hx (by rw [K.len, Nat.one_mul]) ?_ (one_of (K.one y)) (by decide) h63 hb (Nat.le_trans hB hm.size) _ rfl ?_
 ·have := World.news_of_block (heap_alloc_new w (.cells (K.cells y).toArray K.T))
  simpa using this
 ·intro g cap w' ho2 hg2 hat hlt
  have hg := below_grown hm hg2
  refine h _ w' (Kd.add K h1 (fun q hq => K.ext q (rest_below hm) (h3 q hq)) hg2 hat ho2 (K.ext y (rest_below hm) hR)) ⟨g, cap, rfl⟩ hg (fun q hq => (h2.lt q hq).1)
theorem wpList_push {P : Program} {ops : Array Oper} {rest : List Oper} {o : Oper} {a : Act} {w : World} {Q : Exit → Act → World → Prop} (hgd : o.guard = none) (t : TypeId) (i : TypeInfo) (z : Value) (hI : K.Inf P t i z) (s x : Operand)
  (ho : o.op = .call { callee := .builtin .append, args := #[s, x], argTypes := #[t, t] })
  (B : Nat) (xs : List α) (v : Value) (hs : a.eval s = v) (hG : K.Gr B xs v w) (hB : B ≤ w.heap.size) (y : α) (hx : a.eval x = .slice (some ⟨w.heap.size, 0, none⟩) 1 1)
  (hR : K.R (YtdlchhimkelinaaGreatDoor.rest B v.ownBlock w) y) (h63 : xs.length + 1 ≤ maxLen) (hb : (xs.length + 1) * K.bytes ≤ 140737488355328)
  (h : ∀ v' w', K.Gr B (xs ++ [K.er y]) v' w' → (∃ g cap, v' = .slice (some ⟨g, 0, none⟩) (xs.length + 1) cap) → w.grownBy w' v.ownBlock → (∀ q, v.ownBlock = some q → B ≤ q) → wpList P ops Q rest (a.put o.dst v') w') : wpList P ops Q (o :: rest) a (w.alloc (.cells (K.cells y).toArray K.T)) :=
 wpList_plain hgd fun _ hK => K.wp_push t i z hI s x ho B xs v hs hG hB y hx hR h63 hb fun v' w' a b c d => hK _ _ (h v' w' a b c d)
theorem step_push {P : Program} {ops : Array Oper} {o : Oper} {a : Act} {w : World} {R : Act → World → Prop} {Q : Exit → Act → World → Prop} {E : Prop} (hgd : o.guard = none) (t : TypeId) (i : TypeInfo) (z : Value) (hI : K.Inf P t i z) (s x : Operand)
  (ho : o.op = .call { callee := .builtin .append, args := #[s, x], argTypes := #[t, t] })
  (B : Nat) (xs : List α) (v : Value) (hs : a.eval s = v) (hG : K.Gr B xs v w) (hB : B ≤ w.heap.size) (y : α) (hx : a.eval x = .slice (some ⟨w.heap.size, 0, none⟩) 1 1)
  (hR : K.R (YtdlchhimkelinaaGreatDoor.rest B v.ownBlock w) y) (h63 : xs.length + 1 ≤ maxLen) (hb : (xs.length + 1) * K.bytes ≤ 140737488355328)
  (h : ∀ v' w', K.Gr B (xs ++ [K.er y]) v' w' → (∃ g cap, v' = .slice (some ⟨g, 0, none⟩) (xs.length + 1) cap) → w.grownBy w' v.ownBlock → (∀ q, v.ownBlock = some q → B ≤ q) → R (a.put o.dst v') w') :
  if Region.wanted o (yielded ops a.tmps) = true then Oper.wp P o a (w.alloc (.cells (K.cells y).toArray K.T)) R Q else E := by
 have hw : Region.wanted o (yielded ops a.tmps) = true := by simp [Region.wanted, hgd]
 rw [if_pos hw]
 exact K.wp_push t i z hI s x ho B xs v hs hG hB y hx hR h63 hb h
end Kd
theorem zinfoVl : (Tryz.prog.info? 49).map (fun i => (i.zero, i.size, i.bytes)) = some (some (.agg #[.int .i64 0, .int .i64 0, .string ByteArray.empty, .int .i64 0, .slice none 0 0, .string ByteArray.empty, .string ByteArray.empty, .int .i64 0, .int .i64 0, .string ByteArray.empty, .int .i64 0, .int .i64 0]), 12, 144) := by kernel_rfl
theorem infVl : ∃ i, kVl.Inf Tryz.prog 52 i (.agg #[.int .i64 0, .int .i64 0, .string ByteArray.empty, .int .i64 0, .slice none 0 0, .string ByteArray.empty, .string ByteArray.empty, .int .i64 0, .int .i64 0, .string ByteArray.empty, .int .i64 0, .int .i64 0]) := by
 obtain ⟨i, h1, h2, h3, h4⟩ := info_parts zinfoVl
 exact ⟨i, Tryz.underlying52, h1, h2, h3, h4, rfl, by decide⟩
theorem zinfoDc : (Tryz.prog.info? 77).map (fun i => (i.zero, i.size, i.bytes)) = some (some (.agg #[.string ByteArray.empty, .string ByteArray.empty, .int .i64 0]), 3, 40) := by kernel_rfl
theorem zinfoIt : (Tryz.prog.info? 54).map (fun i => (i.zero, i.size, i.bytes)) = some (some (.agg #[.int .i64 0, .int .i64 0, .string ByteArray.empty, .int .i64 0, .slice none 0 0, .int .i64 0, .int .i64 0, .string ByteArray.empty, .int .i64 0, .slice none 0 0, .string ByteArray.empty, .string ByteArray.empty, .int .i64 0, .int .i64 0, .string ByteArray.empty, .int .i64 0, .int .i64 0, .int .i64 0, .int .i64 0, .int .i64 0, .int .i64 0, .string ByteArray.empty, .int .i64 0, .slice none 0 0, .string ByteArray.empty, .string ByteArray.empty, .int .i64 0, .int .i64 0, .string ByteArray.empty, .int .i64 0, .int .i64 0, .int .i64 0, .int .i64 0, .string ByteArray.empty, .int .i64 0, .slice none 0 0, .string ByteArray.empty, .string ByteArray.empty, .int .i64 0, .int .i64 0, .string ByteArray.empty, .int .i64 0, .int .i64 0, .string ByteArray.empty, .slice none 0 0, .slice none 0 0, .slice none 0 0, .bool false]), 48, 608) := by kernel_rfl
theorem infIt : ∃ i, kIt.Inf Tryz.prog 38 i (.agg #[.int .i64 0, .int .i64 0, .string ByteArray.empty, .int .i64 0, .slice none 0 0, .int .i64 0, .int .i64 0, .string ByteArray.empty, .int .i64 0, .slice none 0 0, .string ByteArray.empty, .string ByteArray.empty, .int .i64 0, .int .i64 0, .string ByteArray.empty, .int .i64 0, .int .i64 0, .int .i64 0, .int .i64 0, .int .i64 0, .int .i64 0, .string ByteArray.empty, .int .i64 0, .slice none 0 0, .string ByteArray.empty, .string ByteArray.empty, .int .i64 0, .int .i64 0, .string ByteArray.empty, .int .i64 0, .int .i64 0, .int .i64 0, .int .i64 0, .string ByteArray.empty, .int .i64 0, .slice none 0 0, .string ByteArray.empty, .string ByteArray.empty, .int .i64 0, .int .i64 0, .string ByteArray.empty, .int .i64 0, .int .i64 0, .string ByteArray.empty, .slice none 0 0, .slice none 0 0, .slice none 0 0, .bool false]) := by
 obtain ⟨i, h1, h2, h3, h4⟩ := info_parts zinfoIt
 exact ⟨i, Tryz.underlying38, h1, h2, h3, h4, rfl, by decide⟩
theorem zinfoSr : (Tryz.prog.info? 37).map (fun i => (i.zero, i.size, i.bytes)) = some (some (.agg #[.string ByteArray.empty, .int .i64 0, .slice none 0 0]), 3, 48) := by kernel_rfl
theorem infSr : ∃ i, kSr.Inf Tryz.prog 22 i (.agg #[.string ByteArray.empty, .int .i64 0, .slice none 0 0]) := by
 obtain ⟨i, h1, h2, h3, h4⟩ := info_parts zinfoSr
 exact ⟨i, Tryz.underlying22, h1, h2, h3, h4, rfl, by decide⟩
theorem zinfoPc : (Tryz.prog.info? 40).map (fun i => (i.zero, i.size, i.bytes)) = some (some (.agg #[.string ByteArray.empty, .int .i64 0, .int .i64 0, .slice none 0 0, .slice none 0 0, .slice none 0 0]), 6, 104) := by kernel_rfl
theorem infPc : ∃ i, kPc.Inf Tryz.prog 24 i (.agg #[.string ByteArray.empty, .int .i64 0, .int .i64 0, .slice none 0 0, .slice none 0 0, .slice none 0 0]) := by
 obtain ⟨i, h1, h2, h3, h4⟩ := info_parts zinfoPc
 exact ⟨i, Tryz.underlying24, h1, h2, h3, h4, rfl, by decide⟩
end Go.Proofs.YtdlchhimkelinaaGreatDoor
namespace Go.Proofs.YtdlchhimkelinaaGreatDoor
open Go.RowKit Go.Sort
theorem Kd.Gr.lt {α : Type} {K : Kd α} {B : Nat} {xs : List α} {v : Value} {w : World} (h : K.Gr B xs v w) : ∀ g, v.ownBlock = some g → B ≤ g ∧ g < w.heap.size := by
 obtain ⟨ys, h1, h2, h3⟩ := h
 exact fun g hg => h2.lt g hg
attribute [local go_sem] field79_0 field79_1 field79_2 field79_3
section
variable {pb sb cap : Nat} {l : List Tx.Sg}
end
end Go.Proofs.YtdlchhimkelinaaGreatDoor
namespace Go.Proofs.YtdlchhimkelinaaGreatDoor
open Go.RowKit Go.Sort
/-- Of the blocks that were there only two have turned. -/
structure Gr2 (w w' : World) (a b : Nat) : Prop where
 os : w'.os = w.os
 tape : w'.tape = w.tape
 output : w'.output = w.output
 size : w.heap.size ≤ w'.heap.size
 block : ∀ i, i < w.heap.size → i ≠ a → i ≠ b → w'.heap[i]? = w.heap[i]?
theorem Gr2.refl (w : World) (a b : Nat) : Gr2 w w a b := ⟨rfl, rfl, rfl, Nat.le_refl _, fun _ _ _ _ => rfl⟩
theorem Gr2.one {w w1 w2 : World} {a b : Nat} (h : Gr2 w w1 a b) (k : w1.grownBy w2 (some a)) : Gr2 w w2 a b :=
 ⟨k.os.trans h.os, k.tape.trans h.tape, k.output.trans h.output, Nat.le_trans h.size k.size, fun i hi h1 h2 => (k.block i (Nat.lt_of_lt_of_le hi h.size) (by intro e; injection e with e; exact h1 e)).trans (h.block i hi h1 h2)⟩
theorem Gr2.two {w w1 w2 : World} {a b : Nat} (h : Gr2 w w1 a b) (k : w1.grownBy w2 (some b)) : Gr2 w w2 a b :=
 ⟨k.os.trans h.os, k.tape.trans h.tape, k.output.trans h.output, Nat.le_trans h.size k.size, fun i hi h1 h2 => (k.block i (Nat.lt_of_lt_of_le hi h.size) (by intro e; injection e with e; exact h2 e)).trans (h.block i hi h1 h2)⟩
theorem Gr2.own {w0 w w' : World} {a b : Nat} (h : w0.grownBy w (some a)) (k : Gr2 w w' a b) (hb : w0.heap.size ≤ b) : w0.grownBy w' (some a) :=
 ⟨k.os.trans h.os, k.tape.trans h.tape, k.output.trans h.output, Nat.le_trans h.size k.size, fun i hi hne => (k.block i (Nat.lt_of_lt_of_le hi h.size) (by intro e; exact hne (by rw [e])) (by omega)).trans (h.block i hi hne)⟩
theorem Gr2.bk {w w' : World} {a b g : Nat} {t : TypeId} {cs : Array Value} (h : Gr2 w w' a b) (k : Bk w g t cs) (h1 : g ≠ a) (h2 : g ≠ b) : Bk w' g t cs := (h.block g k.lt h1 h2).trans k
theorem putC_eq : ∀ (vs l : List Value) (o : Nat), o + vs.length ≤ l.length → putC l o vs = l.take o ++ vs ++ l.drop (o + vs.length)
 | [], l, o, _ => by simp [putC]
 | v :: r, l, o, h => by
  simp only [List.length_cons] at h
  have ho : o < l.length := by omega
  have hA : (l.take o).length = o := by rw [List.length_take]; omega
  have hs : l.set o v = l.take o ++ v :: l.drop (o + 1) := by rw [List.set_eq_take_append_cons_drop, if_pos ho]
  have e1 : (l.set o v).take (o + 1) = l.take o ++ [v] := by
   rw [hs, List.take_append, hA, List.take_of_length_le (by omega), show o + 1 - o = 1 by omega]; rfl
  have e2 : (l.set o v).drop (o + 1 + r.length) = l.drop (o + (r.length + 1)) := by
   rw [hs, List.drop_append, hA, List.drop_of_length_le (by omega), List.nil_append, show o + 1 + r.length - o = r.length + 1 by omega, List.drop_succ_cons, List.drop_drop, show o + 1 + r.length = o + (r.length + 1) by omega]
  rw [putC, putC_eq r (l.set o v) (o + 1) (by rw [List.length_set]; omega), e1, e2]
  simp only [List.length_cons, List.append_assoc, List.singleton_append]
theorem put_place (x : It) (p : Pth) : putC x.cells 2 p.cells = It.cells { x with h := { x.h with place := p } } := (putC_eq _ _ _ (show 5 ≤ 48 by decide)).trans rfl
theorem put_value (x : It) (p : Vl) : putC x.cells 5 p.cells = It.cells { x with h := { x.h with value := p } } := (putC_eq _ _ _ (show 17 ≤ 48 by decide)).trans rfl
theorem put_cond (x : It) (p : Cd) : putC x.cells 17 p.cells = It.cells { x with h := { x.h with cond := p } } := (putC_eq _ _ _ (show 43 ≤ 48 by decide)).trans rfl
/-- A statement in block S; what it leads to is new. -/
def Stc (w0 w : World) (S : Nat) (x : It) : Prop := Bk w S 54 x.cells.toArray ∧ itLies (fresh w0.heap.size w) x
/-- The statement as it begins. -/
def it0 (p : Int) : It := ⟨{ Pr.noHd with pos := p }, none, 0, .nil, none, 0, .nil⟩
section
variable {w0 w w' : World} {S pb : Nat} {x : It}
theorem Stc.par (h : Stc w0 w S x) (g : w.grownBy w' (some pb)) (h1 : S ≠ pb) (h2 : pb < w0.heap.size) : Stc w0 w' S x :=
 ⟨h.1.kept g h1, itLies_ext (fresh_par g h2) h.2⟩
theorem Stc.kind (h : Stc w0 w S x) (hS : S < w0.heap.size) (k : Int) : Stc w0 (w.setCell ⟨S, 0, none⟩ (.int .i64 k)) S { x with h := { x.h with kind := k } } :=
 ⟨h.1.set_ 0 _, itLies_ext (fresh_par (grownBy_setC w ⟨S, 0, none⟩ _) hS) h.2⟩
theorem Stc.name (h : Stc w0 w S x) (hS : S < w0.heap.size) (s : ByteArray) (hs : s.size ≤ maxLen) : Stc w0 (w.setCell ⟨S, 43, none⟩ (.string s)) S { x with h := { x.h with name := s } } :=
 ⟨h.1.set_ 43 _, by
  have h2 := itLies_ext (fresh_par (grownBy_setC w ⟨S, 43, none⟩ (.string s)) hS) h.2
  exact ⟨⟨h2.1.1, h2.1.2.1, h2.1.2.2.1, h2.1.2.2.2.1, h2.1.2.2.2.2.1, hs⟩, h2.2⟩⟩
theorem Stc.both (h : Stc w0 w S x) (hS : S < w0.heap.size) (b : Bool) : Stc w0 (w.setCell ⟨S, 47, none⟩ (.bool b)) S { x with h := { x.h with both := b } } :=
 ⟨h.1.set_ 47 _, itLies_ext (fresh_par (grownBy_setC w ⟨S, 47, none⟩ _) hS) h.2⟩
theorem Stc.args (h : Stc w0 w S x) (hS : S < w0.heap.size) (s : Sl Vl) (hs : argsLie (fresh w0.heap.size w) s) : Stc w0 (w.setCell ⟨S, 44, none⟩ (.slice s.p s.l.length s.cap)) S { x with h := { x.h with args := s } } :=
 ⟨h.1.set_ 44 _, by
  have he := fresh_par (B := w0.heap.size) (grownBy_setC w ⟨S, 44, none⟩ (.slice s.p s.l.length s.cap)) hS
  have h2 := itLies_ext he h.2
  exact ⟨⟨h2.1.1, h2.1.2.1, h2.1.2.2.1, h2.1.2.2.2.1, argsLie_ext he hs, h2.1.2.2.2.2.2⟩, h2.2⟩⟩
theorem Stc.then_ (h : Stc w0 w S x) (hS : S < w0.heap.size) (p : Option Addr) (c : Nat) (s : SL) (hs : sLies (fresh w0.heap.size w) p s) : Stc w0 (w.setCell ⟨S, 45, none⟩ (.slice p s.len c)) S { x with tp := p, tc := c, t := s } :=
 ⟨h.1.set_ 45 _, by
  have he := fresh_par (B := w0.heap.size) (grownBy_setC w ⟨S, 45, none⟩ (.slice p s.len c)) hS
  have h2 := itLies_ext he h.2
  exact ⟨h2.1, sLies_ext he hs, h2.2.2⟩⟩
theorem Stc.else_ (h : Stc w0 w S x) (hS : S < w0.heap.size) (p : Option Addr) (c : Nat) (s : SL) (hs : sLies (fresh w0.heap.size w) p s) : Stc w0 (w.setCell ⟨S, 46, none⟩ (.slice p s.len c)) S { x with ep := p, ec := c, e := s } :=
 ⟨h.1.set_ 46 _, by
  have he := fresh_par (B := w0.heap.size) (grownBy_setC w ⟨S, 46, none⟩ (.slice p s.len c)) hS
  have h2 := itLies_ext he h.2
  exact ⟨h2.1, h2.2.1, sLies_ext he hs⟩⟩
theorem Stc.place (h : Stc w0 w S x) (hS : S < w0.heap.size) {p : Pth} (hB : Bk w' S 54 (putC x.cells 2 p.cells).toArray) (hF : w.grownBy w' (some S)) (hs : hopsLie (fresh w0.heap.size w) p.hops) : Stc w0 w' S { x with h := { x.h with place := p } } :=
 ⟨by rw [← put_place]; exact hB, by
  have he := fresh_par (B := w0.heap.size) hF hS
  have h2 := itLies_ext he h.2
  exact ⟨⟨hopsLie_ext he hs, h2.1.2⟩, h2.2⟩⟩
theorem Stc.value (h : Stc w0 w S x) (hS : S < w0.heap.size) {p : Vl} (hB : Bk w' S 54 (putC x.cells 5 p.cells).toArray) (hF : w.grownBy w' (some S)) (hs : vlLies (fresh w0.heap.size w) p) : Stc w0 w' S { x with h := { x.h with value := p } } :=
 ⟨by rw [← put_value]; exact hB, by
  have he := fresh_par (B := w0.heap.size) hF hS
  have h2 := itLies_ext he h.2
  exact ⟨⟨h2.1.1, vlLies_ext he hs, h2.1.2.2⟩, h2.2⟩⟩
theorem Stc.cond (h : Stc w0 w S x) (hS : S < w0.heap.size) {p : Cd} (hB : Bk w' S 54 (putC x.cells 17 p.cells).toArray) (hF : w.grownBy w' (some S)) (hs : kCd.R (fresh w0.heap.size w) p) : Stc w0 w' S { x with h := { x.h with cond := p } } :=
 ⟨by rw [← put_cond]; exact hB, by
  have he := fresh_par (B := w0.heap.size) hF hS
  have h2 := itLies_ext he h.2
  exact ⟨⟨h2.1.1, h2.1.2.1, vlLies_ext he hs.1, vlLies_ext he hs.2, h2.1.2.2.2.2⟩, h2.2⟩⟩
theorem Stc.zero (p : Int) (hB : Bk w S 54 (it0 p).cells.toArray) : Stc w0 w S (it0 p) :=
 ⟨hB, ⟨⟨(show 0 * 24 ≤ 140737488351232 by decide), .inl rfl⟩, ⟨(show 0 * 24 ≤ 140737488351232 by decide), .inl rfl⟩, ⟨(show 0 * 24 ≤ 140737488351232 by decide), .inl rfl⟩, ⟨(show 0 * 24 ≤ 140737488351232 by decide), .inl rfl⟩, ⟨(show 0 * 144 ≤ 140737488351232 by decide), .inl rfl⟩, (show 0 ≤ maxLen from Nat.zero_le _)⟩, ⟨(show 0 * 608 ≤ 140737488351232 by decide), .inl rfl⟩, ⟨(show 0 * 608 ≤ 140737488351232 by decide), .inl rfl⟩⟩
end
/-- What a part that fills in a statement ends in. -/
def OutS {α : Type} (f : α → It) (w : World) (pb sb cap S : Nat) (l : List Tx.Sg) (r : Pr.Res α) (e : Ending) (w' : World) : Prop :=
 Gr2 w w' pb S ∧ match r with
 | .ok (a, u) => e = .returned (.tuple #[]) ∧ (∃ x : It, x.er = f a ∧ Stc w w' S x) ∧ PS w' pb sb cap l u.i u.o u.b
 | .error n => ∃ _ : Unit, e = faultN l n
theorem OutS.err {α : Type} {f : α → It} {w w' : World} {pb sb cap S : Nat} {l : List Tx.Sg} {r : Pr.Res α} {n : Int × Nat} (hr : r = .error n) (hg : Gr2 w w' pb S) : OutS f w pb sb cap S l r (faultN l n) w' := by
 subst hr; exact ⟨hg, (), rfl⟩
theorem OutS.ok {α : Type} {f : α → It} {w w' : World} {pb sb cap S : Nat} {l : List Tx.Sg} {r : Pr.Res α} {a : α} {u : Pr.St} {x : It} (hr : r = .ok (a, u)) (hg : Gr2 w w' pb S) (hx : x.er = f a) (hs : Stc w w' S x) (hp : PS w' pb sb cap l u.i u.o u.b) : OutS f w pb sb cap S l r (.returned (.tuple #[])) w' := by
 subst hr; exact ⟨hg, rfl, ⟨x, hx, hs⟩, hp⟩
/-- A statement that leads to no others; one that does. -/
def itH (h : Hd) : It := ⟨h, none, 0, .nil, none, 0, .nil⟩
def itB (x : Hd × SL × SL) : It := ⟨x.1, none, 0, x.2.1, none, 0, x.2.2⟩
/-- No sign's text is longer than a text may be. -/
def Tex (l : List Tx.Sg) : Prop := ∀ (k : Nat) (x : Tx.Sg), l[k]? = some x → x.text.size ≤ maxLen
theorem size43 : (Tryz.prog.info? 45).map (·.size) = some 3 := by kernel_rfl
end Go.Proofs.YtdlchhimkelinaaGreatDoor
namespace Go.Proofs.YtdlchhimkelinaaGreatDoor
open Go.RowKit Go.Sort
namespace Tx
theorem tok_fin (s : ByteArray) (k : Nat) (he : (tok s k).err = 0) (hn : (tok s k).sg.kind = 0) : (tok s k).sg.text = ByteArray.empty := by
 unfold tok at he hn ⊢
 split at hn
 ·rename_i h
  rw [dif_pos h] at he ⊢
  split at hn
  ·rename_i hl
   rw [if_pos hl] at he ⊢
   unfold wordA at he hn ⊢
   split at he
   ·exact absurd (show (3 : Int) = 0 from he) (by decide)
   ·rename_i h16
    rw [if_neg h16] at hn
    exfalso
    have : (if isKey (s.extract k (wend wrd s k)) = true then (3 : Int) else 1) = 0 := hn
    split at this <;> exact absurd this (by decide)
  ·rename_i hl
   rw [if_neg hl] at he ⊢
   split at hn
   ·rename_i hd
    rw [if_pos hd] at he ⊢
    unfold numA at he hn ⊢
    split at he
    ·exact absurd (show (3 : Int) = 0 from he) (by decide)
    ·rename_i h9
     rw [if_neg h9] at hn
     exact absurd (show (2 : Int) = 0 from hn) (by decide)
   ·rename_i hd
    rw [if_neg hd] at he ⊢
    unfold markA at he hn ⊢
    split at he
    ·exact absurd (show (4 : Int) = 0 from he) (by decide)
    ·rename_i hm
     rw [if_neg hm] at hn
     exact absurd (show (4 : Int) = 0 from hn) (by decide)
 ·rename_i h
  rw [dif_neg h]; rfl
theorem ext_size (s : ByteArray) (a b : Nat) : (s.extract a b).size ≤ s.size := by
 rw [ByteArray.size_extract]; omega
theorem tok_text (s : ByteArray) (k : Nat) : (tok s k).sg.text.size ≤ s.size := by
 unfold tok
 split
 ·split
  ·unfold wordA; split
   ·exact Nat.zero_le _
   ·exact ext_size _ _ _
  ·split
   ·unfold numA; split
    ·exact Nat.zero_le _
    ·exact ext_size _ _ _
   ·unfold markA; split
    ·exact Nat.zero_le _
    ·exact ext_size _ _ _
 ·exact Nat.zero_le _
theorem go_shape : ∀ (f : Nat) (s : ByteArray) (i : Nat) (acc : List Sg), i ≤ s.size → s.size < i + f → (go f s i acc).2.2 = 0 →
  ∃ m x, (go f s i acc).1 = acc ++ (m ++ [x]) ∧ x.kind = 0 ∧ x.text = ByteArray.empty ∧ (∀ y ∈ m, y.kind ≠ 0) ∧ (∀ y ∈ m, y.text.size ≤ s.size) ∧ m.length + i ≤ s.size
 | 0, s, i, acc, hi, hf, _ => by omega
 | f + 1, s, i, acc, hi, hf, he => by
  unfold go at he ⊢
  split at he
  ·rename_i h0
   rw [if_pos h0]
   split at he
   ·rename_i hk
    rw [if_pos hk]
    exact ⟨[], (nx s i).sg, rfl, hk, tok_fin s _ h0 hk, by simp, by simp, by simpa using hi⟩
   ·rename_i hk
    rw [if_neg hk]
    have hadv := nx_adv s i h0 hk
    obtain ⟨m, x, h1, h2, h3, h4, h5, h6⟩ := go_shape f s (nx s i).stop (acc ++ [(nx s i).sg]) (nx_stop_le s i hi) (by omega) he
    refine ⟨(nx s i).sg :: m, x, by rw [h1]; simp, h2, h3, ?_, ?_, by simp only [List.length_cons]; omega⟩
    ·intro y hy
     rcases List.mem_cons.1 hy with rfl | hy
     ·exact hk
     ·exact h4 y hy
    ·intro y hy
     rcases List.mem_cons.1 hy with rfl | hy
     ·exact tok_text s _
     ·exact h5 y hy
  ·rename_i h0
   exact absurd he h0
theorem alls_shape (s : ByteArray) (he : (alls s).2.2 = 0) : ∃ m x, (alls s).1 = m ++ [x] ∧ x.kind = 0 ∧ x.text = ByteArray.empty ∧ (∀ y ∈ m, y.kind ≠ 0) ∧ (∀ y ∈ m, y.text.size ≤ s.size) ∧ m.length ≤ s.size ∧ s.size ≤ 65536 := by
 unfold alls at he ⊢
 split at he
 ·exact absurd (show (3 : Int) = 0 from he) (by decide)
 ·rename_i h
  rw [if_neg h]
  obtain ⟨m, x, h1, h2, h3, h4, h5, h6⟩ := go_shape (s.size + 1) s 0 [] (Nat.zero_le _) (by omega) he
  exact ⟨m, x, by rw [h1]; rfl, h2, h3, h4, h5, by omega, by omega⟩
end Tx
theorem alls_good (s : ByteArray) (he : (Tx.alls s).2.2 = 0) : Good (Tx.alls s).1 ∧ Tex (Tx.alls s).1 ∧ 0 < (Tx.alls s).1.length := by
 obtain ⟨m, x, h1, h2, h3, h4, h5, h6, h7⟩ := Tx.alls_shape s he
 rw [h1]
 have hat : ∀ (k : Nat) (y : Tx.Sg), (m ++ [x])[k]? = some y → (k < m.length ∧ y ∈ m) ∨ (k = m.length ∧ y = x) := by
  intro k y hk
  by_cases hl : k < m.length
  ·rw [List.getElem?_append_left hl] at hk
   exact .inl ⟨hl, List.mem_of_getElem? hk⟩
  ·rw [List.getElem?_append_right (by omega)] at hk
   have hkl : k = m.length := by
    have := (List.getElem?_eq_some_iff.1 hk).1
    simp at this; omega
   subst hkl
   rw [Nat.sub_self] at hk
   injection hk with hk
   exact .inr ⟨rfl, hk.symm⟩
 refine ⟨⟨fun k y hk => ?_, fun k y hk hl => ?_, by simp; omega⟩, fun k y hk => ?_, by simp⟩
 ·rcases hat k y hk with ⟨hl, hm⟩ | ⟨rfl, rfl⟩
  ·exact ⟨fun h0 => absurd h0 (h4 y hm), fun h0 => by simp at h0; omega⟩
  ·exact ⟨fun _ => by simp, fun _ => h2⟩
 ·rcases hat k y hk with ⟨hl', hm⟩ | ⟨rfl, rfl⟩
  ·simp at hl; omega
  ·exact h3
 ·rcases hat k y hk with ⟨hl, hm⟩ | ⟨rfl, rfl⟩
  ·have := h5 y hm; unfold maxLen; omega
  ·rw [h3]; exact Nat.zero_le _
namespace Pr
end Pr
end Go.Proofs.YtdlchhimkelinaaGreatDoor
namespace Go.Proofs.YtdlchhimkelinaaGreatDoor
namespace Tx
def isKeyL (l : List UInt8) : Bool := kw.any fun x => l == x
structure Tk where
 kind : Int
 len : Nat
 num : Int
 err : Int
/-- The sign at a list's head. -/
def tokL : List UInt8 → Tk
 | [] => ⟨0, 0, 0, 0⟩
 | b :: l =>
  if ltr (b.toNat : Int) then
   if 16 < run wrd (b :: l) then ⟨0, 0, 0, 3⟩ else ⟨if isKeyL ((b :: l).take (run wrd (b :: l))) then 3 else 1, run wrd (b :: l), 0, 0⟩
  else if dgt (b.toNat : Int) then
   if 9 < run dgt (b :: l) then ⟨0, 0, 0, 3⟩ else ⟨2, run dgt (b :: l), val ((b :: l).take (run dgt (b :: l))), 0⟩
  else if mkl (b :: l) = 0 then ⟨0, 0, 0, 4⟩ else ⟨4, mkl (b :: l), 0, 0⟩
theorem wend_len (p : Int → Bool) (s : ByteArray) (k : Nat) : wend p s k = k + run p (s.data.toList.drop k) := rfl
theorem part_take (s : ByteArray) (k n : Nat) : (s.extract k (k + n)).data.toList = (s.data.toList.drop k).take n := by
 rw [part_list, show k + n - k = n by omega]
/-- The sign at a place hangs on what stands from there on. -/
theorem tok_list (s : ByteArray) (k : Nat) : tok s k = ⟨⟨(tokL (s.data.toList.drop k)).kind, k, s.extract k (k + (tokL (s.data.toList.drop k)).len), (tokL (s.data.toList.drop k)).num⟩, k + (tokL (s.data.toList.drop k)).len, (tokL (s.data.toList.drop k)).err⟩ := by
 have hbad : ∀ e, An.bad k e = ⟨⟨0, k, s.extract k (k + 0), 0⟩, k + 0, e⟩ := by
  intro e; unfold An.bad; rw [Nat.add_zero, cut_none]
 by_cases h : k < s.size
 ·have hd := drop_at s k h
  cases hl : ltr (s[k].toNat : Int)
  ·cases hg : dgt (s[k].toNat : Int)
   ·rw [tok_mark s k h hl hg]
    unfold markA mrk
    rw [hd]
    simp only [tokL, hl, hg, Bool.false_eq_true, if_false]
    by_cases h0 : mkl (s[k] :: s.data.toList.drop (k + 1)) = 0
    ·rw [if_pos h0, if_pos h0]; exact hbad 4
    ·rw [if_neg h0, if_neg h0]; rfl
   ·rw [tok_num s k h hl hg]
    unfold numA
    rw [wend_len, part_take, hd]
    simp only [tokL, hl, hg, Bool.false_eq_true, if_false, if_true]
    rw [show k + run dgt (s[k] :: s.data.toList.drop (k + 1)) - k = run dgt (s[k] :: s.data.toList.drop (k + 1)) by omega]
    by_cases h9 : 9 < run dgt (s[k] :: s.data.toList.drop (k + 1))
    ·rw [if_pos h9, if_pos h9]; exact hbad 3
    ·rw [if_neg h9, if_neg h9]; rfl
  ·rw [tok_word s k h hl]
   unfold wordA isKey
   rw [wend_len, part_take, hd]
   simp only [tokL, hl, if_true]
   rw [show k + run wrd (s[k] :: s.data.toList.drop (k + 1)) - k = run wrd (s[k] :: s.data.toList.drop (k + 1)) by omega]
   by_cases h16 : 16 < run wrd (s[k] :: s.data.toList.drop (k + 1))
   ·rw [if_pos h16, if_pos h16]; exact hbad 3
   ·rw [if_neg h16, if_neg h16]; rfl
 ·rw [tok_end s k h, drop_end s k (by omega)]
  exact hbad 0
theorem sk_zero (b : UInt8) (l : List UInt8) (h1 : blk (b.toNat : Int) = false) (h2 : b.toNat ≠ 47) : sk false (b :: l) = 0 := by
 simp only [sk, h1, Bool.false_eq_true, if_false]
 rw [if_neg (fun h => h2 h.1)]
/-- These are the signs from i on, up to the End. -/
def Chain (s : ByteArray) : Nat → List Sg → Prop
 | _, [] => False
 | i, a :: l => (nx s i).err = 0 ∧ (nx s i).sg = a ∧ ((a.kind = 0 ∧ l = []) ∨ (a.kind ≠ 0 ∧ Chain s (nx s i).stop l))
theorem go_chain : ∀ (f : Nat) (s : ByteArray) (i : Nat) (acc : List Sg), i ≤ s.size → s.size < i + f → (go f s i acc).2.2 = 0 →
  ∃ l, (go f s i acc).1 = acc ++ l ∧ Chain s i l ∧ (go f s i acc).2.1 = 0
 | 0, s, i, acc, hi, hf, _ => absurd hf (by omega)
 | f + 1, s, i, acc, hi, hf, he => by
  unfold go at he ⊢
  by_cases h0 : (nx s i).err = 0
  ·rw [if_pos h0] at he ⊢
   by_cases hk : (nx s i).sg.kind = 0
   ·rw [if_pos hk]
    exact ⟨[(nx s i).sg], rfl, ⟨h0, rfl, .inl ⟨hk, rfl⟩⟩, rfl⟩
   ·rw [if_neg hk] at he ⊢
    have h1 := nx_adv s i h0 hk
    have h2 := nx_stop_le s i hi
    obtain ⟨l, e1, e2, e3⟩ := go_chain f s _ _ h2 (by omega) he
    exact ⟨(nx s i).sg :: l, by rw [e1, List.append_assoc]; rfl, ⟨h0, rfl, .inr ⟨hk, e2⟩⟩, e3⟩
  ·rw [if_neg h0] at he; exact absurd he h0
theorem chain_go : ∀ (f : Nat) (s : ByteArray) (i : Nat) (acc l : List Sg), i ≤ s.size → s.size < i + f → Chain s i l → go f s i acc = (acc ++ l, 0, 0)
 | 0, s, i, acc, l, hi, hf, _ => absurd hf (by omega)
 | f + 1, s, i, acc, [], hi, hf, h => h.elim
 | f + 1, s, i, acc, a :: l, hi, hf, h => by
  obtain ⟨h0, rfl, h1⟩ := h
  unfold go
  rw [if_pos h0]
  rcases h1 with ⟨hk, rfl⟩ | ⟨hk, hc⟩
  ·rw [if_pos hk]
  ·rw [if_neg hk]
   have h1 := nx_adv s i h0 hk
   have h2 := nx_stop_le s i hi
   rw [chain_go f s _ _ l h2 (by omega) hc, List.append_assoc]
   rfl
/-- What is asked of a sign. -/
def key (g : Sg) : Int × List UInt8 × Int := (g.kind, g.text.data.toList, g.num)
theorem nx_list (s : ByteArray) (i : Nat) : nx s i = ⟨⟨(tokL (s.data.toList.drop (skp s i))).kind, skp s i, s.extract (skp s i) (skp s i + (tokL (s.data.toList.drop (skp s i))).len), (tokL (s.data.toList.drop (skp s i))).num⟩, skp s i + (tokL (s.data.toList.drop (skp s i))).len, (tokL (s.data.toList.drop (skp s i))).err⟩ := tok_list s (skp s i)
/-- A blank ahead is left behind. -/
theorem nx_blank (t : ByteArray) (j : Nat) (b : UInt8) (hb : blk (b.toNat : Int) = true) (l : List UInt8) (h : t.data.toList.drop j = b :: l) : nx t j = nx t (j + 1) ∧ t.data.toList.drop (j + 1) = l ∧ j < t.size := by
 have hj : j < t.size := by
  rcases Nat.lt_or_ge j t.size with h1 | h1
  ·exact h1
  ·rw [drop_end t j h1] at h; cases h
 have e := drop_at t j hj
 rw [h] at e
 injection e with e1 e2
 refine ⟨?_, e2.symm, hj⟩
 unfold nx
 rw [skp_blank t j hj (by rw [← e1]; exact hb)]
theorem alls_chain (s : ByteArray) (h : (alls s).2.2 = 0) : Chain s 0 (alls s).1 := by
 unfold alls at h ⊢
 by_cases hl : 65536 < s.size
 ·rw [if_pos hl] at h; exact absurd h (show ¬ (3 : Int) = 0 by decide)
 ·rw [if_neg hl] at h ⊢
  obtain ⟨l, e1, e2, _⟩ := go_chain (s.size + 1) s 0 [] (Nat.zero_le _) (by omega) h
  rw [e1]; exact e2
/-- What stands ahead: so many remarks. -/
def rem : List UInt8 := [47, 47, 32, 109, 111, 114, 101, 10, 32]
def pre : Nat → List UInt8
 | 0 => []
 | n + 1 => pre n ++ rem
end Tx
end Go.Proofs.YtdlchhimkelinaaGreatDoor
namespace Go.Proofs.YtdlchhimkelinaaGreatDoor
open Go.RowKit Go.Sort
theorem go_len : ∀ (f : Nat) (s : ByteArray) (i : Nat) (acc : List Tx.Sg), acc.length ≤ i → i ≤ s.size → (Tx.go f s i acc).1.length ≤ s.size + 1
 | 0, s, i, acc, h, hi => by unfold Tx.go; show acc.length ≤ _; omega
 | f + 1, s, i, acc, h, hi => by
  unfold Tx.go
  split
  ·rename_i he
   split
   ·show (acc ++ [_]).length ≤ _; simp; omega
   ·rename_i hk
    have h1 := Tx.nx_adv s i he hk
    have h2 := Tx.nx_stop_le s i hi
    exact go_len f s _ _ (by simp; omega) h2
  ·simp
theorem alls_len (s : ByteArray) : (Tx.alls s).1.length ≤ s.size + 1 := by
 unfold Tx.alls; split
 ·simp
 ·exact go_len _ s 0 [] (Nat.zero_le _) (Nat.zero_le _)
end Go.Proofs.YtdlchhimkelinaaGreatDoor
namespace Go.Proofs.YtdlchhimkelinaaGreatDoor
namespace Tx
/-- From place j on these signs are read; behind them is place k. -/
inductive Reads (t : ByteArray) : Nat → Nat → List (Int × List UInt8 × Int) → Prop
 | nil (j : Nat) : Reads t j j []
 | blank {j k : Nat} {ts : List (Int × List UInt8 × Int)} : nx t j = nx t (j + 1) → Reads t (j + 1) k ts → Reads t j k ts
 | cons {j k : Nat} {g : Int × List UInt8 × Int} {ts : List (Int × List UInt8 × Int)} : (nx t j).err = 0 → (nx t j).sg.kind ≠ 0 → key (nx t j).sg = g → Reads t (nx t j).stop k ts → Reads t j k (g :: ts)
theorem Reads.trans {t : ByteArray} {i j k : Nat} {ts us : List (Int × List UInt8 × Int)} (h : Reads t i j ts) (g : Reads t j k us) : Reads t i k (ts ++ us) := by
 induction h with
 | nil j => exact g
 | blank e _ ih => exact .blank e (ih g)
 | cons e0 ek eg _ ih => exact .cons e0 ek eg (ih g)
theorem Reads.chain {t : ByteArray} {j k : Nat} {ts : List (Int × List UInt8 × Int)} (h : Reads t j k ts) (h0 : (nx t k).err = 0) (hk : (nx t k).sg.kind = 0) : ∃ m, Chain t j m ∧ m.map key = ts ++ [key (nx t k).sg] := by
 induction h with
 | nil j => exact ⟨[(nx t j).sg], ⟨h0, rfl, .inl ⟨hk, rfl⟩⟩, rfl⟩
 | blank e _ ih =>
  obtain ⟨m, c, e1⟩ := ih h0 hk
  refine ⟨m, ?_, e1⟩
  cases m with
  | nil => exact c.elim
  | cons b m =>
   obtain ⟨q0, q1, q2⟩ := c
   exact ⟨by rw [e]; exact q0, by rw [e]; exact q1, by rw [e]; exact q2⟩
 | cons e0 ek eg _ ih =>
  obtain ⟨m, c, e1⟩ := ih h0 hk
  exact ⟨_ :: m, ⟨e0, rfl, .inr ⟨ek, c⟩⟩, by simp only [List.map_cons, eg, e1, List.cons_append]⟩
/-- Such bytes, something of this kind behind them, are read as these signs. -/
def Lx (a : List UInt8) (ts : List (Int × List UInt8 × Int)) (C : List UInt8 → Prop) : Prop :=
 ∀ (t : ByteArray) (j : Nat) (r : List UInt8), C r → t.data.toList.drop j = a ++ r → ∃ k, Reads t j k ts ∧ t.data.toList.drop k = r
def Any (_ : List UInt8) : Prop := True
theorem Lx.nil : Lx [] [] Any := fun _ j _ _ h => ⟨j, .nil j, h⟩
theorem Lx.append {a b : List UInt8} {ts us : List (Int × List UInt8 × Int)} {C D : List UInt8 → Prop} (h : Lx a ts C) (g : Lx b us D) (hc : ∀ r, D r → C (b ++ r)) : Lx (a ++ b) (ts ++ us) D := by
 intro t j r hr ht
 rw [List.append_assoc] at ht
 obtain ⟨k, h1, h2⟩ := h t j (b ++ r) (hc r hr) ht
 obtain ⟨m, g1, g2⟩ := g t k r hr h2
 exact ⟨m, h1.trans g1, g2⟩
theorem Lx.weak {a : List UInt8} {ts : List (Int × List UInt8 × Int)} {C D : List UInt8 → Prop} (h : Lx a ts C) (hc : ∀ r, D r → C r) : Lx a ts D := fun t j r hr ht => h t j r (hc r hr) ht
theorem Lx.blank (b : UInt8) (hb : blk (b.toNat : Int) = true) : Lx [b] [] Any := by
 intro t j r _ ht
 obtain ⟨e1, e2, _⟩ := nx_blank t j b hb r ht
 exact ⟨j + 1, .blank e1 (.nil _), e2⟩
theorem Lx.tok {a : List UInt8} {kd num : Int} {C : List UInt8 → Prop} (hk : kd ≠ 0) (h : ∀ r, C r → tokL (a ++ r) = ⟨kd, a.length, num, 0⟩ ∧ sk false (a ++ r) = 0) : Lx a [(kd, a, num)] C := by
 intro t j r hr ht
 obtain ⟨h1, h2⟩ := h r hr
 have hs : skp t j = j := by unfold skp; rw [ht, h2]; rfl
 have hn := nx_list t j
 rw [hs, ht, h1] at hn
 have hp := part_take t j a.length
 rw [ht, List.take_left' rfl] at hp
 refine ⟨j + a.length, .cons (by rw [hn]) (by rw [hn]; exact hk) ?_ (by rw [hn]; exact .nil _), ?_⟩
 ·rw [hn]; unfold key; rw [hp]
 ·rw [← List.drop_drop, ht, List.drop_left' rfl]
/-- No letter and no digit is ahead. -/
def Clear (r : List UInt8) : Prop := ∀ b, r.head? = some b → wrd (b.toNat : Int) = false
/-- No Mark of two bytes comes of it. -/
def NoPair (c : UInt8) (r : List UInt8) : Prop := ∀ b, r.head? = some b → two (c.toNat : Int) (b.toNat : Int) = false
theorem run_all (p : Int → Bool) : ∀ (a r : List UInt8), (∀ b ∈ a, p (b.toNat : Int) = true) → (∀ b, r.head? = some b → p (b.toNat : Int) = false) → run p (a ++ r) = a.length
 | [], [], _, _ => rfl
 | [], b :: r, _, h => by simp only [List.nil_append, run, h b rfl, Bool.false_eq_true, if_false, List.length_nil]
 | a :: l, r, h, g => by
  have := run_all p l r (fun b hb => h b (List.mem_cons_of_mem _ hb)) g
  simp only [List.cons_append, run, h a List.mem_cons_self, if_true, this, List.length_cons]
/-- A word: a letter, then letters and digits, at most sixteen. -/
def isWord (a : List UInt8) : Prop := (∃ b l, a = b :: l ∧ ltr (b.toNat : Int) = true) ∧ (∀ b ∈ a, wrd (b.toNat : Int) = true) ∧ a.length ≤ 16
theorem ltr_sk {b : UInt8} (h : wrd (b.toNat : Int) = true) (l : List UInt8) : sk false (b :: l) = 0 := by
 refine sk_zero _ _ ?_ ?_
 ·unfold wrd ltr dgt at h; unfold blk; simp at h ⊢; omega
 ·unfold wrd ltr dgt at h; simp at h; omega
theorem tokL_cons (b : UInt8) (l : List UInt8) : tokL (b :: l) = if ltr (b.toNat : Int) then (if 16 < run wrd (b :: l) then ⟨0, 0, 0, 3⟩ else ⟨if isKeyL ((b :: l).take (run wrd (b :: l))) then 3 else 1, run wrd (b :: l), 0, 0⟩) else if dgt (b.toNat : Int) then (if 9 < run dgt (b :: l) then ⟨0, 0, 0, 3⟩ else ⟨2, run dgt (b :: l), val ((b :: l).take (run dgt (b :: l))), 0⟩) else if mkl (b :: l) = 0 then ⟨0, 0, 0, 4⟩ else ⟨4, mkl (b :: l), 0, 0⟩ := rfl
theorem Lx.word {a : List UInt8} (h : isWord a) : Lx a [(if isKeyL a then 3 else 1, a, 0)] Clear := by
 obtain ⟨⟨b, l, rfl, hb⟩, hw, hl⟩ := h
 refine Lx.tok (by split <;> decide) fun r hr => ?_
 have hrun := run_all wrd (b :: l) r hw hr
 rw [List.cons_append] at hrun ⊢
 refine ⟨?_, ltr_sk (hw b List.mem_cons_self) _⟩
 rw [tokL_cons, if_pos hb, hrun, if_neg (by omega), ← List.cons_append, List.take_left' rfl]
theorem Lx.num {a : List UInt8} (h0 : a ≠ []) (hd : ∀ b ∈ a, dgt (b.toNat : Int) = true) (hl : a.length ≤ 9) : Lx a [(2, a, val a)] Clear := by
 cases a with
 | nil => exact absurd rfl h0
 | cons b l =>
  refine Lx.tok (by decide) fun r hr => ?_
  have hb := hd b List.mem_cons_self
  have hw : wrd (b.toNat : Int) = true := by unfold wrd; rw [hb, Bool.or_true]
  have hn : ltr (b.toNat : Int) = false := by unfold dgt at hb; unfold ltr; simp at hb ⊢; omega
  have hrun := run_all dgt (b :: l) r hd (fun c hc => by have := hr c hc; unfold wrd at this; simp at this; exact this.2)
  rw [List.cons_append] at hrun ⊢
  refine ⟨?_, ltr_sk hw _⟩
  rw [tokL_cons, if_neg (by rw [hn]; decide), if_pos hb, hrun, if_neg (by omega), ← List.cons_append, List.take_left' rfl]
theorem Lx.one {c : UInt8} (h : one c.toNat = true) : Lx [c] [(4, [c], 0)] (NoPair c) := by
 refine Lx.tok (by decide) fun r hr => ?_
 have h1 : ltr (c.toNat : Int) = false := by unfold Tx.one at h; unfold ltr; simp at h ⊢; omega
 have h2 : dgt (c.toNat : Int) = false := by unfold Tx.one at h; unfold dgt; simp at h ⊢; omega
 have hm : mkl ([c] ++ r) = 1 := by
  cases r with
  | nil => simp only [List.append_nil, mkl, h, if_true]
  | cons b r => simp only [List.cons_append, List.nil_append, mkl, hr b rfl, h, Bool.false_eq_true, if_false, if_true]
 refine ⟨?_, ?_⟩
 ·show tokL (c :: ([] ++ r)) = _
  rw [tokL_cons, if_neg (by rw [h1]; decide), if_neg (by rw [h2]; decide), show c :: ([] ++ r) = [c] ++ r from rfl, hm, if_neg (by decide)]; rfl
 ·refine sk_zero _ _ ?_ ?_
  ·unfold Tx.one at h; unfold blk; simp at h ⊢; omega
  ·unfold Tx.one at h; simp at h; omega
theorem Lx.two {c d : UInt8} (h : two c.toNat d.toNat = true) : Lx [c, d] [(4, [c, d], 0)] Any := by
 refine Lx.tok (by decide) fun r _ => ?_
 have h1 : ltr (c.toNat : Int) = false := by unfold Tx.two at h; unfold ltr; simp at h ⊢; omega
 have h2 : dgt (c.toNat : Int) = false := by unfold Tx.two at h; unfold dgt; simp at h ⊢; omega
 have hm : mkl ([c, d] ++ r) = 2 := by simp only [List.cons_append, mkl, h, if_true]
 refine ⟨?_, ?_⟩
 ·show tokL (c :: ([d] ++ r)) = _
  rw [tokL_cons, if_neg (by rw [h1]; decide), if_neg (by rw [h2]; decide), show c :: ([d] ++ r) = [c, d] ++ r from rfl, hm, if_neg (by decide)]; rfl
 ·refine sk_zero _ _ ?_ ?_
  ·unfold Tx.two at h; unfold blk; simp at h ⊢; omega
  ·unfold Tx.two at h; simp at h; omega
/-- A text that is read so from its head on, up to its end. -/
theorem Lx.alls {t : ByteArray} {ts : List (Int × List UInt8 × Int)} (h : Lx t.data.toList ts Any) (hz : t.size ≤ 65536) : (Tx.alls t).2.2 = 0 ∧ (Tx.alls t).1.map key = ts ++ [(0, [], 0)] := by
 obtain ⟨k, h1, h2⟩ := h t 0 [] trivial (by simp)
 have hk : t.size ≤ k := by
  have := congrArg List.length h2
  rw [List.length_drop, len_eq] at this; simp at this; omega
 have hnx : nx t k = An.bad k 0 := by unfold nx; rw [skp_end t k hk, tok_end t k (by omega)]
 obtain ⟨m, c, e⟩ := h1.chain (by rw [hnx]; rfl) (by rw [hnx]; rfl)
 have : Tx.alls t = (m, 0, 0) := by
  unfold Tx.alls
  rw [if_neg (by omega), chain_go (t.size + 1) t 0 [] m (Nat.zero_le _) (by omega) c]
  rfl
 rw [this]
 refine ⟨rfl, ?_⟩
 rw [e, hnx]; rfl
/-- Digits of a number. -/
def digits (n : Nat) : List UInt8 := if n < 10 then [UInt8.ofNat (48 + n)] else digits (n / 10) ++ [UInt8.ofNat (48 + n % 10)]
termination_by n
decreasing_by omega
theorem dig_nat (n : Nat) (h : n < 10) : (UInt8.ofNat (48 + n)).toNat = 48 + n := by rw [UInt8.toNat_ofNat']; omega
theorem val_snoc (l : List UInt8) (b : UInt8) : val (l ++ [b]) = 10 * val l + (b.toNat - 48) := by unfold val; rw [List.foldl_append]; rfl
theorem digits_ok (n : Nat) : digits n ≠ [] ∧ (∀ b ∈ digits n, dgt (b.toNat : Int) = true) ∧ val (digits n) = n := by
 induction n using Nat.strongRecOn with
 | ind n ih =>
  unfold digits
  by_cases h : n < 10
  ·rw [if_pos h]
   refine ⟨by simp, fun b hb => ?_, ?_⟩
   ·rw [List.mem_singleton.1 hb, dig_nat n h]; unfold dgt; simp; omega
   ·unfold val; simp only [List.foldl_cons, List.foldl_nil, dig_nat n h]; omega
  ·rw [if_neg h]
   obtain ⟨_, h2, h3⟩ := ih (n / 10) (by omega)
   refine ⟨by simp, fun b hb => ?_, ?_⟩
   ·rcases List.mem_append.1 hb with hb | hb
    ·exact h2 b hb
    ·rw [List.mem_singleton.1 hb, dig_nat _ (by omega)]; unfold dgt; simp; omega
   ·rw [val_snoc, h3, dig_nat _ (by omega)]; omega
theorem digits_len : ∀ (k n : Nat), n < 10 ^ k → 0 < k → (digits n).length ≤ k
 | 0, _, _, h => absurd h (by omega)
 | k + 1, n, hn, _ => by
  unfold digits
  by_cases h : n < 10
  ·rw [if_pos h]; simp
  ·rw [if_neg h, List.length_append]
   have hk : 0 < k := by
    rcases Nat.eq_zero_or_pos k with rfl | h'
    ·simp at hn; omega
    ·exact h'
   have := digits_len k (n / 10) (by rw [Nat.pow_succ] at hn; omega) hk
   simp; omega
theorem Lx.digits {n : Nat} (h : n ≤ 999999999) : Lx (digits n) [(2, Tx.digits n, (n : Int))] Clear := by
 obtain ⟨h1, h2, h3⟩ := digits_ok n
 have := Lx.num h1 h2 (digits_len 9 n (by omega) (by omega))
 rw [h3] at this; exact this
end Tx
end Go.Proofs.YtdlchhimkelinaaGreatDoor
namespace Go.Proofs.YtdlchhimkelinaaGreatDoor
namespace Pn
open Tx (Lx Clear NoPair Any)
abbrev K := Int × List UInt8 × Int
def txt (x : ByteArray) : List UInt8 := x.data.toList
def nm (x : ByteArray) : K := (1, txt x, 0)
def ky (a : List UInt8) : K := (3, a, 0)
def mk (a : List UInt8) : K := (4, a, 0)
def dg (n : Int) : K := (2, Tx.digits n.toNat, n)
/-- May this be a name? -/
def okN (x : ByteArray) : Bool := (match txt x with | [] => false | b :: _ => Tx.ltr (b.toNat : Int)) && (txt x).all (fun b => Tx.wrd (b.toNat : Int)) && decide ((txt x).length ≤ 16) && !Tx.isKeyL (txt x)
def okNum (n : Int) : Bool := decide (0 ≤ n) && decide (n ≤ 999999999)
def noP (w : Pth) : Bool := decide (txt w.name = []) && decide (w.hops.l = [])
def noT (t : Tm) : Bool := decide (txt t.name = []) && decide (t.n = 0)
theorem okN_word {x : ByteArray} (h : okN x = true) : Tx.isWord (txt x) ∧ Tx.isKeyL (txt x) = false := by
 unfold okN at h
 simp only [Bool.and_eq_true, Bool.not_eq_true', List.all_eq_true, decide_eq_true_eq] at h
 obtain ⟨⟨⟨h1, h2⟩, h3⟩, h4⟩ := h
 refine ⟨⟨?_, h2, h3⟩, h4⟩
 cases ht : txt x with
 | nil => rw [ht] at h1; simp at h1
 | cons b l => rw [ht] at h1; exact ⟨b, l, rfl, h1⟩
theorem lx_name {x : ByteArray} (h : okN x = true) : Lx (txt x) [nm x] Clear := by
 obtain ⟨h1, h2⟩ := okN_word h
 have := Lx.word h1
 rw [if_neg (by rw [h2]; decide)] at this; exact this
theorem lx_key {a : List UInt8} (h : Tx.isWord a) (hk : Tx.isKeyL a = true) : Lx a [ky a] Clear := by
 have := Lx.word h
 rw [if_pos hk] at this; exact this
theorem lx_num {n : Int} (h : okNum n = true) : Lx (Tx.digits n.toNat) [dg n] Clear := by
 unfold okNum at h; simp at h
 have := Lx.digits (n := n.toNat) (by omega)
 rw [show ((n.toNat : Nat) : Int) = n by omega] at this; exact this
theorem clear_cons {b : UInt8} {l : List UInt8} (h : Tx.wrd (b.toNat : Int) = false) : Clear (b :: l) := fun c hc => by
 injection hc with hc; rw [← hc]; exact h
theorem nopair_cons {c b : UInt8} {l : List UInt8} (h : Tx.two (c.toNat : Int) (b.toNat : Int) = false) : NoPair c (b :: l) := fun d hd => by
 injection hd with hd; rw [← hd]; exact h
/-- A mark of which no pair begins. -/
theorem nopair_any {c : UInt8} (h : ∀ b : UInt8, Tx.two (c.toNat : Int) (b.toNat : Int) = false) (r : List UInt8) : NoPair c r := fun b _ => h b
/- What is printed of paths. -/
def hopsT : List Hp → List UInt8
 | [] => []
 | h :: l => [45, 62] ++ txt h.name ++ hopsT l
def hopsK : List Hp → List K
 | [] => []
 | h :: l => [mk [45, 62], nm h.name] ++ hopsK l
def pathT (w : Pth) : List UInt8 := txt w.name ++ hopsT w.hops.l
def pathK (w : Pth) : List K := [nm w.name] ++ hopsK w.hops.l
def okPath (w : Pth) : Bool := okN w.name && decide (w.hops.l.length ≤ 8) && w.hops.l.all fun h => okN h.name
theorem hops_clear (l : List Hp) (r : List UInt8) (hr : Clear r) : Clear (hopsT l ++ r) := by
 cases l with
 | nil => exact hr
 | cons h l => exact clear_cons (by rfl)
theorem lx_hops : ∀ l : List Hp, (∀ h ∈ l, okN h.name = true) → Lx (hopsT l) (hopsK l) Clear
 | [], _ => Lx.nil.weak fun _ _ => trivial
 | h :: l, ho => by
  have h1 := (Lx.two (c := 45) (d := 62) (by rfl)).append (lx_name (ho h List.mem_cons_self)) (fun _ _ => trivial)
  exact h1.append (lx_hops l fun x hx => ho x (List.mem_cons_of_mem _ hx)) (hops_clear l)
theorem lx_path {w : Pth} (h : okPath w = true) : Lx (pathT w) (pathK w) Clear := by
 unfold okPath at h
 simp only [Bool.and_eq_true, List.all_eq_true] at h
 exact (lx_name h.1.1).append (lx_hops _ h.2) (hops_clear _)
def termT (t : Tm) : List UInt8 := if txt t.name = [] then Tx.digits t.n.toNat else txt t.name
def termK (t : Tm) : List K := [if txt t.name = [] then dg t.n else nm t.name]
def okTerm (t : Tm) : Bool := if txt t.name = [] then okNum t.n else okN t.name && decide (t.n = 0)
theorem lx_term {t : Tm} (h : okTerm t = true) : Lx (termT t) (termK t) Clear := by
 unfold okTerm at h; unfold termT termK
 by_cases h0 : txt t.name = []
 ·rw [if_pos h0] at h; rw [if_pos h0, if_pos h0]; exact lx_num h
 ·rw [if_neg h0] at h; rw [if_neg h0, if_neg h0]
  simp only [Bool.and_eq_true] at h; exact lx_name h.1
def tNull : List UInt8 := [110, 117, 108, 108]
def tNew : List UInt8 := [110, 101, 119]
def tInput : List UInt8 := [105, 110, 112, 117, 116]
def valT (v : Vl) : List UInt8 :=
 if v.kind = 0 then tNull else if v.kind = 1 then pathT v.path else if v.kind = 2 then tNew ++ [32] ++ txt v.type else if v.kind = 3 then tInput
 else if v.kind = 4 then Tx.digits v.left.n.toNat else if v.kind = 5 then termT v.left ++ [32] ++ [43] ++ [32] ++ termT v.right else termT v.left ++ [32] ++ [45] ++ [32] ++ termT v.right
def valK (v : Vl) : List K :=
 if v.kind = 0 then [ky tNull] else if v.kind = 1 then pathK v.path else if v.kind = 2 then [ky tNew, nm v.type] else if v.kind = 3 then [ky tInput]
 else if v.kind = 4 then [dg v.left.n] else if v.kind = 5 then termK v.left ++ [mk [43]] ++ termK v.right else termK v.left ++ [mk [45]] ++ termK v.right
/-- May this be a value? -/
def okVal (v : Vl) : Bool :=
 if v.kind = 0 ∨ v.kind = 3 then noP v.path && noT v.left && noT v.right && decide (txt v.type = [])
 else if v.kind = 1 then noT v.left && noT v.right && decide (txt v.type = []) && okPath v.path
 else if v.kind = 2 then noP v.path && noT v.left && noT v.right && okN v.type
 else if v.kind = 4 then noP v.path && noT v.right && decide (txt v.type = []) && decide (txt v.left.name = []) && okNum v.left.n
 else if v.kind = 5 ∨ v.kind = 6 then noP v.path && decide (txt v.type = []) && okTerm v.left && okTerm v.right
 else false
def okSide (v : Vl) : Bool := okVal v && (decide (v.kind = 0) || decide (v.kind = 1) || decide (v.kind = 4))
theorem word_of {a : List UInt8} (h : ((match a with | [] => false | b :: _ => Tx.ltr (b.toNat : Int)) && a.all (fun b => Tx.wrd (b.toNat : Int)) && decide (a.length ≤ 16)) = true) : Tx.isWord a := by
 simp only [Bool.and_eq_true, List.all_eq_true, decide_eq_true_eq] at h
 obtain ⟨⟨h1, h2⟩, h3⟩ := h
 refine ⟨?_, h2, h3⟩
 cases a with
 | nil => simp at h1
 | cons b l => exact ⟨b, l, rfl, h1⟩
theorem lx_null : Lx tNull [ky tNull] Clear := lx_key (word_of (by decide)) (by decide)
theorem lx_new : Lx tNew [ky tNew] Clear := lx_key (word_of (by decide)) (by decide)
theorem lx_input : Lx tInput [ky tInput] Clear := lx_key (word_of (by decide)) (by decide)
theorem lx_sp : Lx [32] [] Any := Lx.blank 32 (by rfl)
theorem lx_sum {s t : Tm} {c : UInt8} (hs : okTerm s = true) (ht : okTerm t = true) (h1 : Tx.one c.toNat = true) (h2 : Tx.two c.toNat 32 = false) : Lx (termT s ++ [32] ++ [c] ++ [32] ++ termT t) (termK s ++ [mk [c]] ++ termK t) Clear := by
 have a := (lx_term hs).append lx_sp (D := Any) (fun r _ => clear_cons (by rfl))
 have b := a.append (Lx.one h1) (fun _ _ => trivial)
 have c := b.append lx_sp (D := Any) (fun r _ => nopair_cons h2)
 have d := c.append (lx_term ht) (fun _ _ => trivial)
 simpa [mk] using d
theorem lx_val {v : Vl} (h : okVal v = true) : Lx (valT v) (valK v) Clear := by
 unfold okVal at h; unfold valT valK
 by_cases h0 : v.kind = 0
 ·rw [if_pos h0, if_pos h0]; exact lx_null
 by_cases h1 : v.kind = 1
 ·rw [if_neg h0, if_neg h0, if_pos h1, if_pos h1]
  rw [if_neg (by omega), if_pos h1] at h
  simp only [Bool.and_eq_true] at h
  exact lx_path h.2
 by_cases h2 : v.kind = 2
 ·rw [if_neg h0, if_neg h0, if_neg h1, if_neg h1, if_pos h2, if_pos h2]
  rw [if_neg (by omega), if_neg h1, if_pos h2] at h
  simp only [Bool.and_eq_true] at h
  have a := lx_new.append lx_sp (D := Any) (fun r _ => clear_cons (by rfl))
  have b := a.append (lx_name h.2) (fun _ _ => trivial)
  simpa using b
 by_cases h3 : v.kind = 3
 ·rw [if_neg h0, if_neg h0, if_neg h1, if_neg h1, if_neg h2, if_neg h2, if_pos h3, if_pos h3]; exact lx_input
 by_cases h4 : v.kind = 4
 ·rw [if_neg h0, if_neg h0, if_neg h1, if_neg h1, if_neg h2, if_neg h2, if_neg h3, if_neg h3, if_pos h4, if_pos h4]
  rw [if_neg (by omega), if_neg h1, if_neg h2, if_pos h4] at h
  simp only [Bool.and_eq_true] at h
  exact lx_num h.2
 rw [if_neg (by omega), if_neg h1, if_neg h2, if_neg h4] at h
 rw [if_neg h0, if_neg h0, if_neg h1, if_neg h1, if_neg h2, if_neg h2, if_neg h3, if_neg h3, if_neg h4, if_neg h4]
 by_cases h56 : v.kind = 5 ∨ v.kind = 6
 ·rw [if_pos h56] at h
  simp only [Bool.and_eq_true] at h
  by_cases h5 : v.kind = 5
  ·rw [if_pos h5, if_pos h5]; exact lx_sum h.1.2 h.2 (by rfl) (by rfl)
  ·rw [if_neg h5, if_neg h5]; exact lx_sum h.1.2 h.2 (by rfl) (by rfl)
 ·rw [if_neg h56] at h; cases h
/- Conditions. -/
def relT (k : Int) : List UInt8 := if k = 1 then [61, 61] else if k = 2 then [33, 61] else if k = 3 then [60] else [62, 61]
def condT (c : Cd) : List UInt8 := if c.kind = 0 then [63] else valT c.left ++ [32] ++ relT c.kind ++ [32] ++ valT c.right
def condK (c : Cd) : List K := if c.kind = 0 then [mk [63]] else valK c.left ++ [mk (relT c.kind)] ++ valK c.right
def noVal (v : Vl) : Bool := decide (v.kind = 0) && okVal v
def noCond (c : Cd) : Bool := decide (c.kind = 0) && noVal c.left && noVal c.right
def okCond (c : Cd) : Bool := if c.kind = 0 then noCond c else decide (1 ≤ c.kind) && decide (c.kind ≤ 4) && okSide c.left && okSide c.right
theorem lx_rel (k : Int) : Lx (relT k) [mk (relT k)] (fun r => ∃ l, r = 32 :: l) := by
 unfold relT
 split
 ·exact (Lx.two (by rfl)).weak fun _ _ => trivial
 ·split
  ·exact (Lx.two (by rfl)).weak fun _ _ => trivial
  ·split
   ·exact (Lx.one (by rfl)).weak fun _ ⟨l, hl⟩ => by rw [hl]; exact nopair_cons (by rfl)
   ·exact (Lx.two (by rfl)).weak fun _ _ => trivial
theorem lx_cond {c : Cd} (h : okCond c = true) : Lx (condT c) (condK c) Clear := by
 unfold okCond at h; unfold condT condK
 by_cases h0 : c.kind = 0
 ·rw [if_pos h0, if_pos h0]
  exact (Lx.one (c := 63) (by rfl)).weak fun r _ => nopair_any (fun b => by unfold Tx.two; simp) r
 ·rw [if_neg h0] at h
  rw [if_neg h0, if_neg h0]
  simp only [Bool.and_eq_true, okSide] at h
  have a := (lx_val h.1.2.1).append lx_sp (D := Any) (fun r _ => clear_cons (by rfl))
  have b := a.append (lx_rel c.kind) (fun _ _ => trivial)
  have d := b.append lx_sp (D := Any) (fun r _ => ⟨r, rfl⟩)
  have e := d.append (lx_val h.2.1) (fun _ _ => trivial)
  simpa using e
/- Declarations. -/
def tInt : List UInt8 := [105, 110, 116]
def declT (d : Dc) : List UInt8 := if txt d.type = [] then tInt ++ [32] ++ txt d.name else txt d.type ++ [42] ++ [32] ++ txt d.name
def declK (d : Dc) : List K := if txt d.type = [] then [ky tInt, nm d.name] else [nm d.type, mk [42], nm d.name]
def okDecl (d : Dc) : Bool := okN d.name && (decide (txt d.type = []) || okN d.type)
theorem lx_decl {d : Dc} (h : okDecl d = true) : Lx (declT d) (declK d) Clear := by
 unfold okDecl at h; unfold declT declK
 simp only [Bool.and_eq_true, Bool.or_eq_true, decide_eq_true_eq] at h
 by_cases h0 : txt d.type = []
 ·rw [if_pos h0, if_pos h0]
  have a := (lx_key (a := tInt) (word_of (by decide)) (by decide)).append lx_sp (D := Any) (fun r _ => clear_cons (by rfl))
  have b := a.append (lx_name h.1) (fun _ _ => trivial)
  simpa using b
 ·rw [if_neg h0, if_neg h0]
  have a := (lx_name (h.2.resolve_left h0)).append (Lx.one (c := 42) (by rfl)) (fun r _ => clear_cons (by rfl))
  have b := a.append lx_sp (D := Any) (fun r _ => nopair_cons (by rfl))
  have c := b.append (lx_name h.1) (fun _ _ => trivial)
  simpa [mk] using c
end Pn
end Go.Proofs.YtdlchhimkelinaaGreatDoor
namespace Go.Proofs.YtdlchhimkelinaaGreatDoor
namespace Pn
open Tx (Lx Clear NoPair Any)
theorem lx_b {b : UInt8} {a : List UInt8} {ts : List K} {D : List UInt8 → Prop} (hb : Tx.blk (b.toNat : Int) = true) (h : Lx a ts D) : Lx (b :: a) ts D :=
 (Lx.blank b hb).append h fun _ _ => trivial
theorem lx_m {c : UInt8} {a : List UInt8} {ts : List K} {D : List UInt8 → Prop} (h1 : Tx.one c.toNat = true) (h2 : ∀ b : UInt8, Tx.two (c.toNat : Int) (b.toNat : Int) = false) (h : Lx a ts D) : Lx (c :: a) (mk [c] :: ts) D :=
 (Lx.one h1).append h fun _ _ => nopair_any h2 _
theorem lx_m1 {c b : UInt8} {a : List UInt8} {ts : List K} {D : List UInt8 → Prop} (h1 : Tx.one c.toNat = true) (h2 : Tx.two (c.toNat : Int) (b.toNat : Int) = false) (h : Lx (b :: a) ts D) : Lx (c :: b :: a) (mk [c] :: ts) D :=
 (Lx.one h1).append h fun _ _ => nopair_cons h2
theorem lx_w {a : List UInt8} {b : UInt8} {c : List UInt8} {ts us : List K} {D : List UInt8 → Prop} (h : Lx a ts Clear) (g : Lx (b :: c) us D) (hb : Tx.wrd (b.toNat : Int) = false) : Lx (a ++ b :: c) (ts ++ us) D :=
 h.append g fun _ _ => clear_cons hb
theorem lx_a {a b : List UInt8} {ts us : List K} {D : List UInt8 → Prop} (h : Lx a ts Any) (g : Lx b us D) : Lx (a ++ b) (ts ++ us) D := h.append g fun _ _ => trivial
theorem np_semi (b : UInt8) : Tx.two ((59 : UInt8).toNat : Int) (b.toNat : Int) = false := by unfold Tx.two; simp
theorem np_open (b : UInt8) : Tx.two ((40 : UInt8).toNat : Int) (b.toNat : Int) = false := by unfold Tx.two; simp
theorem np_shut (b : UInt8) : Tx.two ((41 : UInt8).toNat : Int) (b.toNat : Int) = false := by unfold Tx.two; simp
theorem np_comma (b : UInt8) : Tx.two ((44 : UInt8).toNat : Int) (b.toNat : Int) = false := by unfold Tx.two; simp
theorem np_lb (b : UInt8) : Tx.two ((123 : UInt8).toNat : Int) (b.toNat : Int) = false := by unfold Tx.two; simp
theorem np_rb (b : UInt8) : Tx.two ((125 : UInt8).toNat : Int) (b.toNat : Int) = false := by unfold Tx.two; simp
/-- Two blanks for each brace. -/
def pad : Nat → List UInt8
 | 0 => []
 | d + 1 => pad d ++ [32, 32]
theorem lx_pad : ∀ d, Lx (pad d) [] Any
 | 0 => Lx.nil
 | d + 1 => lx_a (lx_pad d) (lx_b (by rfl) lx_sp)
theorem lx_padw (d : Nat) {a : List UInt8} {ts : List K} {D : List UInt8 → Prop} (h : Lx a ts D) : Lx (pad d ++ a) ts D := lx_a (lx_pad d) h
def tFree : List UInt8 := [102, 114, 101, 101]
def tIf : List UInt8 := [105, 102]
def tElse : List UInt8 := [101, 108, 115, 101]
def tWhile : List UInt8 := [119, 104, 105, 108, 101]
def tStruct : List UInt8 := [115, 116, 114, 117, 99, 116]
def tVoid : List UInt8 := [118, 111, 105, 100]
theorem lx_free : Lx tFree [ky tFree] Clear := lx_key (word_of (by decide)) (by decide)
theorem lx_if : Lx tIf [ky tIf] Clear := lx_key (word_of (by decide)) (by decide)
theorem lx_else : Lx tElse [ky tElse] Clear := lx_key (word_of (by decide)) (by decide)
theorem lx_while : Lx tWhile [ky tWhile] Clear := lx_key (word_of (by decide)) (by decide)
theorem lx_struct : Lx tStruct [ky tStruct] Clear := lx_key (word_of (by decide)) (by decide)
theorem lx_void : Lx tVoid [ky tVoid] Clear := lx_key (word_of (by decide)) (by decide)
/-- Items, parted by a comma and a blank; what stands behind begins with no letter and no digit. -/
def commaT {α : Type} (f : α → List UInt8) : List α → List UInt8
 | [] => []
 | [a] => f a
 | a :: b :: l => f a ++ 44 :: 32 :: commaT f (b :: l)
def commaK {α : Type} (f : α → List K) : List α → List K
 | [] => []
 | [a] => f a
 | a :: b :: l => f a ++ mk [44] :: commaK f (b :: l)
theorem lx_comma {α : Type} {f : α → List UInt8} {g : α → List K} : ∀ l : List α, (∀ a ∈ l, Lx (f a) (g a) Clear) → Lx (commaT f l) (commaK g l) Clear
 | [], _ => Lx.nil.weak fun _ _ => trivial
 | [a], h => h a List.mem_cons_self
 | a :: b :: l, h => lx_w (h a List.mem_cons_self) (lx_m (by rfl) np_comma (lx_b (by rfl) (lx_comma (b :: l) fun x hx => h x (List.mem_cons_of_mem _ hx)))) (by rfl)
/-- A statement, its line's end and what is behind it. -/
def stT (h : Hd) (t e : List UInt8) (d : Nat) (k : List UInt8) : List UInt8 :=
 if h.kind = 0 then 59 :: 10 :: k
 else if h.kind = 1 then pathT h.place ++ 32 :: 61 :: 32 :: (valT h.value ++ 59 :: 10 :: k)
 else if h.kind = 2 then tFree ++ 40 :: (pathT h.place ++ 41 :: 59 :: 10 :: k)
 else if h.kind = 3 then txt h.name ++ 40 :: (commaT valT h.args.l ++ 41 :: 59 :: 10 :: k)
 else if h.kind = 4 then tIf ++ 32 :: 40 :: (condT h.cond ++ 41 :: 32 :: 123 :: 10 :: (t ++ (pad d ++ 125 :: (if h.both then 32 :: (tElse ++ 32 :: 123 :: 10 :: (e ++ (pad d ++ 125 :: 10 :: k))) else 10 :: k))))
 else if h.kind = 5 then tWhile ++ 32 :: 40 :: (condT h.cond ++ 41 :: 32 :: 123 :: 10 :: (t ++ (pad d ++ 125 :: 10 :: k)))
 else 123 :: 10 :: (t ++ (pad d ++ 125 :: 10 :: k))
def stK (h : Hd) (t e k : List K) : List K :=
 if h.kind = 0 then mk [59] :: k
 else if h.kind = 1 then pathK h.place ++ mk [61] :: (valK h.value ++ mk [59] :: k)
 else if h.kind = 2 then ky tFree :: mk [40] :: (pathK h.place ++ mk [41] :: mk [59] :: k)
 else if h.kind = 3 then nm h.name :: mk [40] :: (commaK valK h.args.l ++ mk [41] :: mk [59] :: k)
 else if h.kind = 4 then ky tIf :: mk [40] :: (condK h.cond ++ mk [41] :: mk [123] :: (t ++ mk [125] :: (if h.both then ky tElse :: mk [123] :: (e ++ mk [125] :: k) else k)))
 else if h.kind = 5 then ky tWhile :: mk [40] :: (condK h.cond ++ mk [41] :: mk [123] :: (t ++ mk [125] :: k))
 else mk [123] :: (t ++ mk [125] :: k)
def linesT : SL → Nat → List UInt8
 | .nil, _ => []
 | .cons h _ _ t _ _ e r, d => pad d ++ stT h (linesT t (d + 1)) (linesT e (d + 1)) d (linesT r d)
def linesK : SL → List K
 | .nil => []
 | .cons h _ _ t _ _ e r => stK h (linesK t) (linesK e) (linesK r)
def noCall (h : Hd) : Bool := decide (txt h.name = []) && decide (h.args.l = [])
/-- May this be a statement, for itself (t0, e0: has it no Then, no Else)? -/
def okStmt (h : Hd) (t0 e0 : Bool) : Bool :=
 if h.kind = 0 then noP h.place && noVal h.value && noCond h.cond && noCall h && t0 && e0 && !h.both
 else if h.kind = 1 then okPath h.place && okVal h.value && noCond h.cond && noCall h && t0 && e0 && !h.both
 else if h.kind = 2 then okPath h.place && noVal h.value && noCond h.cond && noCall h && t0 && e0 && !h.both
 else if h.kind = 3 then h.args.l.all okSide && noP h.place && noVal h.value && noCond h.cond && okN h.name && t0 && e0 && !h.both
 else if h.kind = 4 then noP h.place && noVal h.value && okCond h.cond && noCall h && (h.both || e0)
 else if h.kind = 5 then noP h.place && noVal h.value && okCond h.cond && noCall h && e0 && !h.both
 else if h.kind = 6 then noP h.place && noVal h.value && noCond h.cond && noCall h && e0 && !h.both
 else false
def isNil : SL → Bool
 | .nil => true
 | .cons .. => false
def okList : SL → Bool
 | .nil => true
 | .cons h _ _ t _ _ e r => okStmt h (isNil t) (isNil e) && okList t && okList e && okList r
theorem lx_args {l : List Vl} (h : l.all okSide = true) : Lx (commaT valT l) (commaK valK l) Clear :=
 lx_comma l fun a ha => by
  have := List.all_eq_true.1 h a ha
  unfold okSide at this
  simp only [Bool.and_eq_true] at this
  exact lx_val this.1
theorem lx_stmt {h : Hd} {t0 e0 : Bool} {t e k : List UInt8} {tk ek kk : List K} {d : Nat} (ho : okStmt h t0 e0 = true) (ht : Lx t tk Any) (he : Lx e ek Any) (hk : Lx k kk Any) : Lx (stT h t e d k) (stK h tk ek kk) Any := by
 have hend : Lx (10 :: k) kk Any := lx_b (by rfl) hk
 have hsemi : Lx (59 :: 10 :: k) (mk [59] :: kk) Any := lx_m (by rfl) np_semi hend
 have hshut : Lx (41 :: 59 :: 10 :: k) (mk [41] :: mk [59] :: kk) Any := lx_m (by rfl) np_shut hsemi
 have hblk : ∀ {a b : List UInt8} {u v : List K}, Lx a u Any → Lx b v Any → Lx (123 :: 10 :: (a ++ (pad d ++ 125 :: b))) (mk [123] :: (u ++ mk [125] :: v)) Any :=
  fun ha hb => lx_m (by rfl) np_lb (lx_b (by rfl) (lx_a ha (lx_padw d (lx_m (by rfl) np_rb hb))))
 unfold okStmt at ho; unfold stT stK
 by_cases h0 : h.kind = 0
 ·rw [if_pos h0, if_pos h0]; exact hsemi
 by_cases h1 : h.kind = 1
 ·rw [if_neg h0, if_pos h1] at ho
  simp only [Bool.and_eq_true] at ho
  rw [if_neg h0, if_neg h0, if_pos h1, if_pos h1]
  exact lx_w (lx_path ho.1.1.1.1.1.1) (lx_b (by rfl) (lx_m1 (by rfl) (by rfl) (lx_b (by rfl) (lx_w (lx_val ho.1.1.1.1.1.2) hsemi (by rfl))))) (by rfl)
 by_cases h2 : h.kind = 2
 ·rw [if_neg h0, if_neg h1, if_pos h2] at ho
  simp only [Bool.and_eq_true] at ho
  rw [if_neg h0, if_neg h0, if_neg h1, if_neg h1, if_pos h2, if_pos h2]
  exact lx_w lx_free (lx_m (by rfl) np_open (lx_w (lx_path ho.1.1.1.1.1.1) hshut (by rfl))) (by rfl)
 by_cases h3 : h.kind = 3
 ·rw [if_neg h0, if_neg h1, if_neg h2, if_pos h3] at ho
  simp only [Bool.and_eq_true] at ho
  rw [if_neg h0, if_neg h0, if_neg h1, if_neg h1, if_neg h2, if_neg h2, if_pos h3, if_pos h3]
  exact lx_w (lx_name ho.1.1.1.2) (lx_m (by rfl) np_open (lx_w (lx_args ho.1.1.1.1.1.1.1) hshut (by rfl))) (by rfl)
 by_cases h4 : h.kind = 4
 ·rw [if_neg h0, if_neg h1, if_neg h2, if_neg h3, if_pos h4] at ho
  simp only [Bool.and_eq_true] at ho
  rw [if_neg h0, if_neg h0, if_neg h1, if_neg h1, if_neg h2, if_neg h2, if_neg h3, if_neg h3, if_pos h4, if_pos h4]
  refine lx_w lx_if (lx_b (by rfl) (lx_m (by rfl) np_open (lx_w (lx_cond ho.1.1.2) (lx_m (by rfl) np_shut (lx_b (by rfl) (hblk ht ?_))) (by rfl)))) (by rfl)
  by_cases hb : h.both = true
  ·rw [if_pos hb, if_pos hb]
   exact lx_b (by rfl) (lx_w lx_else (lx_b (by rfl) (hblk he hend)) (by rfl))
  ·rw [if_neg hb, if_neg hb]; exact hend
 by_cases h5 : h.kind = 5
 ·rw [if_neg h0, if_neg h1, if_neg h2, if_neg h3, if_neg h4, if_pos h5] at ho
  simp only [Bool.and_eq_true] at ho
  rw [if_neg h0, if_neg h0, if_neg h1, if_neg h1, if_neg h2, if_neg h2, if_neg h3, if_neg h3, if_neg h4, if_neg h4, if_pos h5, if_pos h5]
  exact lx_w lx_while (lx_b (by rfl) (lx_m (by rfl) np_open (lx_w (lx_cond ho.1.1.1.2) (lx_m (by rfl) np_shut (lx_b (by rfl) (hblk ht hend))) (by rfl)))) (by rfl)
 rw [if_neg h0, if_neg h0, if_neg h1, if_neg h1, if_neg h2, if_neg h2, if_neg h3, if_neg h3, if_neg h4, if_neg h4, if_neg h5, if_neg h5]
 exact hblk ht hend
theorem lx_lines : ∀ (l : SL) (d : Nat), okList l = true → Lx (linesT l d) (linesK l) Any
 | .nil, _, _ => Lx.nil
 | .cons h _ _ t _ _ e r, d, ho => by
  simp only [okList, Bool.and_eq_true] at ho
  exact lx_padw d (lx_stmt ho.1.1.1 (lx_lines t (d + 1) ho.1.1.2) (lx_lines e (d + 1) ho.1.2) (lx_lines r d ho.2))
/- Programs. -/
def fieldsT (d : Nat) : List Dc → List UInt8 → List UInt8
 | [], k => k
 | x :: l, k => pad d ++ (declT x ++ 59 :: 10 :: fieldsT d l k)
def fieldsK : List Dc → List K → List K
 | [], k => k
 | x :: l, k => declK x ++ mk [59] :: fieldsK l k
theorem lx_fields {d : Nat} {k : List UInt8} {kk : List K} (hk : Lx k kk Any) : ∀ l : List Dc, l.all okDecl = true → Lx (fieldsT d l k) (fieldsK l kk) Any
 | [], _ => hk
 | x :: l, h => by
  simp only [List.all_cons, Bool.and_eq_true] at h
  exact lx_padw d (lx_w (lx_decl h.1) (lx_m (by rfl) np_semi (lx_b (by rfl) (lx_fields hk l h.2))) (by rfl))
def structsT : List Sr → List UInt8 → List UInt8
 | [], k => k
 | x :: l, k => tStruct ++ 32 :: (txt x.name ++ 32 :: 123 :: 10 :: fieldsT 1 x.fields.l (125 :: 10 :: structsT l k))
def structsK : List Sr → List K → List K
 | [], k => k
 | x :: l, k => ky tStruct :: nm x.name :: mk [123] :: fieldsK x.fields.l (mk [125] :: structsK l k)
def okField (d : Dc) : Bool := okDecl d && !decide (txt d.type = [])
def okStruct (s : Sr) : Bool := okN s.name && s.fields.l.all okField
theorem fields_decls {l : List Dc} (h : l.all okField = true) : l.all okDecl = true := by
 rw [List.all_eq_true] at h ⊢
 intro x hx
 have := h x hx
 unfold okField at this
 simp only [Bool.and_eq_true] at this
 exact this.1
theorem lx_structs {k : List UInt8} {kk : List K} (hk : Lx k kk Any) : ∀ l : List Sr, l.all okStruct = true → Lx (structsT l k) (structsK l kk) Any
 | [], _ => hk
 | x :: l, h => by
  simp only [List.all_cons, Bool.and_eq_true, okStruct] at h
  exact lx_w lx_struct (lx_b (by rfl) (lx_w (lx_name h.1.1) (lx_b (by rfl) (lx_m (by rfl) np_lb (lx_b (by rfl) (lx_fields (lx_m (by rfl) np_rb (lx_b (by rfl) (lx_structs hk l h.2))) _ (fields_decls h.1.2))))) (by rfl))) (by rfl)
def procsT : List Pc → List UInt8
 | [] => []
 | x :: l => tVoid ++ 32 :: (txt x.name ++ 40 :: (commaT declT x.params.l ++ 41 :: 32 :: 123 :: 10 :: fieldsT 1 x.locals_.l (linesT x.body 1 ++ 125 :: 10 :: procsT l)))
def procsK : List Pc → List K
 | [] => []
 | x :: l => ky tVoid :: nm x.name :: mk [40] :: (commaK declK x.params.l ++ mk [41] :: mk [123] :: fieldsK x.locals_.l (linesK x.body ++ mk [125] :: procsK l))
def okProc (p : Pc) : Bool := okN p.name && p.params.l.all okDecl && p.locals_.l.all okDecl && okList p.body
theorem lx_procs : ∀ l : List Pc, l.all okProc = true → Lx (procsT l) (procsK l) Any
 | [], _ => Lx.nil
 | x :: l, h => by
  simp only [List.all_cons, Bool.and_eq_true, okProc] at h
  have hps : Lx (commaT declT x.params.l) (commaK declK x.params.l) Clear := lx_comma _ fun a ha => lx_decl (List.all_eq_true.1 h.1.1.1.2 a ha)
  have hbody : Lx (linesT x.body 1 ++ 125 :: 10 :: procsT l) (linesK x.body ++ mk [125] :: procsK l) Any := lx_a (lx_lines _ 1 h.1.2) (lx_m (by rfl) np_rb (lx_b (by rfl) (lx_procs l h.2)))
  exact lx_w lx_void (lx_b (by rfl) (lx_w (lx_name h.1.1.1.1) (lx_m (by rfl) np_open (lx_w hps (lx_m (by rfl) np_shut (lx_b (by rfl) (lx_m (by rfl) np_lb (lx_b (by rfl) (lx_fields hbody _ h.1.1.2))))) (by rfl))) (by rfl))) (by rfl)
/-- What is printed of a program, and its signs. -/
def progT (p : Pg) : List UInt8 := structsT p.structs.l (fieldsT 0 p.globals.l (procsT p.procs.l))
def progK (p : Pg) : List K := structsK p.structs.l (fieldsK p.globals.l (procsK p.procs.l))
def okProg (p : Pg) : Bool := p.structs.l.all okStruct && p.globals.l.all okDecl && p.procs.l.all okProc
theorem lx_prog {p : Pg} (h : okProg p = true) : Lx (progT p) (progK p) Any := by
 simp only [okProg, Bool.and_eq_true] at h
 exact lx_structs (lx_fields (lx_procs _ h.2) _ h.1.2) _ h.1.1
/-- The printed text of a program whose parts may be is read as its signs. -/
theorem alls_prog {p : Pg} (h : okProg p = true) {t : ByteArray} (ht : t.data.toList = progT p) (hz : t.size ≤ 65536) : (Tx.alls t).2.2 = 0 ∧ (Tx.alls t).1.map Tx.key = progK p ++ [(0, [], 0)] :=
 Lx.alls (by rw [ht]; exact lx_prog h) hz
end Pn
end Go.Proofs.YtdlchhimkelinaaGreatDoor
namespace Go.Proofs.YtdlchhimkelinaaGreatDoor
open Go.RowKit Go.Sort
namespace Tx
def headL (s : ByteArray) : Bool := if h : 0 < s.size then ltr (s[0].toNat : Int) else false
/-- May it be a Name? -/
def nameB (s : ByteArray) : Bool := decide (s.size ≤ 16) && headL s && decide (wend wrd s 0 = s.size) && !isKey s
theorem headL_eq (s : ByteArray) (h : 0 < s.size) : headL s = ltr (s[0].toNat : Int) := by unfold headL; rw [dif_pos h]
end Tx
theorem toList_ne (s : ByteArray) (h : 0 < s.size) : (s.toList == []) = false := by
 rw [Lib.toList_data]
 rw [Bool.eq_false_iff]
 intro e
 have := Tx.len_eq s
 rw [beq_iff_eq] at e
 rw [e] at this
 simp at this
 omega
namespace Pn
theorem okN_nameB {x : ByteArray} (h : okN x = true) : x.size ≤ 16 ∧ Tx.nameB x = true := by
 obtain ⟨⟨⟨b, l, e1, e2⟩, e3, e4⟩, e5⟩ := okN_word h
 have hs : x.size ≤ 16 := by have := Tx.len_eq x; unfold txt at e4; omega
 refine ⟨hs, ?_⟩
 have hr := Tx.run_all Tx.wrd (txt x) [] e3 (fun b hb => by cases hb)
 rw [List.append_nil] at hr
 have hlen : (txt x).length = x.size := Tx.len_eq x
 have h0 : 0 < x.size := by rw [← hlen, e1]; simp
 have hw : Tx.wend Tx.wrd x 0 = x.size := by
  unfold Tx.wend
  rw [List.drop_zero]
  show 0 + Tx.run Tx.wrd (txt x) = _
  rw [hr, hlen, Nat.zero_add]
 have hh : Tx.headL x = true := by
  rw [Tx.headL_eq x h0]
  have : x[0] = b := by
   have : x.data.toList[0]? = some b := by show (txt x)[0]? = some b; rw [e1]; rfl
   obtain ⟨_, e⟩ := List.getElem?_eq_some_iff.1 this
   rw [ByteArray.getElem_eq_getElem_data, ← e]; simp
  rw [this]; exact e2
 have hk : Tx.isKey x = false := e5
 unfold Tx.nameB
 rw [decide_eq_true hs, hh, decide_eq_true hw, hk]
 rfl
end Pn
end Go.Proofs.YtdlchhimkelinaaGreatDoor
