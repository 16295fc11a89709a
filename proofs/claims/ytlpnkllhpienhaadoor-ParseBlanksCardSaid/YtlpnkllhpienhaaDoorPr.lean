/-
  DERIVED. Plain: the parser over signs without places; what it makes has no places and no addresses.
-/
import Derived.Test.YtlpnkllhpienhaaDoorPn
import Derived.Test.YtlpnkllhpienhaaDoorTx
namespace Go.Proofs.YtlpnkllhpienhaaDoor
open Go.RowKit Go.Sort
namespace Pr

/-- A sign without its place. -/
structure Tk where
  kind : Int
  text : ByteArray
  num : Int
def tk (x : Tx.Sg) : Tk := ⟨x.kind, x.text, x.num⟩
/-- How far the parser is: the sign that comes next, the braces open, the statements begun. -/
structure St where
  i : Nat
  o : Int
  b : Int
def St.go (u : St) : St := ⟨u.i + 1, u.o, u.b⟩
/-- What a part of the parser makes: an error's number and the sign's, or something and how far it is. -/
abbrev Res (α : Type) := Except (Int × Nat) (α × St)
/-- One after the other, as long as nothing is wrong. -/
def th {α β : Type} (r : Res α) (f : α → St → Res β) : Res β :=
  match r with
  | .error e => .error e
  | .ok (x, u) => f x u

def noTm : Tm := ⟨ByteArray.empty, 0, 0⟩
def noPth : Pth := ⟨ByteArray.empty, 0, ⟨none, 0, []⟩⟩
def noVl : Vl := ⟨0, 0, noPth, ByteArray.empty, noTm, noTm⟩
def noCd : Cd := ⟨0, 0, noVl, noVl⟩
def noHd : Hd := ⟨0, 0, noPth, noVl, noCd, ByteArray.empty, ⟨none, 0, []⟩, false⟩

section
variable (t : List Tk)
def sg (i : Nat) : Tk := t.getD i ⟨0, ByteArray.empty, 0⟩
def is (i : Nat) (s : ByteArray) : Bool := (sg t i).text.toList == s.toList
def must (s : ByteArray) (u : St) : Res Tk := if is t u.i s then .ok (sg t u.i, u.go) else .error (5, u.i)
def name (u : St) : Res Tk := if (sg t u.i).kind = 1 then .ok (sg t u.i, u.go) else .error (5, u.i)
def hops : Nat → List Hp → St → Res (List Hp)
  | 0, acc, u => if is t u.i ⟨#[45, 62]⟩ then .error (11, u.i) else .ok (acc, u)
  | n + 1, acc, u => if is t u.i ⟨#[45, 62]⟩ then (th (name t u.go) fun x u => hops n (acc ++ [⟨x.text, 0⟩]) u) else .ok (acc, u)
def path (u : St) : Res Pth :=
  th (name t u) fun x u =>
  th (hops t 8 [] u) fun l u =>
  .ok (⟨x.text, 0, ⟨none, 0, l⟩⟩, u)
def term (u : St) : Res Tm :=
  if (sg t u.i).kind = 2 then .ok (⟨ByteArray.empty, (sg t u.i).num, 0⟩, u.go)
  else
    th (name t u) fun x u =>
    .ok (⟨x.text, 0, 0⟩, u)
def side (u : St) : Res Vl :=
  if is t u.i ⟨#[110, 117, 108, 108]⟩ then .ok (noVl, u.go)
  else if (sg t u.i).kind = 2 then
    th (term t u) fun x u =>
    .ok ({ noVl with kind := 4, left := x }, u)
  else
    th (path t u) fun x u =>
    .ok ({ noVl with kind := 1, path := x }, u)
def sums (u : St) : Bool := ((sg t u.i).kind == 1 || (sg t u.i).kind == 2) && (is t (u.i + 1) ⟨#[43]⟩ || is t (u.i + 1) ⟨#[45]⟩)
def sum (u : St) : Res Vl :=
  th (term t u) fun x u =>
  th (term t u.go) fun y v =>
  .ok ({ noVl with kind := if is t u.i ⟨#[45]⟩ then 6 else 5, left := x, right := y }, v)
def value (u : St) : Res Vl :=
  if is t u.i ⟨#[110, 101, 119]⟩ then
    th (name t u.go) fun x u =>
    .ok ({ noVl with kind := 2, type := x.text }, u)
  else if is t u.i ⟨#[105, 110, 112, 117, 116]⟩ then .ok ({ noVl with kind := 3 }, u.go)
  else if sums t u then sum t u else side t u
def relation (u : St) : Res Int :=
  if is t u.i ⟨#[61, 61]⟩ then .ok (1, u.go)
  else if is t u.i ⟨#[33, 61]⟩ then .ok (2, u.go)
  else if is t u.i ⟨#[60]⟩ then .ok (3, u.go)
  else
    th (must t ⟨#[62, 61]⟩ u) fun _ u =>
    .ok (4, u)
def cond (u : St) : Res Cd :=
  if is t u.i ⟨#[63]⟩ then .ok (noCd, u.go)
  else
    th (side t u) fun x u =>
    th (relation t u) fun k u =>
    th (side t u) fun y u =>
    .ok (⟨k, 0, x, y⟩, u)
def held (u : St) : Res Cd :=
  th (must t ⟨#[40]⟩ u) fun _ u =>
  th (cond t u) fun c u =>
  th (must t ⟨#[41]⟩ u) fun _ u =>
  .ok (c, u)
/-- The items behind the first one, up to the closing parenthesis. -/
def more {α : Type} (item : St → Res α) : Nat → List α → St → Res (List α)
  | 0, _, _ => .error (0, 0)
  | n + 1, acc, u =>
    if is t u.i ⟨#[44]⟩ then (th (item u.go) fun x u => more item n (acc ++ [x]) u)
    else
      th (must t ⟨#[41]⟩ u) fun _ u =>
      .ok (acc, u)
def listed {α : Type} (item : St → Res α) (u : St) : Res (List α) :=
  th (must t ⟨#[40]⟩ u) fun _ u =>
  if is t u.i ⟨#[41]⟩ then .ok ([], u.go)
  else
    th (item u) fun x u =>
    more t item (t.length + 1) [x] u
def pointer (u : St) : Res Dc :=
  th (name t u) fun x u =>
  th (must t ⟨#[42]⟩ u) fun _ u =>
  th (name t u) fun y u =>
  .ok (⟨x.text, y.text, 0⟩, u)
def variable_ (u : St) : Res Dc :=
  if is t u.i ⟨#[105, 110, 116]⟩ then
    th (name t u.go) fun x u =>
    .ok (⟨ByteArray.empty, x.text, 0⟩, u)
  else pointer t u
def decl (u : St) : Res Dc :=
  th (variable_ t u) fun d u =>
  th (must t ⟨#[59]⟩ u) fun _ u =>
  .ok (d, u)
def declares (u : St) : Bool := is t u.i ⟨#[105, 110, 116]⟩ || ((sg t u.i).kind == 1 && is t (u.i + 1) ⟨#[42]⟩)
def begins (u : St) : Bool :=
  is t u.i ⟨#[59]⟩ || is t u.i ⟨#[123]⟩ || is t u.i ⟨#[102, 114, 101, 101]⟩ || is t u.i ⟨#[105, 102]⟩ || is t u.i ⟨#[119, 104, 105, 108, 101]⟩ || (sg t u.i).kind == 1
/-- A brace may not stand where twenty are open. -/
def mustHold (u : St) : Res Unit := if is t u.i ⟨#[123]⟩ && u.o == 20 then .error (6, u.i) else .ok ((), u)
def count (u : St) : Res Unit :=
  th (mustHold t u) fun _ u =>
  if u.b = 400 then .error (11, u.i) else .ok ((), ⟨u.i, u.o, u.b + 1⟩)
def block (rec : St → Res SL) (u : St) : Res SL :=
  th (mustHold t u) fun _ u =>
  th (must t ⟨#[123]⟩ u) fun _ u =>
  th (rec ⟨u.i, u.o + 1, u.b⟩) fun l u =>
  th (must t ⟨#[125]⟩ u) fun _ u =>
  .ok (l, ⟨u.i, u.o - 1, u.b⟩)
def free (u : St) : Res Hd :=
  th (must t ⟨#[102, 114, 101, 101]⟩ u) fun _ u =>
  th (must t ⟨#[40]⟩ u) fun _ u =>
  th (path t u) fun x u =>
  th (must t ⟨#[41]⟩ u) fun _ u =>
  th (must t ⟨#[59]⟩ u) fun _ u =>
  .ok ({ noHd with kind := 2, place := x }, u)
def branch (rec : St → Res SL) (u : St) : Res (Hd × SL × SL) :=
  th (must t ⟨#[105, 102]⟩ u) fun _ u =>
  th (held t u) fun c u =>
  th (block t rec u) fun a u =>
  if is t u.i ⟨#[101, 108, 115, 101]⟩ then
    th (block t rec u.go) fun e u =>
    .ok (({ noHd with kind := 4, cond := c, both := true }, a, e), u)
  else .ok (({ noHd with kind := 4, cond := c }, a, .nil), u)
def loop (rec : St → Res SL) (u : St) : Res (Hd × SL × SL) :=
  th (must t ⟨#[119, 104, 105, 108, 101]⟩ u) fun _ u =>
  th (held t u) fun c u =>
  th (block t rec u) fun a u =>
  .ok (({ noHd with kind := 5, cond := c }, a, .nil), u)
def named (u : St) : Res Hd :=
  if is t (u.i + 1) ⟨#[40]⟩ then
    th (name t u) fun x u =>
    th (listed t (side t) u) fun l u =>
    th (must t ⟨#[59]⟩ u) fun _ u =>
    .ok ({ noHd with kind := 3, name := x.text, args := ⟨none, 0, l⟩ }, u)
  else
    th (path t u) fun x u =>
    th (must t ⟨#[61]⟩ u) fun _ u =>
    th (value t u) fun v u =>
    th (must t ⟨#[59]⟩ u) fun _ u =>
    .ok ({ noHd with kind := 1, place := x, value := v }, u)
def stmt (rec : St → Res SL) (u : St) : Res (Hd × SL × SL) :=
  th (count t u) fun _ u =>
  if is t u.i ⟨#[59]⟩ then .ok ((noHd, .nil, .nil), u.go)
  else if is t u.i ⟨#[123]⟩ then
    th (block t rec u) fun l u =>
    .ok (({ noHd with kind := 6 }, l, .nil), u)
  else if is t u.i ⟨#[102, 114, 101, 101]⟩ then
    th (free t u) fun h u =>
    .ok ((h, .nil, .nil), u)
  else if is t u.i ⟨#[105, 102]⟩ then branch t rec u
  else if is t u.i ⟨#[119, 104, 105, 108, 101]⟩ then loop t rec u
  else
    th (named t u) fun h u =>
    .ok ((h, .nil, .nil), u)
/-- Statements, with fuel: each one takes a sign at least. -/
def stmts : Nat → St → Res SL
  | 0, _ => .error (0, 0)
  | n + 1, u =>
    if begins t u then
      th (stmt t (stmts n) u) fun (h, a, e) u =>
      th (stmts n u) fun r u =>
      .ok (.cons h none 0 a none 0 e r, u)
    else .ok (.nil, u)
def fields : Nat → List Dc → St → Res (List Dc)
  | 0, _, _ => .error (0, 0)
  | n + 1, acc, u =>
    if is t u.i ⟨#[125]⟩ then .ok (acc, u.go)
    else
      th (pointer t u) fun d u =>
      th (must t ⟨#[59]⟩ u) fun _ u =>
      fields n (acc ++ [d]) u
def structure_ (u : St) : Res Sr :=
  th (must t ⟨#[115, 116, 114, 117, 99, 116]⟩ u) fun _ u =>
  th (name t u) fun x u =>
  th (must t ⟨#[123]⟩ u) fun _ u =>
  th (fields t (t.length + 1) [] u) fun l u =>
  .ok (⟨x.text, 0, ⟨none, 0, l⟩⟩, u)
def locals : Nat → List Dc → St → Res (List Dc)
  | 0, _, _ => .error (0, 0)
  | n + 1, acc, u => if declares t u then (th (decl t u) fun d u => locals n (acc ++ [d]) u) else .ok (acc, u)
def proc (u : St) : Res Pc :=
  th (must t ⟨#[118, 111, 105, 100]⟩ u) fun _ u =>
  th (name t u) fun x u =>
  th (listed t (variable_ t) u) fun ps u =>
  th (must t ⟨#[123]⟩ u) fun _ u =>
  th (locals t (t.length + 1) [] u) fun ls u =>
  th (stmts t (t.length + 1) u) fun body u =>
  th (must t ⟨#[125]⟩ u) fun _ u =>
  .ok (⟨x.text, 0, 0, ⟨none, 0, ps⟩, ⟨none, 0, ls⟩, none, 0, body⟩, u)
def program : Nat → List Sr → List Dc → List Pc → St → Res Pg
  | 0, _, _, _, _ => .error (0, 0)
  | n + 1, ss, gs, ps, u =>
    if (sg t u.i).kind = 0 then .ok (⟨⟨none, 0, ss⟩, ⟨none, 0, gs⟩, ⟨none, 0, ps⟩⟩, u)
    else if is t u.i ⟨#[115, 116, 114, 117, 99, 116]⟩ then (th (structure_ t u) fun x u => program n (ss ++ [x]) gs ps u)
    else if is t u.i ⟨#[118, 111, 105, 100]⟩ then (th (proc t u) fun x u => program n ss gs (ps ++ [x]) u)
    else (th (decl t u) fun x u => program n ss (gs ++ [x]) ps u)
/-- What a reading of all signs makes, or the number of what is wrong. -/
def whole {α : Type} (read : St → Res α) : Except (Int × Nat) α :=
  match read ⟨0, 0, 0⟩ with
  | .error e => .error e
  | .ok (x, u) => if (sg t u.i).kind = 0 then .ok x else .error (5, u.i)
end

theorem sg_tk {l : List Tx.Sg} {i : Nat} {x : Tx.Sg} (h : l[i]? = some x) : sg (l.map tk) i = tk x := by
  unfold sg; rw [List.getD_eq_getElem?_getD, List.getElem?_map, h]; rfl
theorem is_tk {l : List Tx.Sg} {i : Nat} {x : Tx.Sg} (h : l[i]? = some x) (s : ByteArray) : is (l.map tk) i s = (x.text.toList == s.toList) := by
  unfold is; rw [sg_tk h]; rfl

end Pr
end Go.Proofs.YtlpnkllhpienhaaDoor
