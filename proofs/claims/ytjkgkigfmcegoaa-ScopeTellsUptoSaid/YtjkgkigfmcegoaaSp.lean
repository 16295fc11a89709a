/-
  DERIVED. Plain: which names a program has: in which order they are looked at, and what is wrong first.
-/
import Derived.Test.YtjkgkigfmcegoaaRl
namespace Go.Proofs.Ytjkgkigfmcegoaa
open Go.RowKit

def sNames (l : List Sr) : List ByteArray := l.map (·.name)
def structsGo : List ByteArray → List Sr → Int × Int
  | _, [] => (0, 0)
  | hv, s :: r => if 8 ≤ hv.length then (s.pos, 11) else if isIn hv s.name = true then (s.pos, 7) else structsGo (hv ++ [s.name]) r
/-- All fields, with the number of their struct. -/
def pairsFrom : Nat → List Sr → List (Nat × Dc)
  | _, [] => []
  | o, s :: r => s.fields.l.map (fun f => (o, f)) ++ pairsFrom (o + 1) r
def memb (x : Nat × Dc) : Int × ByteArray := ((x.1 : Int), x.2.name)
def fieldsGo (sn : List ByteArray) : List (Nat × Dc) → List (Nat × Dc) → Int × Int
  | _, [] => (0, 0)
  | hv, x :: r => if 8 ≤ hv.length then (x.2.pos, 11) else if isIn (hv.map memb) (memb x) = true then (x.2.pos, 7) else if x.2.type.toList.isEmpty = true then (x.2.pos, 9) else if isIn sn x.2.type = true then fieldsGo sn (hv ++ [x]) r else (x.2.pos, 8)
def tyOk (sn : List ByteArray) (t : ByteArray) : Bool := t.toList.isEmpty || isIn sn t
def declsGo (sn : List ByteArray) : List ByteArray → List Dc → Int × Int
  | _, [] => (0, 0)
  | hv, d :: r => if 16 ≤ hv.length then (d.pos, 11) else if isIn hv d.name = true then (d.pos, 7) else if tyOk sn d.type = true then declsGo sn (hv ++ [d.name]) r else (d.pos, 8)
def frameOf (q : Pc) : List Dc := q.params.l ++ q.locals_.l
def procsGo (sn : List ByteArray) : List ByteArray → List Pc → Int × Int
  | _, [] => (0, 0)
  | hv, q :: r => if 16 ≤ hv.length then (q.pos, 11) else if isIn hv q.name = true then (q.pos, 7) else if (declsGo sn [] (frameOf q)).2 = 0 then procsGo sn (hv ++ [q.name]) r else declsGo sn [] (frameOf q)
def buildGo (p : Pg) : Int × Int :=
  if (structsGo [] p.structs.l).2 = 0 then
    if (fieldsGo (sNames p.structs.l) [] (pairsFrom 0 p.structs.l)).2 = 0 then
      if (declsGo (sNames p.structs.l) [] p.globals.l).2 = 0 then procsGo (sNames p.structs.l) [] p.procs.l
      else declsGo (sNames p.structs.l) [] p.globals.l
    else fieldsGo (sNames p.structs.l) [] (pairsFrom 0 p.structs.l)
  else structsGo [] p.structs.l

/-- What a type's name means: a struct's number, or -1. -/
def kindOf (sn : List ByteArray) (t : ByteArray) : Int := if t.toList.isEmpty = true then -1 else numOf sn t
/-- Globals: what they are, and their number among their like. -/
def varsGo (sn : List ByteArray) : Int → Int → List Dc → List (Int × Int)
  | _, _, [] => []
  | np, ni, d :: r => (kindOf sn d.type, if kindOf sn d.type = -1 then ni else np) :: (if kindOf sn d.type = -1 then varsGo sn np (ni + 1) r else varsGo sn (np + 1) ni r)
def endsOf (sn : List ByteArray) (l : List (Nat × Dc)) : List (Int × Int) := l.map fun x => ((x.1 : Int), numOf sn x.2.type)
def pcells (l : List (Int × Int)) : List Value := l.flatMap fun x => [.int .i64 x.1, .int .i64 x.2]

theorem eqName (a b : ByteArray) : (a.toList == b.toList) = decide (a = b) := by
  rw [Bool.eq_iff_iff]
  simp only [beq_iff_eq, decide_eq_true_eq, ByteArray.toList_eq]
  exact ⟨name_ext, fun h => by rw [h]⟩
end Go.Proofs.Ytjkgkigfmcegoaa
