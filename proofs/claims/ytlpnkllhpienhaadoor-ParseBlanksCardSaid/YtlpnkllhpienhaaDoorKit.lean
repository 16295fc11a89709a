/-
  DERIVED. Plain: what lies in memory, cell by cell; rows of one's own.
-/
import Derived.Test.YtlpnkllhpienhaaDoorOpenD
import Derived.WalkLawsBesides
namespace Go.Proofs.YtlpnkllhpienhaaDoor
open Go.RowKit Go.Sort

theorem enters {F : FuncId} {fn : Func} {c : Code} (hf : Tryd.prog.funcs[F]? = some fn) (hname : (fn.name == "runtime.NumGoroutine") = false) (hb : fn.body = some c) : ∀ args w, (callFunc F args).run Tryd.prog w = .ok (.enter F args) w := by
  intro args w
  have h1 : fn.name ≠ "runtime.NumGoroutine" := by simpa using hname
  simp [callFunc, hf, h1, hb, mark]
theorem cell_at {w : World} {b q : Nat} {cs : List Value} (h : w.rangeAt b q cs) (j : Nat) (v : Value) (hv : cs[j]? = some v) : w.cell? ⟨b, q + j, none⟩ = some v := h j v hv
theorem below_drewN_ {B : Nat} {a w : World} (h : Below B a w) (n : Nat) : Below B a (w.drewN n) := ⟨h.os, h.tape, h.output, h.size, h.block⟩
def triv {α : Type} (_ : World) (_ : α) : Prop := True
theorem triv_below {α : Type} {w w' : World} {x : α} (_ : triv w x) (_ : Below w.heap.size w w') : triv w' x := trivial
def srLies (w : World) (x : Sr) : Prop := declsLie w x.fields
theorem srLies_below {w w' : World} {x : Sr} (h : srLies w x) (hb : Below w.heap.size w w') : srLies w' x := declsLie_below h hb


end Go.Proofs.YtlpnkllhpienhaaDoor
