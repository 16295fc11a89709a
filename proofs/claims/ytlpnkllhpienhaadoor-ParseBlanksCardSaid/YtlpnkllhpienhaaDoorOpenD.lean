/-
  DERIVED. How what is handed in reads: programs and statements as trees that lie in memory.
-/
import Derived.Test.YtlpnkllhpienhaaDoorDt
namespace Go.Proofs.YtlpnkllhpienhaaDoor
open Go.RowKit Go.Sort

def declsLie (w : World) (s : Sl Dc) : Prop := slLies w 3 40 Dc.cells (fun _ => True) s
def srsLie (w : World) (s : Sl Sr) : Prop := slLies w 3 48 Sr.cells (fun x => declsLie w x.fields) s
def pcLies (w : World) (x : Pc) : Prop := declsLie w x.params ∧ declsLie w x.locals_ ∧ sLies w x.bp x.body
def pcsLie (w : World) (s : Sl Pc) : Prop := slLies w 6 104 Pc.cells (pcLies w) s
def pgLies (w : World) (p : Pg) : Prop := srsLie w p.structs ∧ declsLie w p.globals ∧ pcsLie w p.procs
theorem declsLie_below {w w' : World} {s : Sl Dc} (h : declsLie w s) (hb : Below w.heap.size w w') : declsLie w' s := slLies_below h hb (fun _ h => h)
theorem srsLie_below {w w' : World} {s : Sl Sr} (h : srsLie w s) (hb : Below w.heap.size w w') : srsLie w' s := slLies_below h hb (fun _ h => declsLie_below h hb)
theorem pcLies_below {w w' : World} {x : Pc} (h : pcLies w x) (hb : Below w.heap.size w w') : pcLies w' x := ⟨declsLie_below h.1 hb, declsLie_below h.2.1 hb, sLies_below h.2.2 hb⟩
theorem pcsLie_below {w w' : World} {s : Sl Pc} (h : pcsLie w s) (hb : Below w.heap.size w w') : pcsLie w' s := slLies_below h hb (fun _ h => pcLies_below h hb)
theorem pgLies_below {w w' : World} {p : Pg} (h : pgLies w p) (hb : Below w.heap.size w w') : pgLies w' p := ⟨srsLie_below h.1 hb, declsLie_below h.2.1 hb, pcsLie_below h.2.2 hb⟩


end Go.Proofs.YtlpnkllhpienhaaDoor
