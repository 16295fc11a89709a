/-
  DERIVED. A graph in memory; the walks of within, isPoint.
-/
import Derived.Test.YtnkimfbdcghgpaaDoorXa
namespace Go.Proofs.YtnkimfbdcghgpaaDoor
open Go.RowKit Go.Sort

/-- A graph; of its heads and fields it is of weight how many they are. -/
structure Gh where
  pts : Int
  start : Int
  end_ : Int
  endAt : Int
  ep : Option Addr
  es : List Ed
  ec : Nat
  hp : Option Addr
  hn : Nat
  hc : Nat
  vars : Int
  ints : Int
  strs : Int
  fp : Option Addr
  fn : Nat
  fc : Nat
def Gh.cs (g : Gh) : Array Value := #[.int .i64 g.pts, .int .i64 g.start, .int .i64 g.end_, .int .i64 g.endAt, .slice g.ep g.es.length g.ec, .slice g.hp g.hn g.hc, .int .i64 g.vars, .int .i64 g.ints, .int .i64 g.strs, .slice g.fp g.fn g.fc]
theorem Gh.one (g : Gh) : g.cs.all (·.oneCell') = true := by simp [Gh.cs, Value.oneCell']
theorem size26 : (Tryd.prog.info? 26).map (·.size) = some 10 := by kernel_rfl
/-- A graph's value out of its box, where the operation has a guard. -/
theorem wpList_load_bk_g {P : Program} {ops : Array Oper} {rest : List Oper} {op : Oper} {a : Act} {w : World} {Q : Exit → Act → World → Prop} (ty : TypeId) (x : Operand) (hw : Region.wanted op (yielded ops a.tmps) = true) (ho : op.op = .load ty x)
    (C : Nat) (t : TypeId) (cs : Array Value) (hx : a.eval x = .pointer (some ⟨C, 0, none⟩)) (d : TypeDesc) (hk : Bk w C t cs)
    (hu : P.underlying ty = some d) (hd : d.isRow = true) (hi : (P.info? ty).map (·.size) = some cs.size)
    (h : wpList P ops Q rest (a.put op.dst (.agg cs)) w) : wpList P ops Q (op :: rest) a w :=
  wpList_load_arr_g ty x hw ho C 0 hx cs d hk.range hu hd hi h
set_option maxHeartbeats 800000 in
theorem within_yes (n lo hi : Int) (h1 : lo ≤ n) (h2 : n ≤ hi) (w : World) : Calls Tryd.prog 27 #[.int .i64 n, .int .i64 lo, .int .i64 hi] w fun e w' => e = .returned (.bool true) ∧ Below w.heap.size w w' := by
  go_enter Tryd.func27, Tryd.ntmps27
  go_wp2_with fail
  go_ret
  exact ⟨rfl, Below.refl _ _⟩
set_option maxHeartbeats 800000 in
theorem within_no (n lo hi : Int) (h : n < lo ∨ hi < n) (w : World) : Calls Tryd.prog 27 #[.int .i64 n, .int .i64 lo, .int .i64 hi] w fun e w' => e = .returned (.bool false) ∧ Below w.heap.size w w' := by
  by_cases h1 : lo ≤ n
  · have h2 : ¬ n ≤ hi := by omega
    clear h
    go_enter Tryd.func27, Tryd.ntmps27
    go_wp2_with fail
    go_ret
    exact ⟨rfl, Below.refl _ _⟩
  · clear h
    go_enter Tryd.func27, Tryd.ntmps27
    go_wp2_with fail
    go_ret
    exact ⟨rfl, Below.refl _ _⟩
/-- Is it a point? -/
def isPt (n at_ : Int) : Bool := decide (0 ≤ at_) && decide (at_ < n)
theorem isPt_iff {n at_ : Int} : isPt n at_ = true ↔ 0 ≤ at_ ∧ at_ < n := by unfold isPt; simp
set_option maxHeartbeats 800000 in
theorem isPoint_any (g : Gh) (at_ : Int) (w : World) : Calls Tryd.prog 28 #[.agg g.cs, .int .i64 at_] w fun e w' => e = .returned (.bool (isPt g.pts at_)) ∧ Below w.heap.size w w' := by
  have HK : Hid (Bk (w.alloc (.cells g.cs 26)) w.heap.size 26 g.cs) := Lib.hid (heap_alloc_new _ _)
  have HB : Hid (Below w.heap.size w (w.alloc (.cells g.cs 26))) := Lib.hid ((Below.refl _ _).alloc (Nat.le_refl _) _)
  have c0 : (w.alloc (.cells g.cs 26)).cell? ⟨w.heap.size, 0, none⟩ = some (.int .i64 g.pts) := HK.out.cell 0
  by_cases h1 : 0 ≤ at_
  · by_cases h2 : at_ < g.pts
    · have HR : Hid (isPt g.pts at_ = true) := Lib.hid (isPt_iff.2 ⟨h1, h2⟩)
      generalize g.pts = n at *
      go_enter Tryd.func28, Tryd.ntmps28
      go_upto_region 1 with fail
      generalize w.alloc (.cells g.cs 26) = wA at *
      go_wp2_with fail
      go_ret
      exact ⟨lret_bool HR.out.symm, HB.out⟩
    · have HR : Hid (isPt g.pts at_ = false) := Lib.hid (by rw [Bool.eq_false_iff, Ne, isPt_iff]; omega)
      generalize g.pts = n at *
      go_enter Tryd.func28, Tryd.ntmps28
      go_upto_region 1 with fail
      generalize w.alloc (.cells g.cs 26) = wA at *
      go_wp2_with fail
      go_ret
      exact ⟨lret_bool HR.out.symm, HB.out⟩
  · have HR : Hid (isPt g.pts at_ = false) := Lib.hid (by rw [Bool.eq_false_iff, Ne, isPt_iff]; omega)
    generalize g.pts = n at *
    go_enter Tryd.func28, Tryd.ntmps28
    go_upto_region 1 with fail
    generalize w.alloc (.cells g.cs 26) = wA at *
    go_wp2_with fail
    go_ret
    exact ⟨lret_bool HR.out.symm, HB.out⟩
end Go.Proofs.YtnkimfbdcghgpaaDoor
