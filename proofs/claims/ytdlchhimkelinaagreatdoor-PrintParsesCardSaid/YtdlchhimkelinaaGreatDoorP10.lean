/-
  The walks of 'are they the same': the document's, of statements.
-/
import Derived.Test.YtdlchhimkelinaaGreatDoorP09
set_option maxHeartbeats 6400000
set_option maxRecDepth 100000
namespace Go.Proofs.YtdlchhimkelinaaGreatDoor
open Go.RowKit Go.Sort
def sameItF (x y : It) : Bool := (x.h.kind == y.h.kind) && ((x.h.name.toList == y.h.name.toList) && ((x.h.both == y.h.both) && (samePth x.h.place y.h.place && (sameVl x.h.value y.h.value && (sameCd x.h.cond y.h.cond && (sameL sameVl x.h.args.l y.h.args.l && (sameSL x.t y.t && (sameSL x.e y.e))))))))
theorem sameIt_flat (x y : It) : sameIt x y = sameItF x y := by
 unfold sameIt sameHd sameItF
 simp only [Bool.and_assoc]
def okRL (l : SL) : Prop := ∀ (m : SL) (p1 : Option Addr) (c1 : Nat) (p2 : Option Addr) (c2 : Nat) (w : World), sLies w p1 l → sLies w p2 m →
 Calls Tryz.prog 28 #[.slice p1 l.len c1, .slice p2 m.len c2] w fun en w' => en = .returned (.bool (sameSL l m)) ∧ Below w.heap.size w w'
theorem range_blockS {w : World} {b : Nat} {cs : List Value} {t : TypeId} {fr : Nat × Nat} (hb : w.heap[b]? = some (.cells cs.toArray t fr)) : w.rangeAt b 0 cs := fun j v hv => by
 rw [cell_of_row w b (0 + j) _ t fr hb]; simpa using hv
theorem refStmt_any (x y : It) (hT : okRL x.t) (hE : okRL x.e) (cx cy : Array Value) (hcx : cx = x.cells.toArray) (hcy : cy = y.cells.toArray) (w : World) (rx : itLies w x) (ry : itLies w y) :
  Calls Tryz.prog 55 #[.agg cx, .agg cy] w fun en w' => en = .returned (.bool (sameIt x y)) ∧ Below w.heap.size w w' := by
 have ha : Below w.heap.size w ((w.alloc (.cells cx 54)).alloc (.cells cy 54)) := ((Below.refl _ _).alloc (Nat.le_refl _) _).alloc (by simp) _
 have r1 : ((w.alloc (.cells cx 54)).alloc (.cells cy 54)).rangeAt w.heap.size 0 x.cells := range_blockS (by rw [← hcx]; exact heap_alloc2_old w _ _)
 have r2 : ((w.alloc (.cells cx 54)).alloc (.cells cy 54)).rangeAt (w.heap.size + 1) 0 y.cells := range_blockS (by rw [← hcy]; exact heap_alloc2_new w _ _)
 have Dzb1 : ∀ w', Below ((w.alloc (.cells cx 54)).alloc (.cells cy 54)).heap.size ((w.alloc (.cells cx 54)).alloc (.cells cy 54)) w' → Calls Tryz.prog 97 #[.agg #[.string x.h.place.name, .int .i64 x.h.place.pos, .slice x.h.place.hops.p x.h.place.hops.l.length x.h.place.hops.cap], .agg #[.string y.h.place.name, .int .i64 y.h.place.pos, .slice y.h.place.hops.p y.h.place.hops.l.length y.h.place.hops.cap]] w' fun en w'' => en = .returned (.bool (samePth x.h.place y.h.place)) ∧ Below w'.heap.size w' w'' := fun w' hb =>
  have hb' := ha.trans (hb.mono ha.size)
  refPath_any _ _ w' (pthLies_of (hdLies_below rx.1 hb').1) (pthLies_of (hdLies_below ry.1 hb').1)
 have Dzb2 : ∀ w', Below ((w.alloc (.cells cx 54)).alloc (.cells cy 54)).heap.size ((w.alloc (.cells cx 54)).alloc (.cells cy 54)) w' → Calls Tryz.prog 96 #[.agg #[.int .i64 x.h.value.kind, .int .i64 x.h.value.pos, .string x.h.value.path.name, .int .i64 x.h.value.path.pos, .slice x.h.value.path.hops.p x.h.value.path.hops.l.length x.h.value.path.hops.cap, .string x.h.value.type, .string x.h.value.left.name, .int .i64 x.h.value.left.n, .int .i64 x.h.value.left.pos, .string x.h.value.right.name, .int .i64 x.h.value.right.n, .int .i64 x.h.value.right.pos], .agg #[.int .i64 y.h.value.kind, .int .i64 y.h.value.pos, .string y.h.value.path.name, .int .i64 y.h.value.path.pos, .slice y.h.value.path.hops.p y.h.value.path.hops.l.length y.h.value.path.hops.cap, .string y.h.value.type, .string y.h.value.left.name, .int .i64 y.h.value.left.n, .int .i64 y.h.value.left.pos, .string y.h.value.right.name, .int .i64 y.h.value.right.n, .int .i64 y.h.value.right.pos]] w' fun en w'' => en = .returned (.bool (sameVl x.h.value y.h.value)) ∧ Below w'.heap.size w' w'' := fun w' hb =>
  have hb' := ha.trans (hb.mono ha.size)
  refValue_any _ _ w' (hdLies_below rx.1 hb').2.1 (hdLies_below ry.1 hb').2.1
 have Dzb3 : ∀ w', Below ((w.alloc (.cells cx 54)).alloc (.cells cy 54)).heap.size ((w.alloc (.cells cx 54)).alloc (.cells cy 54)) w' → Calls Tryz.prog 96 #[.agg #[.int .i64 x.h.cond.left.kind, .int .i64 x.h.cond.left.pos, .string x.h.cond.left.path.name, .int .i64 x.h.cond.left.path.pos, .slice x.h.cond.left.path.hops.p x.h.cond.left.path.hops.l.length x.h.cond.left.path.hops.cap, .string x.h.cond.left.type, .string x.h.cond.left.left.name, .int .i64 x.h.cond.left.left.n, .int .i64 x.h.cond.left.left.pos, .string x.h.cond.left.right.name, .int .i64 x.h.cond.left.right.n, .int .i64 x.h.cond.left.right.pos], .agg #[.int .i64 y.h.cond.left.kind, .int .i64 y.h.cond.left.pos, .string y.h.cond.left.path.name, .int .i64 y.h.cond.left.path.pos, .slice y.h.cond.left.path.hops.p y.h.cond.left.path.hops.l.length y.h.cond.left.path.hops.cap, .string y.h.cond.left.type, .string y.h.cond.left.left.name, .int .i64 y.h.cond.left.left.n, .int .i64 y.h.cond.left.left.pos, .string y.h.cond.left.right.name, .int .i64 y.h.cond.left.right.n, .int .i64 y.h.cond.left.right.pos]] w' fun en w'' => en = .returned (.bool (sameVl x.h.cond.left y.h.cond.left)) ∧ Below w'.heap.size w' w'' := fun w' hb =>
  have hb' := ha.trans (hb.mono ha.size)
  refValue_any _ _ w' (hdLies_below rx.1 hb').2.2.1 (hdLies_below ry.1 hb').2.2.1
 have Dzb4 : ∀ w', Below ((w.alloc (.cells cx 54)).alloc (.cells cy 54)).heap.size ((w.alloc (.cells cx 54)).alloc (.cells cy 54)) w' → Calls Tryz.prog 96 #[.agg #[.int .i64 x.h.cond.right.kind, .int .i64 x.h.cond.right.pos, .string x.h.cond.right.path.name, .int .i64 x.h.cond.right.path.pos, .slice x.h.cond.right.path.hops.p x.h.cond.right.path.hops.l.length x.h.cond.right.path.hops.cap, .string x.h.cond.right.type, .string x.h.cond.right.left.name, .int .i64 x.h.cond.right.left.n, .int .i64 x.h.cond.right.left.pos, .string x.h.cond.right.right.name, .int .i64 x.h.cond.right.right.n, .int .i64 x.h.cond.right.right.pos], .agg #[.int .i64 y.h.cond.right.kind, .int .i64 y.h.cond.right.pos, .string y.h.cond.right.path.name, .int .i64 y.h.cond.right.path.pos, .slice y.h.cond.right.path.hops.p y.h.cond.right.path.hops.l.length y.h.cond.right.path.hops.cap, .string y.h.cond.right.type, .string y.h.cond.right.left.name, .int .i64 y.h.cond.right.left.n, .int .i64 y.h.cond.right.left.pos, .string y.h.cond.right.right.name, .int .i64 y.h.cond.right.right.n, .int .i64 y.h.cond.right.right.pos]] w' fun en w'' => en = .returned (.bool (sameVl x.h.cond.right y.h.cond.right)) ∧ Below w'.heap.size w' w'' := fun w' hb =>
  have hb' := ha.trans (hb.mono ha.size)
  refValue_any _ _ w' (hdLies_below rx.1 hb').2.2.2.1 (hdLies_below ry.1 hb').2.2.2.1
 have Dzb5 : ∀ w', Below ((w.alloc (.cells cx 54)).alloc (.cells cy 54)).heap.size ((w.alloc (.cells cx 54)).alloc (.cells cy 54)) w' → Calls Tryz.prog 28 #[.slice x.tp x.t.len x.tc, .slice y.tp y.t.len y.tc] w' fun en w'' => en = .returned (.bool (sameSL x.t y.t)) ∧ Below w'.heap.size w' w'' := fun w' hb =>
  have hb' := ha.trans (hb.mono ha.size)
  hT y.t _ _ _ _ w' (sLies_below rx.2.1 hb') (sLies_below ry.2.1 hb')
 have Dzb6 : ∀ w', Below ((w.alloc (.cells cx 54)).alloc (.cells cy 54)).heap.size ((w.alloc (.cells cx 54)).alloc (.cells cy 54)) w' → Calls Tryz.prog 28 #[.slice x.ep x.e.len x.ec, .slice y.ep y.e.len y.ec] w' fun en w'' => en = .returned (.bool (sameSL x.e y.e)) ∧ Below w'.heap.size w' w'' := fun w' hb =>
  have hb' := ha.trans (hb.mono ha.size)
  hE y.e _ _ _ _ w' (sLies_below rx.2.2 hb') (sLies_below ry.2.2 hb')
 have Rs1x : ∀ w', Below ((w.alloc (.cells cx 54)).alloc (.cells cy 54)).heap.size ((w.alloc (.cells cx 54)).alloc (.cells cy 54)) w' → w'.rangeAt (w.heap.size) 2 (#[.string x.h.place.name, .int .i64 x.h.place.pos, .slice x.h.place.hops.p x.h.place.hops.l.length x.h.place.hops.cap] : Array Value).toList := fun w' hb => rangeAt_below (by have := rangeAt_sub r1 2 3 rfl; rwa [Nat.zero_add] at this) hb
 have Rs1y : ∀ w', Below ((w.alloc (.cells cx 54)).alloc (.cells cy 54)).heap.size ((w.alloc (.cells cx 54)).alloc (.cells cy 54)) w' → w'.rangeAt (w.heap.size + 1) 2 (#[.string y.h.place.name, .int .i64 y.h.place.pos, .slice y.h.place.hops.p y.h.place.hops.l.length y.h.place.hops.cap] : Array Value).toList := fun w' hb => rangeAt_below (by have := rangeAt_sub r2 2 3 rfl; rwa [Nat.zero_add] at this) hb
 have Rs2x : ∀ w', Below ((w.alloc (.cells cx 54)).alloc (.cells cy 54)).heap.size ((w.alloc (.cells cx 54)).alloc (.cells cy 54)) w' → w'.rangeAt (w.heap.size) 5 (#[.int .i64 x.h.value.kind, .int .i64 x.h.value.pos, .string x.h.value.path.name, .int .i64 x.h.value.path.pos, .slice x.h.value.path.hops.p x.h.value.path.hops.l.length x.h.value.path.hops.cap, .string x.h.value.type, .string x.h.value.left.name, .int .i64 x.h.value.left.n, .int .i64 x.h.value.left.pos, .string x.h.value.right.name, .int .i64 x.h.value.right.n, .int .i64 x.h.value.right.pos] : Array Value).toList := fun w' hb => rangeAt_below (by have := rangeAt_sub r1 5 12 rfl; rwa [Nat.zero_add] at this) hb
 have Rs2y : ∀ w', Below ((w.alloc (.cells cx 54)).alloc (.cells cy 54)).heap.size ((w.alloc (.cells cx 54)).alloc (.cells cy 54)) w' → w'.rangeAt (w.heap.size + 1) 5 (#[.int .i64 y.h.value.kind, .int .i64 y.h.value.pos, .string y.h.value.path.name, .int .i64 y.h.value.path.pos, .slice y.h.value.path.hops.p y.h.value.path.hops.l.length y.h.value.path.hops.cap, .string y.h.value.type, .string y.h.value.left.name, .int .i64 y.h.value.left.n, .int .i64 y.h.value.left.pos, .string y.h.value.right.name, .int .i64 y.h.value.right.n, .int .i64 y.h.value.right.pos] : Array Value).toList := fun w' hb => rangeAt_below (by have := rangeAt_sub r2 5 12 rfl; rwa [Nat.zero_add] at this) hb
 have Rs3x : ∀ w', Below ((w.alloc (.cells cx 54)).alloc (.cells cy 54)).heap.size ((w.alloc (.cells cx 54)).alloc (.cells cy 54)) w' → w'.rangeAt (w.heap.size) 19 (#[.int .i64 x.h.cond.left.kind, .int .i64 x.h.cond.left.pos, .string x.h.cond.left.path.name, .int .i64 x.h.cond.left.path.pos, .slice x.h.cond.left.path.hops.p x.h.cond.left.path.hops.l.length x.h.cond.left.path.hops.cap, .string x.h.cond.left.type, .string x.h.cond.left.left.name, .int .i64 x.h.cond.left.left.n, .int .i64 x.h.cond.left.left.pos, .string x.h.cond.left.right.name, .int .i64 x.h.cond.left.right.n, .int .i64 x.h.cond.left.right.pos] : Array Value).toList := fun w' hb => rangeAt_below (by have := rangeAt_sub r1 19 12 rfl; rwa [Nat.zero_add] at this) hb
 have Rs3y : ∀ w', Below ((w.alloc (.cells cx 54)).alloc (.cells cy 54)).heap.size ((w.alloc (.cells cx 54)).alloc (.cells cy 54)) w' → w'.rangeAt (w.heap.size + 1) 19 (#[.int .i64 y.h.cond.left.kind, .int .i64 y.h.cond.left.pos, .string y.h.cond.left.path.name, .int .i64 y.h.cond.left.path.pos, .slice y.h.cond.left.path.hops.p y.h.cond.left.path.hops.l.length y.h.cond.left.path.hops.cap, .string y.h.cond.left.type, .string y.h.cond.left.left.name, .int .i64 y.h.cond.left.left.n, .int .i64 y.h.cond.left.left.pos, .string y.h.cond.left.right.name, .int .i64 y.h.cond.left.right.n, .int .i64 y.h.cond.left.right.pos] : Array Value).toList := fun w' hb => rangeAt_below (by have := rangeAt_sub r2 19 12 rfl; rwa [Nat.zero_add] at this) hb
 have Rs4x : ∀ w', Below ((w.alloc (.cells cx 54)).alloc (.cells cy 54)).heap.size ((w.alloc (.cells cx 54)).alloc (.cells cy 54)) w' → w'.rangeAt (w.heap.size) 31 (#[.int .i64 x.h.cond.right.kind, .int .i64 x.h.cond.right.pos, .string x.h.cond.right.path.name, .int .i64 x.h.cond.right.path.pos, .slice x.h.cond.right.path.hops.p x.h.cond.right.path.hops.l.length x.h.cond.right.path.hops.cap, .string x.h.cond.right.type, .string x.h.cond.right.left.name, .int .i64 x.h.cond.right.left.n, .int .i64 x.h.cond.right.left.pos, .string x.h.cond.right.right.name, .int .i64 x.h.cond.right.right.n, .int .i64 x.h.cond.right.right.pos] : Array Value).toList := fun w' hb => rangeAt_below (by have := rangeAt_sub r1 31 12 rfl; rwa [Nat.zero_add] at this) hb
 have Rs4y : ∀ w', Below ((w.alloc (.cells cx 54)).alloc (.cells cy 54)).heap.size ((w.alloc (.cells cx 54)).alloc (.cells cy 54)) w' → w'.rangeAt (w.heap.size + 1) 31 (#[.int .i64 y.h.cond.right.kind, .int .i64 y.h.cond.right.pos, .string y.h.cond.right.path.name, .int .i64 y.h.cond.right.path.pos, .slice y.h.cond.right.path.hops.p y.h.cond.right.path.hops.l.length y.h.cond.right.path.hops.cap, .string y.h.cond.right.type, .string y.h.cond.right.left.name, .int .i64 y.h.cond.right.left.n, .int .i64 y.h.cond.right.left.pos, .string y.h.cond.right.right.name, .int .i64 y.h.cond.right.right.n, .int .i64 y.h.cond.right.right.pos] : Array Value).toList := fun w' hb => rangeAt_below (by have := rangeAt_sub r2 31 12 rfl; rwa [Nat.zero_add] at this) hb
 have x0 := cell_at r1 0 _ rfl
 have y0 := cell_at r2 0 _ rfl
 rw [Nat.zero_add] at x0 y0
 have x43 := cell_at r1 43 _ rfl
 have y43 := cell_at r2 43 _ rfl
 rw [Nat.zero_add] at x43 y43
 have x47 := cell_at r1 47 _ rfl
 have y47 := cell_at r2 47 _ rfl
 rw [Nat.zero_add] at x47 y47
 have x44 := cell_at r1 44 _ rfl
 have y44 := cell_at r2 44 _ rfl
 rw [Nat.zero_add] at x44 y44
 have x17 := cell_at r1 17 _ rfl
 have y17 := cell_at r2 17 _ rfl
 rw [Nat.zero_add] at x17 y17
 have x45 := cell_at r1 45 _ rfl
 have y45 := cell_at r2 45 _ rfl
 rw [Nat.zero_add] at x45 y45
 have x46 := cell_at r1 46 _ rfl
 have y46 := cell_at r2 46 _ rfl
 rw [Nat.zero_add] at x46 y46
 have K44 : ∀ w', Below ((w.alloc (.cells cx 54)).alloc (.cells cy 54)).heap.size ((w.alloc (.cells cx 54)).alloc (.cells cy 54)) w' → w'.cell? ⟨w.heap.size, 44, none⟩ = ((w.alloc (.cells cx 54)).alloc (.cells cy 54)).cell? ⟨w.heap.size, 44, none⟩ ∧ w'.cell? ⟨w.heap.size + 1, 44, none⟩ = ((w.alloc (.cells cx 54)).alloc (.cells cy 54)).cell? ⟨w.heap.size + 1, 44, none⟩ := fun w' hb =>
  ⟨hb.cell (World.block_lt_of_cell? _ _ x44), hb.cell (World.block_lt_of_cell? _ _ y44)⟩
 rw [x44, y44] at K44
 have K45 : ∀ w', Below ((w.alloc (.cells cx 54)).alloc (.cells cy 54)).heap.size ((w.alloc (.cells cx 54)).alloc (.cells cy 54)) w' → w'.cell? ⟨w.heap.size, 45, none⟩ = ((w.alloc (.cells cx 54)).alloc (.cells cy 54)).cell? ⟨w.heap.size, 45, none⟩ ∧ w'.cell? ⟨w.heap.size + 1, 45, none⟩ = ((w.alloc (.cells cx 54)).alloc (.cells cy 54)).cell? ⟨w.heap.size + 1, 45, none⟩ := fun w' hb =>
  ⟨hb.cell (World.block_lt_of_cell? _ _ x45), hb.cell (World.block_lt_of_cell? _ _ y45)⟩
 rw [x45, y45] at K45
 have K46 : ∀ w', Below ((w.alloc (.cells cx 54)).alloc (.cells cy 54)).heap.size ((w.alloc (.cells cx 54)).alloc (.cells cy 54)) w' → w'.cell? ⟨w.heap.size, 46, none⟩ = ((w.alloc (.cells cx 54)).alloc (.cells cy 54)).cell? ⟨w.heap.size, 46, none⟩ ∧ w'.cell? ⟨w.heap.size + 1, 46, none⟩ = ((w.alloc (.cells cx 54)).alloc (.cells cy 54)).cell? ⟨w.heap.size + 1, 46, none⟩ := fun w' hb =>
  ⟨hb.cell (World.block_lt_of_cell? _ _ x46), hb.cell (World.block_lt_of_cell? _ _ y46)⟩
 rw [x46, y46] at K46
 have h1 : Lay 12 Vl.cells vlLies w x.h.args.p x.h.args.l := Lay.of_sl rx.1.2.2.2.2.1 (by decide)
 have h2 : Lay 12 Vl.cells vlLies w y.h.args.p y.h.args.l := Lay.of_sl ry.1.2.2.2.2.1 (by decide)
 obtain ⟨hl1, h1⟩ := h1
 obtain ⟨hl2, h2⟩ := h2
 have hfl : sameIt x y = ((x.h.kind == y.h.kind) && ((x.h.name.toList == y.h.name.toList) && ((x.h.both == y.h.both) && (samePth x.h.place y.h.place && (sameVl x.h.value y.h.value && (((x.h.cond.kind == y.h.cond.kind) && (sameVl x.h.cond.left y.h.cond.left && sameVl x.h.cond.right y.h.cond.right)) && (sameL sameVl x.h.args.l y.h.args.l && (sameSL x.t y.t && sameSL x.e y.e)))))))) := sameIt_flat x y
 rw [hfl]
 clear hfl r1 r2 rx ry hT hE hcx hcy
 generalize samePth x.h.place y.h.place = zb1 at Dzb1 ⊢
 have HDzb1 := hdn Dzb1
 generalize sameVl x.h.value y.h.value = zb2 at Dzb2 ⊢
 have HDzb2 := hdn Dzb2
 generalize sameVl x.h.cond.left y.h.cond.left = zb3 at Dzb3 ⊢
 have HDzb3 := hdn Dzb3
 generalize sameVl x.h.cond.right y.h.cond.right = zb4 at Dzb4 ⊢
 have HDzb4 := hdn Dzb4
 generalize sameSL x.t y.t = zb5 at Dzb5 ⊢
 have HDzb5 := hdn Dzb5
 generalize sameSL x.e y.e = zb6 at Dzb6 ⊢
 have HDzb6 := hdn Dzb6
 have HRs1x := hdn Rs1x
 have HRs1y := hdn Rs1y
 have HRs2x := hdn Rs2x
 have HRs2y := hdn Rs2y
 have HRs3x := hdn Rs3x
 have HRs3y := hdn Rs3y
 have HRs4x := hdn Rs4x
 have HRs4y := hdn Rs4y
 have HK44 := hdn K44
 have HK45 := hdn K45
 have HK46 := hdn K46
 clear Dzb1 Dzb2 Dzb3 Dzb4 Dzb5 Dzb6 Rs1x Rs1y Rs2x Rs2y Rs3x Rs3y Rs4x Rs4y K44 K45 K46 x45 x46 y45 y46
 have HA := hdn ha
 have H1 := hdn h1
 have H2 := hdn h2
 clear ha h1 h2
 generalize x.h.args.l = l at *
 generalize y.h.args.l = m at *
 generalize x.h.args.p = p1 at *
 generalize y.h.args.p = p2 at *
 generalize x.h.args.cap = c1 at *
 generalize y.h.args.cap = c2 at *
 generalize e0 : (x.h.kind == y.h.kind) = v0
 have f0 : (x.h.kind != y.h.kind) = !v0 := by rw [← e0]; rfl
 generalize e1 : (x.h.name.toList == y.h.name.toList) = v1
 have f1 : (x.h.name.toList != y.h.name.toList) = !v1 := by rw [← e1]; rfl
 generalize e2 : (x.h.both == y.h.both) = v2
 have f2 : (x.h.both != y.h.both) = !v2 := by rw [← e2]; rfl
 generalize e4 : (x.h.cond.kind == y.h.cond.kind) = v4
 have f4 : (x.h.cond.kind != y.h.cond.kind) = !v4 := by rw [← e4]; rfl
 cases v0
 ·go_enter Tryz.func55, Tryz.ntmps55
  go_wp2_with fail
  go_ret
  exact ⟨ret_bool (by simp), HA.out⟩
 ·cases v1
  ·go_enter Tryz.func55, Tryz.ntmps55
   go_wp2_with fail
   go_ret
   exact ⟨ret_bool (by simp), HA.out⟩
  ·cases v2
   ·go_enter Tryz.func55, Tryz.ntmps55
    go_wp2_with fail
    go_ret
    exact ⟨ret_bool (by simp), HA.out⟩
   ·by_cases he : l.length = m.length
    ·have heq : ((l.length : Int) != (m.length : Int)) = false := by rw [he]; simp
     have HE := hdn he
     clear he
     cases v4
     ·go_enter Tryz.func55, Tryz.ntmps55
      go_wp2_with fail
      go_ret
      exact ⟨ret_bool (by simp), HA.out⟩
     ·go_enter Tryz.func55, Tryz.ntmps55
      go_wp2_with fail
      clear heq
      generalize ((w.alloc (.cells cx 54)).alloc (.cells cy 54)) = wA at HA HDzb1 HDzb2 HDzb3 HDzb4 HDzb5 HDzb6 HRs1x HRs1y HRs2x HRs2y HRs3x HRs3y HRs4x HRs4y HK44 HK45 HK46 ⊢
      go_loopw [5] (fun i wr => ∃ k : Nat, i = .int .i64 k ∧ k ≤ l.length ∧ Hid (sameL sameVl (l.take k) (m.take k) = true) ∧ Hid (Below wA.heap.size wA wr)) (fun i _ => l.length - (intOf i).toNat)
      case atStart => exact ⟨0, rfl, Nat.zero_le _, hdn rfl, hdn (Below.refl _ _)⟩
      case round =>
       obtain ⟨k, rfl, hk, HT, HB⟩ := hrel
       have kk := HK44.out wr HB.out
       obtain ⟨kxa, kya⟩ := kk
       have HBW : Hid (Below w.heap.size w wr) := hdn (HA.out.trans (HB.out.mono HA.out.size))
       by_cases hkl0 : k < l.length
       ·have hkm : k < m.length := by have := HE.out; omega
        have hkl := hkm
        obtain ⟨b2, o2, rfl, h2x⟩ : ∃ b o, p2 = some ⟨b, o, none⟩ ∧ ∀ k x, m[k]? = some x → w.rangeAt b (o + k * 12) (Vl.cells x) ∧ vlLies w x := by
         rcases H2.out with h | h
         ·rw [h] at hkl; simp at hkl
         ·exact h
        clear hkl
        have hkl := hkl0
        obtain ⟨b1, o1, rfl, h1x⟩ : ∃ b o, p1 = some ⟨b, o, none⟩ ∧ ∀ k x, l[k]? = some x → w.rangeAt b (o + k * 12) (Vl.cells x) ∧ vlLies w x := by
         rcases H1.out with h | h
         ·rw [h] at hkl; simp at hkl
         ·exact h
        have hx1 := h1x k l[k] (List.getElem?_eq_getElem hkl)
        have hy1 := h2x k m[k] (List.getElem?_eq_getElem hkm)
        have hst := sameL_step (f := sameVl) k hkl hkm
        have hat := sameL_at (f := sameVl) k hkl hkm
        have hk0 : (0 : Int) ≤ (k : Int) := Int.natCast_nonneg _
        have hk1 : (k : Int) < (l.length : Int) := by omega
        have hk2 : (k : Int) < (m.length : Int) := by omega
        generalize l[k] = xk at hx1 hst hat
        generalize m[k] = yk at hy1 hst hat
        have lx0 := cell_regrown (cell_at (rangeAt_below hx1.1 HBW.out) 0 _ rfl)
        have ly0 := cell_regrown (cell_at (rangeAt_below hy1.1 HBW.out) 0 _ rfl)
        have lx1 := cell_regrown (cell_at (rangeAt_below hx1.1 HBW.out) 1 _ rfl)
        have ly1 := cell_regrown (cell_at (rangeAt_below hy1.1 HBW.out) 1 _ rfl)
        have lx2 := cell_regrown (cell_at (rangeAt_below hx1.1 HBW.out) 2 _ rfl)
        have ly2 := cell_regrown (cell_at (rangeAt_below hy1.1 HBW.out) 2 _ rfl)
        have lx3 := cell_regrown (cell_at (rangeAt_below hx1.1 HBW.out) 3 _ rfl)
        have ly3 := cell_regrown (cell_at (rangeAt_below hy1.1 HBW.out) 3 _ rfl)
        have lx4 := cell_regrown (cell_at (rangeAt_below hx1.1 HBW.out) 4 _ rfl)
        have ly4 := cell_regrown (cell_at (rangeAt_below hy1.1 HBW.out) 4 _ rfl)
        have lx5 := cell_regrown (cell_at (rangeAt_below hx1.1 HBW.out) 5 _ rfl)
        have ly5 := cell_regrown (cell_at (rangeAt_below hy1.1 HBW.out) 5 _ rfl)
        have lx6 := cell_regrown (cell_at (rangeAt_below hx1.1 HBW.out) 6 _ rfl)
        have ly6 := cell_regrown (cell_at (rangeAt_below hy1.1 HBW.out) 6 _ rfl)
        have lx7 := cell_regrown (cell_at (rangeAt_below hx1.1 HBW.out) 7 _ rfl)
        have ly7 := cell_regrown (cell_at (rangeAt_below hy1.1 HBW.out) 7 _ rfl)
        have lx8 := cell_regrown (cell_at (rangeAt_below hx1.1 HBW.out) 8 _ rfl)
        have ly8 := cell_regrown (cell_at (rangeAt_below hy1.1 HBW.out) 8 _ rfl)
        have lx9 := cell_regrown (cell_at (rangeAt_below hx1.1 HBW.out) 9 _ rfl)
        have ly9 := cell_regrown (cell_at (rangeAt_below hy1.1 HBW.out) 9 _ rfl)
        have lx10 := cell_regrown (cell_at (rangeAt_below hx1.1 HBW.out) 10 _ rfl)
        have ly10 := cell_regrown (cell_at (rangeAt_below hy1.1 HBW.out) 10 _ rfl)
        have lx11 := cell_regrown (cell_at (rangeAt_below hx1.1 HBW.out) 11 _ rfl)
        have ly11 := cell_regrown (cell_at (rangeAt_below hy1.1 HBW.out) 11 _ rfl)
        simp only [Nat.add_zero] at lx0 ly0
        have CV : ∀ dd os, Calls Tryz.prog 96 #[.agg #[.int .i64 xk.kind, .int .i64 xk.pos, .string xk.path.name, .int .i64 xk.path.pos, .slice xk.path.hops.p xk.path.hops.l.length xk.path.hops.cap, .string xk.type, .string xk.left.name, .int .i64 xk.left.n, .int .i64 xk.left.pos, .string xk.right.name, .int .i64 xk.right.n, .int .i64 xk.right.pos], .agg #[.int .i64 yk.kind, .int .i64 yk.pos, .string yk.path.name, .int .i64 yk.path.pos, .slice yk.path.hops.p yk.path.hops.l.length yk.path.hops.cap, .string yk.type, .string yk.left.name, .int .i64 yk.left.n, .int .i64 yk.left.pos, .string yk.right.name, .int .i64 yk.right.n, .int .i64 yk.right.pos]] (grow (redrawn wr dd) os) fun en w'' => en = .returned (.bool (sameVl xk yk)) ∧ ∃ p : Regrown, w'' = grow (redrawn wr p.d) p.os :=
         fun dd os => Calls.regrown_of (refValue_any xk yk _ (vlLies_below (vlLies_below hx1.2 HBW.out) (below_regrown _ _ _)) (vlLies_below (vlLies_below hy1.2 HBW.out) (below_regrown _ _ _)))
        have qx := cell_regrown kxa
        have qy := cell_regrown kya
        generalize sameVl xk yk = vk at hst hat CV
        have HST := hdn hst
        have HAT := hdn hat
        clear h1x h2x hst hat hkl0 hx1 hy1
        cases vk
        ·go_wp2_with fail
         refine wp_region_quiet_below (by kernel_rfl) (by kernel_rfl) ?_
         repeat (go_big_quiet_step (with_reducible exact CV _ _))
         refine wpQuiet_nil ?_
         intro _ hw'
         obtain ⟨⟨dq, osq⟩, hw''⟩ := hw'
         subst hw''
         have HB3 := hdn (below_regrown wr dq osq)
         generalize grow (redrawn wr dq) osq = w3 at HB3 ⊢
         go_wp2_with fail
         go_ret
         exact ⟨ret_bool (by rw [HAT.out (by first | rfl | trivial)]; simp), HBW.out.trans (HB3.out.mono HBW.out.size)⟩
        ·go_wp2_with fail
         refine wp_region_quiet_below (by kernel_rfl) (by kernel_rfl) ?_
         repeat (go_big_quiet_step (with_reducible exact CV _ _))
         refine wpQuiet_nil ?_
         intro _ hw'
         obtain ⟨⟨dq, osq⟩, hw''⟩ := hw'
         subst hw''
         have HB3 := hdn (below_regrown wr dq osq)
         generalize grow (redrawn wr dq) osq = w3 at HB3 ⊢
         go_wp2_with fail
         go_roundw
         case rel => exact ⟨k + 1, by go_num, by omega, hdn (by rw [HST.out, HT.out]; rfl), hdn (HB.out.trans (HB3.out.mono HB.out.size))⟩
         case measure => simp [intOf]; omega
       ·have HF : Hid (sameL sameVl l m = true) := hdn (by
         have := HT.out
         rwa [List.take_of_length_le (by omega), List.take_of_length_le (by have := HE.out; omega)] at this)
        cases zb1
        ·have gx0_0 : wr.cell? ⟨w.heap.size, 2, none⟩ = some (.string x.h.place.name) := cell_at (HRs1x.out _ HB.out) 0 _ rfl
         have gy0_0 : wr.cell? ⟨w.heap.size + 1, 2, none⟩ = some (.string y.h.place.name) := cell_at (HRs1y.out _ HB.out) 0 _ rfl
         have gx0_1 : wr.cell? ⟨w.heap.size, 3, none⟩ = some (.int .i64 x.h.place.pos) := cell_at (HRs1x.out _ HB.out) 1 _ rfl
         have gy0_1 : wr.cell? ⟨w.heap.size + 1, 3, none⟩ = some (.int .i64 y.h.place.pos) := cell_at (HRs1y.out _ HB.out) 1 _ rfl
         have gx0_2 : wr.cell? ⟨w.heap.size, 4, none⟩ = some (.slice x.h.place.hops.p x.h.place.hops.l.length x.h.place.hops.cap) := cell_at (HRs1x.out _ HB.out) 2 _ rfl
         have gy0_2 : wr.cell? ⟨w.heap.size + 1, 4, none⟩ = some (.slice y.h.place.hops.p y.h.place.hops.l.length y.h.place.hops.cap) := cell_at (HRs1y.out _ HB.out) 2 _ rfl
         go_wp2_with fail
         refine (HDzb1.out _ HB.out).mono ?_; rintro en w0 ⟨rfl, hb0⟩
         have HW0 : Hid (Below wA.heap.size wA w0) := hdn (HB.out.trans (hb0.mono HB.out.size))
         clear hb0
         go_wp2_with fail
         go_ret
         exact ⟨ret_bool (by rw [HF.out]; simp), HA.out.trans (HW0.out.mono HA.out.size)⟩
        ·cases zb2
         ·have gx0_0 : wr.cell? ⟨w.heap.size, 2, none⟩ = some (.string x.h.place.name) := cell_at (HRs1x.out _ HB.out) 0 _ rfl
          have gy0_0 : wr.cell? ⟨w.heap.size + 1, 2, none⟩ = some (.string y.h.place.name) := cell_at (HRs1y.out _ HB.out) 0 _ rfl
          have gx0_1 : wr.cell? ⟨w.heap.size, 3, none⟩ = some (.int .i64 x.h.place.pos) := cell_at (HRs1x.out _ HB.out) 1 _ rfl
          have gy0_1 : wr.cell? ⟨w.heap.size + 1, 3, none⟩ = some (.int .i64 y.h.place.pos) := cell_at (HRs1y.out _ HB.out) 1 _ rfl
          have gx0_2 : wr.cell? ⟨w.heap.size, 4, none⟩ = some (.slice x.h.place.hops.p x.h.place.hops.l.length x.h.place.hops.cap) := cell_at (HRs1x.out _ HB.out) 2 _ rfl
          have gy0_2 : wr.cell? ⟨w.heap.size + 1, 4, none⟩ = some (.slice y.h.place.hops.p y.h.place.hops.l.length y.h.place.hops.cap) := cell_at (HRs1y.out _ HB.out) 2 _ rfl
          go_wp2_with fail
          refine (HDzb1.out _ HB.out).mono ?_; rintro en w0 ⟨rfl, hb0⟩
          have HW0 : Hid (Below wA.heap.size wA w0) := hdn (HB.out.trans (hb0.mono HB.out.size))
          clear hb0
          have gx1_0 : w0.cell? ⟨w.heap.size, 5, none⟩ = some (.int .i64 x.h.value.kind) := cell_at (HRs2x.out _ HW0.out) 0 _ rfl
          have gy1_0 : w0.cell? ⟨w.heap.size + 1, 5, none⟩ = some (.int .i64 y.h.value.kind) := cell_at (HRs2y.out _ HW0.out) 0 _ rfl
          have gx1_1 : w0.cell? ⟨w.heap.size, 6, none⟩ = some (.int .i64 x.h.value.pos) := cell_at (HRs2x.out _ HW0.out) 1 _ rfl
          have gy1_1 : w0.cell? ⟨w.heap.size + 1, 6, none⟩ = some (.int .i64 y.h.value.pos) := cell_at (HRs2y.out _ HW0.out) 1 _ rfl
          have gx1_2 : w0.cell? ⟨w.heap.size, 7, none⟩ = some (.string x.h.value.path.name) := cell_at (HRs2x.out _ HW0.out) 2 _ rfl
          have gy1_2 : w0.cell? ⟨w.heap.size + 1, 7, none⟩ = some (.string y.h.value.path.name) := cell_at (HRs2y.out _ HW0.out) 2 _ rfl
          have gx1_3 : w0.cell? ⟨w.heap.size, 8, none⟩ = some (.int .i64 x.h.value.path.pos) := cell_at (HRs2x.out _ HW0.out) 3 _ rfl
          have gy1_3 : w0.cell? ⟨w.heap.size + 1, 8, none⟩ = some (.int .i64 y.h.value.path.pos) := cell_at (HRs2y.out _ HW0.out) 3 _ rfl
          have gx1_4 : w0.cell? ⟨w.heap.size, 9, none⟩ = some (.slice x.h.value.path.hops.p x.h.value.path.hops.l.length x.h.value.path.hops.cap) := cell_at (HRs2x.out _ HW0.out) 4 _ rfl
          have gy1_4 : w0.cell? ⟨w.heap.size + 1, 9, none⟩ = some (.slice y.h.value.path.hops.p y.h.value.path.hops.l.length y.h.value.path.hops.cap) := cell_at (HRs2y.out _ HW0.out) 4 _ rfl
          have gx1_5 : w0.cell? ⟨w.heap.size, 10, none⟩ = some (.string x.h.value.type) := cell_at (HRs2x.out _ HW0.out) 5 _ rfl
          have gy1_5 : w0.cell? ⟨w.heap.size + 1, 10, none⟩ = some (.string y.h.value.type) := cell_at (HRs2y.out _ HW0.out) 5 _ rfl
          have gx1_6 : w0.cell? ⟨w.heap.size, 11, none⟩ = some (.string x.h.value.left.name) := cell_at (HRs2x.out _ HW0.out) 6 _ rfl
          have gy1_6 : w0.cell? ⟨w.heap.size + 1, 11, none⟩ = some (.string y.h.value.left.name) := cell_at (HRs2y.out _ HW0.out) 6 _ rfl
          have gx1_7 : w0.cell? ⟨w.heap.size, 12, none⟩ = some (.int .i64 x.h.value.left.n) := cell_at (HRs2x.out _ HW0.out) 7 _ rfl
          have gy1_7 : w0.cell? ⟨w.heap.size + 1, 12, none⟩ = some (.int .i64 y.h.value.left.n) := cell_at (HRs2y.out _ HW0.out) 7 _ rfl
          have gx1_8 : w0.cell? ⟨w.heap.size, 13, none⟩ = some (.int .i64 x.h.value.left.pos) := cell_at (HRs2x.out _ HW0.out) 8 _ rfl
          have gy1_8 : w0.cell? ⟨w.heap.size + 1, 13, none⟩ = some (.int .i64 y.h.value.left.pos) := cell_at (HRs2y.out _ HW0.out) 8 _ rfl
          have gx1_9 : w0.cell? ⟨w.heap.size, 14, none⟩ = some (.string x.h.value.right.name) := cell_at (HRs2x.out _ HW0.out) 9 _ rfl
          have gy1_9 : w0.cell? ⟨w.heap.size + 1, 14, none⟩ = some (.string y.h.value.right.name) := cell_at (HRs2y.out _ HW0.out) 9 _ rfl
          have gx1_10 : w0.cell? ⟨w.heap.size, 15, none⟩ = some (.int .i64 x.h.value.right.n) := cell_at (HRs2x.out _ HW0.out) 10 _ rfl
          have gy1_10 : w0.cell? ⟨w.heap.size + 1, 15, none⟩ = some (.int .i64 y.h.value.right.n) := cell_at (HRs2y.out _ HW0.out) 10 _ rfl
          have gx1_11 : w0.cell? ⟨w.heap.size, 16, none⟩ = some (.int .i64 x.h.value.right.pos) := cell_at (HRs2x.out _ HW0.out) 11 _ rfl
          have gy1_11 : w0.cell? ⟨w.heap.size + 1, 16, none⟩ = some (.int .i64 y.h.value.right.pos) := cell_at (HRs2y.out _ HW0.out) 11 _ rfl
          go_wp2_with fail
          refine (HDzb2.out _ HW0.out).mono ?_; rintro en w1 ⟨rfl, hb1⟩
          have HW1 : Hid (Below wA.heap.size wA w1) := hdn (HW0.out.trans (hb1.mono HW0.out.size))
          clear hb1
          go_wp2_with fail
          go_ret
          exact ⟨ret_bool (by rw [HF.out]; simp), HA.out.trans (HW1.out.mono HA.out.size)⟩
         ·cases zb3
          ·have gx0_0 : wr.cell? ⟨w.heap.size, 2, none⟩ = some (.string x.h.place.name) := cell_at (HRs1x.out _ HB.out) 0 _ rfl
           have gy0_0 : wr.cell? ⟨w.heap.size + 1, 2, none⟩ = some (.string y.h.place.name) := cell_at (HRs1y.out _ HB.out) 0 _ rfl
           have gx0_1 : wr.cell? ⟨w.heap.size, 3, none⟩ = some (.int .i64 x.h.place.pos) := cell_at (HRs1x.out _ HB.out) 1 _ rfl
           have gy0_1 : wr.cell? ⟨w.heap.size + 1, 3, none⟩ = some (.int .i64 y.h.place.pos) := cell_at (HRs1y.out _ HB.out) 1 _ rfl
           have gx0_2 : wr.cell? ⟨w.heap.size, 4, none⟩ = some (.slice x.h.place.hops.p x.h.place.hops.l.length x.h.place.hops.cap) := cell_at (HRs1x.out _ HB.out) 2 _ rfl
           have gy0_2 : wr.cell? ⟨w.heap.size + 1, 4, none⟩ = some (.slice y.h.place.hops.p y.h.place.hops.l.length y.h.place.hops.cap) := cell_at (HRs1y.out _ HB.out) 2 _ rfl
           go_wp2_with fail
           refine (HDzb1.out _ HB.out).mono ?_; rintro en w0 ⟨rfl, hb0⟩
           have HW0 : Hid (Below wA.heap.size wA w0) := hdn (HB.out.trans (hb0.mono HB.out.size))
           clear hb0
           have gx1_0 : w0.cell? ⟨w.heap.size, 5, none⟩ = some (.int .i64 x.h.value.kind) := cell_at (HRs2x.out _ HW0.out) 0 _ rfl
           have gy1_0 : w0.cell? ⟨w.heap.size + 1, 5, none⟩ = some (.int .i64 y.h.value.kind) := cell_at (HRs2y.out _ HW0.out) 0 _ rfl
           have gx1_1 : w0.cell? ⟨w.heap.size, 6, none⟩ = some (.int .i64 x.h.value.pos) := cell_at (HRs2x.out _ HW0.out) 1 _ rfl
           have gy1_1 : w0.cell? ⟨w.heap.size + 1, 6, none⟩ = some (.int .i64 y.h.value.pos) := cell_at (HRs2y.out _ HW0.out) 1 _ rfl
           have gx1_2 : w0.cell? ⟨w.heap.size, 7, none⟩ = some (.string x.h.value.path.name) := cell_at (HRs2x.out _ HW0.out) 2 _ rfl
           have gy1_2 : w0.cell? ⟨w.heap.size + 1, 7, none⟩ = some (.string y.h.value.path.name) := cell_at (HRs2y.out _ HW0.out) 2 _ rfl
           have gx1_3 : w0.cell? ⟨w.heap.size, 8, none⟩ = some (.int .i64 x.h.value.path.pos) := cell_at (HRs2x.out _ HW0.out) 3 _ rfl
           have gy1_3 : w0.cell? ⟨w.heap.size + 1, 8, none⟩ = some (.int .i64 y.h.value.path.pos) := cell_at (HRs2y.out _ HW0.out) 3 _ rfl
           have gx1_4 : w0.cell? ⟨w.heap.size, 9, none⟩ = some (.slice x.h.value.path.hops.p x.h.value.path.hops.l.length x.h.value.path.hops.cap) := cell_at (HRs2x.out _ HW0.out) 4 _ rfl
           have gy1_4 : w0.cell? ⟨w.heap.size + 1, 9, none⟩ = some (.slice y.h.value.path.hops.p y.h.value.path.hops.l.length y.h.value.path.hops.cap) := cell_at (HRs2y.out _ HW0.out) 4 _ rfl
           have gx1_5 : w0.cell? ⟨w.heap.size, 10, none⟩ = some (.string x.h.value.type) := cell_at (HRs2x.out _ HW0.out) 5 _ rfl
           have gy1_5 : w0.cell? ⟨w.heap.size + 1, 10, none⟩ = some (.string y.h.value.type) := cell_at (HRs2y.out _ HW0.out) 5 _ rfl
           have gx1_6 : w0.cell? ⟨w.heap.size, 11, none⟩ = some (.string x.h.value.left.name) := cell_at (HRs2x.out _ HW0.out) 6 _ rfl
           have gy1_6 : w0.cell? ⟨w.heap.size + 1, 11, none⟩ = some (.string y.h.value.left.name) := cell_at (HRs2y.out _ HW0.out) 6 _ rfl
           have gx1_7 : w0.cell? ⟨w.heap.size, 12, none⟩ = some (.int .i64 x.h.value.left.n) := cell_at (HRs2x.out _ HW0.out) 7 _ rfl
           have gy1_7 : w0.cell? ⟨w.heap.size + 1, 12, none⟩ = some (.int .i64 y.h.value.left.n) := cell_at (HRs2y.out _ HW0.out) 7 _ rfl
           have gx1_8 : w0.cell? ⟨w.heap.size, 13, none⟩ = some (.int .i64 x.h.value.left.pos) := cell_at (HRs2x.out _ HW0.out) 8 _ rfl
           have gy1_8 : w0.cell? ⟨w.heap.size + 1, 13, none⟩ = some (.int .i64 y.h.value.left.pos) := cell_at (HRs2y.out _ HW0.out) 8 _ rfl
           have gx1_9 : w0.cell? ⟨w.heap.size, 14, none⟩ = some (.string x.h.value.right.name) := cell_at (HRs2x.out _ HW0.out) 9 _ rfl
           have gy1_9 : w0.cell? ⟨w.heap.size + 1, 14, none⟩ = some (.string y.h.value.right.name) := cell_at (HRs2y.out _ HW0.out) 9 _ rfl
           have gx1_10 : w0.cell? ⟨w.heap.size, 15, none⟩ = some (.int .i64 x.h.value.right.n) := cell_at (HRs2x.out _ HW0.out) 10 _ rfl
           have gy1_10 : w0.cell? ⟨w.heap.size + 1, 15, none⟩ = some (.int .i64 y.h.value.right.n) := cell_at (HRs2y.out _ HW0.out) 10 _ rfl
           have gx1_11 : w0.cell? ⟨w.heap.size, 16, none⟩ = some (.int .i64 x.h.value.right.pos) := cell_at (HRs2x.out _ HW0.out) 11 _ rfl
           have gy1_11 : w0.cell? ⟨w.heap.size + 1, 16, none⟩ = some (.int .i64 y.h.value.right.pos) := cell_at (HRs2y.out _ HW0.out) 11 _ rfl
           go_wp2_with fail
           refine (HDzb2.out _ HW0.out).mono ?_; rintro en w1 ⟨rfl, hb1⟩
           have HW1 : Hid (Below wA.heap.size wA w1) := hdn (HW0.out.trans (hb1.mono HW0.out.size))
           clear hb1
           have gx2_0 : w1.cell? ⟨w.heap.size, 19, none⟩ = some (.int .i64 x.h.cond.left.kind) := cell_at (HRs3x.out _ HW1.out) 0 _ rfl
           have gy2_0 : w1.cell? ⟨w.heap.size + 1, 19, none⟩ = some (.int .i64 y.h.cond.left.kind) := cell_at (HRs3y.out _ HW1.out) 0 _ rfl
           have gx2_1 : w1.cell? ⟨w.heap.size, 20, none⟩ = some (.int .i64 x.h.cond.left.pos) := cell_at (HRs3x.out _ HW1.out) 1 _ rfl
           have gy2_1 : w1.cell? ⟨w.heap.size + 1, 20, none⟩ = some (.int .i64 y.h.cond.left.pos) := cell_at (HRs3y.out _ HW1.out) 1 _ rfl
           have gx2_2 : w1.cell? ⟨w.heap.size, 21, none⟩ = some (.string x.h.cond.left.path.name) := cell_at (HRs3x.out _ HW1.out) 2 _ rfl
           have gy2_2 : w1.cell? ⟨w.heap.size + 1, 21, none⟩ = some (.string y.h.cond.left.path.name) := cell_at (HRs3y.out _ HW1.out) 2 _ rfl
           have gx2_3 : w1.cell? ⟨w.heap.size, 22, none⟩ = some (.int .i64 x.h.cond.left.path.pos) := cell_at (HRs3x.out _ HW1.out) 3 _ rfl
           have gy2_3 : w1.cell? ⟨w.heap.size + 1, 22, none⟩ = some (.int .i64 y.h.cond.left.path.pos) := cell_at (HRs3y.out _ HW1.out) 3 _ rfl
           have gx2_4 : w1.cell? ⟨w.heap.size, 23, none⟩ = some (.slice x.h.cond.left.path.hops.p x.h.cond.left.path.hops.l.length x.h.cond.left.path.hops.cap) := cell_at (HRs3x.out _ HW1.out) 4 _ rfl
           have gy2_4 : w1.cell? ⟨w.heap.size + 1, 23, none⟩ = some (.slice y.h.cond.left.path.hops.p y.h.cond.left.path.hops.l.length y.h.cond.left.path.hops.cap) := cell_at (HRs3y.out _ HW1.out) 4 _ rfl
           have gx2_5 : w1.cell? ⟨w.heap.size, 24, none⟩ = some (.string x.h.cond.left.type) := cell_at (HRs3x.out _ HW1.out) 5 _ rfl
           have gy2_5 : w1.cell? ⟨w.heap.size + 1, 24, none⟩ = some (.string y.h.cond.left.type) := cell_at (HRs3y.out _ HW1.out) 5 _ rfl
           have gx2_6 : w1.cell? ⟨w.heap.size, 25, none⟩ = some (.string x.h.cond.left.left.name) := cell_at (HRs3x.out _ HW1.out) 6 _ rfl
           have gy2_6 : w1.cell? ⟨w.heap.size + 1, 25, none⟩ = some (.string y.h.cond.left.left.name) := cell_at (HRs3y.out _ HW1.out) 6 _ rfl
           have gx2_7 : w1.cell? ⟨w.heap.size, 26, none⟩ = some (.int .i64 x.h.cond.left.left.n) := cell_at (HRs3x.out _ HW1.out) 7 _ rfl
           have gy2_7 : w1.cell? ⟨w.heap.size + 1, 26, none⟩ = some (.int .i64 y.h.cond.left.left.n) := cell_at (HRs3y.out _ HW1.out) 7 _ rfl
           have gx2_8 : w1.cell? ⟨w.heap.size, 27, none⟩ = some (.int .i64 x.h.cond.left.left.pos) := cell_at (HRs3x.out _ HW1.out) 8 _ rfl
           have gy2_8 : w1.cell? ⟨w.heap.size + 1, 27, none⟩ = some (.int .i64 y.h.cond.left.left.pos) := cell_at (HRs3y.out _ HW1.out) 8 _ rfl
           have gx2_9 : w1.cell? ⟨w.heap.size, 28, none⟩ = some (.string x.h.cond.left.right.name) := cell_at (HRs3x.out _ HW1.out) 9 _ rfl
           have gy2_9 : w1.cell? ⟨w.heap.size + 1, 28, none⟩ = some (.string y.h.cond.left.right.name) := cell_at (HRs3y.out _ HW1.out) 9 _ rfl
           have gx2_10 : w1.cell? ⟨w.heap.size, 29, none⟩ = some (.int .i64 x.h.cond.left.right.n) := cell_at (HRs3x.out _ HW1.out) 10 _ rfl
           have gy2_10 : w1.cell? ⟨w.heap.size + 1, 29, none⟩ = some (.int .i64 y.h.cond.left.right.n) := cell_at (HRs3y.out _ HW1.out) 10 _ rfl
           have gx2_11 : w1.cell? ⟨w.heap.size, 30, none⟩ = some (.int .i64 x.h.cond.left.right.pos) := cell_at (HRs3x.out _ HW1.out) 11 _ rfl
           have gy2_11 : w1.cell? ⟨w.heap.size + 1, 30, none⟩ = some (.int .i64 y.h.cond.left.right.pos) := cell_at (HRs3y.out _ HW1.out) 11 _ rfl
           go_wp2_with fail
           refine (HDzb3.out _ HW1.out).mono ?_; rintro en w2 ⟨rfl, hb2⟩
           have HW2 : Hid (Below wA.heap.size wA w2) := hdn (HW1.out.trans (hb2.mono HW1.out.size))
           clear hb2
           go_wp2_with fail
           go_ret
           exact ⟨ret_bool (by rw [HF.out]; simp), HA.out.trans (HW2.out.mono HA.out.size)⟩
          ·cases zb4
           ·have gx0_0 : wr.cell? ⟨w.heap.size, 2, none⟩ = some (.string x.h.place.name) := cell_at (HRs1x.out _ HB.out) 0 _ rfl
            have gy0_0 : wr.cell? ⟨w.heap.size + 1, 2, none⟩ = some (.string y.h.place.name) := cell_at (HRs1y.out _ HB.out) 0 _ rfl
            have gx0_1 : wr.cell? ⟨w.heap.size, 3, none⟩ = some (.int .i64 x.h.place.pos) := cell_at (HRs1x.out _ HB.out) 1 _ rfl
            have gy0_1 : wr.cell? ⟨w.heap.size + 1, 3, none⟩ = some (.int .i64 y.h.place.pos) := cell_at (HRs1y.out _ HB.out) 1 _ rfl
            have gx0_2 : wr.cell? ⟨w.heap.size, 4, none⟩ = some (.slice x.h.place.hops.p x.h.place.hops.l.length x.h.place.hops.cap) := cell_at (HRs1x.out _ HB.out) 2 _ rfl
            have gy0_2 : wr.cell? ⟨w.heap.size + 1, 4, none⟩ = some (.slice y.h.place.hops.p y.h.place.hops.l.length y.h.place.hops.cap) := cell_at (HRs1y.out _ HB.out) 2 _ rfl
            go_wp2_with fail
            refine (HDzb1.out _ HB.out).mono ?_; rintro en w0 ⟨rfl, hb0⟩
            have HW0 : Hid (Below wA.heap.size wA w0) := hdn (HB.out.trans (hb0.mono HB.out.size))
            clear hb0
            have gx1_0 : w0.cell? ⟨w.heap.size, 5, none⟩ = some (.int .i64 x.h.value.kind) := cell_at (HRs2x.out _ HW0.out) 0 _ rfl
            have gy1_0 : w0.cell? ⟨w.heap.size + 1, 5, none⟩ = some (.int .i64 y.h.value.kind) := cell_at (HRs2y.out _ HW0.out) 0 _ rfl
            have gx1_1 : w0.cell? ⟨w.heap.size, 6, none⟩ = some (.int .i64 x.h.value.pos) := cell_at (HRs2x.out _ HW0.out) 1 _ rfl
            have gy1_1 : w0.cell? ⟨w.heap.size + 1, 6, none⟩ = some (.int .i64 y.h.value.pos) := cell_at (HRs2y.out _ HW0.out) 1 _ rfl
            have gx1_2 : w0.cell? ⟨w.heap.size, 7, none⟩ = some (.string x.h.value.path.name) := cell_at (HRs2x.out _ HW0.out) 2 _ rfl
            have gy1_2 : w0.cell? ⟨w.heap.size + 1, 7, none⟩ = some (.string y.h.value.path.name) := cell_at (HRs2y.out _ HW0.out) 2 _ rfl
            have gx1_3 : w0.cell? ⟨w.heap.size, 8, none⟩ = some (.int .i64 x.h.value.path.pos) := cell_at (HRs2x.out _ HW0.out) 3 _ rfl
            have gy1_3 : w0.cell? ⟨w.heap.size + 1, 8, none⟩ = some (.int .i64 y.h.value.path.pos) := cell_at (HRs2y.out _ HW0.out) 3 _ rfl
            have gx1_4 : w0.cell? ⟨w.heap.size, 9, none⟩ = some (.slice x.h.value.path.hops.p x.h.value.path.hops.l.length x.h.value.path.hops.cap) := cell_at (HRs2x.out _ HW0.out) 4 _ rfl
            have gy1_4 : w0.cell? ⟨w.heap.size + 1, 9, none⟩ = some (.slice y.h.value.path.hops.p y.h.value.path.hops.l.length y.h.value.path.hops.cap) := cell_at (HRs2y.out _ HW0.out) 4 _ rfl
            have gx1_5 : w0.cell? ⟨w.heap.size, 10, none⟩ = some (.string x.h.value.type) := cell_at (HRs2x.out _ HW0.out) 5 _ rfl
            have gy1_5 : w0.cell? ⟨w.heap.size + 1, 10, none⟩ = some (.string y.h.value.type) := cell_at (HRs2y.out _ HW0.out) 5 _ rfl
            have gx1_6 : w0.cell? ⟨w.heap.size, 11, none⟩ = some (.string x.h.value.left.name) := cell_at (HRs2x.out _ HW0.out) 6 _ rfl
            have gy1_6 : w0.cell? ⟨w.heap.size + 1, 11, none⟩ = some (.string y.h.value.left.name) := cell_at (HRs2y.out _ HW0.out) 6 _ rfl
            have gx1_7 : w0.cell? ⟨w.heap.size, 12, none⟩ = some (.int .i64 x.h.value.left.n) := cell_at (HRs2x.out _ HW0.out) 7 _ rfl
            have gy1_7 : w0.cell? ⟨w.heap.size + 1, 12, none⟩ = some (.int .i64 y.h.value.left.n) := cell_at (HRs2y.out _ HW0.out) 7 _ rfl
            have gx1_8 : w0.cell? ⟨w.heap.size, 13, none⟩ = some (.int .i64 x.h.value.left.pos) := cell_at (HRs2x.out _ HW0.out) 8 _ rfl
            have gy1_8 : w0.cell? ⟨w.heap.size + 1, 13, none⟩ = some (.int .i64 y.h.value.left.pos) := cell_at (HRs2y.out _ HW0.out) 8 _ rfl
            have gx1_9 : w0.cell? ⟨w.heap.size, 14, none⟩ = some (.string x.h.value.right.name) := cell_at (HRs2x.out _ HW0.out) 9 _ rfl
            have gy1_9 : w0.cell? ⟨w.heap.size + 1, 14, none⟩ = some (.string y.h.value.right.name) := cell_at (HRs2y.out _ HW0.out) 9 _ rfl
            have gx1_10 : w0.cell? ⟨w.heap.size, 15, none⟩ = some (.int .i64 x.h.value.right.n) := cell_at (HRs2x.out _ HW0.out) 10 _ rfl
            have gy1_10 : w0.cell? ⟨w.heap.size + 1, 15, none⟩ = some (.int .i64 y.h.value.right.n) := cell_at (HRs2y.out _ HW0.out) 10 _ rfl
            have gx1_11 : w0.cell? ⟨w.heap.size, 16, none⟩ = some (.int .i64 x.h.value.right.pos) := cell_at (HRs2x.out _ HW0.out) 11 _ rfl
            have gy1_11 : w0.cell? ⟨w.heap.size + 1, 16, none⟩ = some (.int .i64 y.h.value.right.pos) := cell_at (HRs2y.out _ HW0.out) 11 _ rfl
            go_wp2_with fail
            refine (HDzb2.out _ HW0.out).mono ?_; rintro en w1 ⟨rfl, hb1⟩
            have HW1 : Hid (Below wA.heap.size wA w1) := hdn (HW0.out.trans (hb1.mono HW0.out.size))
            clear hb1
            have gx2_0 : w1.cell? ⟨w.heap.size, 19, none⟩ = some (.int .i64 x.h.cond.left.kind) := cell_at (HRs3x.out _ HW1.out) 0 _ rfl
            have gy2_0 : w1.cell? ⟨w.heap.size + 1, 19, none⟩ = some (.int .i64 y.h.cond.left.kind) := cell_at (HRs3y.out _ HW1.out) 0 _ rfl
            have gx2_1 : w1.cell? ⟨w.heap.size, 20, none⟩ = some (.int .i64 x.h.cond.left.pos) := cell_at (HRs3x.out _ HW1.out) 1 _ rfl
            have gy2_1 : w1.cell? ⟨w.heap.size + 1, 20, none⟩ = some (.int .i64 y.h.cond.left.pos) := cell_at (HRs3y.out _ HW1.out) 1 _ rfl
            have gx2_2 : w1.cell? ⟨w.heap.size, 21, none⟩ = some (.string x.h.cond.left.path.name) := cell_at (HRs3x.out _ HW1.out) 2 _ rfl
            have gy2_2 : w1.cell? ⟨w.heap.size + 1, 21, none⟩ = some (.string y.h.cond.left.path.name) := cell_at (HRs3y.out _ HW1.out) 2 _ rfl
            have gx2_3 : w1.cell? ⟨w.heap.size, 22, none⟩ = some (.int .i64 x.h.cond.left.path.pos) := cell_at (HRs3x.out _ HW1.out) 3 _ rfl
            have gy2_3 : w1.cell? ⟨w.heap.size + 1, 22, none⟩ = some (.int .i64 y.h.cond.left.path.pos) := cell_at (HRs3y.out _ HW1.out) 3 _ rfl
            have gx2_4 : w1.cell? ⟨w.heap.size, 23, none⟩ = some (.slice x.h.cond.left.path.hops.p x.h.cond.left.path.hops.l.length x.h.cond.left.path.hops.cap) := cell_at (HRs3x.out _ HW1.out) 4 _ rfl
            have gy2_4 : w1.cell? ⟨w.heap.size + 1, 23, none⟩ = some (.slice y.h.cond.left.path.hops.p y.h.cond.left.path.hops.l.length y.h.cond.left.path.hops.cap) := cell_at (HRs3y.out _ HW1.out) 4 _ rfl
            have gx2_5 : w1.cell? ⟨w.heap.size, 24, none⟩ = some (.string x.h.cond.left.type) := cell_at (HRs3x.out _ HW1.out) 5 _ rfl
            have gy2_5 : w1.cell? ⟨w.heap.size + 1, 24, none⟩ = some (.string y.h.cond.left.type) := cell_at (HRs3y.out _ HW1.out) 5 _ rfl
            have gx2_6 : w1.cell? ⟨w.heap.size, 25, none⟩ = some (.string x.h.cond.left.left.name) := cell_at (HRs3x.out _ HW1.out) 6 _ rfl
            have gy2_6 : w1.cell? ⟨w.heap.size + 1, 25, none⟩ = some (.string y.h.cond.left.left.name) := cell_at (HRs3y.out _ HW1.out) 6 _ rfl
            have gx2_7 : w1.cell? ⟨w.heap.size, 26, none⟩ = some (.int .i64 x.h.cond.left.left.n) := cell_at (HRs3x.out _ HW1.out) 7 _ rfl
            have gy2_7 : w1.cell? ⟨w.heap.size + 1, 26, none⟩ = some (.int .i64 y.h.cond.left.left.n) := cell_at (HRs3y.out _ HW1.out) 7 _ rfl
            have gx2_8 : w1.cell? ⟨w.heap.size, 27, none⟩ = some (.int .i64 x.h.cond.left.left.pos) := cell_at (HRs3x.out _ HW1.out) 8 _ rfl
            have gy2_8 : w1.cell? ⟨w.heap.size + 1, 27, none⟩ = some (.int .i64 y.h.cond.left.left.pos) := cell_at (HRs3y.out _ HW1.out) 8 _ rfl
            have gx2_9 : w1.cell? ⟨w.heap.size, 28, none⟩ = some (.string x.h.cond.left.right.name) := cell_at (HRs3x.out _ HW1.out) 9 _ rfl
            have gy2_9 : w1.cell? ⟨w.heap.size + 1, 28, none⟩ = some (.string y.h.cond.left.right.name) := cell_at (HRs3y.out _ HW1.out) 9 _ rfl
            have gx2_10 : w1.cell? ⟨w.heap.size, 29, none⟩ = some (.int .i64 x.h.cond.left.right.n) := cell_at (HRs3x.out _ HW1.out) 10 _ rfl
            have gy2_10 : w1.cell? ⟨w.heap.size + 1, 29, none⟩ = some (.int .i64 y.h.cond.left.right.n) := cell_at (HRs3y.out _ HW1.out) 10 _ rfl
            have gx2_11 : w1.cell? ⟨w.heap.size, 30, none⟩ = some (.int .i64 x.h.cond.left.right.pos) := cell_at (HRs3x.out _ HW1.out) 11 _ rfl
            have gy2_11 : w1.cell? ⟨w.heap.size + 1, 30, none⟩ = some (.int .i64 y.h.cond.left.right.pos) := cell_at (HRs3y.out _ HW1.out) 11 _ rfl
            go_wp2_with fail
            refine (HDzb3.out _ HW1.out).mono ?_; rintro en w2 ⟨rfl, hb2⟩
            have HW2 : Hid (Below wA.heap.size wA w2) := hdn (HW1.out.trans (hb2.mono HW1.out.size))
            clear hb2
            have gx3_0 : w2.cell? ⟨w.heap.size, 31, none⟩ = some (.int .i64 x.h.cond.right.kind) := cell_at (HRs4x.out _ HW2.out) 0 _ rfl
            have gy3_0 : w2.cell? ⟨w.heap.size + 1, 31, none⟩ = some (.int .i64 y.h.cond.right.kind) := cell_at (HRs4y.out _ HW2.out) 0 _ rfl
            have gx3_1 : w2.cell? ⟨w.heap.size, 32, none⟩ = some (.int .i64 x.h.cond.right.pos) := cell_at (HRs4x.out _ HW2.out) 1 _ rfl
            have gy3_1 : w2.cell? ⟨w.heap.size + 1, 32, none⟩ = some (.int .i64 y.h.cond.right.pos) := cell_at (HRs4y.out _ HW2.out) 1 _ rfl
            have gx3_2 : w2.cell? ⟨w.heap.size, 33, none⟩ = some (.string x.h.cond.right.path.name) := cell_at (HRs4x.out _ HW2.out) 2 _ rfl
            have gy3_2 : w2.cell? ⟨w.heap.size + 1, 33, none⟩ = some (.string y.h.cond.right.path.name) := cell_at (HRs4y.out _ HW2.out) 2 _ rfl
            have gx3_3 : w2.cell? ⟨w.heap.size, 34, none⟩ = some (.int .i64 x.h.cond.right.path.pos) := cell_at (HRs4x.out _ HW2.out) 3 _ rfl
            have gy3_3 : w2.cell? ⟨w.heap.size + 1, 34, none⟩ = some (.int .i64 y.h.cond.right.path.pos) := cell_at (HRs4y.out _ HW2.out) 3 _ rfl
            have gx3_4 : w2.cell? ⟨w.heap.size, 35, none⟩ = some (.slice x.h.cond.right.path.hops.p x.h.cond.right.path.hops.l.length x.h.cond.right.path.hops.cap) := cell_at (HRs4x.out _ HW2.out) 4 _ rfl
            have gy3_4 : w2.cell? ⟨w.heap.size + 1, 35, none⟩ = some (.slice y.h.cond.right.path.hops.p y.h.cond.right.path.hops.l.length y.h.cond.right.path.hops.cap) := cell_at (HRs4y.out _ HW2.out) 4 _ rfl
            have gx3_5 : w2.cell? ⟨w.heap.size, 36, none⟩ = some (.string x.h.cond.right.type) := cell_at (HRs4x.out _ HW2.out) 5 _ rfl
            have gy3_5 : w2.cell? ⟨w.heap.size + 1, 36, none⟩ = some (.string y.h.cond.right.type) := cell_at (HRs4y.out _ HW2.out) 5 _ rfl
            have gx3_6 : w2.cell? ⟨w.heap.size, 37, none⟩ = some (.string x.h.cond.right.left.name) := cell_at (HRs4x.out _ HW2.out) 6 _ rfl
            have gy3_6 : w2.cell? ⟨w.heap.size + 1, 37, none⟩ = some (.string y.h.cond.right.left.name) := cell_at (HRs4y.out _ HW2.out) 6 _ rfl
            have gx3_7 : w2.cell? ⟨w.heap.size, 38, none⟩ = some (.int .i64 x.h.cond.right.left.n) := cell_at (HRs4x.out _ HW2.out) 7 _ rfl
            have gy3_7 : w2.cell? ⟨w.heap.size + 1, 38, none⟩ = some (.int .i64 y.h.cond.right.left.n) := cell_at (HRs4y.out _ HW2.out) 7 _ rfl
            have gx3_8 : w2.cell? ⟨w.heap.size, 39, none⟩ = some (.int .i64 x.h.cond.right.left.pos) := cell_at (HRs4x.out _ HW2.out) 8 _ rfl
            have gy3_8 : w2.cell? ⟨w.heap.size + 1, 39, none⟩ = some (.int .i64 y.h.cond.right.left.pos) := cell_at (HRs4y.out _ HW2.out) 8 _ rfl
            have gx3_9 : w2.cell? ⟨w.heap.size, 40, none⟩ = some (.string x.h.cond.right.right.name) := cell_at (HRs4x.out _ HW2.out) 9 _ rfl
            have gy3_9 : w2.cell? ⟨w.heap.size + 1, 40, none⟩ = some (.string y.h.cond.right.right.name) := cell_at (HRs4y.out _ HW2.out) 9 _ rfl
            have gx3_10 : w2.cell? ⟨w.heap.size, 41, none⟩ = some (.int .i64 x.h.cond.right.right.n) := cell_at (HRs4x.out _ HW2.out) 10 _ rfl
            have gy3_10 : w2.cell? ⟨w.heap.size + 1, 41, none⟩ = some (.int .i64 y.h.cond.right.right.n) := cell_at (HRs4y.out _ HW2.out) 10 _ rfl
            have gx3_11 : w2.cell? ⟨w.heap.size, 42, none⟩ = some (.int .i64 x.h.cond.right.right.pos) := cell_at (HRs4x.out _ HW2.out) 11 _ rfl
            have gy3_11 : w2.cell? ⟨w.heap.size + 1, 42, none⟩ = some (.int .i64 y.h.cond.right.right.pos) := cell_at (HRs4y.out _ HW2.out) 11 _ rfl
            go_wp2_with fail
            refine (HDzb4.out _ HW2.out).mono ?_; rintro en w3 ⟨rfl, hb3⟩
            have HW3 : Hid (Below wA.heap.size wA w3) := hdn (HW2.out.trans (hb3.mono HW2.out.size))
            clear hb3
            go_wp2_with fail
            go_ret
            exact ⟨ret_bool (by rw [HF.out]; simp), HA.out.trans (HW3.out.mono HA.out.size)⟩
           ·cases zb5
            ·have gx0_0 : wr.cell? ⟨w.heap.size, 2, none⟩ = some (.string x.h.place.name) := cell_at (HRs1x.out _ HB.out) 0 _ rfl
             have gy0_0 : wr.cell? ⟨w.heap.size + 1, 2, none⟩ = some (.string y.h.place.name) := cell_at (HRs1y.out _ HB.out) 0 _ rfl
             have gx0_1 : wr.cell? ⟨w.heap.size, 3, none⟩ = some (.int .i64 x.h.place.pos) := cell_at (HRs1x.out _ HB.out) 1 _ rfl
             have gy0_1 : wr.cell? ⟨w.heap.size + 1, 3, none⟩ = some (.int .i64 y.h.place.pos) := cell_at (HRs1y.out _ HB.out) 1 _ rfl
             have gx0_2 : wr.cell? ⟨w.heap.size, 4, none⟩ = some (.slice x.h.place.hops.p x.h.place.hops.l.length x.h.place.hops.cap) := cell_at (HRs1x.out _ HB.out) 2 _ rfl
             have gy0_2 : wr.cell? ⟨w.heap.size + 1, 4, none⟩ = some (.slice y.h.place.hops.p y.h.place.hops.l.length y.h.place.hops.cap) := cell_at (HRs1y.out _ HB.out) 2 _ rfl
             go_wp2_with fail
             refine (HDzb1.out _ HB.out).mono ?_; rintro en w0 ⟨rfl, hb0⟩
             have HW0 : Hid (Below wA.heap.size wA w0) := hdn (HB.out.trans (hb0.mono HB.out.size))
             clear hb0
             have gx1_0 : w0.cell? ⟨w.heap.size, 5, none⟩ = some (.int .i64 x.h.value.kind) := cell_at (HRs2x.out _ HW0.out) 0 _ rfl
             have gy1_0 : w0.cell? ⟨w.heap.size + 1, 5, none⟩ = some (.int .i64 y.h.value.kind) := cell_at (HRs2y.out _ HW0.out) 0 _ rfl
             have gx1_1 : w0.cell? ⟨w.heap.size, 6, none⟩ = some (.int .i64 x.h.value.pos) := cell_at (HRs2x.out _ HW0.out) 1 _ rfl
             have gy1_1 : w0.cell? ⟨w.heap.size + 1, 6, none⟩ = some (.int .i64 y.h.value.pos) := cell_at (HRs2y.out _ HW0.out) 1 _ rfl
             have gx1_2 : w0.cell? ⟨w.heap.size, 7, none⟩ = some (.string x.h.value.path.name) := cell_at (HRs2x.out _ HW0.out) 2 _ rfl
             have gy1_2 : w0.cell? ⟨w.heap.size + 1, 7, none⟩ = some (.string y.h.value.path.name) := cell_at (HRs2y.out _ HW0.out) 2 _ rfl
             have gx1_3 : w0.cell? ⟨w.heap.size, 8, none⟩ = some (.int .i64 x.h.value.path.pos) := cell_at (HRs2x.out _ HW0.out) 3 _ rfl
             have gy1_3 : w0.cell? ⟨w.heap.size + 1, 8, none⟩ = some (.int .i64 y.h.value.path.pos) := cell_at (HRs2y.out _ HW0.out) 3 _ rfl
             have gx1_4 : w0.cell? ⟨w.heap.size, 9, none⟩ = some (.slice x.h.value.path.hops.p x.h.value.path.hops.l.length x.h.value.path.hops.cap) := cell_at (HRs2x.out _ HW0.out) 4 _ rfl
             have gy1_4 : w0.cell? ⟨w.heap.size + 1, 9, none⟩ = some (.slice y.h.value.path.hops.p y.h.value.path.hops.l.length y.h.value.path.hops.cap) := cell_at (HRs2y.out _ HW0.out) 4 _ rfl
             have gx1_5 : w0.cell? ⟨w.heap.size, 10, none⟩ = some (.string x.h.value.type) := cell_at (HRs2x.out _ HW0.out) 5 _ rfl
             have gy1_5 : w0.cell? ⟨w.heap.size + 1, 10, none⟩ = some (.string y.h.value.type) := cell_at (HRs2y.out _ HW0.out) 5 _ rfl
             have gx1_6 : w0.cell? ⟨w.heap.size, 11, none⟩ = some (.string x.h.value.left.name) := cell_at (HRs2x.out _ HW0.out) 6 _ rfl
             have gy1_6 : w0.cell? ⟨w.heap.size + 1, 11, none⟩ = some (.string y.h.value.left.name) := cell_at (HRs2y.out _ HW0.out) 6 _ rfl
             have gx1_7 : w0.cell? ⟨w.heap.size, 12, none⟩ = some (.int .i64 x.h.value.left.n) := cell_at (HRs2x.out _ HW0.out) 7 _ rfl
             have gy1_7 : w0.cell? ⟨w.heap.size + 1, 12, none⟩ = some (.int .i64 y.h.value.left.n) := cell_at (HRs2y.out _ HW0.out) 7 _ rfl
             have gx1_8 : w0.cell? ⟨w.heap.size, 13, none⟩ = some (.int .i64 x.h.value.left.pos) := cell_at (HRs2x.out _ HW0.out) 8 _ rfl
             have gy1_8 : w0.cell? ⟨w.heap.size + 1, 13, none⟩ = some (.int .i64 y.h.value.left.pos) := cell_at (HRs2y.out _ HW0.out) 8 _ rfl
             have gx1_9 : w0.cell? ⟨w.heap.size, 14, none⟩ = some (.string x.h.value.right.name) := cell_at (HRs2x.out _ HW0.out) 9 _ rfl
             have gy1_9 : w0.cell? ⟨w.heap.size + 1, 14, none⟩ = some (.string y.h.value.right.name) := cell_at (HRs2y.out _ HW0.out) 9 _ rfl
             have gx1_10 : w0.cell? ⟨w.heap.size, 15, none⟩ = some (.int .i64 x.h.value.right.n) := cell_at (HRs2x.out _ HW0.out) 10 _ rfl
             have gy1_10 : w0.cell? ⟨w.heap.size + 1, 15, none⟩ = some (.int .i64 y.h.value.right.n) := cell_at (HRs2y.out _ HW0.out) 10 _ rfl
             have gx1_11 : w0.cell? ⟨w.heap.size, 16, none⟩ = some (.int .i64 x.h.value.right.pos) := cell_at (HRs2x.out _ HW0.out) 11 _ rfl
             have gy1_11 : w0.cell? ⟨w.heap.size + 1, 16, none⟩ = some (.int .i64 y.h.value.right.pos) := cell_at (HRs2y.out _ HW0.out) 11 _ rfl
             go_wp2_with fail
             refine (HDzb2.out _ HW0.out).mono ?_; rintro en w1 ⟨rfl, hb1⟩
             have HW1 : Hid (Below wA.heap.size wA w1) := hdn (HW0.out.trans (hb1.mono HW0.out.size))
             clear hb1
             have gx2_0 : w1.cell? ⟨w.heap.size, 19, none⟩ = some (.int .i64 x.h.cond.left.kind) := cell_at (HRs3x.out _ HW1.out) 0 _ rfl
             have gy2_0 : w1.cell? ⟨w.heap.size + 1, 19, none⟩ = some (.int .i64 y.h.cond.left.kind) := cell_at (HRs3y.out _ HW1.out) 0 _ rfl
             have gx2_1 : w1.cell? ⟨w.heap.size, 20, none⟩ = some (.int .i64 x.h.cond.left.pos) := cell_at (HRs3x.out _ HW1.out) 1 _ rfl
             have gy2_1 : w1.cell? ⟨w.heap.size + 1, 20, none⟩ = some (.int .i64 y.h.cond.left.pos) := cell_at (HRs3y.out _ HW1.out) 1 _ rfl
             have gx2_2 : w1.cell? ⟨w.heap.size, 21, none⟩ = some (.string x.h.cond.left.path.name) := cell_at (HRs3x.out _ HW1.out) 2 _ rfl
             have gy2_2 : w1.cell? ⟨w.heap.size + 1, 21, none⟩ = some (.string y.h.cond.left.path.name) := cell_at (HRs3y.out _ HW1.out) 2 _ rfl
             have gx2_3 : w1.cell? ⟨w.heap.size, 22, none⟩ = some (.int .i64 x.h.cond.left.path.pos) := cell_at (HRs3x.out _ HW1.out) 3 _ rfl
             have gy2_3 : w1.cell? ⟨w.heap.size + 1, 22, none⟩ = some (.int .i64 y.h.cond.left.path.pos) := cell_at (HRs3y.out _ HW1.out) 3 _ rfl
             have gx2_4 : w1.cell? ⟨w.heap.size, 23, none⟩ = some (.slice x.h.cond.left.path.hops.p x.h.cond.left.path.hops.l.length x.h.cond.left.path.hops.cap) := cell_at (HRs3x.out _ HW1.out) 4 _ rfl
             have gy2_4 : w1.cell? ⟨w.heap.size + 1, 23, none⟩ = some (.slice y.h.cond.left.path.hops.p y.h.cond.left.path.hops.l.length y.h.cond.left.path.hops.cap) := cell_at (HRs3y.out _ HW1.out) 4 _ rfl
             have gx2_5 : w1.cell? ⟨w.heap.size, 24, none⟩ = some (.string x.h.cond.left.type) := cell_at (HRs3x.out _ HW1.out) 5 _ rfl
             have gy2_5 : w1.cell? ⟨w.heap.size + 1, 24, none⟩ = some (.string y.h.cond.left.type) := cell_at (HRs3y.out _ HW1.out) 5 _ rfl
             have gx2_6 : w1.cell? ⟨w.heap.size, 25, none⟩ = some (.string x.h.cond.left.left.name) := cell_at (HRs3x.out _ HW1.out) 6 _ rfl
             have gy2_6 : w1.cell? ⟨w.heap.size + 1, 25, none⟩ = some (.string y.h.cond.left.left.name) := cell_at (HRs3y.out _ HW1.out) 6 _ rfl
             have gx2_7 : w1.cell? ⟨w.heap.size, 26, none⟩ = some (.int .i64 x.h.cond.left.left.n) := cell_at (HRs3x.out _ HW1.out) 7 _ rfl
             have gy2_7 : w1.cell? ⟨w.heap.size + 1, 26, none⟩ = some (.int .i64 y.h.cond.left.left.n) := cell_at (HRs3y.out _ HW1.out) 7 _ rfl
             have gx2_8 : w1.cell? ⟨w.heap.size, 27, none⟩ = some (.int .i64 x.h.cond.left.left.pos) := cell_at (HRs3x.out _ HW1.out) 8 _ rfl
             have gy2_8 : w1.cell? ⟨w.heap.size + 1, 27, none⟩ = some (.int .i64 y.h.cond.left.left.pos) := cell_at (HRs3y.out _ HW1.out) 8 _ rfl
             have gx2_9 : w1.cell? ⟨w.heap.size, 28, none⟩ = some (.string x.h.cond.left.right.name) := cell_at (HRs3x.out _ HW1.out) 9 _ rfl
             have gy2_9 : w1.cell? ⟨w.heap.size + 1, 28, none⟩ = some (.string y.h.cond.left.right.name) := cell_at (HRs3y.out _ HW1.out) 9 _ rfl
             have gx2_10 : w1.cell? ⟨w.heap.size, 29, none⟩ = some (.int .i64 x.h.cond.left.right.n) := cell_at (HRs3x.out _ HW1.out) 10 _ rfl
             have gy2_10 : w1.cell? ⟨w.heap.size + 1, 29, none⟩ = some (.int .i64 y.h.cond.left.right.n) := cell_at (HRs3y.out _ HW1.out) 10 _ rfl
             have gx2_11 : w1.cell? ⟨w.heap.size, 30, none⟩ = some (.int .i64 x.h.cond.left.right.pos) := cell_at (HRs3x.out _ HW1.out) 11 _ rfl
             have gy2_11 : w1.cell? ⟨w.heap.size + 1, 30, none⟩ = some (.int .i64 y.h.cond.left.right.pos) := cell_at (HRs3y.out _ HW1.out) 11 _ rfl
             go_wp2_with fail
             refine (HDzb3.out _ HW1.out).mono ?_; rintro en w2 ⟨rfl, hb2⟩
             have HW2 : Hid (Below wA.heap.size wA w2) := hdn (HW1.out.trans (hb2.mono HW1.out.size))
             clear hb2
             have gx3_0 : w2.cell? ⟨w.heap.size, 31, none⟩ = some (.int .i64 x.h.cond.right.kind) := cell_at (HRs4x.out _ HW2.out) 0 _ rfl
             have gy3_0 : w2.cell? ⟨w.heap.size + 1, 31, none⟩ = some (.int .i64 y.h.cond.right.kind) := cell_at (HRs4y.out _ HW2.out) 0 _ rfl
             have gx3_1 : w2.cell? ⟨w.heap.size, 32, none⟩ = some (.int .i64 x.h.cond.right.pos) := cell_at (HRs4x.out _ HW2.out) 1 _ rfl
             have gy3_1 : w2.cell? ⟨w.heap.size + 1, 32, none⟩ = some (.int .i64 y.h.cond.right.pos) := cell_at (HRs4y.out _ HW2.out) 1 _ rfl
             have gx3_2 : w2.cell? ⟨w.heap.size, 33, none⟩ = some (.string x.h.cond.right.path.name) := cell_at (HRs4x.out _ HW2.out) 2 _ rfl
             have gy3_2 : w2.cell? ⟨w.heap.size + 1, 33, none⟩ = some (.string y.h.cond.right.path.name) := cell_at (HRs4y.out _ HW2.out) 2 _ rfl
             have gx3_3 : w2.cell? ⟨w.heap.size, 34, none⟩ = some (.int .i64 x.h.cond.right.path.pos) := cell_at (HRs4x.out _ HW2.out) 3 _ rfl
             have gy3_3 : w2.cell? ⟨w.heap.size + 1, 34, none⟩ = some (.int .i64 y.h.cond.right.path.pos) := cell_at (HRs4y.out _ HW2.out) 3 _ rfl
             have gx3_4 : w2.cell? ⟨w.heap.size, 35, none⟩ = some (.slice x.h.cond.right.path.hops.p x.h.cond.right.path.hops.l.length x.h.cond.right.path.hops.cap) := cell_at (HRs4x.out _ HW2.out) 4 _ rfl
             have gy3_4 : w2.cell? ⟨w.heap.size + 1, 35, none⟩ = some (.slice y.h.cond.right.path.hops.p y.h.cond.right.path.hops.l.length y.h.cond.right.path.hops.cap) := cell_at (HRs4y.out _ HW2.out) 4 _ rfl
             have gx3_5 : w2.cell? ⟨w.heap.size, 36, none⟩ = some (.string x.h.cond.right.type) := cell_at (HRs4x.out _ HW2.out) 5 _ rfl
             have gy3_5 : w2.cell? ⟨w.heap.size + 1, 36, none⟩ = some (.string y.h.cond.right.type) := cell_at (HRs4y.out _ HW2.out) 5 _ rfl
             have gx3_6 : w2.cell? ⟨w.heap.size, 37, none⟩ = some (.string x.h.cond.right.left.name) := cell_at (HRs4x.out _ HW2.out) 6 _ rfl
             have gy3_6 : w2.cell? ⟨w.heap.size + 1, 37, none⟩ = some (.string y.h.cond.right.left.name) := cell_at (HRs4y.out _ HW2.out) 6 _ rfl
             have gx3_7 : w2.cell? ⟨w.heap.size, 38, none⟩ = some (.int .i64 x.h.cond.right.left.n) := cell_at (HRs4x.out _ HW2.out) 7 _ rfl
             have gy3_7 : w2.cell? ⟨w.heap.size + 1, 38, none⟩ = some (.int .i64 y.h.cond.right.left.n) := cell_at (HRs4y.out _ HW2.out) 7 _ rfl
             have gx3_8 : w2.cell? ⟨w.heap.size, 39, none⟩ = some (.int .i64 x.h.cond.right.left.pos) := cell_at (HRs4x.out _ HW2.out) 8 _ rfl
             have gy3_8 : w2.cell? ⟨w.heap.size + 1, 39, none⟩ = some (.int .i64 y.h.cond.right.left.pos) := cell_at (HRs4y.out _ HW2.out) 8 _ rfl
             have gx3_9 : w2.cell? ⟨w.heap.size, 40, none⟩ = some (.string x.h.cond.right.right.name) := cell_at (HRs4x.out _ HW2.out) 9 _ rfl
             have gy3_9 : w2.cell? ⟨w.heap.size + 1, 40, none⟩ = some (.string y.h.cond.right.right.name) := cell_at (HRs4y.out _ HW2.out) 9 _ rfl
             have gx3_10 : w2.cell? ⟨w.heap.size, 41, none⟩ = some (.int .i64 x.h.cond.right.right.n) := cell_at (HRs4x.out _ HW2.out) 10 _ rfl
             have gy3_10 : w2.cell? ⟨w.heap.size + 1, 41, none⟩ = some (.int .i64 y.h.cond.right.right.n) := cell_at (HRs4y.out _ HW2.out) 10 _ rfl
             have gx3_11 : w2.cell? ⟨w.heap.size, 42, none⟩ = some (.int .i64 x.h.cond.right.right.pos) := cell_at (HRs4x.out _ HW2.out) 11 _ rfl
             have gy3_11 : w2.cell? ⟨w.heap.size + 1, 42, none⟩ = some (.int .i64 y.h.cond.right.right.pos) := cell_at (HRs4y.out _ HW2.out) 11 _ rfl
             go_wp2_with fail
             refine (HDzb4.out _ HW2.out).mono ?_; rintro en w3 ⟨rfl, hb3⟩
             have HW3 : Hid (Below wA.heap.size wA w3) := hdn (HW2.out.trans (hb3.mono HW2.out.size))
             clear hb3
             have kk4 := HK45.out _ HW3.out
             obtain ⟨kx4, ky4⟩ := kk4
             go_wp2_with fail
             refine (HDzb5.out _ HW3.out).mono ?_; rintro en w4 ⟨rfl, hb4⟩
             have HW4 : Hid (Below wA.heap.size wA w4) := hdn (HW3.out.trans (hb4.mono HW3.out.size))
             clear hb4
             go_wp2_with fail
             go_ret
             exact ⟨ret_bool (by rw [HF.out]; simp), HA.out.trans (HW4.out.mono HA.out.size)⟩
            ·cases zb6
             ·have gx0_0 : wr.cell? ⟨w.heap.size, 2, none⟩ = some (.string x.h.place.name) := cell_at (HRs1x.out _ HB.out) 0 _ rfl
              have gy0_0 : wr.cell? ⟨w.heap.size + 1, 2, none⟩ = some (.string y.h.place.name) := cell_at (HRs1y.out _ HB.out) 0 _ rfl
              have gx0_1 : wr.cell? ⟨w.heap.size, 3, none⟩ = some (.int .i64 x.h.place.pos) := cell_at (HRs1x.out _ HB.out) 1 _ rfl
              have gy0_1 : wr.cell? ⟨w.heap.size + 1, 3, none⟩ = some (.int .i64 y.h.place.pos) := cell_at (HRs1y.out _ HB.out) 1 _ rfl
              have gx0_2 : wr.cell? ⟨w.heap.size, 4, none⟩ = some (.slice x.h.place.hops.p x.h.place.hops.l.length x.h.place.hops.cap) := cell_at (HRs1x.out _ HB.out) 2 _ rfl
              have gy0_2 : wr.cell? ⟨w.heap.size + 1, 4, none⟩ = some (.slice y.h.place.hops.p y.h.place.hops.l.length y.h.place.hops.cap) := cell_at (HRs1y.out _ HB.out) 2 _ rfl
              go_wp2_with fail
              refine (HDzb1.out _ HB.out).mono ?_; rintro en w0 ⟨rfl, hb0⟩
              have HW0 : Hid (Below wA.heap.size wA w0) := hdn (HB.out.trans (hb0.mono HB.out.size))
              clear hb0
              have gx1_0 : w0.cell? ⟨w.heap.size, 5, none⟩ = some (.int .i64 x.h.value.kind) := cell_at (HRs2x.out _ HW0.out) 0 _ rfl
              have gy1_0 : w0.cell? ⟨w.heap.size + 1, 5, none⟩ = some (.int .i64 y.h.value.kind) := cell_at (HRs2y.out _ HW0.out) 0 _ rfl
              have gx1_1 : w0.cell? ⟨w.heap.size, 6, none⟩ = some (.int .i64 x.h.value.pos) := cell_at (HRs2x.out _ HW0.out) 1 _ rfl
              have gy1_1 : w0.cell? ⟨w.heap.size + 1, 6, none⟩ = some (.int .i64 y.h.value.pos) := cell_at (HRs2y.out _ HW0.out) 1 _ rfl
              have gx1_2 : w0.cell? ⟨w.heap.size, 7, none⟩ = some (.string x.h.value.path.name) := cell_at (HRs2x.out _ HW0.out) 2 _ rfl
              have gy1_2 : w0.cell? ⟨w.heap.size + 1, 7, none⟩ = some (.string y.h.value.path.name) := cell_at (HRs2y.out _ HW0.out) 2 _ rfl
              have gx1_3 : w0.cell? ⟨w.heap.size, 8, none⟩ = some (.int .i64 x.h.value.path.pos) := cell_at (HRs2x.out _ HW0.out) 3 _ rfl
              have gy1_3 : w0.cell? ⟨w.heap.size + 1, 8, none⟩ = some (.int .i64 y.h.value.path.pos) := cell_at (HRs2y.out _ HW0.out) 3 _ rfl
              have gx1_4 : w0.cell? ⟨w.heap.size, 9, none⟩ = some (.slice x.h.value.path.hops.p x.h.value.path.hops.l.length x.h.value.path.hops.cap) := cell_at (HRs2x.out _ HW0.out) 4 _ rfl
              have gy1_4 : w0.cell? ⟨w.heap.size + 1, 9, none⟩ = some (.slice y.h.value.path.hops.p y.h.value.path.hops.l.length y.h.value.path.hops.cap) := cell_at (HRs2y.out _ HW0.out) 4 _ rfl
              have gx1_5 : w0.cell? ⟨w.heap.size, 10, none⟩ = some (.string x.h.value.type) := cell_at (HRs2x.out _ HW0.out) 5 _ rfl
              have gy1_5 : w0.cell? ⟨w.heap.size + 1, 10, none⟩ = some (.string y.h.value.type) := cell_at (HRs2y.out _ HW0.out) 5 _ rfl
              have gx1_6 : w0.cell? ⟨w.heap.size, 11, none⟩ = some (.string x.h.value.left.name) := cell_at (HRs2x.out _ HW0.out) 6 _ rfl
              have gy1_6 : w0.cell? ⟨w.heap.size + 1, 11, none⟩ = some (.string y.h.value.left.name) := cell_at (HRs2y.out _ HW0.out) 6 _ rfl
              have gx1_7 : w0.cell? ⟨w.heap.size, 12, none⟩ = some (.int .i64 x.h.value.left.n) := cell_at (HRs2x.out _ HW0.out) 7 _ rfl
              have gy1_7 : w0.cell? ⟨w.heap.size + 1, 12, none⟩ = some (.int .i64 y.h.value.left.n) := cell_at (HRs2y.out _ HW0.out) 7 _ rfl
              have gx1_8 : w0.cell? ⟨w.heap.size, 13, none⟩ = some (.int .i64 x.h.value.left.pos) := cell_at (HRs2x.out _ HW0.out) 8 _ rfl
              have gy1_8 : w0.cell? ⟨w.heap.size + 1, 13, none⟩ = some (.int .i64 y.h.value.left.pos) := cell_at (HRs2y.out _ HW0.out) 8 _ rfl
              have gx1_9 : w0.cell? ⟨w.heap.size, 14, none⟩ = some (.string x.h.value.right.name) := cell_at (HRs2x.out _ HW0.out) 9 _ rfl
              have gy1_9 : w0.cell? ⟨w.heap.size + 1, 14, none⟩ = some (.string y.h.value.right.name) := cell_at (HRs2y.out _ HW0.out) 9 _ rfl
              have gx1_10 : w0.cell? ⟨w.heap.size, 15, none⟩ = some (.int .i64 x.h.value.right.n) := cell_at (HRs2x.out _ HW0.out) 10 _ rfl
              have gy1_10 : w0.cell? ⟨w.heap.size + 1, 15, none⟩ = some (.int .i64 y.h.value.right.n) := cell_at (HRs2y.out _ HW0.out) 10 _ rfl
              have gx1_11 : w0.cell? ⟨w.heap.size, 16, none⟩ = some (.int .i64 x.h.value.right.pos) := cell_at (HRs2x.out _ HW0.out) 11 _ rfl
              have gy1_11 : w0.cell? ⟨w.heap.size + 1, 16, none⟩ = some (.int .i64 y.h.value.right.pos) := cell_at (HRs2y.out _ HW0.out) 11 _ rfl
              go_wp2_with fail
              refine (HDzb2.out _ HW0.out).mono ?_; rintro en w1 ⟨rfl, hb1⟩
              have HW1 : Hid (Below wA.heap.size wA w1) := hdn (HW0.out.trans (hb1.mono HW0.out.size))
              clear hb1
              have gx2_0 : w1.cell? ⟨w.heap.size, 19, none⟩ = some (.int .i64 x.h.cond.left.kind) := cell_at (HRs3x.out _ HW1.out) 0 _ rfl
              have gy2_0 : w1.cell? ⟨w.heap.size + 1, 19, none⟩ = some (.int .i64 y.h.cond.left.kind) := cell_at (HRs3y.out _ HW1.out) 0 _ rfl
              have gx2_1 : w1.cell? ⟨w.heap.size, 20, none⟩ = some (.int .i64 x.h.cond.left.pos) := cell_at (HRs3x.out _ HW1.out) 1 _ rfl
              have gy2_1 : w1.cell? ⟨w.heap.size + 1, 20, none⟩ = some (.int .i64 y.h.cond.left.pos) := cell_at (HRs3y.out _ HW1.out) 1 _ rfl
              have gx2_2 : w1.cell? ⟨w.heap.size, 21, none⟩ = some (.string x.h.cond.left.path.name) := cell_at (HRs3x.out _ HW1.out) 2 _ rfl
              have gy2_2 : w1.cell? ⟨w.heap.size + 1, 21, none⟩ = some (.string y.h.cond.left.path.name) := cell_at (HRs3y.out _ HW1.out) 2 _ rfl
              have gx2_3 : w1.cell? ⟨w.heap.size, 22, none⟩ = some (.int .i64 x.h.cond.left.path.pos) := cell_at (HRs3x.out _ HW1.out) 3 _ rfl
              have gy2_3 : w1.cell? ⟨w.heap.size + 1, 22, none⟩ = some (.int .i64 y.h.cond.left.path.pos) := cell_at (HRs3y.out _ HW1.out) 3 _ rfl
              have gx2_4 : w1.cell? ⟨w.heap.size, 23, none⟩ = some (.slice x.h.cond.left.path.hops.p x.h.cond.left.path.hops.l.length x.h.cond.left.path.hops.cap) := cell_at (HRs3x.out _ HW1.out) 4 _ rfl
              have gy2_4 : w1.cell? ⟨w.heap.size + 1, 23, none⟩ = some (.slice y.h.cond.left.path.hops.p y.h.cond.left.path.hops.l.length y.h.cond.left.path.hops.cap) := cell_at (HRs3y.out _ HW1.out) 4 _ rfl
              have gx2_5 : w1.cell? ⟨w.heap.size, 24, none⟩ = some (.string x.h.cond.left.type) := cell_at (HRs3x.out _ HW1.out) 5 _ rfl
              have gy2_5 : w1.cell? ⟨w.heap.size + 1, 24, none⟩ = some (.string y.h.cond.left.type) := cell_at (HRs3y.out _ HW1.out) 5 _ rfl
              have gx2_6 : w1.cell? ⟨w.heap.size, 25, none⟩ = some (.string x.h.cond.left.left.name) := cell_at (HRs3x.out _ HW1.out) 6 _ rfl
              have gy2_6 : w1.cell? ⟨w.heap.size + 1, 25, none⟩ = some (.string y.h.cond.left.left.name) := cell_at (HRs3y.out _ HW1.out) 6 _ rfl
              have gx2_7 : w1.cell? ⟨w.heap.size, 26, none⟩ = some (.int .i64 x.h.cond.left.left.n) := cell_at (HRs3x.out _ HW1.out) 7 _ rfl
              have gy2_7 : w1.cell? ⟨w.heap.size + 1, 26, none⟩ = some (.int .i64 y.h.cond.left.left.n) := cell_at (HRs3y.out _ HW1.out) 7 _ rfl
              have gx2_8 : w1.cell? ⟨w.heap.size, 27, none⟩ = some (.int .i64 x.h.cond.left.left.pos) := cell_at (HRs3x.out _ HW1.out) 8 _ rfl
              have gy2_8 : w1.cell? ⟨w.heap.size + 1, 27, none⟩ = some (.int .i64 y.h.cond.left.left.pos) := cell_at (HRs3y.out _ HW1.out) 8 _ rfl
              have gx2_9 : w1.cell? ⟨w.heap.size, 28, none⟩ = some (.string x.h.cond.left.right.name) := cell_at (HRs3x.out _ HW1.out) 9 _ rfl
              have gy2_9 : w1.cell? ⟨w.heap.size + 1, 28, none⟩ = some (.string y.h.cond.left.right.name) := cell_at (HRs3y.out _ HW1.out) 9 _ rfl
              have gx2_10 : w1.cell? ⟨w.heap.size, 29, none⟩ = some (.int .i64 x.h.cond.left.right.n) := cell_at (HRs3x.out _ HW1.out) 10 _ rfl
              have gy2_10 : w1.cell? ⟨w.heap.size + 1, 29, none⟩ = some (.int .i64 y.h.cond.left.right.n) := cell_at (HRs3y.out _ HW1.out) 10 _ rfl
              have gx2_11 : w1.cell? ⟨w.heap.size, 30, none⟩ = some (.int .i64 x.h.cond.left.right.pos) := cell_at (HRs3x.out _ HW1.out) 11 _ rfl
              have gy2_11 : w1.cell? ⟨w.heap.size + 1, 30, none⟩ = some (.int .i64 y.h.cond.left.right.pos) := cell_at (HRs3y.out _ HW1.out) 11 _ rfl
              go_wp2_with fail
              refine (HDzb3.out _ HW1.out).mono ?_; rintro en w2 ⟨rfl, hb2⟩
              have HW2 : Hid (Below wA.heap.size wA w2) := hdn (HW1.out.trans (hb2.mono HW1.out.size))
              clear hb2
              have gx3_0 : w2.cell? ⟨w.heap.size, 31, none⟩ = some (.int .i64 x.h.cond.right.kind) := cell_at (HRs4x.out _ HW2.out) 0 _ rfl
              have gy3_0 : w2.cell? ⟨w.heap.size + 1, 31, none⟩ = some (.int .i64 y.h.cond.right.kind) := cell_at (HRs4y.out _ HW2.out) 0 _ rfl
              have gx3_1 : w2.cell? ⟨w.heap.size, 32, none⟩ = some (.int .i64 x.h.cond.right.pos) := cell_at (HRs4x.out _ HW2.out) 1 _ rfl
              have gy3_1 : w2.cell? ⟨w.heap.size + 1, 32, none⟩ = some (.int .i64 y.h.cond.right.pos) := cell_at (HRs4y.out _ HW2.out) 1 _ rfl
              have gx3_2 : w2.cell? ⟨w.heap.size, 33, none⟩ = some (.string x.h.cond.right.path.name) := cell_at (HRs4x.out _ HW2.out) 2 _ rfl
              have gy3_2 : w2.cell? ⟨w.heap.size + 1, 33, none⟩ = some (.string y.h.cond.right.path.name) := cell_at (HRs4y.out _ HW2.out) 2 _ rfl
              have gx3_3 : w2.cell? ⟨w.heap.size, 34, none⟩ = some (.int .i64 x.h.cond.right.path.pos) := cell_at (HRs4x.out _ HW2.out) 3 _ rfl
              have gy3_3 : w2.cell? ⟨w.heap.size + 1, 34, none⟩ = some (.int .i64 y.h.cond.right.path.pos) := cell_at (HRs4y.out _ HW2.out) 3 _ rfl
              have gx3_4 : w2.cell? ⟨w.heap.size, 35, none⟩ = some (.slice x.h.cond.right.path.hops.p x.h.cond.right.path.hops.l.length x.h.cond.right.path.hops.cap) := cell_at (HRs4x.out _ HW2.out) 4 _ rfl
              have gy3_4 : w2.cell? ⟨w.heap.size + 1, 35, none⟩ = some (.slice y.h.cond.right.path.hops.p y.h.cond.right.path.hops.l.length y.h.cond.right.path.hops.cap) := cell_at (HRs4y.out _ HW2.out) 4 _ rfl
              have gx3_5 : w2.cell? ⟨w.heap.size, 36, none⟩ = some (.string x.h.cond.right.type) := cell_at (HRs4x.out _ HW2.out) 5 _ rfl
              have gy3_5 : w2.cell? ⟨w.heap.size + 1, 36, none⟩ = some (.string y.h.cond.right.type) := cell_at (HRs4y.out _ HW2.out) 5 _ rfl
              have gx3_6 : w2.cell? ⟨w.heap.size, 37, none⟩ = some (.string x.h.cond.right.left.name) := cell_at (HRs4x.out _ HW2.out) 6 _ rfl
              have gy3_6 : w2.cell? ⟨w.heap.size + 1, 37, none⟩ = some (.string y.h.cond.right.left.name) := cell_at (HRs4y.out _ HW2.out) 6 _ rfl
              have gx3_7 : w2.cell? ⟨w.heap.size, 38, none⟩ = some (.int .i64 x.h.cond.right.left.n) := cell_at (HRs4x.out _ HW2.out) 7 _ rfl
              have gy3_7 : w2.cell? ⟨w.heap.size + 1, 38, none⟩ = some (.int .i64 y.h.cond.right.left.n) := cell_at (HRs4y.out _ HW2.out) 7 _ rfl
              have gx3_8 : w2.cell? ⟨w.heap.size, 39, none⟩ = some (.int .i64 x.h.cond.right.left.pos) := cell_at (HRs4x.out _ HW2.out) 8 _ rfl
              have gy3_8 : w2.cell? ⟨w.heap.size + 1, 39, none⟩ = some (.int .i64 y.h.cond.right.left.pos) := cell_at (HRs4y.out _ HW2.out) 8 _ rfl
              have gx3_9 : w2.cell? ⟨w.heap.size, 40, none⟩ = some (.string x.h.cond.right.right.name) := cell_at (HRs4x.out _ HW2.out) 9 _ rfl
              have gy3_9 : w2.cell? ⟨w.heap.size + 1, 40, none⟩ = some (.string y.h.cond.right.right.name) := cell_at (HRs4y.out _ HW2.out) 9 _ rfl
              have gx3_10 : w2.cell? ⟨w.heap.size, 41, none⟩ = some (.int .i64 x.h.cond.right.right.n) := cell_at (HRs4x.out _ HW2.out) 10 _ rfl
              have gy3_10 : w2.cell? ⟨w.heap.size + 1, 41, none⟩ = some (.int .i64 y.h.cond.right.right.n) := cell_at (HRs4y.out _ HW2.out) 10 _ rfl
              have gx3_11 : w2.cell? ⟨w.heap.size, 42, none⟩ = some (.int .i64 x.h.cond.right.right.pos) := cell_at (HRs4x.out _ HW2.out) 11 _ rfl
              have gy3_11 : w2.cell? ⟨w.heap.size + 1, 42, none⟩ = some (.int .i64 y.h.cond.right.right.pos) := cell_at (HRs4y.out _ HW2.out) 11 _ rfl
              go_wp2_with fail
              refine (HDzb4.out _ HW2.out).mono ?_; rintro en w3 ⟨rfl, hb3⟩
              have HW3 : Hid (Below wA.heap.size wA w3) := hdn (HW2.out.trans (hb3.mono HW2.out.size))
              clear hb3
              have kk4 := HK45.out _ HW3.out
              obtain ⟨kx4, ky4⟩ := kk4
              go_wp2_with fail
              refine (HDzb5.out _ HW3.out).mono ?_; rintro en w4 ⟨rfl, hb4⟩
              have HW4 : Hid (Below wA.heap.size wA w4) := hdn (HW3.out.trans (hb4.mono HW3.out.size))
              clear hb4
              have kk5 := HK46.out _ HW4.out
              obtain ⟨kx5, ky5⟩ := kk5
              go_wp2_with fail
              refine (HDzb6.out _ HW4.out).mono ?_; rintro en w5 ⟨rfl, hb5⟩
              have HW5 : Hid (Below wA.heap.size wA w5) := hdn (HW4.out.trans (hb5.mono HW4.out.size))
              clear hb5
              go_wp2_with fail
              go_ret
              exact ⟨ret_bool (by rw [HF.out]; simp), HA.out.trans (HW5.out.mono HA.out.size)⟩
             ·have gx0_0 : wr.cell? ⟨w.heap.size, 2, none⟩ = some (.string x.h.place.name) := cell_at (HRs1x.out _ HB.out) 0 _ rfl
              have gy0_0 : wr.cell? ⟨w.heap.size + 1, 2, none⟩ = some (.string y.h.place.name) := cell_at (HRs1y.out _ HB.out) 0 _ rfl
              have gx0_1 : wr.cell? ⟨w.heap.size, 3, none⟩ = some (.int .i64 x.h.place.pos) := cell_at (HRs1x.out _ HB.out) 1 _ rfl
              have gy0_1 : wr.cell? ⟨w.heap.size + 1, 3, none⟩ = some (.int .i64 y.h.place.pos) := cell_at (HRs1y.out _ HB.out) 1 _ rfl
              have gx0_2 : wr.cell? ⟨w.heap.size, 4, none⟩ = some (.slice x.h.place.hops.p x.h.place.hops.l.length x.h.place.hops.cap) := cell_at (HRs1x.out _ HB.out) 2 _ rfl
              have gy0_2 : wr.cell? ⟨w.heap.size + 1, 4, none⟩ = some (.slice y.h.place.hops.p y.h.place.hops.l.length y.h.place.hops.cap) := cell_at (HRs1y.out _ HB.out) 2 _ rfl
              go_wp2_with fail
              refine (HDzb1.out _ HB.out).mono ?_; rintro en w0 ⟨rfl, hb0⟩
              have HW0 : Hid (Below wA.heap.size wA w0) := hdn (HB.out.trans (hb0.mono HB.out.size))
              clear hb0
              have gx1_0 : w0.cell? ⟨w.heap.size, 5, none⟩ = some (.int .i64 x.h.value.kind) := cell_at (HRs2x.out _ HW0.out) 0 _ rfl
              have gy1_0 : w0.cell? ⟨w.heap.size + 1, 5, none⟩ = some (.int .i64 y.h.value.kind) := cell_at (HRs2y.out _ HW0.out) 0 _ rfl
              have gx1_1 : w0.cell? ⟨w.heap.size, 6, none⟩ = some (.int .i64 x.h.value.pos) := cell_at (HRs2x.out _ HW0.out) 1 _ rfl
              have gy1_1 : w0.cell? ⟨w.heap.size + 1, 6, none⟩ = some (.int .i64 y.h.value.pos) := cell_at (HRs2y.out _ HW0.out) 1 _ rfl
              have gx1_2 : w0.cell? ⟨w.heap.size, 7, none⟩ = some (.string x.h.value.path.name) := cell_at (HRs2x.out _ HW0.out) 2 _ rfl
              have gy1_2 : w0.cell? ⟨w.heap.size + 1, 7, none⟩ = some (.string y.h.value.path.name) := cell_at (HRs2y.out _ HW0.out) 2 _ rfl
              have gx1_3 : w0.cell? ⟨w.heap.size, 8, none⟩ = some (.int .i64 x.h.value.path.pos) := cell_at (HRs2x.out _ HW0.out) 3 _ rfl
              have gy1_3 : w0.cell? ⟨w.heap.size + 1, 8, none⟩ = some (.int .i64 y.h.value.path.pos) := cell_at (HRs2y.out _ HW0.out) 3 _ rfl
              have gx1_4 : w0.cell? ⟨w.heap.size, 9, none⟩ = some (.slice x.h.value.path.hops.p x.h.value.path.hops.l.length x.h.value.path.hops.cap) := cell_at (HRs2x.out _ HW0.out) 4 _ rfl
              have gy1_4 : w0.cell? ⟨w.heap.size + 1, 9, none⟩ = some (.slice y.h.value.path.hops.p y.h.value.path.hops.l.length y.h.value.path.hops.cap) := cell_at (HRs2y.out _ HW0.out) 4 _ rfl
              have gx1_5 : w0.cell? ⟨w.heap.size, 10, none⟩ = some (.string x.h.value.type) := cell_at (HRs2x.out _ HW0.out) 5 _ rfl
              have gy1_5 : w0.cell? ⟨w.heap.size + 1, 10, none⟩ = some (.string y.h.value.type) := cell_at (HRs2y.out _ HW0.out) 5 _ rfl
              have gx1_6 : w0.cell? ⟨w.heap.size, 11, none⟩ = some (.string x.h.value.left.name) := cell_at (HRs2x.out _ HW0.out) 6 _ rfl
              have gy1_6 : w0.cell? ⟨w.heap.size + 1, 11, none⟩ = some (.string y.h.value.left.name) := cell_at (HRs2y.out _ HW0.out) 6 _ rfl
              have gx1_7 : w0.cell? ⟨w.heap.size, 12, none⟩ = some (.int .i64 x.h.value.left.n) := cell_at (HRs2x.out _ HW0.out) 7 _ rfl
              have gy1_7 : w0.cell? ⟨w.heap.size + 1, 12, none⟩ = some (.int .i64 y.h.value.left.n) := cell_at (HRs2y.out _ HW0.out) 7 _ rfl
              have gx1_8 : w0.cell? ⟨w.heap.size, 13, none⟩ = some (.int .i64 x.h.value.left.pos) := cell_at (HRs2x.out _ HW0.out) 8 _ rfl
              have gy1_8 : w0.cell? ⟨w.heap.size + 1, 13, none⟩ = some (.int .i64 y.h.value.left.pos) := cell_at (HRs2y.out _ HW0.out) 8 _ rfl
              have gx1_9 : w0.cell? ⟨w.heap.size, 14, none⟩ = some (.string x.h.value.right.name) := cell_at (HRs2x.out _ HW0.out) 9 _ rfl
              have gy1_9 : w0.cell? ⟨w.heap.size + 1, 14, none⟩ = some (.string y.h.value.right.name) := cell_at (HRs2y.out _ HW0.out) 9 _ rfl
              have gx1_10 : w0.cell? ⟨w.heap.size, 15, none⟩ = some (.int .i64 x.h.value.right.n) := cell_at (HRs2x.out _ HW0.out) 10 _ rfl
              have gy1_10 : w0.cell? ⟨w.heap.size + 1, 15, none⟩ = some (.int .i64 y.h.value.right.n) := cell_at (HRs2y.out _ HW0.out) 10 _ rfl
              have gx1_11 : w0.cell? ⟨w.heap.size, 16, none⟩ = some (.int .i64 x.h.value.right.pos) := cell_at (HRs2x.out _ HW0.out) 11 _ rfl
              have gy1_11 : w0.cell? ⟨w.heap.size + 1, 16, none⟩ = some (.int .i64 y.h.value.right.pos) := cell_at (HRs2y.out _ HW0.out) 11 _ rfl
              go_wp2_with fail
              refine (HDzb2.out _ HW0.out).mono ?_; rintro en w1 ⟨rfl, hb1⟩
              have HW1 : Hid (Below wA.heap.size wA w1) := hdn (HW0.out.trans (hb1.mono HW0.out.size))
              clear hb1
              have gx2_0 : w1.cell? ⟨w.heap.size, 19, none⟩ = some (.int .i64 x.h.cond.left.kind) := cell_at (HRs3x.out _ HW1.out) 0 _ rfl
              have gy2_0 : w1.cell? ⟨w.heap.size + 1, 19, none⟩ = some (.int .i64 y.h.cond.left.kind) := cell_at (HRs3y.out _ HW1.out) 0 _ rfl
              have gx2_1 : w1.cell? ⟨w.heap.size, 20, none⟩ = some (.int .i64 x.h.cond.left.pos) := cell_at (HRs3x.out _ HW1.out) 1 _ rfl
              have gy2_1 : w1.cell? ⟨w.heap.size + 1, 20, none⟩ = some (.int .i64 y.h.cond.left.pos) := cell_at (HRs3y.out _ HW1.out) 1 _ rfl
              have gx2_2 : w1.cell? ⟨w.heap.size, 21, none⟩ = some (.string x.h.cond.left.path.name) := cell_at (HRs3x.out _ HW1.out) 2 _ rfl
              have gy2_2 : w1.cell? ⟨w.heap.size + 1, 21, none⟩ = some (.string y.h.cond.left.path.name) := cell_at (HRs3y.out _ HW1.out) 2 _ rfl
              have gx2_3 : w1.cell? ⟨w.heap.size, 22, none⟩ = some (.int .i64 x.h.cond.left.path.pos) := cell_at (HRs3x.out _ HW1.out) 3 _ rfl
              have gy2_3 : w1.cell? ⟨w.heap.size + 1, 22, none⟩ = some (.int .i64 y.h.cond.left.path.pos) := cell_at (HRs3y.out _ HW1.out) 3 _ rfl
              have gx2_4 : w1.cell? ⟨w.heap.size, 23, none⟩ = some (.slice x.h.cond.left.path.hops.p x.h.cond.left.path.hops.l.length x.h.cond.left.path.hops.cap) := cell_at (HRs3x.out _ HW1.out) 4 _ rfl
              have gy2_4 : w1.cell? ⟨w.heap.size + 1, 23, none⟩ = some (.slice y.h.cond.left.path.hops.p y.h.cond.left.path.hops.l.length y.h.cond.left.path.hops.cap) := cell_at (HRs3y.out _ HW1.out) 4 _ rfl
              have gx2_5 : w1.cell? ⟨w.heap.size, 24, none⟩ = some (.string x.h.cond.left.type) := cell_at (HRs3x.out _ HW1.out) 5 _ rfl
              have gy2_5 : w1.cell? ⟨w.heap.size + 1, 24, none⟩ = some (.string y.h.cond.left.type) := cell_at (HRs3y.out _ HW1.out) 5 _ rfl
              have gx2_6 : w1.cell? ⟨w.heap.size, 25, none⟩ = some (.string x.h.cond.left.left.name) := cell_at (HRs3x.out _ HW1.out) 6 _ rfl
              have gy2_6 : w1.cell? ⟨w.heap.size + 1, 25, none⟩ = some (.string y.h.cond.left.left.name) := cell_at (HRs3y.out _ HW1.out) 6 _ rfl
              have gx2_7 : w1.cell? ⟨w.heap.size, 26, none⟩ = some (.int .i64 x.h.cond.left.left.n) := cell_at (HRs3x.out _ HW1.out) 7 _ rfl
              have gy2_7 : w1.cell? ⟨w.heap.size + 1, 26, none⟩ = some (.int .i64 y.h.cond.left.left.n) := cell_at (HRs3y.out _ HW1.out) 7 _ rfl
              have gx2_8 : w1.cell? ⟨w.heap.size, 27, none⟩ = some (.int .i64 x.h.cond.left.left.pos) := cell_at (HRs3x.out _ HW1.out) 8 _ rfl
              have gy2_8 : w1.cell? ⟨w.heap.size + 1, 27, none⟩ = some (.int .i64 y.h.cond.left.left.pos) := cell_at (HRs3y.out _ HW1.out) 8 _ rfl
              have gx2_9 : w1.cell? ⟨w.heap.size, 28, none⟩ = some (.string x.h.cond.left.right.name) := cell_at (HRs3x.out _ HW1.out) 9 _ rfl
              have gy2_9 : w1.cell? ⟨w.heap.size + 1, 28, none⟩ = some (.string y.h.cond.left.right.name) := cell_at (HRs3y.out _ HW1.out) 9 _ rfl
              have gx2_10 : w1.cell? ⟨w.heap.size, 29, none⟩ = some (.int .i64 x.h.cond.left.right.n) := cell_at (HRs3x.out _ HW1.out) 10 _ rfl
              have gy2_10 : w1.cell? ⟨w.heap.size + 1, 29, none⟩ = some (.int .i64 y.h.cond.left.right.n) := cell_at (HRs3y.out _ HW1.out) 10 _ rfl
              have gx2_11 : w1.cell? ⟨w.heap.size, 30, none⟩ = some (.int .i64 x.h.cond.left.right.pos) := cell_at (HRs3x.out _ HW1.out) 11 _ rfl
              have gy2_11 : w1.cell? ⟨w.heap.size + 1, 30, none⟩ = some (.int .i64 y.h.cond.left.right.pos) := cell_at (HRs3y.out _ HW1.out) 11 _ rfl
              go_wp2_with fail
              refine (HDzb3.out _ HW1.out).mono ?_; rintro en w2 ⟨rfl, hb2⟩
              have HW2 : Hid (Below wA.heap.size wA w2) := hdn (HW1.out.trans (hb2.mono HW1.out.size))
              clear hb2
              have gx3_0 : w2.cell? ⟨w.heap.size, 31, none⟩ = some (.int .i64 x.h.cond.right.kind) := cell_at (HRs4x.out _ HW2.out) 0 _ rfl
              have gy3_0 : w2.cell? ⟨w.heap.size + 1, 31, none⟩ = some (.int .i64 y.h.cond.right.kind) := cell_at (HRs4y.out _ HW2.out) 0 _ rfl
              have gx3_1 : w2.cell? ⟨w.heap.size, 32, none⟩ = some (.int .i64 x.h.cond.right.pos) := cell_at (HRs4x.out _ HW2.out) 1 _ rfl
              have gy3_1 : w2.cell? ⟨w.heap.size + 1, 32, none⟩ = some (.int .i64 y.h.cond.right.pos) := cell_at (HRs4y.out _ HW2.out) 1 _ rfl
              have gx3_2 : w2.cell? ⟨w.heap.size, 33, none⟩ = some (.string x.h.cond.right.path.name) := cell_at (HRs4x.out _ HW2.out) 2 _ rfl
              have gy3_2 : w2.cell? ⟨w.heap.size + 1, 33, none⟩ = some (.string y.h.cond.right.path.name) := cell_at (HRs4y.out _ HW2.out) 2 _ rfl
              have gx3_3 : w2.cell? ⟨w.heap.size, 34, none⟩ = some (.int .i64 x.h.cond.right.path.pos) := cell_at (HRs4x.out _ HW2.out) 3 _ rfl
              have gy3_3 : w2.cell? ⟨w.heap.size + 1, 34, none⟩ = some (.int .i64 y.h.cond.right.path.pos) := cell_at (HRs4y.out _ HW2.out) 3 _ rfl
              have gx3_4 : w2.cell? ⟨w.heap.size, 35, none⟩ = some (.slice x.h.cond.right.path.hops.p x.h.cond.right.path.hops.l.length x.h.cond.right.path.hops.cap) := cell_at (HRs4x.out _ HW2.out) 4 _ rfl
              have gy3_4 : w2.cell? ⟨w.heap.size + 1, 35, none⟩ = some (.slice y.h.cond.right.path.hops.p y.h.cond.right.path.hops.l.length y.h.cond.right.path.hops.cap) := cell_at (HRs4y.out _ HW2.out) 4 _ rfl
              have gx3_5 : w2.cell? ⟨w.heap.size, 36, none⟩ = some (.string x.h.cond.right.type) := cell_at (HRs4x.out _ HW2.out) 5 _ rfl
              have gy3_5 : w2.cell? ⟨w.heap.size + 1, 36, none⟩ = some (.string y.h.cond.right.type) := cell_at (HRs4y.out _ HW2.out) 5 _ rfl
              have gx3_6 : w2.cell? ⟨w.heap.size, 37, none⟩ = some (.string x.h.cond.right.left.name) := cell_at (HRs4x.out _ HW2.out) 6 _ rfl
              have gy3_6 : w2.cell? ⟨w.heap.size + 1, 37, none⟩ = some (.string y.h.cond.right.left.name) := cell_at (HRs4y.out _ HW2.out) 6 _ rfl
              have gx3_7 : w2.cell? ⟨w.heap.size, 38, none⟩ = some (.int .i64 x.h.cond.right.left.n) := cell_at (HRs4x.out _ HW2.out) 7 _ rfl
              have gy3_7 : w2.cell? ⟨w.heap.size + 1, 38, none⟩ = some (.int .i64 y.h.cond.right.left.n) := cell_at (HRs4y.out _ HW2.out) 7 _ rfl
              have gx3_8 : w2.cell? ⟨w.heap.size, 39, none⟩ = some (.int .i64 x.h.cond.right.left.pos) := cell_at (HRs4x.out _ HW2.out) 8 _ rfl
              have gy3_8 : w2.cell? ⟨w.heap.size + 1, 39, none⟩ = some (.int .i64 y.h.cond.right.left.pos) := cell_at (HRs4y.out _ HW2.out) 8 _ rfl
              have gx3_9 : w2.cell? ⟨w.heap.size, 40, none⟩ = some (.string x.h.cond.right.right.name) := cell_at (HRs4x.out _ HW2.out) 9 _ rfl
              have gy3_9 : w2.cell? ⟨w.heap.size + 1, 40, none⟩ = some (.string y.h.cond.right.right.name) := cell_at (HRs4y.out _ HW2.out) 9 _ rfl
              have gx3_10 : w2.cell? ⟨w.heap.size, 41, none⟩ = some (.int .i64 x.h.cond.right.right.n) := cell_at (HRs4x.out _ HW2.out) 10 _ rfl
              have gy3_10 : w2.cell? ⟨w.heap.size + 1, 41, none⟩ = some (.int .i64 y.h.cond.right.right.n) := cell_at (HRs4y.out _ HW2.out) 10 _ rfl
              have gx3_11 : w2.cell? ⟨w.heap.size, 42, none⟩ = some (.int .i64 x.h.cond.right.right.pos) := cell_at (HRs4x.out _ HW2.out) 11 _ rfl
              have gy3_11 : w2.cell? ⟨w.heap.size + 1, 42, none⟩ = some (.int .i64 y.h.cond.right.right.pos) := cell_at (HRs4y.out _ HW2.out) 11 _ rfl
              go_wp2_with fail
              refine (HDzb4.out _ HW2.out).mono ?_; rintro en w3 ⟨rfl, hb3⟩
              have HW3 : Hid (Below wA.heap.size wA w3) := hdn (HW2.out.trans (hb3.mono HW2.out.size))
              clear hb3
              have kk4 := HK45.out _ HW3.out
              obtain ⟨kx4, ky4⟩ := kk4
              go_wp2_with fail
              refine (HDzb5.out _ HW3.out).mono ?_; rintro en w4 ⟨rfl, hb4⟩
              have HW4 : Hid (Below wA.heap.size wA w4) := hdn (HW3.out.trans (hb4.mono HW3.out.size))
              clear hb4
              have kk5 := HK46.out _ HW4.out
              obtain ⟨kx5, ky5⟩ := kk5
              go_wp2_with fail
              refine (HDzb6.out _ HW4.out).mono ?_; rintro en w5 ⟨rfl, hb5⟩
              have HW5 : Hid (Below wA.heap.size wA w5) := hdn (HW4.out.trans (hb5.mono HW4.out.size))
              clear hb5
              go_wp2_with fail
              go_ret
              exact ⟨ret_bool (by rw [HF.out]; simp), HA.out.trans (HW5.out.mono HA.out.size)⟩
    ·have heq : ((l.length : Int) != (m.length : Int)) = true := by
      rw [bne_iff_ne]; intro e; exact he (by omega)
     rw [sameL_len he]
     clear he
     go_enter Tryz.func55, Tryz.ntmps55
     go_wp2_with fail
     go_ret
     exact ⟨ret_bool (by simp), HA.out⟩
end Go.Proofs.YtdlchhimkelinaaGreatDoor
