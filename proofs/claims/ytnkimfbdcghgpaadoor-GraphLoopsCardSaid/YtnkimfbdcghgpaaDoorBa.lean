/-
  DERIVED. What the tables hold when a call begins; an action in memory; the walks of takeWithin, takeOperand, number.
-/
import Derived.Test.YtnkimfbdcghgpaaDoorRows
import Derived.Test.YtnkimfbdcghgpaaDoorAc
import Derived.Lib.Strings
import Derived.Lib.Slices
import Derived.Lib.Walk
import Derived.WalkKit
import Derived.WalkSpells
import Derived.WalkLawsBesides
import Derived.Deep.QuietTactic
import Derived.BigQuiet
import Derived.Lib.Hide
import Derived.Lib.QuietBelow
import Derived.StillTailTactics
import Derived.Deep.RegionHeld3
import Derived.Laws.Tables
import Derived.Lib.LaidTab
import Derived.BigCall
import Derived.BigGuard
namespace Go.Proofs.YtnkimfbdcghgpaaDoor
open Go.RowKit Go.Sort

theorem lret_bool {a b : Bool} (h : a = b) : Ending.returned (.bool a) = .returned (.bool b) := by rw [h]
theorem lret_int {k : IntKind} {a b : Int} (h : a = b) : Ending.returned (.int k a) = .returned (.int k b) := by rw [h]
def iv (n : Int) : Value := .int .i64 n
/-- A text of these bytes. -/
def bt (l : List UInt8) : ByteArray := ⟨l.toArray⟩
theorem bt_list (l : List UInt8) : (bt l).data.toList = l := rfl
theorem bt_size (l : List UInt8) : (bt l).size = l.length := rfl
theorem bt_app (a b : List UInt8) : bt a ++ bt b = bt (a ++ b) := by
  have : (bt a ++ bt b).data.toList = a ++ b := by simp [bt]
  rw [← Lib.mk_data (bt a ++ bt b), this]; rfl
theorem ba_ext {a b : ByteArray} (h : a.data.toList = b.data.toList) : a = b := by rw [← Lib.mk_data a, h, Lib.mk_data]

/-- The five tables, and what the library's own variables hold. -/
structure Gl (w : World) : Prop where
  forms : ∀ k, k < 13 → ∀ j, j < 5 → w.cell? ⟨0, k * 5 + j, none⟩ = some (.int .u8 (((Ac.formOf k).getD j 0 : Nat) : Int))
  words : ∀ k, k < 13 → w.cell? ⟨1, k, none⟩ = some (.string (bt (Ac.wordOf k)))
  sign : ∀ p, 1 ≤ p → p < 9 → w.cell? ⟨2, p * 3, none⟩ = some (.string (bt [Ac.sgOf p]))
  lo : ∀ p, p < 9 → w.cell? ⟨2, p * 3 + 1, none⟩ = some (.int .i64 (Ac.loOf p))
  hi : ∀ p, p < 9 → w.cell? ⟨2, p * 3 + 2, none⟩ = some (.int .i64 (Ac.hiOf p))
  sums : ∀ k, k < 3 → w.cell? ⟨3, k, none⟩ = some (.string (bt (Ac.sumOf (k : Nat))))
  ords : ∀ k, k < 2 → w.cell? ⟨4, k, none⟩ = some (.string (bt (Ac.ordOf (k : Nat))))
  pow : Lib.TabIs Tryd.prog w "internal/strconv.uint64pow10" .u64 Lib.pow10Tab
  big : 7 < w.heap.size

/-- A block that is the call's own, whole. -/
def Bk (w : World) (g : Nat) (t : TypeId) (cs : Array Value) : Prop := w.heap[g]? = some (.cells cs t (0, 0))
theorem Bk.set_ {w : World} {g : Nat} {t : TypeId} {cs : Array Value} (h : Bk w g t cs) (i : Nat) (u : Value) : Bk (w.setCell ⟨g, i, none⟩ u) g t (cs.setIfInBounds i u) := by
  unfold Bk at h ⊢
  simp [World.setCell, Array.getElem?_modify, h]
theorem Bk.far {w : World} {g : Nat} {t : TypeId} {cs : Array Value} (h : Bk w g t cs) {p : Addr} (hp : g ≠ p.block) (u : Value) : Bk (w.setCell p u) g t cs := (Below.heap_setCell w p u g hp).trans h
theorem Bk.cell {w : World} {g : Nat} {t : TypeId} {cs : Array Value} (h : Bk w g t cs) (i : Nat) : w.cell? ⟨g, i, none⟩ = cs[i]? := cell_of_row w g i cs t (0, 0) h
theorem grownBy_setC (w : World) (a : Addr) (v : Value) : w.grownBy (w.setCell a v) (some a.block) :=
  ⟨rfl, rfl, rfl, by simp [World.setCell], fun i _ hne => Below.heap_setCell w a v i (fun e => hne (by rw [e]))⟩
theorem Bk.frozen {w : World} {g : Nat} {t : TypeId} {cs : Array Value} (h : Bk w g t cs) (i : Nat) : w.frozen? ⟨g, i, none⟩ = false := frozen_of_row w g i cs t h
theorem Bk.below {B : Nat} {w w' : World} {g : Nat} {t : TypeId} {cs : Array Value} (h : Bk w g t cs) (hb : Below B w w') (hg : g < B) : Bk w' g t cs := (hb.block g hg).trans h
theorem Bk.lt {w : World} {g : Nat} {t : TypeId} {cs : Array Value} (h : Bk w g t cs) : g < w.heap.size := by
  rcases Nat.lt_or_ge g w.heap.size with hlt | hge
  · exact hlt
  · unfold Bk at h; rw [Array.getElem?_eq_none hge] at h; simp at h

namespace Ac
/-- An action's cells. -/
def Acn.cs (a : Acn) : Array Value := #[.int .i64 a.kind, .int .i64 a.x, .int .i64 a.y, .int .i64 a.f, .int .i64 a.t, .int .i64 a.pl, .int .i64 a.op, .int .i64 a.l.v, .int .i64 a.l.n, .int .i64 a.r.v, .int .i64 a.r.n, .bool a.sense]
end Ac
open Ac

set_option maxHeartbeats 800000 in
theorem within_any (g i : Nat) (n lo hi : Int) (w : World) (c : w.cell? ⟨g, i, none⟩ = some (.int .i64 n)) (f : w.frozen? ⟨g, i, none⟩ = false) :
    Calls Tryd.prog 40 #[.pointer (some ⟨g, i, none⟩), .int .i64 lo, .int .i64 hi] w fun e w' => e = .returned (.bool (Ac.within n lo hi)) ∧ w' = w.setCell ⟨g, i, none⟩ (.int .i64 0) := by
  by_cases h1 : lo ≤ n
  · by_cases h2 : n ≤ hi
    · have HR : Hid (Ac.within n lo hi = true) := Lib.hid (Ac.within_iff.2 ⟨h1, h2⟩)
      go_enter Tryd.func40, Tryd.ntmps40
      go_wp2_with fail
      go_ret
      exact ⟨lret_bool HR.out.symm, rfl⟩
    · have HR : Hid (Ac.within n lo hi = false) := Lib.hid (by rw [Bool.eq_false_iff, Ne, Ac.within_iff]; omega)
      go_enter Tryd.func40, Tryd.ntmps40
      go_wp2_with fail
      go_ret
      exact ⟨lret_bool HR.out.symm, rfl⟩
  · have HR : Hid (Ac.within n lo hi = false) := Lib.hid (by rw [Bool.eq_false_iff, Ne, Ac.within_iff]; omega)
    go_enter Tryd.func40, Tryd.ntmps40
    go_wp2_with fail
    go_ret
    exact ⟨lret_bool HR.out.symm, rfl⟩

/-- What takeOperand leaves. -/
def opW (w : World) (g i : Nat) (o : Opd) : World := if o.v = -1 then (w.setCell ⟨g, i, none⟩ (.int .i64 0)).setCell ⟨g, i + 1, none⟩ (.int .i64 0) else w.setCell ⟨g, i, none⟩ (.int .i64 0)
set_option maxHeartbeats 800000 in
theorem operand_any (g i : Nat) (o : Opd) (w : World) (c : w.cell? ⟨g, i, none⟩ = some (.int .i64 o.v)) (c1 : w.cell? ⟨g, i + 1, none⟩ = some (.int .i64 o.n))
    (f : w.frozen? ⟨g, i, none⟩ = false) (f1 : w.frozen? ⟨g, i + 1, none⟩ = false) :
    Calls Tryd.prog 39 #[.pointer (some ⟨g, i, none⟩)] w fun e w' => e = .returned (.bool (opTk o).1) ∧ w' = opW w g i o := by
  by_cases h1 : o.v = -1
  · have HR : Hid (Ac.within o.n 0 999999999 = (opTk o).1) := Lib.hid (by unfold opTk; rw [if_pos h1])
    have HW : Hid ((w.setCell ⟨g, i, none⟩ (.int .i64 0)).setCell ⟨g, i + 1, none⟩ (.int .i64 0) = opW w g i o) := Lib.hid (by unfold opW; rw [if_pos h1])
    have d1 : (o.v == -1) = true := by rw [beq_iff_eq]; exact h1
    have CW := within_any g (i + 1) o.n 0 999999999 (w.setCell ⟨g, i, none⟩ (.int .i64 0)) (by simp [go_sem, c1]) (by simp [go_sem, f1])
    generalize o.v = v at *
    generalize o.n = n at *
    clear h1
    go_enter Tryd.func39, Tryd.ntmps39
    go_wp2_with (go_at_call 40; refine CW.mono ?_; rintro e w1 ⟨rfl, rfl⟩)
    go_ret
    exact ⟨lret_bool HR.out, HW.out⟩
  · have HW : Hid (w.setCell ⟨g, i, none⟩ (.int .i64 0) = opW w g i o) := Lib.hid (by unfold opW; rw [if_neg h1])
    have d1 : (o.v == -1) = false := by rw [beq_eq_false_iff_ne]; exact h1
    have CW := within_any g i o.v 0 23 w c f
    have c2 : (w.setCell ⟨g, i, none⟩ (.int .i64 0)).cell? ⟨g, i + 1, none⟩ = some (.int .i64 o.n) := by simp [go_sem, c1]
    by_cases h2 : Ac.within o.v 0 23 = true
    · have HR : Hid ((o.n == 0) = (opTk o).1) := Lib.hid (by unfold opTk; rw [if_neg h1, h2]; rfl)
      rw [h2] at CW
      generalize o.v = v at *
      generalize o.n = n at *
      clear h1 h2
      go_enter Tryd.func39, Tryd.ntmps39
      go_wp2_with (go_at_call 40; refine CW.mono ?_; rintro e w1 ⟨rfl, rfl⟩)
      go_ret
      exact ⟨lret_bool HR.out, HW.out⟩
    · have h3 : Ac.within o.v 0 23 = false := by simpa using h2
      have HR : Hid (false = (opTk o).1) := Lib.hid (by unfold opTk; rw [if_neg h1, h3]; rfl)
      rw [h3] at CW
      generalize o.v = v at *
      generalize o.n = n at *
      clear h1 h2 h3
      go_enter Tryd.func39, Tryd.ntmps39
      go_wp2_with (go_at_call 40; refine CW.mono ?_; rintro e w1 ⟨rfl, rfl⟩)
      go_ret
      exact ⟨lret_bool HR.out, HW.out⟩
/-- Where a part that is one number stands. -/
def atOf (p : Nat) : Nat :=
  match p with
  | 1 => 1
  | 3 => 1
  | 5 => 1
  | 2 => 2
  | 4 => 2
  | 6 => 3
  | 7 => 4
  | _ => 5
set_option maxHeartbeats 800000 in
theorem number_any (p g : Nat) (w : World) (hp : 1 ≤ p ∧ p ≤ 8) :
    Calls Tryd.prog 41 #[.int .u8 (p : Int), .pointer (some ⟨g, 0, none⟩)] w fun e w' => e = .returned (.pointer (some ⟨g, atOf p, none⟩)) ∧ w = w' := by
  obtain ⟨h1, h2⟩ := hp
  have h : p = 1 ∨ p = 2 ∨ p = 3 ∨ p = 4 ∨ p = 5 ∨ p = 6 ∨ p = 7 ∨ p = 8 := by omega
  clear h1 h2
  rcases h with rfl | rfl | rfl | rfl | rfl | rfl | rfl | rfl
  all_goals
    go_enter Tryd.func41, Tryd.ntmps41
    go_wp2_with fail
    go_ret
    exact ⟨rfl, rfl⟩
end Go.Proofs.YtnkimfbdcghgpaaDoor
