/-
  What the tables hold when a call begins; an action in memory; the walks of takeWithin, takeOperand, number. The walk of a part's taking out (take). Laws: structs loaded and stored whole, by their cells as an array; an item of an array by value. When actions are alike; the walk of Right. The walk of 
-/
import Derived.Test.YtebmhadpkncgfaaDoorRows
import Derived.Test.YtebmhadpkncgfaaDoorM03
import Derived.Lib.Strings
import Derived.Lib.Slices
import Derived.Lib.Walk
import Derived.WalkKit
import Derived.WalkSpells
import Derived.WalkLawsBesides
import Derived.Deep.QuietTactic
import Derived.BigQuiet
import Derived.Lib.Hide
import Derived.Lib.QuietBelow
import Derived.StillTailTactics
import Derived.Deep.RegionHeld3
import Derived.Laws.Tables
import Derived.BigCall
import Derived.BigGuard
import Derived.Maps.AppendAt
import Derived.Deep.AppendLies
import Derived.Deep.RegionWith
import Derived.Deep.MidRow
import Derived.Deep.WholeRow
import Derived.Laws.StructEq
import Derived.Outline
import Derived.Deep.DeepCutAuto
set_option maxHeartbeats 40000000
set_option maxRecDepth 100000
namespace Go.Proofs.YtebmhadpkncgfaaDoor
namespace Aw
open Go.RowKit Go.Sort
theorem lret_bool {a b : Bool} (h : a = b) : Ending.returned (.bool a) = .returned (.bool b) := by rw [h]
theorem lret_int {k : IntKind} {a b : Int} (h : a = b) : Ending.returned (.int k a) = .returned (.int k b) := by rw [h]
def iv (n : Int) : Value := .int .i64 n
/-- A text of these bytes. -/
def bt (l : List UInt8) : ByteArray := ⟨l.toArray⟩
theorem bt_list (l : List UInt8) : (bt l).data.toList = l := rfl
theorem bt_size (l : List UInt8) : (bt l).size = l.length := rfl
theorem bt_app (a b : List UInt8) : bt a ++ bt b = bt (a ++ b) := by
  have : (bt a ++ bt b).data.toList = a ++ b := by simp [bt]
  rw [← Lib.mk_data (bt a ++ bt b), this]; rfl
theorem ba_ext {a b : ByteArray} (h : a.data.toList = b.data.toList) : a = b := by rw [← Lib.mk_data a, h, Lib.mk_data]
/-- The two tables. -/
structure Gl (w : World) : Prop where
  forms : ∀ k, k < 13 → ∀ j, j < 5 → w.cell? ⟨0, k * 5 + j, none⟩ = some (.int .u8 (((Ac.formOf k).getD j 0 : Nat) : Int))
  lo : ∀ p, p < 9 → w.cell? ⟨1, p * 3 + 1, none⟩ = some (.int .i64 (Ac.loOf p))
  hi : ∀ p, p < 9 → w.cell? ⟨1, p * 3 + 2, none⟩ = some (.int .i64 (Ac.hiOf p))
  big : 1 < w.heap.size
/-- A block that is the call's own, whole. -/
def Bk (w : World) (g : Nat) (t : TypeId) (cs : Array Value) : Prop := w.heap[g]? = some (.cells cs t (0, 0))
theorem Bk.set_ {w : World} {g : Nat} {t : TypeId} {cs : Array Value} (h : Bk w g t cs) (i : Nat) (u : Value) : Bk (w.setCell ⟨g, i, none⟩ u) g t (cs.setIfInBounds i u) := by
  unfold Bk at h ⊢
  simp [World.setCell, Array.getElem?_modify, h]
theorem Bk.far {w : World} {g : Nat} {t : TypeId} {cs : Array Value} (h : Bk w g t cs) {p : Addr} (hp : g ≠ p.block) (u : Value) : Bk (w.setCell p u) g t cs := (Below.heap_setCell w p u g hp).trans h
theorem Bk.cell {w : World} {g : Nat} {t : TypeId} {cs : Array Value} (h : Bk w g t cs) (i : Nat) : w.cell? ⟨g, i, none⟩ = cs[i]? := cell_of_row w g i cs t (0, 0) h
theorem grownBy_setC (w : World) (a : Addr) (v : Value) : w.grownBy (w.setCell a v) (some a.block) :=
  ⟨rfl, rfl, rfl, by simp [World.setCell], fun i _ hne => Below.heap_setCell w a v i (fun e => hne (by rw [e]))⟩
theorem Bk.frozen {w : World} {g : Nat} {t : TypeId} {cs : Array Value} (h : Bk w g t cs) (i : Nat) : w.frozen? ⟨g, i, none⟩ = false := frozen_of_row w g i cs t h
theorem Bk.below {B : Nat} {w w' : World} {g : Nat} {t : TypeId} {cs : Array Value} (h : Bk w g t cs) (hb : Below B w w') (hg : g < B) : Bk w' g t cs := (hb.block g hg).trans h
theorem Bk.lt {w : World} {g : Nat} {t : TypeId} {cs : Array Value} (h : Bk w g t cs) : g < w.heap.size := by
  rcases Nat.lt_or_ge g w.heap.size with hlt | hge
  · exact hlt
  · unfold Bk at h; rw [Array.getElem?_eq_none hge] at h; simp at h
namespace Ac
/-- An action's cells. -/
def Acn.cs (a : Acn) : Array Value := #[.int .i64 a.kind, .int .i64 a.x, .int .i64 a.y, .int .i64 a.f, .int .i64 a.t, .int .i64 a.pl, .int .i64 a.op, .int .i64 a.l.v, .int .i64 a.l.n, .int .i64 a.r.v, .int .i64 a.r.n, .bool a.sense]
end Ac
open Ac
theorem within_any (g i : Nat) (n lo hi : Int) (w : World) (c : w.cell? ⟨g, i, none⟩ = some (.int .i64 n)) (f : w.frozen? ⟨g, i, none⟩ = false) :
    Calls Tryd.prog 85 #[.pointer (some ⟨g, i, none⟩), .int .i64 lo, .int .i64 hi] w fun e w' => e = .returned (.bool (Ac.within n lo hi)) ∧ w' = w.setCell ⟨g, i, none⟩ (.int .i64 0) := by
  by_cases h1 : lo ≤ n
  · by_cases h2 : n ≤ hi
    · have HR : Hid (Ac.within n lo hi = true) := hdn (Ac.within_iff.2 ⟨h1, h2⟩)
      go_enter Tryd.func85, Tryd.ntmps85
      go_wp2_with fail
      go_ret
      exact ⟨lret_bool HR.out.symm, rfl⟩
    · have HR : Hid (Ac.within n lo hi = false) := hdn (by rw [Bool.eq_false_iff, Ne, Ac.within_iff]; omega)
      go_enter Tryd.func85, Tryd.ntmps85
      go_wp2_with fail
      go_ret
      exact ⟨lret_bool HR.out.symm, rfl⟩
  · have HR : Hid (Ac.within n lo hi = false) := hdn (by rw [Bool.eq_false_iff, Ne, Ac.within_iff]; omega)
    go_enter Tryd.func85, Tryd.ntmps85
    go_wp2_with fail
    go_ret
    exact ⟨lret_bool HR.out.symm, rfl⟩
/-- What takeOperand leaves. -/
def opW (w : World) (g i : Nat) (o : Opd) : World := if o.v = -1 then (w.setCell ⟨g, i, none⟩ (.int .i64 0)).setCell ⟨g, i + 1, none⟩ (.int .i64 0) else w.setCell ⟨g, i, none⟩ (.int .i64 0)
theorem operand_any (g i : Nat) (o : Opd) (w : World) (c : w.cell? ⟨g, i, none⟩ = some (.int .i64 o.v)) (c1 : w.cell? ⟨g, i + 1, none⟩ = some (.int .i64 o.n))
    (f : w.frozen? ⟨g, i, none⟩ = false) (f1 : w.frozen? ⟨g, i + 1, none⟩ = false) :
    Calls Tryd.prog 84 #[.pointer (some ⟨g, i, none⟩)] w fun e w' => e = .returned (.bool (opTk o).1) ∧ w' = opW w g i o := by
  by_cases h1 : o.v = -1
  · have HR : Hid (Ac.within o.n 0 999999999 = (opTk o).1) := hdn (by unfold opTk; rw [if_pos h1])
    have HW : Hid ((w.setCell ⟨g, i, none⟩ (.int .i64 0)).setCell ⟨g, i + 1, none⟩ (.int .i64 0) = opW w g i o) := hdn (by unfold opW; rw [if_pos h1])
    have d1 : (o.v == -1) = true := by rw [beq_iff_eq]; exact h1
    have CW := within_any g (i + 1) o.n 0 999999999 (w.setCell ⟨g, i, none⟩ (.int .i64 0)) (by simp [go_sem, c1]) (by simp [go_sem, f1])
    generalize o.v = v at *
    generalize o.n = n at *
    clear h1
    go_enter Tryd.func84, Tryd.ntmps84
    go_wp2_with (go_at_call 85; refine CW.mono ?_; rintro e w1 ⟨rfl, rfl⟩)
    go_ret
    exact ⟨lret_bool HR.out, HW.out⟩
  · have HW : Hid (w.setCell ⟨g, i, none⟩ (.int .i64 0) = opW w g i o) := hdn (by unfold opW; rw [if_neg h1])
    have d1 : (o.v == -1) = false := by rw [beq_eq_false_iff_ne]; exact h1
    have CW := within_any g i o.v 0 23 w c f
    have c2 : (w.setCell ⟨g, i, none⟩ (.int .i64 0)).cell? ⟨g, i + 1, none⟩ = some (.int .i64 o.n) := by simp [go_sem, c1]
    by_cases h2 : Ac.within o.v 0 23 = true
    · have HR : Hid ((o.n == 0) = (opTk o).1) := hdn (by unfold opTk; rw [if_neg h1, h2]; rfl)
      rw [h2] at CW
      generalize o.v = v at *
      generalize o.n = n at *
      clear h1 h2
      go_enter Tryd.func84, Tryd.ntmps84
      go_wp2_with (go_at_call 85; refine CW.mono ?_; rintro e w1 ⟨rfl, rfl⟩)
      go_ret
      exact ⟨lret_bool HR.out, HW.out⟩
    · have h3 : Ac.within o.v 0 23 = false := by simpa using h2
      have HR : Hid (false = (opTk o).1) := hdn (by unfold opTk; rw [if_neg h1, h3]; rfl)
      rw [h3] at CW
      generalize o.v = v at *
      generalize o.n = n at *
      clear h1 h2 h3
      go_enter Tryd.func84, Tryd.ntmps84
      go_wp2_with (go_at_call 85; refine CW.mono ?_; rintro e w1 ⟨rfl, rfl⟩)
      go_ret
      exact ⟨lret_bool HR.out, HW.out⟩
/-- Where a part that is one number stands. -/
def atOf (p : Nat) : Nat :=
  match p with
  | 1 => 1
  | 3 => 1
  | 5 => 1
  | 2 => 2
  | 4 => 2
  | 6 => 3
  | 7 => 4
  | _ => 5
theorem number_any (p g : Nat) (w : World) (hp : 1 ≤ p ∧ p ≤ 8) :
    Calls Tryd.prog 86 #[.int .u8 (p : Int), .pointer (some ⟨g, 0, none⟩)] w fun e w' => e = .returned (.pointer (some ⟨g, atOf p, none⟩)) ∧ w = w' := by
  obtain ⟨h1, h2⟩ := hp
  have h : p = 1 ∨ p = 2 ∨ p = 3 ∨ p = 4 ∨ p = 5 ∨ p = 6 ∨ p = 7 ∨ p = 8 := by omega
  clear h1 h2
  rcases h with rfl | rfl | rfl | rfl | rfl | rfl | rfl | rfl
  all_goals
    go_enter Tryd.func86, Tryd.ntmps86
    go_wp2_with fail
    go_ret
    exact ⟨rfl, rfl⟩
end Aw
end Go.Proofs.YtebmhadpkncgfaaDoor
namespace Go.Proofs.YtebmhadpkncgfaaDoor
namespace Aw
open Go.RowKit Go.Sort
open Ac
theorem grownBy_tr {a b c : World} {r : Option Nat} (h : a.grownBy b r) (k : b.grownBy c r) : a.grownBy c r := h.trans k
theorem grownBy_drewN {w w' : World} {r : Option Nat} (h : w.grownBy w' r) (n : Nat) : w.grownBy (w'.drewN n) r := ⟨h.os, h.tape, h.output, h.size, h.block⟩
theorem grownBy_drew {a b : World} {r : Option Nat} (h : a.grownBy b r) : a.grownBy b.drew r := ⟨h.os, h.tape, h.output, h.size, h.block⟩
theorem Bk.drewN {w : World} {g : Nat} {t : TypeId} {cs : Array Value} (h : Bk w g t cs) (n : Nat) : Bk (w.drewN n) g t cs := h
theorem cell_heap {w w' : World} {b o : Nat} (h : w'.heap[b]? = w.heap[b]?) : w'.cell? ⟨b, o, none⟩ = w.cell? ⟨b, o, none⟩ := by unfold World.cell?; rw [h]
theorem Gl.of {w w' : World} (h : Gl w) (hb : ∀ b, b < 2 → w'.heap[b]? = w.heap[b]?) (hs : w.heap.size ≤ w'.heap.size) : Gl w' := by
  have hc : ∀ b o, b < 2 → w'.cell? ⟨b, o, none⟩ = w.cell? ⟨b, o, none⟩ := fun b o hlt => cell_heap (hb b hlt)
  refine ⟨fun k hk j hj => ?_, fun p h1 => ?_, fun p h1 => ?_, Nat.lt_of_lt_of_le h.big hs⟩
  · rw [hc _ _ (by omega)]; exact h.forms k hk j hj
  · rw [hc _ _ (by omega)]; exact h.lo p h1
  · rw [hc _ _ (by omega)]; exact h.hi p h1
theorem Gl.below {w w' : World} {B : Nat} (h : Gl w) (hb : Below B w w') (hB : 2 ≤ B) : Gl w' :=
  h.of (fun b hlt => hb.block b (by omega)) hb.size
theorem Gl.grown {w w' : World} {g : Nat} (h : Gl w) (hg : w.grownBy w' (some g)) (h11 : 2 ≤ g) : Gl w' :=
  h.of (fun b hlt => hg.block b (by have := h.big; omega) (fun e => by injection e with e; omega)) hg.size
/-- What take leaves. -/
def TkPost (w : World) (g p : Nat) (a : Acn) (e : Ending) (w' : World) : Prop := e = .returned (.bool (tk p a).1) ∧ Bk w' g 43 (tk p a).2.cs ∧ w.grownBy w' (some g)
theorem bk_op {w : World} {g : Nat} {a : Acn} (h : Bk w g 43 a.cs) (o : Opd) (i : Nat) : (i = 7 → o = a.l → Bk (opW w g i o) g 43 ({ a with l := (opTk o).2 } : Acn).cs) ∧ (i = 9 → o = a.r → Bk (opW w g i o) g 43 ({ a with r := (opTk o).2 } : Acn).cs) := by
  refine ⟨?_, ?_⟩
  · rintro rfl rfl
    unfold opW opTk
    split
    · exact (h.set_ 7 _).set_ 8 _
    · exact h.set_ 7 _
  · rintro rfl rfl
    unfold opW opTk
    split
    · exact (h.set_ 9 _).set_ 10 _
    · exact h.set_ 9 _
theorem grown_op (w : World) (g i : Nat) (o : Opd) : w.grownBy (opW w g i o) (some g) := by
  unfold opW
  split
  · exact grownBy_tr (grownBy_setC w ⟨g, i, none⟩ _) (grownBy_setC _ ⟨g, i + 1, none⟩ _)
  · exact grownBy_setC w ⟨g, i, none⟩ _
theorem take_left (g : Nat) (a : Acn) (w : World) (h : Bk w g 43 a.cs) : Calls Tryd.prog 73 #[.int .u8 ((9 : Nat) : Int), .pointer (some ⟨g, 0, none⟩)] w fun e w' => TkPost w g 9 a e w' := by
  have CO := operand_any g 7 a.l w (h.cell 7) (h.cell 8) (h.frozen 7) (h.frozen 8)
  have HP : Hid (TkPost w g 9 a (.returned (.bool (opTk a.l).1)) (opW w g 7 a.l)) := hdn ⟨rfl, (bk_op h a.l 7).1 rfl rfl, grown_op w g 7 a.l⟩
  clear h
  generalize opW w g 7 a.l = w2 at *
  generalize (opTk a.l).1 = b at *
  go_enter Tryd.func73, Tryd.ntmps73
  go_wp2_with (go_at_call 84; refine CO.mono ?_; rintro e w1 ⟨rfl, rfl⟩)
  go_ret
  exact HP.out
theorem take_right (g : Nat) (a : Acn) (w : World) (h : Bk w g 43 a.cs) : Calls Tryd.prog 73 #[.int .u8 ((10 : Nat) : Int), .pointer (some ⟨g, 0, none⟩)] w fun e w' => TkPost w g 10 a e w' := by
  have CO := operand_any g 9 a.r w (h.cell 9) (h.cell 10) (h.frozen 9) (h.frozen 10)
  have HP : Hid (TkPost w g 10 a (.returned (.bool (opTk a.r).1)) (opW w g 9 a.r)) := hdn ⟨rfl, (bk_op h a.r 9).2 rfl rfl, grown_op w g 9 a.r⟩
  clear h
  generalize opW w g 9 a.r = w2 at *
  generalize (opTk a.r).1 = b at *
  go_enter Tryd.func73, Tryd.ntmps73
  go_wp2_with (go_at_call 84; refine CO.mono ?_; rintro e w1 ⟨rfl, rfl⟩)
  go_ret
  exact HP.out
theorem take_none (g : Nat) (a : Acn) (w : World) (h : Bk w g 43 a.cs) : Calls Tryd.prog 73 #[.int .u8 ((0 : Nat) : Int), .pointer (some ⟨g, 0, none⟩)] w fun e w' => TkPost w g 0 a e w' := by
  have HP : Hid (TkPost w g 0 a (.returned (.bool true)) w) := hdn ⟨rfl, h, ⟨rfl, rfl, rfl, Nat.le_refl _, fun _ _ _ => rfl⟩⟩
  clear h
  go_enter Tryd.func73, Tryd.ntmps73
  go_wp2_with fail
  go_ret
  exact HP.out
theorem take_sense (g : Nat) (a : Acn) (w : World) (h : Bk w g 43 a.cs) : Calls Tryd.prog 73 #[.int .u8 ((13 : Nat) : Int), .pointer (some ⟨g, 0, none⟩)] w fun e w' => TkPost w g 13 a e w' := by
  have HP : Hid (TkPost w g 13 a (.returned (.bool true)) (w.setCell ⟨g, 11, none⟩ (.bool false))) := hdn ⟨rfl, h.set_ 11 _, grownBy_setC w ⟨g, 11, none⟩ _⟩
  have c : w.cell? ⟨g, 11, none⟩ = some (.bool a.sense) := h.cell 11
  have f := h.frozen 11
  clear h
  generalize a.sense = s at *
  go_enter Tryd.func73, Tryd.ntmps73
  go_wp2_with fail
  go_ret
  exact HP.out
theorem take_order (g : Nat) (a : Acn) (w : World) (h : Bk w g 43 a.cs) : Calls Tryd.prog 73 #[.int .u8 ((12 : Nat) : Int), .pointer (some ⟨g, 0, none⟩)] w fun e w' => TkPost w g 12 a e w' := by
  have CW := within_any g 6 a.op 0 1 w (h.cell 6) (h.frozen 6)
  have HP : Hid (TkPost w g 12 a (.returned (.bool (Ac.within a.op 0 1))) (w.setCell ⟨g, 6, none⟩ (.int .i64 0))) := hdn ⟨rfl, h.set_ 6 _, grownBy_setC w ⟨g, 6, none⟩ _⟩
  clear h
  generalize Ac.within a.op 0 1 = b at *
  go_enter Tryd.func73, Tryd.ntmps73
  go_wp2_with (go_at_call 85; refine CW.mono ?_; rintro e w1 ⟨rfl, rfl⟩)
  go_ret
  exact HP.out
theorem take_more (g : Nat) (a : Acn) (w : World) (h : Bk w g 43 a.cs) : Calls Tryd.prog 73 #[.int .u8 ((11 : Nat) : Int), .pointer (some ⟨g, 0, none⟩)] w fun e w' => TkPost w g 11 a e w' := by
  have CW := within_any g 6 a.op 0 2 w (h.cell 6) (h.frozen 6)
  have hs := h.set_ 6 (.int .i64 0)
  have CO := operand_any g 9 a.r _ (hs.cell 9) (hs.cell 10) (hs.frozen 9) (hs.frozen 10)
  have c6 : w.cell? ⟨g, 6, none⟩ = some (.int .i64 a.op) := h.cell 6
  have gw := grownBy_setC w ⟨g, 6, none⟩ (.int .i64 0)
  by_cases hw : Ac.within a.op 0 2 = true
  · by_cases h0 : a.op = 0
    · have e : tk 11 a = (true, { a with op := 0 }) := by simp only [tk, hw, if_true, if_pos h0]
      have HP : Hid (TkPost w g 11 a (.returned (.bool true)) (w.setCell ⟨g, 6, none⟩ (.int .i64 0))) := hdn ⟨by rw [e], by rw [e]; exact hs, gw⟩
      rw [hw] at CW
      have d0 : (a.op == 0) = true := by rw [beq_iff_eq]; exact h0
      clear h hs CO gw hw h0 e
      generalize a.op = op at *
      go_enter Tryd.func73, Tryd.ntmps73
      go_wp2_with (go_at_call 85; refine CW.mono ?_; rintro e w1 ⟨rfl, rfl⟩)
      go_ret
      exact HP.out
    · have e : tk 11 a = ((opTk a.r).1, { a with op := 0, r := (opTk a.r).2 }) := by simp [tk, hw, h0]
      have HP : Hid (TkPost w g 11 a (.returned (.bool (opTk a.r).1)) (opW (w.setCell ⟨g, 6, none⟩ (.int .i64 0)) g 9 a.r)) := hdn ⟨by rw [e], by
        rw [e]; exact (bk_op (a := { a with op := 0 }) hs a.r 9).2 rfl rfl, grownBy_tr gw (grown_op _ g 9 a.r)⟩
      rw [hw] at CW
      have d0 : (a.op == 0) = false := by rw [beq_eq_false_iff_ne]; exact h0
      clear h hs gw hw h0 e
      generalize opW (w.setCell ⟨g, 6, none⟩ (.int .i64 0)) g 9 a.r = w2 at *
      generalize (opTk a.r).1 = b at *
      generalize a.op = op at *
      go_enter Tryd.func73, Tryd.ntmps73
      go_wp2_with (first | (go_at_call 85; refine CW.mono ?_; rintro e w1 ⟨rfl, rfl⟩) | (go_at_call 84; refine CO.mono ?_; rintro e w1 ⟨rfl, rfl⟩))
      go_ret
      exact HP.out
  · have e : tk 11 a = (false, { a with op := 0 }) := by simp [tk, hw]
    have HP : Hid (TkPost w g 11 a (.returned (.bool false)) (w.setCell ⟨g, 6, none⟩ (.int .i64 0))) := hdn ⟨by rw [e], by rw [e]; exact hs, gw⟩
    have hw' : Ac.within a.op 0 2 = false := by simpa using hw
    rw [hw'] at CW
    clear h hs CO gw hw hw' e
    generalize a.op = op at *
    go_enter Tryd.func73, Tryd.ntmps73
    go_wp2_with (go_at_call 85; refine CW.mono ?_; rintro e w1 ⟨rfl, rfl⟩)
    go_ret
    exact HP.out
theorem num_cell (a : Acn) (p : Nat) (hp : 1 ≤ p ∧ p ≤ 8) : a.cs[atOf p]? = some (.int .i64 (numOf p a)) := by
  have h : p = 1 ∨ p = 2 ∨ p = 3 ∨ p = 4 ∨ p = 5 ∨ p = 6 ∨ p = 7 ∨ p = 8 := by omega
  rcases h with rfl | rfl | rfl | rfl | rfl | rfl | rfl | rfl <;> rfl
theorem num_set (a : Acn) (p : Nat) (hp : 1 ≤ p ∧ p ≤ 8) (n : Int) : a.cs.setIfInBounds (atOf p) (.int .i64 n) = (setNum p a n).cs := by
  have h : p = 1 ∨ p = 2 ∨ p = 3 ∨ p = 4 ∨ p = 5 ∨ p = 6 ∨ p = 7 ∨ p = 8 := by omega
  rcases h with rfl | rfl | rfl | rfl | rfl | rfl | rfl | rfl <;> rfl
theorem tk_num (p : Nat) (hp : 1 ≤ p ∧ p ≤ 8) (a : Acn) : tk p a = (Ac.within (numOf p a) (loOf p) (hiOf p), setNum p a 0) := by
  have h : p = 1 ∨ p = 2 ∨ p = 3 ∨ p = 4 ∨ p = 5 ∨ p = 6 ∨ p = 7 ∨ p = 8 := by omega
  rcases h with rfl | rfl | rfl | rfl | rfl | rfl | rfl | rfl <;> rfl
theorem take_num (g p : Nat) (hp : 1 ≤ p ∧ p ≤ 8) (a : Acn) (w : World) (h : Bk w g 43 a.cs) (hG : Gl w) : Calls Tryd.prog 73 #[.int .u8 (p : Int), .pointer (some ⟨g, 0, none⟩)] w fun e w' => TkPost w g p a e w' := by
  have cl := hG.lo p (by omega)
  have ch := hG.hi p (by omega)
  have HP : Hid (TkPost w g p a (.returned (.bool (Ac.within (numOf p a) (loOf p) (hiOf p)))) (w.drew.setCell ⟨g, atOf p, none⟩ (.int .i64 0))) := hdn ⟨by rw [tk_num p hp], by
    rw [tk_num p hp, ← num_set a p hp 0]; exact (h.drewN 1).set_ _ _, grownBy_tr (grownBy_drewN ⟨rfl, rfl, rfl, Nat.le_refl _, fun _ _ _ => rfl⟩ 1) (grownBy_setC w.drew ⟨g, atOf p, none⟩ _)⟩
  have CW : Hid (Calls Tryd.prog 85 #[.pointer (some ⟨g, atOf p, none⟩), .int .i64 (loOf p), .int .i64 (hiOf p)] w.drew fun e w' => e = .returned (.bool (Ac.within (numOf p a) (loOf p) (hiOf p))) ∧ w' = w.drew.setCell ⟨g, atOf p, none⟩ (.int .i64 0)) :=
    hdn (within_any g (atOf p) (numOf p a) (loOf p) (hiOf p) w.drew (((h.drewN 1).cell _).trans (num_cell a p hp)) ((h.drewN 1).frozen _))
  have CN : Hid (∀ w, Calls Tryd.prog 86 #[.int .u8 (p : Int), .pointer (some ⟨g, 0, none⟩)] w fun e w' => e = .returned (.pointer (some ⟨g, atOf p, none⟩)) ∧ w = w') := hdn fun w => number_any p g w hp
  clear h hG
  generalize Ac.within (numOf p a) (loOf p) (hiOf p) = b at *
  generalize atOf p = q at *
  have h : p = 1 ∨ p = 2 ∨ p = 3 ∨ p = 4 ∨ p = 5 ∨ p = 6 ∨ p = 7 ∨ p = 8 := by omega
  clear hp
  rcases h with rfl | rfl | rfl | rfl | rfl | rfl | rfl | rfl
  · have cl' : w.cell? ⟨1, 4, none⟩ = some (.int .i64 (0)) := cl
    have ch' : w.cell? ⟨1, 5, none⟩ = some (.int .i64 23) := ch
    replace CW : Hid (Calls Tryd.prog 85 #[.pointer (some ⟨g, q, none⟩), .int .i64 (0), .int .i64 23] w.drew fun e w' => e = .returned (.bool b) ∧ w' = w.drew.setCell ⟨g, q, none⟩ (.int .i64 0)) := CW
    clear cl ch
    have CN1 : Calls Tryd.prog 86 #[.int .u8 1, .pointer (some ⟨g, 0, none⟩)] w.drew fun e w' => e = .returned (.pointer (some ⟨g, q, none⟩)) ∧ w' = w.drew := (CN.out w.drew).mono fun _ _ h => ⟨h.1, h.2.symm⟩
    replace CN1 := hdn CN1
    clear CN
    go_enter Tryd.func73, Tryd.ntmps73
    go_wp2_with fail
    refine wp_region_still_tail 11 (by kernel_rfl) (by kernel_rfl) ?_
    simp only [List.take_succ_cons, List.take_zero, List.drop_succ_cons, List.drop_zero]
    repeat (first | still_step | still_call CN1.out)
    refine wpStill_nil ?_
    change wpList _ _ _ _ _ w.drew
    go_wp2_with (go_at_call 85; (with_reducible refine CW.out.mono ?_); rintro e w1 ⟨rfl, rfl⟩)
    go_ret
    exact HP.out
  · have cl' : w.cell? ⟨1, 7, none⟩ = some (.int .i64 (0)) := cl
    have ch' : w.cell? ⟨1, 8, none⟩ = some (.int .i64 23) := ch
    replace CW : Hid (Calls Tryd.prog 85 #[.pointer (some ⟨g, q, none⟩), .int .i64 (0), .int .i64 23] w.drew fun e w' => e = .returned (.bool b) ∧ w' = w.drew.setCell ⟨g, q, none⟩ (.int .i64 0)) := CW
    clear cl ch
    have CN1 : Calls Tryd.prog 86 #[.int .u8 2, .pointer (some ⟨g, 0, none⟩)] w.drew fun e w' => e = .returned (.pointer (some ⟨g, q, none⟩)) ∧ w' = w.drew := (CN.out w.drew).mono fun _ _ h => ⟨h.1, h.2.symm⟩
    replace CN1 := hdn CN1
    clear CN
    go_enter Tryd.func73, Tryd.ntmps73
    go_wp2_with fail
    refine wp_region_still_tail 11 (by kernel_rfl) (by kernel_rfl) ?_
    simp only [List.take_succ_cons, List.take_zero, List.drop_succ_cons, List.drop_zero]
    repeat (first | still_step | still_call CN1.out)
    refine wpStill_nil ?_
    change wpList _ _ _ _ _ w.drew
    go_wp2_with (go_at_call 85; (with_reducible refine CW.out.mono ?_); rintro e w1 ⟨rfl, rfl⟩)
    go_ret
    exact HP.out
  · have cl' : w.cell? ⟨1, 10, none⟩ = some (.int .i64 (-1)) := cl
    have ch' : w.cell? ⟨1, 11, none⟩ = some (.int .i64 23) := ch
    replace CW : Hid (Calls Tryd.prog 85 #[.pointer (some ⟨g, q, none⟩), .int .i64 (-1), .int .i64 23] w.drew fun e w' => e = .returned (.bool b) ∧ w' = w.drew.setCell ⟨g, q, none⟩ (.int .i64 0)) := CW
    clear cl ch
    have CN1 : Calls Tryd.prog 86 #[.int .u8 3, .pointer (some ⟨g, 0, none⟩)] w.drew fun e w' => e = .returned (.pointer (some ⟨g, q, none⟩)) ∧ w' = w.drew := (CN.out w.drew).mono fun _ _ h => ⟨h.1, h.2.symm⟩
    replace CN1 := hdn CN1
    clear CN
    go_enter Tryd.func73, Tryd.ntmps73
    go_wp2_with fail
    refine wp_region_still_tail 11 (by kernel_rfl) (by kernel_rfl) ?_
    simp only [List.take_succ_cons, List.take_zero, List.drop_succ_cons, List.drop_zero]
    repeat (first | still_step | still_call CN1.out)
    refine wpStill_nil ?_
    change wpList _ _ _ _ _ w.drew
    go_wp2_with (go_at_call 85; (with_reducible refine CW.out.mono ?_); rintro e w1 ⟨rfl, rfl⟩)
    go_ret
    exact HP.out
  · have cl' : w.cell? ⟨1, 13, none⟩ = some (.int .i64 (-1)) := cl
    have ch' : w.cell? ⟨1, 14, none⟩ = some (.int .i64 23) := ch
    replace CW : Hid (Calls Tryd.prog 85 #[.pointer (some ⟨g, q, none⟩), .int .i64 (-1), .int .i64 23] w.drew fun e w' => e = .returned (.bool b) ∧ w' = w.drew.setCell ⟨g, q, none⟩ (.int .i64 0)) := CW
    clear cl ch
    have CN1 : Calls Tryd.prog 86 #[.int .u8 4, .pointer (some ⟨g, 0, none⟩)] w.drew fun e w' => e = .returned (.pointer (some ⟨g, q, none⟩)) ∧ w' = w.drew := (CN.out w.drew).mono fun _ _ h => ⟨h.1, h.2.symm⟩
    replace CN1 := hdn CN1
    clear CN
    go_enter Tryd.func73, Tryd.ntmps73
    go_wp2_with fail
    refine wp_region_still_tail 11 (by kernel_rfl) (by kernel_rfl) ?_
    simp only [List.take_succ_cons, List.take_zero, List.drop_succ_cons, List.drop_zero]
    repeat (first | still_step | still_call CN1.out)
    refine wpStill_nil ?_
    change wpList _ _ _ _ _ w.drew
    go_wp2_with (go_at_call 85; (with_reducible refine CW.out.mono ?_); rintro e w1 ⟨rfl, rfl⟩)
    go_ret
    exact HP.out
  · have cl' : w.cell? ⟨1, 16, none⟩ = some (.int .i64 (0)) := cl
    have ch' : w.cell? ⟨1, 17, none⟩ = some (.int .i64 23) := ch
    replace CW : Hid (Calls Tryd.prog 85 #[.pointer (some ⟨g, q, none⟩), .int .i64 (0), .int .i64 23] w.drew fun e w' => e = .returned (.bool b) ∧ w' = w.drew.setCell ⟨g, q, none⟩ (.int .i64 0)) := CW
    clear cl ch
    have CN1 : Calls Tryd.prog 86 #[.int .u8 5, .pointer (some ⟨g, 0, none⟩)] w.drew fun e w' => e = .returned (.pointer (some ⟨g, q, none⟩)) ∧ w' = w.drew := (CN.out w.drew).mono fun _ _ h => ⟨h.1, h.2.symm⟩
    replace CN1 := hdn CN1
    clear CN
    go_enter Tryd.func73, Tryd.ntmps73
    go_wp2_with fail
    refine wp_region_still_tail 11 (by kernel_rfl) (by kernel_rfl) ?_
    simp only [List.take_succ_cons, List.take_zero, List.drop_succ_cons, List.drop_zero]
    repeat (first | still_step | still_call CN1.out)
    refine wpStill_nil ?_
    change wpList _ _ _ _ _ w.drew
    go_wp2_with (go_at_call 85; (with_reducible refine CW.out.mono ?_); rintro e w1 ⟨rfl, rfl⟩)
    go_ret
    exact HP.out
  · have cl' : w.cell? ⟨1, 19, none⟩ = some (.int .i64 (0)) := cl
    have ch' : w.cell? ⟨1, 20, none⟩ = some (.int .i64 7) := ch
    replace CW : Hid (Calls Tryd.prog 85 #[.pointer (some ⟨g, q, none⟩), .int .i64 (0), .int .i64 7] w.drew fun e w' => e = .returned (.bool b) ∧ w' = w.drew.setCell ⟨g, q, none⟩ (.int .i64 0)) := CW
    clear cl ch
    have CN1 : Calls Tryd.prog 86 #[.int .u8 6, .pointer (some ⟨g, 0, none⟩)] w.drew fun e w' => e = .returned (.pointer (some ⟨g, q, none⟩)) ∧ w' = w.drew := (CN.out w.drew).mono fun _ _ h => ⟨h.1, h.2.symm⟩
    replace CN1 := hdn CN1
    clear CN
    go_enter Tryd.func73, Tryd.ntmps73
    go_wp2_with fail
    refine wp_region_still_tail 11 (by kernel_rfl) (by kernel_rfl) ?_
    simp only [List.take_succ_cons, List.take_zero, List.drop_succ_cons, List.drop_zero]
    repeat (first | still_step | still_call CN1.out)
    refine wpStill_nil ?_
    change wpList _ _ _ _ _ w.drew
    go_wp2_with (go_at_call 85; (with_reducible refine CW.out.mono ?_); rintro e w1 ⟨rfl, rfl⟩)
    go_ret
    exact HP.out
  · have cl' : w.cell? ⟨1, 22, none⟩ = some (.int .i64 (0)) := cl
    have ch' : w.cell? ⟨1, 23, none⟩ = some (.int .i64 7) := ch
    replace CW : Hid (Calls Tryd.prog 85 #[.pointer (some ⟨g, q, none⟩), .int .i64 (0), .int .i64 7] w.drew fun e w' => e = .returned (.bool b) ∧ w' = w.drew.setCell ⟨g, q, none⟩ (.int .i64 0)) := CW
    clear cl ch
    have CN1 : Calls Tryd.prog 86 #[.int .u8 7, .pointer (some ⟨g, 0, none⟩)] w.drew fun e w' => e = .returned (.pointer (some ⟨g, q, none⟩)) ∧ w' = w.drew := (CN.out w.drew).mono fun _ _ h => ⟨h.1, h.2.symm⟩
    replace CN1 := hdn CN1
    clear CN
    go_enter Tryd.func73, Tryd.ntmps73
    go_wp2_with fail
    refine wp_region_still_tail 11 (by kernel_rfl) (by kernel_rfl) ?_
    simp only [List.take_succ_cons, List.take_zero, List.drop_succ_cons, List.drop_zero]
    repeat (first | still_step | still_call CN1.out)
    refine wpStill_nil ?_
    change wpList _ _ _ _ _ w.drew
    go_wp2_with (go_at_call 85; (with_reducible refine CW.out.mono ?_); rintro e w1 ⟨rfl, rfl⟩)
    go_ret
    exact HP.out
  · have cl' : w.cell? ⟨1, 25, none⟩ = some (.int .i64 (0)) := cl
    have ch' : w.cell? ⟨1, 26, none⟩ = some (.int .i64 65536) := ch
    replace CW : Hid (Calls Tryd.prog 85 #[.pointer (some ⟨g, q, none⟩), .int .i64 (0), .int .i64 65536] w.drew fun e w' => e = .returned (.bool b) ∧ w' = w.drew.setCell ⟨g, q, none⟩ (.int .i64 0)) := CW
    clear cl ch
    have CN1 : Calls Tryd.prog 86 #[.int .u8 8, .pointer (some ⟨g, 0, none⟩)] w.drew fun e w' => e = .returned (.pointer (some ⟨g, q, none⟩)) ∧ w' = w.drew := (CN.out w.drew).mono fun _ _ h => ⟨h.1, h.2.symm⟩
    replace CN1 := hdn CN1
    clear CN
    go_enter Tryd.func73, Tryd.ntmps73
    go_wp2_with fail
    refine wp_region_still_tail 11 (by kernel_rfl) (by kernel_rfl) ?_
    simp only [List.take_succ_cons, List.take_zero, List.drop_succ_cons, List.drop_zero]
    repeat (first | still_step | still_call CN1.out)
    refine wpStill_nil ?_
    change wpList _ _ _ _ _ w.drew
    go_wp2_with (go_at_call 85; (with_reducible refine CW.out.mono ?_); rintro e w1 ⟨rfl, rfl⟩)
    go_ret
    exact HP.out
end Aw
end Go.Proofs.YtebmhadpkncgfaaDoor
namespace Go.Proofs.YtebmhadpkncgfaaDoor
namespace Aw
open Go.RowKit Go.Sort
/-- A struct's value goes into the block that was made last. -/
theorem wpList_store_new {P : Program} {ops : Array Oper} {rest : List Oper} {op : Oper} {a : Act} {w : World} {Q : Exit → Act → World → Prop} (hgd : op.guard = none) (ty : TypeId) (x y : Operand) (ho : op.op = .store ty x y)
    (c c' : Array Value) (hx : a.eval x = .pointer (some ⟨w.heap.size, 0, none⟩)) (hy : a.eval y = .agg c') (hi : (P.info? ty).map (·.size) = some c'.size) (hc : c.size = c'.size) (h1 : c'.all (·.oneCell') = true)
    (h : wpList P ops Q rest (a.put op.dst undef) (w.alloc (.cells c' ty))) : wpList P ops Q (op :: rest) a (w.alloc (.cells c ty)) :=
  wpList_plain hgd fun _ hK => by
    unfold Oper.wp execOp
    simp only [ho, hx, hy, Instr.storeAt, Instr.sureAddr, Sem.run_bind, Sem.run_pure, Result.andThen_ok, run_storeVar_new w ty c c' hi hc h1]
    exact hK _ _ h
/-- A struct's value out of the middle of a block, its cells as an array. -/
theorem wpList_load_arr {P : Program} {ops : Array Oper} {rest : List Oper} {op : Oper} {a : Act} {w : World} {Q : Exit → Act → World → Prop} (hgd : op.guard = none) (ty : TypeId) (x : Operand) (ho : op.op = .load ty x)
    (b o : Nat) (hx : a.eval x = .pointer (some ⟨b, o, none⟩)) (cs : Array Value) (d : TypeDesc) (hc : w.rangeAt b o cs.toList)
    (hu : P.underlying ty = some d) (hd : d.isRow = true) (hi : (P.info? ty).map (·.size) = some cs.size)
    (h : wpList P ops Q rest (a.put op.dst (.agg cs)) w) : wpList P ops Q (op :: rest) a w :=
  wpList_load_mid hgd ty x ho b o hx cs.toList d hc hu hd (by simpa using hi) (by simpa using h)
/-! Structs loaded and stored whole. -/
theorem Bk.setRow {w : World} {R : Nat} {t : TypeId} {old : Array Value} (h : Bk w R t old) (cs : Array Value) : Bk (w.setRow R cs) R t cs ∧ w.grownBy (w.setRow R cs) (some R) := by
  refine ⟨?_, ⟨rfl, rfl, rfl, by simp [World.setRow], fun i _ hne => ?_⟩⟩
  · unfold Bk at h ⊢
    simp [World.setRow, Array.getElem?_modify, h]
  · have hne' : ¬ R = i := fun e => hne (by rw [e])
    simp [World.setRow, Array.getElem?_modify, hne']
/-- A struct's value goes into a block of its size. -/
theorem wpList_store_bk {P : Program} {ops : Array Oper} {rest : List Oper} {op : Oper} {a : Act} {w : World} {Q : Exit → Act → World → Prop} (hgd : op.guard = none) (ty : TypeId) (x y : Operand) (ho : op.op = .store ty x y)
    (R : Nat) (t : TypeId) (old cs : Array Value) (hx : a.eval x = .pointer (some ⟨R, 0, none⟩)) (hy : a.eval y = .agg cs) (hk : Bk w R t old) (hi : (P.info? ty).map (·.size) = some cs.size) (hc : old.size = cs.size) (h1 : cs.all (·.oneCell') = true)
    (h : ∀ w', Bk w' R t cs → w.grownBy w' (some R) → wpList P ops Q rest (a.put op.dst undef) w') : wpList P ops Q (op :: rest) a w :=
  wpList_plain hgd fun _ hK => by
    unfold Oper.wp execOp
    simp only [ho, hx, hy, Instr.storeAt, Instr.sureAddr, Sem.run_bind, Sem.run_pure, Result.andThen_ok, run_storeVar_row w R t ty old cs hk hi hc h1]
    exact hK _ _ (h _ (hk.setRow cs).1 (hk.setRow cs).2)
theorem Bk.range {w : World} {g : Nat} {t : TypeId} {cs : Array Value} (h : Bk w g t cs) : w.rangeAt g 0 cs.toList := fun j v hv => by
  rw [Nat.zero_add, h.cell]; simpa using hv
theorem Bk.grown {w w' : World} {b t : Nat} {cs : Array Value} {r : Option Nat} (h : Bk w b t cs) (hg : w.grownBy w' r) (h1 : ∀ q, r = some q → q ≠ b) : Bk w' b t cs :=
  (hg.block b h.lt (fun e => h1 _ e.symm rfl)).trans h
theorem grownBy_up {a b c : World} {pb : Nat} {r : Option Nat} (h : a.grownBy b (some pb)) (k : b.grownBy c r) (h1 : ∀ q, r = some q → a.heap.size ≤ q) : a.grownBy c (some pb) :=
  ⟨k.os.trans h.os, k.tape.trans h.tape, k.output.trans h.output, Nat.le_trans h.size k.size, fun i hi hne =>
    (k.block i (Nat.lt_of_lt_of_le hi h.size) (fun e => by have := h1 i e.symm; omega)).trans (h.block i hi hne)⟩
/-- A row with some items set, from the o-th on. -/
def putC : List Value → Nat → List Value → List Value
  | l, _, [] => l
  | l, o, v :: r => putC (l.set o v) (o + 1) r
theorem Bk.setCells {C : Nat} {t : TypeId} : ∀ (vs : List Value) (o : Nat) (w : World) (old : List Value), Bk w C t old.toArray → Bk (w.setCells C o vs) C t (putC old o vs).toArray ∧ w.grownBy (w.setCells C o vs) (some C)
  | [], o, w, old, h => ⟨h, ⟨rfl, rfl, rfl, Nat.le_refl _, fun _ _ _ => rfl⟩⟩
  | v :: r, o, w, old, h => by
    have h1 : Bk (w.setCell ⟨C, o, none⟩ v) C t (old.set o v).toArray := by have := h.set_ o v; rwa [List.setIfInBounds_toArray] at this
    have h2 := Bk.setCells r (o + 1) (w.setCell ⟨C, o, none⟩ v) (old.set o v) h1
    exact ⟨h2.1, grownBy_tr (grownBy_setC w ⟨C, o, none⟩ v) h2.2⟩
/-- A struct's value goes into a part of a block. -/
theorem wpList_store_part {P : Program} {ops : Array Oper} {rest : List Oper} {op : Oper} {a : Act} {w : World} {Q : Exit → Act → World → Prop} (hgd : op.guard = none) (ty : TypeId) (x y : Operand) (ho : op.op = .store ty x y)
    (C off : Nat) (t : TypeId) (old cs : List Value) (hx : a.eval x = .pointer (some ⟨C, off, none⟩)) (hy : a.eval y = .agg cs.toArray) (hk : Bk w C t old.toArray) (hi : (P.info? ty).map (·.size) = some cs.toArray.size) (hc : off + cs.length ≤ old.length) (h1 : cs.toArray.all (·.oneCell') = true)
    (h : ∀ w', Bk w' C t (putC old off cs).toArray → w.grownBy w' (some C) → wpList P ops Q rest (a.put op.dst undef) w') : wpList P ops Q (op :: rest) a w :=
  wpList_plain hgd fun _ hK => by
    unfold Oper.wp execOp
    have ht : w.there C off cs.toArray.size := fun j hj => ⟨by rw [hk.cell]; rw [List.size_toArray] at hj; simp; omega, hk.frozen _⟩
    simp only [ho, hx, hy, Instr.storeAt, Instr.sureAddr, Sem.run_bind, Sem.run_pure, Result.andThen_ok, run_storeVar_mid w C off ty cs.toArray ht hi h1]
    have hh := Bk.setCells (C := C) (t := t) cs off w old hk
    exact hK _ _ (h _ hh.1 hh.2)
/-- A struct's value out of a block that is known whole. -/
theorem wpList_load_bk {P : Program} {ops : Array Oper} {rest : List Oper} {op : Oper} {a : Act} {w : World} {Q : Exit → Act → World → Prop} (hgd : op.guard = none) (ty : TypeId) (x : Operand) (ho : op.op = .load ty x)
    (C : Nat) (t : TypeId) (cs : Array Value) (hx : a.eval x = .pointer (some ⟨C, 0, none⟩)) (d : TypeDesc) (hk : Bk w C t cs)
    (hu : P.underlying ty = some d) (hd : d.isRow = true) (hi : (P.info? ty).map (·.size) = some cs.size)
    (h : wpList P ops Q rest (a.put op.dst (.agg cs)) w) : wpList P ops Q (op :: rest) a w :=
  wpList_load_arr hgd ty x ho C 0 hx cs d hk.range hu hd hi h
/-- A struct's value out of the middle of a block, its cells as an array, where the operation has a guard. -/
theorem wpList_load_arr_g {P : Program} {ops : Array Oper} {rest : List Oper} {op : Oper} {a : Act} {w : World} {Q : Exit → Act → World → Prop} (ty : TypeId) (x : Operand) (hw : Region.wanted op (yielded ops a.tmps) = true) (ho : op.op = .load ty x)
    (b o : Nat) (hx : a.eval x = .pointer (some ⟨b, o, none⟩)) (cs : Array Value) (d : TypeDesc) (hc : w.rangeAt b o cs.toList)
    (hu : P.underlying ty = some d) (hd : d.isRow = true) (hi : (P.info? ty).map (·.size) = some cs.size)
    (h : wpList P ops Q rest (a.put op.dst (.agg cs)) w) : wpList P ops Q (op :: rest) a w :=
  wpList_step fun K hK => by rw [if_pos hw]; exact wp_load_mid ty x ho b o hx cs.toList d hc hu hd (by simpa using hi) (hK _ _ (by simpa using h))
/-- In a region that draws its order and reads quietly: a struct's value out of the middle of a block. -/
theorem wpQuiet_load {P : Program} {ops : Array Oper} {C : World → Prop} {Q : Act → Prop} {a : Act} {o : Oper} {rest : List Oper} (hw : Region.wanted o (yielded ops a.tmps) = true) (ty : TypeId) (x : Operand) (ho : o.op = .load ty x)
    (b q : Nat) (hx : a.eval x = .pointer (some ⟨b, q, none⟩)) (cs : Array Value) (d : TypeDesc) (hc : ∀ w, C w → w.rangeAt b q cs.toList) (hu : P.underlying ty = some d) (hd : d.isRow = true) (hi : (P.info? ty).map (·.size) = some cs.size)
    (h : wpQuiet P ops C Q rest (a.put o.dst (.agg cs))) : wpQuiet P ops C Q (o :: rest) a := by
  refine BigFrame.wpQuiet_want hw fun K hK => ⟨.agg cs, fun w hw' => ?_, hK _ h⟩
  unfold Oper.quietAt execOp
  simp only [ho, hx, Instr.loadAt, Instr.sureAddr, Sem.run_bind, Sem.run_pure, Result.andThen_ok, run_loadVar_mid w b q ty cs.toList d (hc w hw') hu hd (by simpa using hi)]
  exact ⟨rfl, by simp⟩
theorem grownBy_of {a b : World} (h : Below a.heap.size a b) (r : Option Nat) : a.grownBy b r := ⟨h.os, h.tape, h.output, h.size, fun i hi _ => h.block i hi⟩
theorem below_of_grown {a b : World} {B g : Nat} (h : a.grownBy b (some g)) (hg : B ≤ g) (hB : B ≤ a.heap.size) : Below B a b := ⟨h.os, h.tape, h.output, h.size, fun i hi => h.block i (by omega) (fun e => by injection e with e; omega)⟩
/-- An item of an array by value, each item one cell. -/
theorem run_index_arr {P : Program} {w : World} (t e : TypeId) (n : Nat) (cs : Array Value) (i : Nat) (v : Value) (h : P.underlying t = some (.array n e)) (he : (sizeOf e).run P w = .ok 1 w) (ha : (isAgg e).run P w = .ok false w) (hi : i < n) (hv : cs[i]? = some v) :
    (Instr.index t (.agg cs) (.int .i64 i)).run P w = .ok v w := by
  have hn : (0 : Int) ≤ (i : Int) ∧ (i : Int) < (n : Int) := by omega
  simp [Instr.index, run_underlying h, asIntOf, hi, go_sem, he, ha, hv]
theorem run_index35 {w : World} (cs : Array Value) (i : Nat) (v : Value) (hi : i < 5) (hv : cs[i]? = some v) : (Instr.index 113 (.agg cs) (.int .i64 i)).run Tryd.prog w = .ok v w :=
  run_index_arr 113 112 5 cs i v Tryd.underlying113 (Tryd.sizeOf112 w) (Tryd.isAgg112 w) hi hv
end Aw
end Go.Proofs.YtebmhadpkncgfaaDoor
namespace Go.Proofs.YtebmhadpkncgfaaDoor
namespace Aw
open Go.RowKit Go.Sort
open Ac
theorem take_any (g p : Nat) (hp : p ≤ 13) (a : Acn) (w : World) (h : Bk w g 43 a.cs) (hG : Gl w) : Calls Tryd.prog 73 #[.int .u8 (p : Int), .pointer (some ⟨g, 0, none⟩)] w fun e w' => TkPost w g p a e w' := by
  have hc : p = 0 ∨ (1 ≤ p ∧ p ≤ 8) ∨ p = 9 ∨ p = 10 ∨ p = 11 ∨ p = 12 ∨ p = 13 := by omega
  rcases hc with rfl | h1 | rfl | rfl | rfl | rfl | rfl
  · exact take_none g a w h
  · exact take_num g p h1 a w h hG
  · exact take_left g a w h
  · exact take_right g a w h
  · exact take_more g a w h
  · exact take_order g a w h
  · exact take_sense g a w h
theorem agg_opd {w : World} (d : Nat) (o q : Opd) : (Op.equalIn (d + 2) 41 (.agg #[.int .i64 o.v, .int .i64 o.n]) (.agg #[.int .i64 q.v, .int .i64 q.n])).run Tryd.prog w = .ok (decide (o = q)) w := by
  have e : decide (o = q) = (decide (o.v = q.v) && decide (o.n = q.n)) := by
    obtain ⟨a, b⟩ := o; obtain ⟨c, d⟩ := q
    rw [Bool.eq_iff_iff]; simp
  rw [e]
  by_cases h1 : o.v = q.v
  · by_cases h2 : o.n = q.n
    · simp [go_sem, h1, h2]
    · simp [go_sem, h1, h2]
  · simp [go_sem, h1]
theorem agg_acn {w : World} (a b : Acn) : (Op.equalIn 10000 43 (.agg a.cs) (.agg b.cs)).run Tryd.prog w = .ok (decide (a = b)) w := by
  obtain ⟨k, x, y, f, t, pl, op, ⟨lv, ln⟩, ⟨rv, rn⟩, s⟩ := a
  obtain ⟨k', x', y', f', t', pl', op', ⟨lv', ln'⟩, ⟨rv', rn'⟩, s'⟩ := b
  unfold Acn.cs
  by_cases h : k = k'
  case neg =>
    have e : decide ((⟨k, x, y, f, t, pl, op, ⟨lv, ln⟩, ⟨rv, rn⟩, s⟩ : Acn) = ⟨k', x', y', f', t', pl', op', ⟨lv', ln'⟩, ⟨rv', rn'⟩, s'⟩) = false := by rw [decide_eq_false_iff_not]; intro e; simp at e; exact h (by simp [e])
    rw [e]
    simp [go_sem, h]
  subst h
  by_cases h : x = x'
  case neg =>
    have e : decide ((⟨k, x, y, f, t, pl, op, ⟨lv, ln⟩, ⟨rv, rn⟩, s⟩ : Acn) = ⟨k, x', y', f', t', pl', op', ⟨lv', ln'⟩, ⟨rv', rn'⟩, s'⟩) = false := by rw [decide_eq_false_iff_not]; intro e; simp at e; exact h (by simp [e])
    rw [e]
    simp [go_sem, h]
  subst h
  by_cases h : y = y'
  case neg =>
    have e : decide ((⟨k, x, y, f, t, pl, op, ⟨lv, ln⟩, ⟨rv, rn⟩, s⟩ : Acn) = ⟨k, x, y', f', t', pl', op', ⟨lv', ln'⟩, ⟨rv', rn'⟩, s'⟩) = false := by rw [decide_eq_false_iff_not]; intro e; simp at e; exact h (by simp [e])
    rw [e]
    simp [go_sem, h]
  subst h
  by_cases h : f = f'
  case neg =>
    have e : decide ((⟨k, x, y, f, t, pl, op, ⟨lv, ln⟩, ⟨rv, rn⟩, s⟩ : Acn) = ⟨k, x, y, f', t', pl', op', ⟨lv', ln'⟩, ⟨rv', rn'⟩, s'⟩) = false := by rw [decide_eq_false_iff_not]; intro e; simp at e; exact h (by simp [e])
    rw [e]
    simp [go_sem, h]
  subst h
  by_cases h : t = t'
  case neg =>
    have e : decide ((⟨k, x, y, f, t, pl, op, ⟨lv, ln⟩, ⟨rv, rn⟩, s⟩ : Acn) = ⟨k, x, y, f, t', pl', op', ⟨lv', ln'⟩, ⟨rv', rn'⟩, s'⟩) = false := by rw [decide_eq_false_iff_not]; intro e; simp at e; exact h (by simp [e])
    rw [e]
    simp [go_sem, h]
  subst h
  by_cases h : pl = pl'
  case neg =>
    have e : decide ((⟨k, x, y, f, t, pl, op, ⟨lv, ln⟩, ⟨rv, rn⟩, s⟩ : Acn) = ⟨k, x, y, f, t, pl', op', ⟨lv', ln'⟩, ⟨rv', rn'⟩, s'⟩) = false := by rw [decide_eq_false_iff_not]; intro e; simp at e; exact h (by simp [e])
    rw [e]
    simp [go_sem, h]
  subst h
  by_cases h : op = op'
  case neg =>
    have e : decide ((⟨k, x, y, f, t, pl, op, ⟨lv, ln⟩, ⟨rv, rn⟩, s⟩ : Acn) = ⟨k, x, y, f, t, pl, op', ⟨lv', ln'⟩, ⟨rv', rn'⟩, s'⟩) = false := by rw [decide_eq_false_iff_not]; intro e; simp at e; exact h (by simp [e])
    rw [e]
    simp [go_sem, h]
  subst h
  by_cases h : lv = lv'
  case neg =>
    have e : decide ((⟨k, x, y, f, t, pl, op, ⟨lv, ln⟩, ⟨rv, rn⟩, s⟩ : Acn) = ⟨k, x, y, f, t, pl, op, ⟨lv', ln'⟩, ⟨rv', rn'⟩, s'⟩) = false := by rw [decide_eq_false_iff_not]; intro e; simp at e; exact h (by simp [e])
    rw [e]
    simp [go_sem, h]
  subst h
  by_cases h : ln = ln'
  case neg =>
    have e : decide ((⟨k, x, y, f, t, pl, op, ⟨lv, ln⟩, ⟨rv, rn⟩, s⟩ : Acn) = ⟨k, x, y, f, t, pl, op, ⟨lv, ln'⟩, ⟨rv', rn'⟩, s'⟩) = false := by rw [decide_eq_false_iff_not]; intro e; simp at e; exact h (by simp [e])
    rw [e]
    simp [go_sem, h]
  subst h
  by_cases h : rv = rv'
  case neg =>
    have e : decide ((⟨k, x, y, f, t, pl, op, ⟨lv, ln⟩, ⟨rv, rn⟩, s⟩ : Acn) = ⟨k, x, y, f, t, pl, op, ⟨lv, ln⟩, ⟨rv', rn'⟩, s'⟩) = false := by rw [decide_eq_false_iff_not]; intro e; simp at e; exact h (by simp [e])
    rw [e]
    simp [go_sem, h]
  subst h
  by_cases h : rn = rn'
  case neg =>
    have e : decide ((⟨k, x, y, f, t, pl, op, ⟨lv, ln⟩, ⟨rv, rn⟩, s⟩ : Acn) = ⟨k, x, y, f, t, pl, op, ⟨lv, ln⟩, ⟨rv, rn'⟩, s'⟩) = false := by rw [decide_eq_false_iff_not]; intro e; simp at e; exact h (by simp [e])
    rw [e]
    simp [go_sem, h]
  subst h
  by_cases h : s = s'
  case neg =>
    have e : decide ((⟨k, x, y, f, t, pl, op, ⟨lv, ln⟩, ⟨rv, rn⟩, s⟩ : Acn) = ⟨k, x, y, f, t, pl, op, ⟨lv, ln⟩, ⟨rv, rn⟩, s'⟩) = false := by rw [decide_eq_false_iff_not]; intro e; simp at e; exact h (by simp [e])
    rw [e]
    simp [go_sem, h]
  subst h
  simp [go_sem]
theorem eql_acn {w : World} (a b : Acn) : (binOp .eql 43 (.agg a.cs) (.agg b.cs)).run Tryd.prog w = .ok (.bool (decide (a = b))) w := by
  rw [run_eql_struct, agg_acn]; rfl
theorem neq_acn {w : World} (a b : Acn) : (binOp .neq 43 (.agg a.cs) (.agg b.cs)).run Tryd.prog w = .ok (.bool (!decide (a = b))) w := by
  rw [run_neq_struct, agg_acn]; rfl
/-- The parts of a kind, by value. -/
def fcs (k : Nat) : Array Value := ((formOf k).map fun (p : Nat) => Value.int .u8 (p : Int)).toArray
theorem form_len (k : Nat) (h : k < 13) : (formOf k).length = 5 := by
  match k, h with
  | 0, _ => rfl
  | 1, _ => rfl
  | 2, _ => rfl
  | 3, _ => rfl
  | 4, _ => rfl
  | 5, _ => rfl
  | 6, _ => rfl
  | 7, _ => rfl
  | 8, _ => rfl
  | 9, _ => rfl
  | 10, _ => rfl
  | 11, _ => rfl
  | 12, _ => rfl
theorem form_le (k : Nat) : ∀ p ∈ formOf k, p ≤ 13 := by unfold formOf; split <;> decide
theorem fcs_size (k : Nat) (h : k < 13) : (fcs k).size = 5 := by simp [fcs, form_len k h]
theorem fcs_at (k j : Nat) (h : k < 13) (hj : j < 5) : (fcs k)[j]? = some (.int .u8 (((formOf k).getD j 0 : Nat) : Int)) := by
  have hl := form_len k h
  unfold fcs
  simp [List.getElem?_eq_getElem (show j < (formOf k).length by omega)]
theorem form_row {w : World} (hG : Gl w) (k : Nat) (h : k < 13) : w.rangeAt 0 (k * 5) (fcs k).toList := by
  intro j v hv
  have hj : j < 5 := by
    have := (List.getElem?_eq_some_iff.1 hv).1
    have e := fcs_size k h
    rw [Array.length_toList] at this; omega
  rw [hG.forms k h j hj, ← fcs_at k j h hj]
  simpa using hv
theorem form_drop (k j : Nat) (h : k < 13) (hj : j < 5) : (formOf k).drop j = (formOf k).getD j 0 :: (formOf k).drop (j + 1) := by
  have hl := form_len k h
  rw [List.drop_eq_getElem_cons (by omega)]
  simp [List.getElem?_eq_getElem (show j < (formOf k).length by omega)]
theorem form_get_le (k j : Nat) (h : k < 13) (hj : j < 5) : (formOf k).getD j 0 ≤ 13 := by
  have hl := form_len k h
  refine form_le k _ ?_
  simp [List.getElem?_eq_getElem (show j < (formOf k).length by omega)]
theorem size25 : (Tryd.prog.info? 43).map (·.size) = some 12 := by kernel_rfl
theorem size35 : (Tryd.prog.info? 113).map (·.size) = some 5 := by kernel_rfl
theorem cs_size (a : Acn) : a.cs.size = 12 := rfl
theorem cs_one (a : Acn) : a.cs.all (·.oneCell') = true := by simp [Acn.cs, Value.oneCell']
end Aw
end Go.Proofs.YtebmhadpkncgfaaDoor
namespace Go.Proofs.YtebmhadpkncgfaaDoor
namespace Aw
open Go.RowKit Go.Sort
open Ac
theorem eql_zero {w : World} (r : Acn) : (binOp .eql 43 (.agg r.cs) (.agg #[.int .i64 0, .int .i64 0, .int .i64 0, .int .i64 0, .int .i64 0, .int .i64 0, .int .i64 0, .int .i64 0, .int .i64 0, .int .i64 0, .int .i64 0, .bool false])).run Tryd.prog w = .ok (.bool (decide (r = Acn.zero))) w := eql_acn r Acn.zero
attribute [local go_sem ↓] eql_zero
theorem right_yes (k : Nat) (hk : k < 13) (a : Acn) (ha : a.kind = k) (w : World) (hG : Gl w) :
    Calls Tryd.prog 52 #[.agg a.cs] w fun e w' => e = .returned (.bool (rights a)) ∧ Below w.heap.size w w' := by
  have HR : Hid (rights a = goR (formOf k) { a with kind := 0 }) := hdn (by unfold rights; rw [ha]; simp; omega)
  have HB0 : Hid (Bk (w.alloc (.cells a.cs 43)) w.heap.size 43 a.cs) := hdn (heap_alloc_new _ _)
  have HBA : Hid (Below w.heap.size w (w.alloc (.cells a.cs 43))) := hdn ((Below.refl _ _).alloc (Nat.le_refl _) _)
  have HG : Hid (Gl w) := hdn hG
  have HS : Hid (2 ≤ w.heap.size) := hdn hG.big
  have c0 : (w.alloc (.cells a.cs 43)).cell? ⟨w.heap.size, 0, none⟩ = some (.int .i64 k) := by rw [← ha]; exact HB0.out.cell 0
  have hk0 : (0 : Int) ≤ (k : Int) := Int.natCast_nonneg _
  have hk1 : (k : Int) < 13 := by omega
  have HK := hdn ha
  clear hG ha
  go_enter Tryd.func52, Tryd.ntmps52
  go_upto_region 3 with fail
  have HL1 : Hid (w.heap.size < (w.alloc (.cells a.cs 43)).heap.size) := hdn (by simp)
  generalize w.alloc (.cells a.cs 43) = w1 at HB0 HBA c0 HL1 ⊢
  go_upto_region 4 with (first
    | ((with_reducible show wpList _ _ _ (Oper.mk _ (Op.load 43 _) _ _ _ _ :: _) _ _); refine wpList_load_bk rfl 43 _ rfl w.heap.size 43 a.cs rfl _ HB0.out Tryd.underlying43 rfl size25 ?_)
    | ((with_reducible show wpList _ _ _ (Oper.mk _ (Op.store 43 _ _) _ _ _ _ :: _) _ _); refine wpList_store_new rfl 43 _ _ rfl _ a.cs rfl rfl size25 rfl (cs_one a) ?_))
  have HB2 : Hid (Bk (w1.alloc (.cells a.cs 43)) w1.heap.size 43 a.cs) := hdn (heap_alloc_new _ _)
  have HBB : Hid (Below w.heap.size w (w1.alloc (.cells a.cs 43))) := hdn (HBA.out.alloc HBA.out.size _)
  have HW0 : Hid (Bk (w1.alloc (.cells a.cs 43)) w.heap.size 43 a.cs) := hdn (HB0.out.below ((Below.refl _ _).alloc (Nat.le_refl _) _) HL1.out)
  generalize w1.alloc (.cells a.cs 43) = w2 at HB2 HBB HW0 ⊢
  have k0 : w2.cell? ⟨w1.heap.size, 0, none⟩ = some (.int .i64 a.kind) := HB2.out.cell 0
  have f0 := HB2.out.frozen 0
  go_upto_region 5 with fail
  have HB3 : Hid (Bk (w2.setCell ⟨w1.heap.size, 0, none⟩ (.int .i64 0)) w1.heap.size 43 ({ a with kind := 0 } : Acn).cs) := hdn (HB2.out.set_ 0 _)
  have HBC : Hid (Below w.heap.size w (w2.setCell ⟨w1.heap.size, 0, none⟩ (.int .i64 0))) := hdn (HBB.out.setCell (Nat.le_of_lt HL1.out) _)
  have HW1 : Hid (Bk (w2.setCell ⟨w1.heap.size, 0, none⟩ (.int .i64 0)) w.heap.size 43 a.cs) := hdn (HW0.out.far (Nat.ne_of_lt HL1.out) _)
  clear k0 f0 c0
  generalize w2.setCell ⟨w1.heap.size, 0, none⟩ (.int .i64 0) = w3 at HB3 HBC HW1 ⊢
  have c0 : w3.cell? ⟨w.heap.size, 0, none⟩ = some (.int .i64 k) := by rw [← HK.out]; exact HW1.out.cell 0
  have HG3 : Hid (Gl w3) := hdn (HG.out.below HBC.out HS.out)
  have HFR : Hid (w3.rangeAt 0 (k * 5) (fcs k).toList) := hdn (form_row HG3.out k hk)
  have HSF : Hid (some 5 = some (fcs k).size) := hdn (by rw [fcs_size k hk])
  go_wp2_with (first
    | ((with_reducible show wpList _ _ _ (Oper.mk _ (Op.load 113 _) _ _ _ _ :: _) _ _); refine wpList_load_arr rfl 113 _ rfl 0 (k * 5) (by simp [Act.eval]) (fcs k) _ HFR.out Tryd.underlying113 rfl (size35.trans HSF.out) ?_))
  clear c0
  have HB4 := HB3.out
  go_loopw [20] (fun i wr => ∃ (j : Nat) (r : Acn), j ≤ 5 ∧ i = .int .i64 j ∧ Hid (Bk wr w1.heap.size 43 r.cs) ∧ Hid (Below w.heap.size w wr) ∧ Hid (goR ((formOf k).drop j) r = goR (formOf k) { a with kind := 0 })) (fun i _ => 5 - (intOf i).toNat)
  case atStart => exact ⟨0, _, Nat.zero_le _, rfl, HB3, HBC, hdn rfl⟩
  case round =>
    obtain ⟨j, r, hj, rfl, HK3, HBR, HGO⟩ := hrel
    by_cases hlt : j < 5
    · have hi := run_index35 (w := wr) (fcs k) j _ hlt (fcs_at k j hk hlt)
      have hj1 : (j : Int) < 5 := by omega
      have HP : Hid ((formOf k).getD j 0 ≤ 13) := hdn (form_get_le k j hk hlt)
      have HD := hdn (form_drop k j hk hlt)
      have HGR : Hid (Gl wr) := hdn (HG.out.below HBR.out HS.out)
      generalize (formOf k).getD j 0 = p at *
      have HT := hdn (take_any w1.heap.size p HP.out r wr HK3.out HGR.out)
      have HX : Hid (goR ((formOf k).drop j) r = ((tk p r).1 && goR ((formOf k).drop (j + 1)) (tk p r).2)) := hdn (by rw [HD.out]; rfl)
      generalize hq : tk p r = q at HX
      obtain ⟨b, r2⟩ := q
      have HQ := hdn hq
      clear hq
      cases b
      · go_wp2_with (go_at_call 73; refine (HT.out).mono ?_; rintro e w4 ⟨he, hk4, hg4⟩; rw [HQ.out] at he; subst he; have HG4 := hdn hg4; clear hg4 hk4)
        go_ret
        exact ⟨lret_bool (by rw [HR.out, ← HGO.out, HX.out]; rfl), HBR.out.trans (below_of_grown HG4.out (Nat.le_of_lt HL1.out) HBR.out.size)⟩
      · go_wp2_with (go_at_call 73; refine (HT.out).mono ?_; rintro e w4 ⟨he, hk4, hg4⟩; rw [HQ.out] at he hk4; subst he; have HG4 := hdn hg4; have HK4 := hdn hk4; clear hg4 hk4)
        go_roundw
        case rel => exact ⟨j + 1, r2, by omega, by go_num, HK4, hdn (HBR.out.trans (below_of_grown HG4.out (Nat.le_of_lt HL1.out) HBR.out.size)), hdn (by rw [← HGO.out, HX.out]; rfl)⟩
        case measure => simp [intOf]; omega
    · obtain rfl : j = 5 := by omega
      have HE : Hid (rights a = decide (r = Acn.zero)) := hdn (by
        rw [HR.out, ← HGO.out, List.drop_of_length_le (by have := form_len k hk; omega)]; rfl)
      go_wp2_with (first
        | ((with_reducible show wpList _ _ _ (Oper.mk _ (Op.load 43 _) _ _ _ _ :: _) _ _); refine wpList_load_bk rfl 43 _ rfl w1.heap.size 43 r.cs rfl _ HK3.out Tryd.underlying43 rfl size25 ?_))
      go_ret
      exact ⟨lret_bool HE.out.symm, HBR.out⟩
theorem right_no (a : Acn) (ha : a.kind < 0 ∨ 13 ≤ a.kind) (w : World) :
    Calls Tryd.prog 52 #[.agg a.cs] w fun e w' => e = .returned (.bool (rights a)) ∧ Below w.heap.size w w' := by
  have HR : Hid (rights a = false) := hdn (by unfold rights; rcases ha with h | h <;> simp <;> omega)
  have HB0 : Hid (Bk (w.alloc (.cells a.cs 43)) w.heap.size 43 a.cs) := hdn (heap_alloc_new _ _)
  have c0 : (w.alloc (.cells a.cs 43)).cell? ⟨w.heap.size, 0, none⟩ = some (.int .i64 a.kind) := HB0.out.cell 0
  generalize a.kind = k at *
  rcases ha with h | h
  · go_enter Tryd.func52, Tryd.ntmps52
    go_wp2_with fail
    go_ret
    exact ⟨lret_bool HR.out.symm, (Below.refl _ _).alloc (Nat.le_refl _) _⟩
  · have h' : ¬ k < 0 := by omega
    go_enter Tryd.func52, Tryd.ntmps52
    go_wp2_with fail
    go_ret
    exact ⟨lret_bool HR.out.symm, (Below.refl _ _).alloc (Nat.le_refl _) _⟩
theorem right_any (a : Acn) (w : World) (hG : Gl w) : Calls Tryd.prog 52 #[.agg a.cs] w fun e w' => e = .returned (.bool (rights a)) ∧ Below w.heap.size w w' := by
  by_cases h : 0 ≤ a.kind ∧ a.kind < 13
  · obtain ⟨k, hk⟩ : ∃ k : Nat, a.kind = k := ⟨a.kind.toNat, by omega⟩
    exact right_yes k (by omega) a hk w hG
  · exact right_no a (by omega) w
end Aw
end Go.Proofs.YtebmhadpkncgfaaDoor
namespace Go.Proofs.YtebmhadpkncgfaaDoor
open Go.RowKit Go.Maps
open Aw.Ac (Acn Opd)
/-- A graph, as its cells go. -/
structure GR where
  pts : Int
  st : Int
  en : Int
  ea : Int
  ed : Value
  hd : Value
  V : Nat
  I : Nat
  S : Int
  fp : Option Addr
  F : Nat
  fc : Nat
def GR.cs (g : GR) : Array Value := #[.int .i64 g.pts, .int .i64 g.st, .int .i64 g.en, .int .i64 g.ea, g.ed, g.hd, .int .i64 g.V, .int .i64 g.I, .int .i64 g.S, .slice g.fp g.F g.fc]
/-- A state, as it lies. -/
structure SV where
  pt : Int
  vp : Option Addr
  vs : List Int
  vc : Nat
  ip : Option Addr
  is : List Int
  ic : Nat
  cp : Option Addr
  rs : List RC
  cc : Nat
def SV.A (s : SV) : Array Value := #[.int .i64 s.pt, .slice s.vp s.vs.length s.vc, .slice s.ip s.is.length s.ic, .slice s.cp s.rs.length s.cc]
def SV.cs (s : SV) : List PC := s.rs.map RC.c
/-- Numbers lie in memory. -/
def IR (w : World) (p : Option Addr) (l : List Int) : Prop := l = [] ∨ ∃ b o, p = some ⟨b, o, none⟩ ∧ w.rangeAt b o (ints l)
theorem IR.below {w w' : World} {p : Option Addr} {l : List Int} (h : IR w p l) (hb : Below w.heap.size w w') : IR w' p l := by
  rcases h with h | ⟨b, o, hp, hr⟩
  · exact .inl h
  · exact .inr ⟨b, o, hp, rangeAt_below hr hb⟩
theorem IR.at_ {w : World} {p : Option Addr} {l : List Int} (h : IR w p l) {j : Nat} {x : Int} (hj : l[j]? = some x) : ∃ b o, p = some ⟨b, o, none⟩ ∧ w.cell? ⟨b, o + j, none⟩ = some (.int .i64 x) := by
  rcases h with h | ⟨b, o, hp, hr⟩
  · rw [h] at hj; simp at hj
  · exact ⟨b, o, hp, hr j _ (by unfold ints; rw [List.getElem?_map, hj]; rfl)⟩
theorem RC.lies_below' {w w' : World} {x : RC} (h : x.lies w) (hb : Below w.heap.size w w') : x.lies w' := by
  refine ⟨?_, h.2⟩
  rcases h.1 with h | ⟨b, o, hp, hr⟩
  · exact .inl h
  · exact .inr ⟨b, o, hp, rangeAt_below hr hb⟩
structure SV.lies (w : World) (s : SV) : Prop where
  v : IR w s.vp s.vs
  i : IR w s.ip s.is
  c : LayR 3 RC.cells RC.lies w s.cp s.rs
theorem SV.lies.below {w w' : World} {s : SV} (h : s.lies w) (hb : Below w.heap.size w w') : s.lies w' := ⟨h.v.below hb, h.i.below hb, h.c.below hb fun _ h => RC.lies_below' h hb⟩
/-- A right state. -/
structure Rt (g : GR) (s : SV) : Prop where
  pt : 0 ≤ s.pt ∧ s.pt < g.pts
  vl : s.vs.length = g.V
  il : s.is.length = g.I
  vs : ∀ v ∈ s.vs, 0 ≤ v ∧ v ≤ (s.rs.length : Int)
  ty : ∀ r ∈ s.rs, 0 ≤ r.c.ty ∧ r.c.ty < g.S
  ld : ∀ r ∈ s.rs, loadC g.F s.rs.length r.c = r.c
  iok : ∀ x ∈ s.is, okI x
  n : s.rs.length ≤ 2000000
/-- A graph whose numbers are few. -/
structure Gok (g : GR) : Prop where
  V : g.V ≤ 24
  I : g.I ≤ 24
  F : g.F ≤ 2000000
theorem Rt.len {g : GR} {s : SV} (h : Rt g s) {r : RC} (hr : r ∈ s.rs) : r.c.to.length = g.F := by
  have := h.ld r hr
  rw [← this]; simp [loadC]
theorem size37 : (Tryd.prog.info? 37).map (·.size) = some 3 := by kernel_rfl
theorem size33 : (Tryd.prog.info? 33).map (·.size) = some 4 := by kernel_rfl
theorem size30 : (Tryd.prog.info? 30).map (·.size) = some 10 := by kernel_rfl
theorem size43 : (Tryd.prog.info? 43).map (·.size) = some 12 := by kernel_rfl
theorem size41 : (Tryd.prog.info? 41).map (·.size) = some 2 := by kernel_rfl
theorem size77 : (Tryd.prog.info? 75).map (·.size) = some 3 := by kernel_rfl
/-- A struct's value goes into a block of its size. -/
theorem wpList_store_all {P : Program} {ops : Array Oper} {rest : List Oper} {op : Oper} {a : Act} {w : World} {Q : Exit → Act → World → Prop} (hgd : op.guard = none) (ty : TypeId) (x y : Operand) (ho : op.op = .store ty x y)
    (C : Nat) (t : TypeId) (old : Array Value) (cs : Array Value) (hx : a.eval x = .pointer (some ⟨C, 0, none⟩)) (hy : a.eval y = .agg cs) (hk : Bk w C t old) (hi : (P.info? ty).map (·.size) = some cs.size) (hc : cs.size = old.size) (h1 : cs.all (·.oneCell') = true)
    (h : ∀ w', Hid (Bk w' C t cs) → Hid (w.grownBy w' (some C)) → wpList P ops Q rest (a.put op.dst undef) w') : wpList P ops Q (op :: rest) a w :=
  wpList_store_part hgd ty x y ho C 0 t old cs hx hy hk hi (by omega) h1 fun w' cur' q1 q2 h3 _ h5 => by
    have e : cur' = cs := by
      refine Array.ext_getElem? fun j => ?_
      by_cases hj : j < cs.size
      · have := h3 j hj; rwa [Nat.zero_add] at this
      · rw [Array.getElem?_eq_none (by omega), Array.getElem?_eq_none (by omega)]
    subst e
    exact h w' (hdn q1) (hdn h5)
def evA (k at_ n : Int) : Array Value := #[.int .i64 k, .int .i64 at_, .int .i64 n]
theorem evA_one (k a n : Int) : (evA k a n).all (·.oneCell') = true := by simp [evA, Value.oneCell']
theorem alloc2_new (w : World) (o : Obj) (cs : Array Value) (t : TypeId) : Bk ((w.alloc o).alloc (.cells cs t)) (w.heap.size + 1) t cs := by
  have h := (MapKept.heap_alloc (w.alloc o) (.cells cs t)).1
  have e : (w.alloc o).heap.size = w.heap.size + 1 := by simp
  rw [e] at h; exact h
theorem alloc2_old (w : World) (o : Obj) (cs : Array Value) (t : TypeId) : Bk ((w.alloc (.cells cs t)).alloc o) w.heap.size t cs := by
  have b1 : Bk (w.alloc (.cells cs t)) w.heap.size t cs := (MapKept.heap_alloc w _).1
  exact b1.below (alloc_below _ _) b1.lt
theorem alloc2_below (w : World) (o o' : Obj) : Below w.heap.size w ((w.alloc o).alloc o') := (alloc_below _ _).trans ((alloc_below _ _).mono (by simp))
def evE (a : Acn) (n : Int) : Array Value := if n = 0 then evA 0 0 0 else evA 3 a.pl n
def RetV (w : World) (v : Value) (e : Ending) (w' : World) : Prop := e = .returned v ∧ Below w.heap.size w w'
def inB (n : Nat) (x : Int) : Bool := decide (0 ≤ x) && decide (x < n)
def atL (l : List Int) (x : Int) : Int := if inB l.length x = true then l.getD x.toNat 0 else 0
def numL (l : List Int) (o : Opd) : Int := if o.v < 0 then o.n else atL l o.v
theorem below_any (n : Nat) (x : Int) (w : World) : Calls Tryd.prog 68 #[.int .i64 n, .int .i64 x] w fun e w' => e = .returned (.bool (inB n x)) ∧ w = w' := by
  by_cases h : 0 ≤ x
  · have HR : Hid (inB n x = decide (x < n)) := hdn (by unfold inB; simp [h])
    have hd : decide (0 ≤ x) = true := decide_eq_true h
    clear h
    go_enter Tryd.func68, Tryd.ntmps68
    go_wp2_with fail
    go_ret
    exact ⟨ret_bool HR.out.symm, rfl⟩
  · have HR : Hid (inB n x = false) := hdn (by unfold inB; simp [h])
    have hd : decide (0 ≤ x) = false := decide_eq_false h
    clear h
    go_enter Tryd.func68, Tryd.ntmps68
    go_wp2_with fail
    go_ret
    exact ⟨ret_bool HR.out.symm, rfl⟩
theorem value_any (p : Option Addr) (l : List Int) (c : Nat) (x : Int) (w : World) (h : IR w p l) : Calls Tryd.prog 39 #[.slice p l.length c, .int .i64 x] w fun e w' => e = .returned (.int .i64 (atL l x)) ∧ w = w' := by
  have HB := hdn (below_any l.length x w)
  by_cases hb : inB l.length x = true
  · have h2 : 0 ≤ x ∧ x < l.length := by unfold inB at hb; simpa using hb
    obtain ⟨k, rfl⟩ : ∃ k : Nat, x = (k : Int) := ⟨x.toNat, by omega⟩
    have hk : k < l.length := by omega
    obtain ⟨b, o, rfl, hc⟩ := h.at_ (List.getElem?_eq_getElem hk)
    have HR : Hid (atL l (k : Int) = l[k]) := hdn (by unfold atL; rw [if_pos hb]; simp [hk])
    rw [hb] at HB
    have hk0 : (0 : Int) ≤ (k : Int) := Int.natCast_nonneg _
    have hk1 : (k : Int) < (l.length : Int) := by omega
    generalize l[k] = y at hc HR
    clear h h2 hb
    go_enter Tryd.func39, Tryd.ntmps39
    go_wp2_with (go_at_call 68; refine HB.out.mono ?_; rintro e w' ⟨rfl, rfl⟩)
    go_ret
    exact ⟨ret_int HR.out.symm, rfl⟩
  · have hb' : inB l.length x = false := by simpa using hb
    have HR : Hid (atL l x = 0) := hdn (by unfold atL; rw [if_neg hb])
    rw [hb'] at HB
    clear h hb hb'
    go_enter Tryd.func39, Tryd.ntmps39
    go_wp2_with (go_at_call 68; refine HB.out.mono ?_; rintro e w' ⟨rfl, rfl⟩)
    go_ret
    exact ⟨ret_int HR.out.symm, rfl⟩
theorem number_any (p : Option Addr) (l : List Int) (c : Nat) (o : Opd) (w : World) (h : IR w p l) : Calls Tryd.prog 41 #[.slice p l.length c, .agg #[.int .i64 o.v, .int .i64 o.n]] w (RetV w (.int .i64 (numL l o))) := by
  obtain ⟨v, n⟩ := o
  have HBA : Hid (Below w.heap.size w (w.alloc (.cells #[.int .i64 v, .int .i64 n] 41))) := hdn (alloc_below _ _)
  have HV := hdn (value_any p l c v _ (h.below (alloc_below w (.cells #[.int .i64 v, .int .i64 n] 41))))
  have HN : Hid (numL l ⟨v, n⟩ = if v < 0 then n else atL l v) := hdn rfl
  clear h
  by_cases hv : v < 0
  · have hd : decide (v < 0) = true := decide_eq_true hv
    rw [if_pos hv] at HN
    clear hv HV
    go_enter Tryd.func41, Tryd.ntmps41
    go_wp2_with fail
    go_ret
    exact ⟨ret_int HN.out.symm, HBA.out⟩
  · have hd : decide (v < 0) = false := decide_eq_false hv
    rw [if_neg hv] at HN
    clear hv
    go_enter Tryd.func41, Tryd.ntmps41
    go_wp2_with (go_at_call 39; refine HV.out.mono ?_; rintro e w' ⟨rfl, rfl⟩)
    go_ret
    exact ⟨ret_int HN.out.symm, HBA.out⟩
def cmpB (op x y : Int) : Bool := if op = 0 then x == y else decide (x < y)
theorem compared_any (op x y : Int) (w : World) : Calls Tryd.prog 40 #[.int .i64 op, .int .i64 x, .int .i64 y] w fun e w' => e = .returned (.bool (cmpB op x y)) ∧ w = w' := by
  by_cases h : op = 0
  · have HR : Hid (cmpB op x y = (x == y)) := hdn (by unfold cmpB; rw [if_pos h])
    have hd : (op == 0) = true := by simpa using h
    clear h
    go_enter Tryd.func40, Tryd.ntmps40
    go_wp2_with fail
    go_ret
    exact ⟨ret_bool HR.out.symm, rfl⟩
  · have HR : Hid (cmpB op x y = decide (x < y)) := hdn (by unfold cmpB; rw [if_neg h])
    have hd : (op == 0) = false := by simpa using h
    clear h
    go_enter Tryd.func40, Tryd.ntmps40
    go_wp2_with fail
    go_ret
    exact ⟨ret_bool HR.out.symm, rfl⟩
theorem raised_any (a : Acn) (n : Int) (w : World) : Calls Tryd.prog 80 #[.agg a.cs, .int .i64 n] w (RetV w (.agg (evE a n))) := by
  obtain ⟨w2, hw2⟩ : ∃ w2, w2 = (w.alloc (.cells a.cs 43)).alloc (.cells (evA 0 0 0) 37) := ⟨_, rfl⟩
  have HB2 : Hid (Below w.heap.size w w2) := hdn (by rw [hw2]; exact alloc2_below _ _ _)
  have HA : Hid (Bk w2 w.heap.size 43 a.cs) := hdn (by rw [hw2]; exact alloc2_old _ _ _ _)
  have HE : Hid (Bk w2 (w.heap.size + 1) 37 (evA 0 0 0)) := hdn (by rw [hw2]; exact alloc2_new _ _ _ _)
  have hw : (w.alloc (.cells a.cs 43)).alloc (.cells #[.int .i64 0, .int .i64 0, .int .i64 0] 37) = w2 := hw2.symm
  have HW := hdn hw
  have c5 : w2.cell? ⟨w.heap.size, 5, none⟩ = some (.int .i64 a.pl) := HA.out.cell 5
  clear hw2 hw
  by_cases h : n = 0
  · have HR : Hid (evE a n = evA 0 0 0) := hdn (by unfold evE; rw [if_pos h])
    have hd : (n == 0) = true := by simpa using h
    clear h
    go_enter Tryd.func80, Tryd.ntmps80
    go_upto_region 1 with fail
    rw [HW.out]
    go_wp2_with ((with_reducible show wpList _ _ _ (Oper.mk none (Op.store 37 _ _) _ _ _ _ :: _) _ _); refine wpList_store_all rfl 37 _ _ rfl (w.heap.size + 1) 37 _ (evA 0 0 0) rfl rfl HE.out size37 rfl (evA_one _ _ _) ?_; intro w3 h3 g3)
    rw [HR.out]
    exact bodyPost_ret (results_cell_row Tryd.results80 _ w3 (w.heap.size + 1) 37 (evA 0 0 0) (0, 0) _ rfl h3.out Tryd.underlying37 rfl size37) rfl ⟨rfl, HB2.out.grown g3.out HB2.out.size (fun j hj => by injection hj with hj; omega)⟩
  · have HR : Hid (evE a n = evA 3 a.pl n) := hdn (by unfold evE; rw [if_neg h])
    have hd : (n == 0) = false := by simpa using h
    clear h
    go_enter Tryd.func80, Tryd.ntmps80
    go_upto_region 1 with fail
    rw [HW.out]
    go_wp2_with ((with_reducible show wpList _ _ _ (Oper.mk none (Op.store 37 _ _) _ _ _ _ :: _) _ _); refine wpList_store_all rfl 37 _ _ rfl (w.heap.size + 1) 37 _ (evA 3 a.pl n) rfl rfl HE.out size37 rfl (evA_one _ _ _) ?_; intro w3 h3 g3)
    rw [HR.out]
    exact bodyPost_ret (results_cell_row Tryd.results80 _ w3 (w.heap.size + 1) 37 (evA 3 a.pl n) (0, 0) _ rfl h3.out Tryd.underlying37 rfl size37) rfl ⟨rfl, HB2.out.grown g3.out HB2.out.size (fun j hj => by injection hj with hj; omega)⟩
end Go.Proofs.YtebmhadpkncgfaaDoor
namespace Go.Proofs.YtebmhadpkncgfaaDoor
open Go.RowKit Go.Maps
open Aw.Ac (Acn Opd)
theorem ints_len (l : List Int) : (ints l).length = l.length := by simp [ints]
theorem ints_one (l : List Int) : ∀ v ∈ ints l, v.oneCell' = true := by intro v hv; obtain ⟨x, _, rfl⟩ := List.mem_map.1 hv; rfl
def OwnP35 (w : World) (l : List Int) (e : Ending) (w' : World) : Prop :=
  e = .returned (.slice (some ⟨w.heap.size, 0, none⟩) l.length l.length) ∧ Bk w' w.heap.size 3 (ints l).toArray ∧ Below w.heap.size w w'
theorem own35_any (p : Option Addr) (l : List Int) (c : Nat) (w : World) (h : IR w p l) (hn : l.length ≤ 2000000) : Calls Tryd.prog 36 #[.slice p l.length c] w (OwnP35 w l) := by
  have hmk := make44 l.length w hn
  have hb1 := alloc_below w (.cells (ints (zeros l.length)).toArray 3)
  have HB1 := hdn hb1
  have HR1 : Hid ((w.alloc (.cells (ints (zeros l.length)).toArray 3)).heap[w.heap.size]? = some (.cells (ints (zeros l.length)).toArray 3 (0, 0))) := hdn (MapKept.heap_alloc w _).1
  have HS : Hid (0 < (ints l).length → (some ⟨w.heap.size, 0, none⟩ : Option Addr) = some ⟨w.heap.size, 0, none⟩ ∧ ∃ ad, p = some ad ∧ ∀ j v, (ints l)[j]? = some v → (w.alloc (.cells (ints (zeros l.length)).toArray 3)).cell? (ad.add j) = some v) := hdn (fun h0 => by
    rcases h.below hb1 with h1 | ⟨b, o, rfl, hr⟩
    · rw [h1] at h0; simp [ints] at h0
    · exact ⟨rfl, _, rfl, fun j v hv => by rw [Addr.add_mid]; exact hr j v hv⟩)
  have HN : Hid ((ints l).length = Nat.min l.length l.length) := hdn (by rw [ints_len]; simp)
  have HF : Hid (0 + (ints l).length ≤ (ints (zeros l.length)).length) := hdn (by simp [ints, zeros])
  have HSP : Hid (splice (ints (zeros l.length)) 0 (ints l) = ints l) := hdn (by
    unfold splice; rw [List.take_zero, List.nil_append, List.drop_eq_nil_of_le (by simp [ints, zeros]), List.append_nil])
  clear h hb1
  go_enter Tryd.func36, Tryd.ntmps36
  go_wp2_with ((with_reducible refine wpList_copy_splice rfl (.tmp 7) (.tmp 8) 28 28 rfl 3 Tryd.underlying28 size3 (some ⟨w.heap.size, 0, none⟩) p l.length l.length l.length c rfl rfl w.heap.size 0 (ints (zeros l.length)) 3 HR1.out _ HN.out HS.out HF.out (ints_one l) w.heap.size w HB1.out (Nat.le_refl _) ?_); intro w2 hw2 hb2; have HB2 := hdn hb2; clear hb2)
  go_ret
  refine ⟨rfl, ?_, HB2.out⟩
  have := hw2.out
  rw [HSP.out] at this
  exact this
def AtV (w : World) (g : GR) (n : Nat) (e : Ending) (w' : World) : Prop := e = .returned (.int .i64 n) ∧ w.alloc (.cells g.cs 30) = w'
theorem vars_any (g : GR) (w : World) (hV : g.V ≤ 24) : Calls Tryd.prog 17 #[.agg g.cs] w (AtV w g g.V) := by
  have c6 : (w.alloc (.cells g.cs 30)).cell? ⟨w.heap.size, 6, none⟩ = some (.int .i64 g.V) := by
    have h : Bk (w.alloc (.cells g.cs 30)) w.heap.size 30 g.cs := (MapKept.heap_alloc w _).1
    exact h.cell 6
  have h2 : (0 : Int) ≤ (g.V : Int) := by omega
  have h3 : (g.V : Int) ≤ 24 := by omega
  go_enter Tryd.func17, Tryd.ntmps17
  go_wp2_with fail
  go_ret
  exact ⟨ret_int (by omega : min (g.V : Int) 24 = g.V), rfl⟩
theorem ints_any (g : GR) (w : World) (hV : g.I ≤ 24) : Calls Tryd.prog 18 #[.agg g.cs] w (AtV w g g.I) := by
  have c6 : (w.alloc (.cells g.cs 30)).cell? ⟨w.heap.size, 7, none⟩ = some (.int .i64 g.I) := by
    have h : Bk (w.alloc (.cells g.cs 30)) w.heap.size 30 g.cs := (MapKept.heap_alloc w _).1
    exact h.cell 7
  have h2 : (0 : Int) ≤ (g.I : Int) := by omega
  have h3 : (g.I : Int) ≤ 24 := by omega
  go_enter Tryd.func18, Tryd.ntmps18
  go_wp2_with fail
  go_ret
  exact ⟨ret_int (by omega : min (g.I : Int) 24 = g.I), rfl⟩
def stA (pt : Int) (vp : Option Addr) (nv vc : Nat) (ip : Option Addr) (ni ic : Nat) (cp : Option Addr) (nc cc : Nat) : Array Value := #[.int .i64 pt, .slice vp nv vc, .slice ip ni ic, .slice cp nc cc]
theorem stA_one (pt : Int) (vp : Option Addr) (nv vc : Nat) (ip : Option Addr) (ni ic : Nat) (cp : Option Addr) (nc cc : Nat) : (stA pt vp nv vc ip ni ic cp nc cc).all (·.oneCell') = true := by simp [stA, Value.oneCell']
def BegP (g : GR) (w : World) (e : Ending) (w' : World) : Prop :=
  ∃ vp ip, e = .returned (.agg (stA g.st vp g.V g.V ip g.I g.I none 0 0)) ∧ IR w' vp (zeros g.V) ∧ IR w' ip (zeros g.I) ∧ Below w.heap.size w w'
theorem Below.al {w w' : World} (h : Below w.heap.size w w') (o : Obj) : Below w.heap.size w (w'.alloc o) := h.alloc h.size o
theorem beg_end {g : GR} {w w' : World} {a b : Nat} (hb : Below w.heap.size w w') (ha : Bk w' a 3 (ints (zeros g.V)).toArray) (hi : Bk w' b 3 (ints (zeros g.I)).toArray) : BegP g w (.returned (.agg (stA g.st (some ⟨a, 0, none⟩) g.V g.V (some ⟨b, 0, none⟩) g.I g.I none 0 0))) w' :=
  ⟨_, _, rfl, .inr ⟨a, 0, rfl, by simpa using ha.range⟩, .inr ⟨b, 0, rfl, by simpa using hi.range⟩, hb⟩
/-- A graph's cells, one by one. -/
def G10 (g : GR) (b : Nat) (w : World) : Prop :=
  w.cell? ⟨b, 0, none⟩ = some (.int .i64 g.pts) ∧ w.cell? ⟨b, 1, none⟩ = some (.int .i64 g.st) ∧ w.cell? ⟨b, 2, none⟩ = some (.int .i64 g.en) ∧ w.cell? ⟨b, 3, none⟩ = some (.int .i64 g.ea) ∧ w.cell? ⟨b, 4, none⟩ = some g.ed ∧ w.cell? ⟨b, 5, none⟩ = some g.hd ∧
  w.cell? ⟨b, 6, none⟩ = some (.int .i64 g.V) ∧ w.cell? ⟨b, 7, none⟩ = some (.int .i64 g.I) ∧ w.cell? ⟨b, 8, none⟩ = some (.int .i64 g.S) ∧ w.cell? ⟨b, 9, none⟩ = some (.slice g.fp g.F g.fc)
theorem G10.of {g : GR} {b : Nat} {w : World} (h : Bk w b 30 g.cs) : G10 g b w := ⟨h.cell 0, h.cell 1, h.cell 2, h.cell 3, h.cell 4, h.cell 5, h.cell 6, h.cell 7, h.cell 8, h.cell 9⟩
/-- The same as one step of a region that draws its order. -/
theorem step_store_all {P : Program} {ops : Array Oper} {o : Oper} {a : Act} {w : World} {K : Act → World → Prop} {Q : Exit → Act → World → Prop} {E : Prop} (hgd : o.guard = none) (ty : TypeId) (x y : Operand) (ho : o.op = .store ty x y)
    (C : Nat) (t : TypeId) (old : Array Value) (cs : Array Value) (hx : a.eval x = .pointer (some ⟨C, 0, none⟩)) (hy : a.eval y = .agg cs) (hk : Bk w C t old) (hi : (P.info? ty).map (·.size) = some cs.size) (hc : cs.size = old.size) (h1 : cs.all (·.oneCell') = true)
    (h : ∀ w', Hid (Bk w' C t cs) → Hid (w.grownBy w' (some C)) → K (a.put o.dst undef) w') : if Region.wanted o (yielded ops a.tmps) = true then Oper.wp P o a w K Q else E := by
  have hw : Region.wanted o (yielded ops a.tmps) = true := by simp [Region.wanted, hgd]
  rw [if_pos hw]
  unfold Oper.wp execOp
  have ht : w.there C 0 cs.size := fun j hj => ⟨by rw [hk.cell]; simp; omega, hk.frozen _⟩
  simp only [ho, hx, hy, Instr.storeAt, Instr.sureAddr, Sem.run_bind, Sem.run_pure, Result.andThen_ok, run_storeVar_mid w C 0 ty cs ht hi h1]
  have hh := Bk.setCells (C := C) (t := t) cs.toList 0 w old.toList (by simpa using hk)
  have e : (setFrom old.toList 0 cs.toList).toArray = cs := by
    refine Array.ext_getElem? fun j => ?_
    by_cases hj : j < cs.size
    · have := setFrom_in cs.toList 0 old.toList j (by simpa using hj) (by simp; omega)
      rw [Nat.zero_add] at this
      rw [List.getElem?_toArray, this]; simp
    · rw [Array.getElem?_eq_none (by simp [setFrom_len]; omega), Array.getElem?_eq_none (by omega)]
  rw [e] at hh
  exact h _ (hdn hh.1) (hdn hh.2)
theorem held_bk {w1 w' : World} {b : Nat} {t : TypeId} {cs : Array Value} (h : Bk w1 b t cs) (hb : Below w1.heap.size w1 w') : Bk w' b t cs := h.below hb h.lt
/-- A state's result as it stands at first. -/
def Z4 (b : Nat) (w : World) : Prop :=
  w.cell? ⟨b, 0, none⟩ = some (.int .i64 0) ∧ w.cell? ⟨b, 1, none⟩ = some (.slice none 0 0) ∧ w.cell? ⟨b, 2, none⟩ = some (.slice none 0 0) ∧ w.cell? ⟨b, 3, none⟩ = some (.slice none 0 0) ∧
  w.frozen? ⟨b, 0, none⟩ = false ∧ w.frozen? ⟨b, 1, none⟩ = false ∧ w.frozen? ⟨b, 2, none⟩ = false ∧ w.frozen? ⟨b, 3, none⟩ = false
theorem Z4.of {b : Nat} {w : World} (h : Bk w b 33 (stA 0 none 0 0 none 0 0 none 0 0)) : Z4 b w := ⟨h.cell 0, h.cell 1, h.cell 2, h.cell 3, h.frozen 0, h.frozen 1, h.frozen 2, h.frozen 3⟩
theorem G10.gr {g : GR} {b C : Nat} {w w' : World} (h : Bk w b 30 g.cs) (hne : b ≠ C) (hg : Gr w w' (fun k => k = C)) : G10 g b w' := G10.of (hg.bk h hne)
theorem Gr.s4 {w w' : World} {C : Nat} (h : Gr w w' (fun k => k = C)) (x y z u : Value) : Gr w ((((w'.setCell ⟨C, 0, none⟩ x).setCell ⟨C, 1, none⟩ y).setCell ⟨C, 2, none⟩ z).setCell ⟨C, 3, none⟩ u) (fun k => k = C) :=
  (((h.setCell (p := ⟨C, 0, none⟩) (fun _ => rfl) x).setCell (p := ⟨C, 1, none⟩) (fun _ => rfl) y).setCell (p := ⟨C, 2, none⟩) (fun _ => rfl) z).setCell (p := ⟨C, 3, none⟩) (fun _ => rfl) u
theorem Bk.al {w : World} {b : Nat} {t : TypeId} {cs : Array Value} (h : Bk w b t cs) (o : Obj) : Bk (w.alloc o) b t cs := h.below (alloc_below _ _) h.lt
theorem Bk.drewN {w : World} {g : Nat} {t : TypeId} {cs : Array Value} {n : Nat} (h : Bk w g t cs) : Bk (w.drewN n) g t cs := h
theorem Bk.new' {w : World} {n : Nat} {t : TypeId} {cs : Array Value} (h : w.heap.size = n) : Bk (w.alloc (.cells cs t)) n t cs := by rw [← h]; exact (MapKept.heap_alloc w _).1
theorem set4 {w : World} {C : Nat} {a b c d : Value} (h : Bk w C 33 #[a, b, c, d]) (x y z u : Value) : Bk ((((w.setCell ⟨C, 0, none⟩ x).setCell ⟨C, 1, none⟩ y).setCell ⟨C, 2, none⟩ z).setCell ⟨C, 3, none⟩ u) C 33 #[x, y, z, u] := by
  simpa using (((h.set_ 0 x).set_ 1 y).set_ 2 z).set_ 3 u
theorem beg_fin {g : GR} {w W : World} {C a b : Nat} {A : Act} (hb : Below w.heap.size w W) (h : Bk W C 33 (stA g.st (some ⟨a, 0, none⟩) g.V g.V (some ⟨b, 0, none⟩) g.I g.I none 0 0)) (ha : Bk W a 3 (ints (zeros g.V)).toArray) (hi : Bk W b 3 (ints (zeros g.I)).toArray)
    (hp : A.tmps.getD 2 undef = .pointer (some ⟨C, 0, none⟩)) (hd : A.defers = []) : bodyPost Tryd.prog Tryd.f5 (BegP g w) Exit.ret A W :=
  bodyPost_ret (results_cell_row Tryd.results5 _ W C 33 _ (0, 0) _ hp h Tryd.underlying33 rfl size33) hd (beg_end hb ha hi)
theorem zer (n : Nat) (w : World) : Bk (w.alloc (.cells (ints (zeros n)).toArray 3)) w.heap.size 3 (ints (zeros n)).toArray := (MapKept.heap_alloc w _).1
theorem begin_any (g : GR) (w : World) (hg : Gok g) : Calls Tryd.prog 5 #[.agg g.cs] w (BegP g w) := by
  have hmV := fun w => make44 g.V w (by have := hg.V; omega)
  have hmI := fun w => make44 g.I w (by have := hg.I; omega)
  have HV := hdn (fun w => vars_any g w hg.V)
  have HI := hdn (fun w => ints_any g w hg.I)
  obtain ⟨w1, hw1⟩ : ∃ w1, w1 = (w.alloc (.cells g.cs 30)).alloc (.cells (stA 0 none 0 0 none 0 0 none 0 0) 33) := ⟨_, rfl⟩
  have HB1 : Below w.heap.size w w1 := by rw [hw1]; exact alloc2_below _ _ _
  have HG : Bk w1 w.heap.size 30 g.cs := by rw [hw1]; exact alloc2_old _ _ _ _
  have HR : Hid (Bk w1 (w.heap.size + 1) 33 (stA 0 none 0 0 none 0 0 none 0 0)) := hdn (by rw [hw1]; exact alloc2_new _ _ _ _)
  have hs1 : w1.heap.size = w.heap.size + 1 + 1 := by rw [hw1]; simp
  have HS : Hid (∀ w', Gr w1 w' (fun k => k = w.heap.size + 1) → G10 g w.heap.size w') := hdn (fun w' hb => G10.gr HG (by omega) hb)
  have HW : Hid ((w.alloc (.cells g.cs 30)).alloc (.cells #[.int .i64 0, .slice none 0 0, .slice none 0 0, .slice none 0 0] 33) = w1) := hdn hw1.symm
  obtain ⟨pts, st, en, ea, ed, hd, V, I, S, fp, F, fc⟩ := g
  simp only [GR.cs, G10] at HV HI HS HW HG ⊢
  simp only at hmV hmI
  clear hw1 hg HG
  go_enter Tryd.func5, Tryd.ntmps5
  go_upto_region 1 with fail
  rw [HW.out]
  have HB10 := fun k : Nat => Gr.refl w1 (fun i => i = k + 1)
  clear HW
  have hbw : Below w.heap.size w w1 := HB1
  generalize hGG : w.heap.size = G at *
  replace HB10 : Gr w1 w1 (fun k => k = G + 1) := HB10 G
  obtain ⟨d0, d1, d2, d3, f0, f1, f2, f3⟩ := Z4.of HR.out
  obtain ⟨c0, c1, c2, c3, c4, c5, c6, c7, c8, c9⟩ := HS.out w1 HB10
  go_region_held3 (fun w' => w'.cell? ⟨G, 0, none⟩ = some (.int .i64 pts) ∧ w'.cell? ⟨G, 1, none⟩ = some (.int .i64 st) ∧ w'.cell? ⟨G, 2, none⟩ = some (.int .i64 en) ∧ w'.cell? ⟨G, 3, none⟩ = some (.int .i64 ea) ∧ w'.cell? ⟨G, 4, none⟩ = some ed ∧ w'.cell? ⟨G, 5, none⟩ = some hd ∧
  w'.cell? ⟨G, 6, none⟩ = some (.int .i64 V) ∧ w'.cell? ⟨G, 7, none⟩ = some (.int .i64 I) ∧ w'.cell? ⟨G, 8, none⟩ = some (.int .i64 S) ∧ w'.cell? ⟨G, 9, none⟩ = some (.slice fp F fc))
   (first | with_reducible exact Hid.out HS _ (Gr.drew HB10) | with_reducible exact Hid.out HS _ (Gr.drew (Gr.alloc HB10 _)) | with_reducible exact Hid.out HS _ (Gr.drew (Gr.alloc (Gr.alloc HB10 _) _)) | with_reducible exact Hid.out HS _ (Gr.drew (Gr.alloc (Gr.alloc (Gr.alloc HB10 _) _) _)) | with_reducible exact Hid.out HS _ (Gr.drew (Gr.alloc (Gr.alloc (Gr.alloc (Gr.alloc HB10 _) _) _) _)) | with_reducible exact Hid.out HS _ (Gr.drew (Gr.s4 HB10 _ _ _ _)) | with_reducible exact Hid.out HS _ (Gr.drew (Gr.alloc (Gr.s4 HB10 _ _ _ _) _)) | with_reducible exact Hid.out HS _ (Gr.drew (Gr.alloc (Gr.alloc (Gr.s4 HB10 _ _ _ _) _) _)) | with_reducible exact Hid.out HS _ (Gr.drew (Gr.alloc (Gr.alloc (Gr.alloc (Gr.s4 HB10 _ _ _ _) _) _) _)) | with_reducible exact Hid.out HS _ (Gr.drew (Gr.alloc (Gr.alloc (Gr.alloc (Gr.alloc (Gr.s4 HB10 _ _ _ _) _) _) _) _)) | with_reducible exact Hid.out HS _ HB10 | with_reducible exact Hid.out HS _ (Gr.alloc HB10 _) | with_reducible exact Hid.out HS _ (Gr.alloc (Gr.alloc HB10 _) _) | with_reducible exact Hid.out HS _ (Gr.alloc (Gr.alloc (Gr.alloc HB10 _) _) _) | with_reducible exact Hid.out HS _ (Gr.alloc (Gr.alloc (Gr.alloc (Gr.alloc HB10 _) _) _) _) | with_reducible exact Hid.out HS _ (Gr.s4 HB10 _ _ _ _) | with_reducible exact Hid.out HS _ (Gr.alloc (Gr.s4 HB10 _ _ _ _) _) | with_reducible exact Hid.out HS _ (Gr.alloc (Gr.alloc (Gr.s4 HB10 _ _ _ _) _) _) | with_reducible exact Hid.out HS _ (Gr.alloc (Gr.alloc (Gr.alloc (Gr.s4 HB10 _ _ _ _) _) _) _) | with_reducible exact Hid.out HS _ (Gr.alloc (Gr.alloc (Gr.alloc (Gr.alloc (Gr.s4 HB10 _ _ _ _) _) _) _) _) | fail) (first
    | (go_at_call 17; refine (HV.out _).mono ?_; rintro e w2 ⟨rfl, hw2⟩; subst hw2)
    | (go_at_call 18; refine (HI.out _).mono ?_; rintro e w3 ⟨rfl, hw3⟩; subst hw3)
    | fail)
  all_goals
    go_wp2_with fail
    refine beg_fin (g := ⟨pts, st, en, ea, ed, hd, V, I, S, fp, F, fc⟩) (C := G + 1) ?_ (Bk.drewN (n := 1) (Bk.al (Bk.al (Bk.al (Bk.al (set4 HR.out _ _ _ _) _) _) _) _)) ?_ ?_ rfl rfl
    · rw [hGG]
      exact hbw.trans (Gr.below (N := G) (((((Gr.s4 HB10 _ _ _ _).alloc _).alloc _).alloc _).alloc _).drew (by omega) (fun k h => by omega))
    · refine Bk.drewN (n := 1) ?_
      repeat' (first | (with_reducible refine Bk.new' ?_; simp [hs1]; done) | with_reducible apply Bk.al)
    · refine Bk.drewN (n := 1) ?_
      repeat' (first | (with_reducible refine Bk.new' ?_; simp [hs1]; done) | with_reducible apply Bk.al)
end Go.Proofs.YtebmhadpkncgfaaDoor
namespace Go.Proofs.YtebmhadpkncgfaaDoor
open Go.RowKit Go.Maps
open Aw.Ac (Acn Opd)
/-- A heap that was made since, none of whose blocks is among N. -/
def HMN (w0 w : World) (b F : Nat) (cs : List PC) (N : Nat → Prop) : Prop :=
  ∃ R v, HIs w b R F cs v ∧ (∀ k, R k → w0.heap.size ≤ k ∧ ¬ N k) ∧ w0.heap.size ≤ b ∧ ¬ N b ∧ (∀ k, N k → k < w.heap.size) ∧ Below w0.heap.size w0 w
theorem HMN.step {w0 w w' : World} {b F : Nat} {R N : Nat → Prop} {cs' : List PC} {ret : Value} {e : Ending} (hR : ∀ k, R k → w0.heap.size ≤ k ∧ ¬ N k) (hb : w0.heap.size ≤ b) (hN : ¬ N b) (hNl : ∀ k, N k → k < w.heap.size) (hw : Below w0.heap.size w0 w)
    (h : HPost F w b R cs' ret e w') : HMN w0 w' b F cs' N ∧ Gr w w' (fun k => ¬ N k) := by
  obtain ⟨_, R', v', h1, h2⟩ := h
  refine ⟨⟨R', v', h1, fun k hk => ?_, hb, hN, fun k hk => Nat.lt_of_lt_of_le (hNl k hk) h2.gr.size, hw.trans (h2.gr.below hw.size (fun k hk => ?_))⟩, h2.gr.mono (fun k _ hk => ?_)⟩
  · rcases h2.new k hk with h | h
    · exact hR k h
    · exact ⟨by have := hw.size; omega, fun hn => by have := hNl k hn; omega⟩
  · rcases hk with rfl | hk
    · exact hb
    · exact (hR k hk).1
  · rcases hk with rfl | hk
    · exact hN
    · exact (hR k hk).2
theorem HMN.free {w0 w : World} {b F : Nat} {cs : List PC} {N : Nat → Prop} (h : HMN w0 w b F cs N) (c : Int) (hn : cs.length ≤ maxLen) :
    Calls Tryd.prog 83 #[.pointer (some ⟨b, 0, none⟩), .int .i64 c] w fun e w' => e = .returned (.int .i64 (freeE cs c)) ∧ Hid (HMN w0 w' b F (freeC F cs c) N) ∧ Hid (Gr w w' (fun k => ¬ N k)) := by
  obtain ⟨R, v, h1, h2, h3, h4, h5, h6⟩ := h
  exact (free_any F b R cs v c w h1 hn).mono fun e w' hp => ⟨hp.1, hdn (HMN.step h2 h3 h4 h5 h6 hp).1, hdn (HMN.step h2 h3 h4 h5 h6 hp).2⟩
theorem HMN.put {w0 w : World} {b F : Nat} {cs : List PC} {N : Nat → Prop} (h : HMN w0 w b F cs N) (c f t : Int) (hF : F ≤ 2000000) (hn : cs.length ≤ maxLen) (ht : okI t) :
    Calls Tryd.prog 81 #[.pointer (some ⟨b, 0, none⟩), .int .i64 c, .int .i64 f, .int .i64 t] w fun e w' => e = .returned (.int .i64 (faultC cs c)) ∧ Hid (HMN w0 w' b F (putC F cs c f t) N) ∧ Hid (Gr w w' (fun k => ¬ N k)) := by
  obtain ⟨R, v, h1, h2, h3, h4, h5, h6⟩ := h
  exact (put_any F b R cs v c f t w h1 hF hn ht).mono fun e w' hp => ⟨hp.1, hdn (HMN.step h2 h3 h4 h5 h6 hp).1, hdn (HMN.step h2 h3 h4 h5 h6 hp).2⟩
theorem HMN.add {w0 w : World} {b F : Nat} {cs : List PC} {N : Nat → Prop} (h : HMN w0 w b F cs N) (t : Int) (hn : cs.length ≤ 2000000) :
    Calls Tryd.prog 82 #[.pointer (some ⟨b, 0, none⟩), .int .i64 t] w fun e w' => e = .returned (.int .i64 (cs.length + 1 : Nat)) ∧ Hid (HMN w0 w' b F (cs ++ [newC F t]) N) ∧ Hid (Gr w w' (fun k => ¬ N k)) := by
  obtain ⟨R, v, h1, h2, h3, h4, h5, h6⟩ := h
  exact (add_any F b R cs v t w h1 hn).mono fun e w' hp => ⟨hp.1, hdn (HMN.step h2 h3 h4 h5 h6 hp).1, hdn (HMN.step h2 h3 h4 h5 h6 hp).2⟩
theorem HMN.get {w0 w : World} {b F : Nat} {cs : List PC} {N : Nat → Prop} (h : HMN w0 w b F cs N) (c f : Int) (hF : F ≤ 2000000) (hn : cs.length ≤ maxLen) :
    Calls Tryd.prog 56 #[.pointer (some ⟨b, 0, none⟩), .int .i64 c, .int .i64 f] w fun e w' => e = .returned (two (getV F cs c f) (faultC cs c)) ∧ w = w' := by
  obtain ⟨R, v, h1, _⟩ := h
  exact get_any F b R cs v c f w h1 hF hn
theorem HMN.weak {w0 w : World} {b F : Nat} {cs : List PC} {N N' : Nat → Prop} (h : HMN w0 w b F cs N) (hN : ∀ k, N' k → N k) : HMN w0 w b F cs N' := by
  obtain ⟨R, v, h1, h2, h3, h4, h5, h6⟩ := h
  exact ⟨R, v, h1, fun k hk => ⟨(h2 k hk).1, fun h => (h2 k hk).2 (hN k h)⟩, h3, fun h => h4 (hN b h), fun k hk => h5 k (hN k hk), h6⟩
/-- New blocks may be left alone as well. -/
theorem HMN.ext {w0 w w' : World} {b F : Nat} {cs : List PC} {N : Nat → Prop} (h : HMN w0 w b F cs N) (hb : Below w.heap.size w w') : HMN w0 w' b F cs (fun k => N k ∨ (w.heap.size ≤ k ∧ k < w'.heap.size)) := by
  obtain ⟨R, v, h1, h2, h3, h4, h5, h6⟩ := h
  refine ⟨R, v, h1.below hb, fun k hk => ⟨(h2 k hk).1, fun h => ?_⟩, h3, fun h => ?_, fun k hk => ?_, h6.trans (hb.mono h6.size)⟩
  · rcases h with h | h
    · exact (h2 k hk).2 h
    · have := h1.lie.1 k hk; omega
  · rcases h with h | h
    · exact h4 h
    · have := h1.top.lt; omega
  · rcases hk with h | h
    · exact Nat.lt_of_lt_of_le (h5 k h) hb.size
    · exact h.2
/-- Blocks of N have turned. -/
theorem HMN.other {w0 w w' : World} {b F : Nat} {cs : List PC} {N S : Nat → Prop} (h : HMN w0 w b F cs N) (hg : Gr w w' S) (hS : ∀ k, S k → N k ∧ w0.heap.size ≤ k) : HMN w0 w' b F cs N := by
  obtain ⟨R, v, h1, h2, h3, h4, h5, h6⟩ := h
  exact ⟨R, v, ⟨hg.bk h1.top (fun e => h4 (hS b e).1), h1.out, h1.lie.gr hg (fun k hk e => (h2 k hk).2 (hS k e).1)⟩, h2, h3, h4, fun k hk => Nat.lt_of_lt_of_le (h5 k hk) hg.size, h6.trans (hg.below h6.size (fun k hk => (hS k hk).2))⟩
/-- A base world, and blocks that are let be. -/
structure WK where
  w : World
  K : Nat → TypeId → Array Value → Prop
structure Mo (w0 : WK) (w : World) (F : Nat) (N : Nat → Prop) (mb vb ib hb : Nat) (vs is : List Int) (cs : List PC) : Prop where
  heap : HMN w0.w w hb F cs N
  top : Bk w mb 75 #[.slice (some ⟨vb, 0, none⟩) vs.length vs.length, .slice (some ⟨ib, 0, none⟩) is.length is.length, .pointer (some ⟨hb, 0, none⟩)]
  vr : Bk w vb 3 (ints vs).toArray
  ir : Bk w ib 3 (ints is).toArray
  nm : N mb
  nv : N vb
  ni : N ib
  ne1 : mb ≠ vb
  ne2 : mb ≠ ib
  ne3 : vb ≠ ib
  lo : w0.w.heap.size ≤ mb ∧ w0.w.heap.size ≤ vb ∧ w0.w.heap.size ≤ ib
  kp : ∀ E T c, w0.K E T c → Bk w E T c ∧ N E ∧ E ≠ mb ∧ E ≠ vb ∧ E ≠ ib
namespace Mo
variable {w0 : WK} {w w' : World} {F mb vb ib hb : Nat} {N N' : Nat → Prop} {vs is : List Int} {cs cs' : List PC}
theorem heap_ (h : Mo w0 w F N mb vb ib hb vs is cs) (hh : HMN w0.w w' hb F cs' N) (hg : Gr w w' (fun k => ¬ N k)) : Mo w0 w' F N mb vb ib hb vs is cs' :=
  { h with heap := hh, top := hg.bk h.top (fun e => e h.nm), vr := hg.bk h.vr (fun e => e h.nv), ir := hg.bk h.ir (fun e => e h.ni), kp := fun E T c q => ⟨hg.bk (h.kp E T c q).1 (fun e => e (h.kp E T c q).2.1), (h.kp E T c q).2⟩ }
theorem weak (h : Mo w0 w F N mb vb ib hb vs is cs) (hN : ∀ k, N' k → N k) (h1 : N' mb) (h2 : N' vb) (h3 : N' ib) (h4 : ∀ E T c, w0.K E T c → N' E) : Mo w0 w F N' mb vb ib hb vs is cs :=
  { h with heap := h.heap.weak hN, nm := h1, nv := h2, ni := h3, kp := fun E T c q => ⟨(h.kp E T c q).1, h4 E T c q, (h.kp E T c q).2.2⟩ }
theorem ext (h : Mo w0 w F N mb vb ib hb vs is cs) (hbl : Below w.heap.size w w') : Mo w0 w' F (fun k => N k ∨ (w.heap.size ≤ k ∧ k < w'.heap.size)) mb vb ib hb vs is cs :=
  { h with heap := h.heap.ext hbl, top := h.top.below hbl h.top.lt, vr := h.vr.below hbl h.vr.lt, ir := h.ir.below hbl h.ir.lt, nm := .inl h.nm, nv := .inl h.nv, ni := .inl h.ni, kp := fun E T c q => ⟨(h.kp E T c q).1.below hbl (h.kp E T c q).1.lt, .inl (h.kp E T c q).2.1, (h.kp E T c q).2.2⟩ }
theorem below (h : Mo w0 w F N mb vb ib hb vs is cs) (hbl : Below w.heap.size w w') : Mo w0 w' F N mb vb ib hb vs is cs :=
  (h.ext hbl).weak (fun _ h => .inl h) h.nm h.nv h.ni (fun E T c q => (h.kp E T c q).2.1)
theorem lt (h : Mo w0 w F N mb vb ib hb vs is cs) : mb < w.heap.size ∧ vb < w.heap.size ∧ ib < w.heap.size := ⟨h.top.lt, h.vr.lt, h.ir.lt⟩
theorem sz (h : Mo w0 w F N mb vb ib hb vs is cs) : w0.w.heap.size ≤ w.heap.size := by
  obtain ⟨_, _, _, _, _, _, _, h6⟩ := h.heap; exact h6.size
/-- Another block of N has turned. -/
theorem other (h : Mo w0 w F N mb vb ib hb vs is cs) {C : Nat} (hg : Gr w w' (fun k => k = C)) (hC : N C) (hl : w0.w.heap.size ≤ C) (h1 : C ≠ mb) (h2 : C ≠ vb) (h3 : C ≠ ib) (h4 : ∀ E T c, w0.K E T c → E ≠ C) : Mo w0 w' F N mb vb ib hb vs is cs :=
  { h with heap := h.heap.other hg (fun k e => by subst e; exact ⟨hC, hl⟩), top := hg.bk h.top (fun e => h1 e.symm), vr := hg.bk h.vr (fun e => h2 e.symm), ir := hg.bk h.ir (fun e => h3 e.symm), kp := fun E T c q => ⟨hg.bk (h.kp E T c q).1 (fun e => h4 E T c q e), (h.kp E T c q).2⟩ }
theorem setv (h : Mo w0 w F N mb vb ib hb vs is cs) (k : Nat) (x : Int) : Mo w0 (w.setCell ⟨vb, k, none⟩ (.int .i64 x)) F N mb vb ib hb (vs.set k x) is cs := by
  have hg : Gr w (w.setCell ⟨vb, k, none⟩ (.int .i64 x)) (fun k => k = vb) := (Gr.refl w (fun k => k = vb)).setCell (p := ⟨vb, k, none⟩) (fun _ => rfl) _
  refine { h with heap := h.heap.other hg (fun k e => by subst e; exact ⟨h.nv, h.lo.2.1⟩), top := ?_, vr := ?_, ir := hg.bk h.ir (fun e => h.ne3 e.symm), kp := fun E T c q => ⟨hg.bk (h.kp E T c q).1 (fun e => (h.kp E T c q).2.2.2.1 e), (h.kp E T c q).2⟩ }
  · rw [List.length_set]; exact hg.bk h.top h.ne1
  · have := h.vr.set_ k (.int .i64 x)
    unfold ints at this ⊢
    rwa [List.setIfInBounds_toArray, ← List.map_set] at this
theorem seti (h : Mo w0 w F N mb vb ib hb vs is cs) (k : Nat) (x : Int) : Mo w0 (w.setCell ⟨ib, k, none⟩ (.int .i64 x)) F N mb vb ib hb vs (is.set k x) cs := by
  have hg : Gr w (w.setCell ⟨ib, k, none⟩ (.int .i64 x)) (fun k => k = ib) := (Gr.refl w (fun k => k = ib)).setCell (p := ⟨ib, k, none⟩) (fun _ => rfl) _
  refine { h with heap := h.heap.other hg (fun k e => by subst e; exact ⟨h.ni, h.lo.2.2⟩), top := ?_, ir := ?_, vr := hg.bk h.vr h.ne3, kp := fun E T c q => ⟨hg.bk (h.kp E T c q).1 (fun e => (h.kp E T c q).2.2.2.2 e), (h.kp E T c q).2⟩ }
  · rw [List.length_set]; exact hg.bk h.top h.ne2
  · have := h.ir.set_ k (.int .i64 x)
    unfold ints at this ⊢
    rwa [List.setIfInBounds_toArray, ← List.map_set] at this
theorem c0 (h : Mo w0 w F N mb vb ib hb vs is cs) : w.cell? ⟨mb, 0, none⟩ = some (.slice (some ⟨vb, 0, none⟩) vs.length vs.length) := h.top.cell 0
theorem c1 (h : Mo w0 w F N mb vb ib hb vs is cs) : w.cell? ⟨mb, 1, none⟩ = some (.slice (some ⟨ib, 0, none⟩) is.length is.length) := h.top.cell 1
theorem c2 (h : Mo w0 w F N mb vb ib hb vs is cs) : w.cell? ⟨mb, 2, none⟩ = some (.pointer (some ⟨hb, 0, none⟩)) := h.top.cell 2
theorem cv (h : Mo w0 w F N mb vb ib hb vs is cs) (k : Nat) (hk : k < vs.length) : w.cell? ⟨vb, k, none⟩ = some (.int .i64 (atL vs k)) := by
  rw [h.vr.cell, List.getElem?_toArray]
  unfold ints atL
  rw [List.getElem?_map, List.getElem?_eq_getElem hk, if_pos (by unfold inB; simp; omega)]
  simp [hk]
theorem ci (h : Mo w0 w F N mb vb ib hb vs is cs) (k : Nat) (hk : k < is.length) : w.cell? ⟨ib, k, none⟩ = some (.int .i64 (atL is k)) := by
  rw [h.ir.cell, List.getElem?_toArray]
  unfold ints atL
  rw [List.getElem?_map, List.getElem?_eq_getElem hk, if_pos (by unfold inB; simp; omega)]
  simp [hk]
end Mo
/-- What a deed leaves. -/
def MoP (w0 : WK) (F : Nat) (N : Nat → Prop) (mb vb ib hb : Nat) (vs is : List Int) (cs : List PC) (ev : Array Value) (e : Ending) (w' : World) : Prop :=
  e = .returned (.agg ev) ∧ Mo w0 w' F N mb vb ib hb vs is cs
/-- Where a deed begins: the action is boxed, the event's place made. -/
structure Dd (w0 : WK) (w w2 : World) (F : Nat) (N : Nat → Prop) (mb vb ib hb : Nat) (vs is : List Int) (cs : List PC) (a : Acn) : Prop where
  mo : Mo w0 w2 F (fun k => N k ∨ (w.heap.size ≤ k ∧ k < w.heap.size + 2)) mb vb ib hb vs is cs
  act : Bk w2 w.heap.size 43 a.cs
  ev : Bk w2 (w.heap.size + 1) 37 (evA 0 0 0)
  old : ∀ k, N k → k < w.heap.size
  nm : N mb
  nv : N vb
  ni : N ib
  sz : w0.w.heap.size ≤ w.heap.size
  kn : ∀ E T c, w0.K E T c → N E
theorem Dd.start {w0 : WK} {w : World} {F mb vb ib hb : Nat} {N : Nat → Prop} {vs is : List Int} {cs : List PC} (h : Mo w0 w F N mb vb ib hb vs is cs) (a : Acn) : Dd w0 w ((w.alloc (.cells a.cs 43)).alloc (.cells (evA 0 0 0) 37)) F N mb vb ib hb vs is cs a where
  mo := by
    have := h.ext (alloc2_below w (.cells a.cs 43) (.cells (evA 0 0 0) 37))
    have e : ((w.alloc (.cells a.cs 43)).alloc (.cells (evA 0 0 0) 37)).heap.size = w.heap.size + 2 := by simp
    rwa [e] at this
  act := alloc2_old _ _ _ _
  ev := alloc2_new _ _ _ _
  old := by obtain ⟨_, _, _, _, _, _, h5, _⟩ := h.heap; exact h5
  nm := h.nm
  nv := h.nv
  ni := h.ni
  sz := h.sz
  kn := fun E T c q => (h.kp E T c q).2.1
/-- Its end. -/
theorem Dd.fin {w0 : WK} {w w2 w3 w4 : World} {F mb vb ib hb : Nat} {N : Nat → Prop} {vs is vs' is' : List Int} {cs cs' : List PC} {a : Acn} (h : Dd w0 w w2 F N mb vb ib hb vs is cs a) (h3 : Mo w0 w3 F (fun k => N k ∨ (w.heap.size ≤ k ∧ k < w.heap.size + 2)) mb vb ib hb vs' is' cs')
    (hg : w3.grownBy w4 (some (w.heap.size + 1))) : Mo w0 w4 F N mb vb ib hb vs' is' cs' := by
  have h1 := h.old _ h.nm; have h2 := h.old _ h.nv; have h3' := h.old _ h.ni; have h5 := h.sz
  exact (h3.other ((Gr.of_grown hg).mono (fun k _ e => by injection e)) (.inr ⟨by omega, by omega⟩) (by omega) (by omega) (by omega) (by omega) (fun E T c q => by have := h.old _ (h.kn E T c q); omega)).weak (fun _ h => .inl h) h.nm h.nv h.ni h.kn
theorem Dd.evk {w0 : WK} {w w2 w3 : World} {F mb vb ib hb : Nat} {N : Nat → Prop} {vs is : List Int} {cs : List PC} {a : Acn} (h : Dd w0 w w2 F N mb vb ib hb vs is cs a) (hg : Gr w2 w3 (fun k => ¬ (N k ∨ (w.heap.size ≤ k ∧ k < w.heap.size + 2)))) : Bk w3 (w.heap.size + 1) 37 (evA 0 0 0) ∧ Bk w3 w.heap.size 43 a.cs :=
  ⟨hg.bk h.ev (fun e => e (.inr ⟨by omega, by omega⟩)), hg.bk h.act (fun e => e (.inr ⟨by omega, by omega⟩))⟩
end Go.Proofs.YtebmhadpkncgfaaDoor
namespace Go.Proofs.YtebmhadpkncgfaaDoor
open Go.RowKit Go.Maps
open Aw.Ac (Acn Opd)
section
variable {w0 : WK} {w w2 : World} {F mb vb ib hb : Nat} {N : Nat → Prop} {vs is : List Int} {cs : List PC} {a : Acn}
theorem Dd.ax (h : Dd w0 w w2 F N mb vb ib hb vs is cs a) : w2.cell? ⟨w.heap.size, 1, none⟩ = some (.int .i64 a.x) := h.act.cell 1
theorem Dd.ay (h : Dd w0 w w2 F N mb vb ib hb vs is cs a) : w2.cell? ⟨w.heap.size, 2, none⟩ = some (.int .i64 a.y) := h.act.cell 2
theorem Dd.af (h : Dd w0 w w2 F N mb vb ib hb vs is cs a) : w2.cell? ⟨w.heap.size, 3, none⟩ = some (.int .i64 a.f) := h.act.cell 3
theorem Dd.at_ (h : Dd w0 w w2 F N mb vb ib hb vs is cs a) : w2.cell? ⟨w.heap.size, 4, none⟩ = some (.int .i64 a.t) := h.act.cell 4
theorem Dd.apl (h : Dd w0 w w2 F N mb vb ib hb vs is cs a) : w2.cell? ⟨w.heap.size, 5, none⟩ = some (.int .i64 a.pl) := h.act.cell 5
theorem Dd.aop (h : Dd w0 w w2 F N mb vb ib hb vs is cs a) : w2.cell? ⟨w.heap.size, 6, none⟩ = some (.int .i64 a.op) := h.act.cell 6
theorem Dd.alv (h : Dd w0 w w2 F N mb vb ib hb vs is cs a) : w2.cell? ⟨w.heap.size, 7, none⟩ = some (.int .i64 a.l.v) := h.act.cell 7
theorem Dd.aln (h : Dd w0 w w2 F N mb vb ib hb vs is cs a) : w2.cell? ⟨w.heap.size, 8, none⟩ = some (.int .i64 a.l.n) := h.act.cell 8
theorem Dd.arv (h : Dd w0 w w2 F N mb vb ib hb vs is cs a) : w2.cell? ⟨w.heap.size, 9, none⟩ = some (.int .i64 a.r.v) := h.act.cell 9
theorem Dd.arn (h : Dd w0 w w2 F N mb vb ib hb vs is cs a) : w2.cell? ⟨w.heap.size, 10, none⟩ = some (.int .i64 a.r.n) := h.act.cell 10
end
theorem dd_hid {w0 : WK} {w : World} {F mb vb ib hb : Nat} {N : Nat → Prop} {vs is : List Int} {cs : List PC} (h : Mo w0 w F N mb vb ib hb vs is cs) (a : Acn) :
    ∃ w2, Hid ((w.alloc (.cells a.cs 43)).alloc (.cells #[.int .i64 0, .int .i64 0, .int .i64 0] 37) = w2) ∧ Hid (Dd w0 w w2 F N mb vb ib hb vs is cs a) := ⟨_, rfl, Dd.start h a⟩
theorem skip_any {w0 : WK} {w : World} {F mb vb ib hb : Nat} {N : Nat → Prop} {vs is : List Int} {cs : List PC} (h : Mo w0 w F N mb vb ib hb vs is cs) (a : Acn) (inp : Int) :
    Calls Tryd.prog 57 #[.pointer (some ⟨mb, 0, none⟩), .agg a.cs, .int .i64 inp] w (MoP w0 F N mb vb ib hb vs is cs (evA 0 0 0)) := by
  obtain ⟨w2, HW, HD⟩ := dd_hid h a
  have HE := hdn HD.out.ev
  clear h
  go_enter Tryd.func57, Tryd.ntmps57
  go_upto_region 1 with fail
  rw [HW.out]
  go_wp2_with ((with_reducible show wpList _ _ _ (Oper.mk none (Op.store 37 _ _) _ _ _ _ :: _) _ _); refine wpList_store_all rfl 37 _ _ rfl (w.heap.size + 1) 37 _ (evA 0 0 0) rfl rfl HE.out size37 rfl (evA_one _ _ _) ?_; intro w3 h3 g3)
  exact bodyPost_ret (results_cell_row Tryd.results57 _ w3 (w.heap.size + 1) 37 (evA 0 0 0) (0, 0) _ rfl h3.out Tryd.underlying37 rfl size37) rfl ⟨rfl, HD.out.fin HD.out.mo g3.out⟩
theorem null_any {w0 : WK} {w : World} {F mb vb ib hb : Nat} {N : Nat → Prop} {vs is : List Int} {cs : List PC} (h : Mo w0 w F N mb vb ib hb vs is cs) (a : Acn) (inp : Int) (k : Nat) (hx : a.x = k) (hk : k < vs.length) :
    Calls Tryd.prog 58 #[.pointer (some ⟨mb, 0, none⟩), .agg a.cs, .int .i64 inp] w (MoP w0 F N mb vb ib hb (vs.set k 0) is cs (evA 0 0 0)) := by
  obtain ⟨w2, HW, HD⟩ := dd_hid h a
  have c0 := HD.out.mo.c0
  have a1 : w2.cell? ⟨w.heap.size, 1, none⟩ = some (.int .i64 k) := by rw [← hx]; exact HD.out.ax
  have cv := HD.out.mo.cv k hk
  have fv : w2.frozen? ⟨vb, k, none⟩ = false := HD.out.mo.vr.frozen k
  have hd : Mo w0 w2.drew F (fun k => N k ∨ (w.heap.size ≤ k ∧ k < w.heap.size + 2)) mb vb ib hb vs is cs := HD.out.mo.below (below_drew (Below.refl _ _))
  have HM3 := hdn (hd.setv k 0)
  have HE : Hid (Bk (w2.drew.setCell ⟨vb, k, none⟩ (.int .i64 0)) (w.heap.size + 1) 37 (evA 0 0 0)) := hdn (Bk.far (w := w2.drew) HD.out.ev (p := ⟨vb, k, none⟩) (by have := HD.out.old _ HD.out.nv; show w.heap.size + 1 ≠ vb; omega) _)
  have hk0 : (0 : Int) ≤ (k : Int) := Int.natCast_nonneg _
  have hk1 : (k : Int) < (vs.length : Int) := by omega
  clear h hx hd
  go_enter Tryd.func58, Tryd.ntmps58
  go_upto_region 1 with fail
  rw [HW.out]
  go_still_tail 7, (by kernel_rfl)
  change wpList _ _ _ _ _ w2.drew
  go_wp2_with ((with_reducible show wpList _ _ _ (Oper.mk none (Op.store 37 _ _) _ _ _ _ :: _) _ _); refine wpList_store_all rfl 37 _ _ rfl (w.heap.size + 1) 37 _ (evA 0 0 0) rfl rfl HE.out size37 rfl (evA_one _ _ _) ?_; intro w3 h3 g3)
  exact bodyPost_ret (results_cell_row Tryd.results58 _ w3 (w.heap.size + 1) 37 (evA 0 0 0) (0, 0) _ rfl h3.out Tryd.underlying37 rfl size37) rfl ⟨rfl, HD.out.fin HM3.out g3.out⟩
theorem take_any {w0 : WK} {w : World} {F mb vb ib hb : Nat} {N : Nat → Prop} {vs is : List Int} {cs : List PC} (h : Mo w0 w F N mb vb ib hb vs is cs) (a : Acn) (inp : Int) (k : Nat) (hx : a.x = k) (hk : k < is.length) :
    Calls Tryd.prog 65 #[.pointer (some ⟨mb, 0, none⟩), .agg a.cs, .int .i64 inp] w (MoP w0 F N mb vb ib hb vs (is.set k inp) cs (evA 0 0 0)) := by
  obtain ⟨w2, HW, HD⟩ := dd_hid h a
  have c0 := HD.out.mo.c1
  have a1 : w2.cell? ⟨w.heap.size, 1, none⟩ = some (.int .i64 k) := by rw [← hx]; exact HD.out.ax
  have cv := HD.out.mo.ci k hk
  have fv : w2.frozen? ⟨ib, k, none⟩ = false := HD.out.mo.ir.frozen k
  have hd : Mo w0 w2.drew F (fun k => N k ∨ (w.heap.size ≤ k ∧ k < w.heap.size + 2)) mb vb ib hb vs is cs := HD.out.mo.below (below_drew (Below.refl _ _))
  have HM3 := hdn (hd.seti k inp)
  have HE : Hid (Bk (w2.drew.setCell ⟨ib, k, none⟩ (.int .i64 inp)) (w.heap.size + 1) 37 (evA 0 0 0)) := hdn (Bk.far (w := w2.drew) HD.out.ev (p := ⟨ib, k, none⟩) (by have := HD.out.old _ HD.out.ni; show w.heap.size + 1 ≠ ib; omega) _)
  have hk0 : (0 : Int) ≤ (k : Int) := Int.natCast_nonneg _
  have hk1 : (k : Int) < (is.length : Int) := by omega
  clear h hx hd
  go_enter Tryd.func65, Tryd.ntmps65
  go_upto_region 1 with fail
  rw [HW.out]
  go_still_tail 8, (by kernel_rfl)
  change wpList _ _ _ _ _ w2.drew
  go_wp2_with ((with_reducible show wpList _ _ _ (Oper.mk none (Op.store 37 _ _) _ _ _ _ :: _) _ _); refine wpList_store_all rfl 37 _ _ rfl (w.heap.size + 1) 37 _ (evA 0 0 0) rfl rfl HE.out size37 rfl (evA_one _ _ _) ?_; intro w3 h3 g3)
  exact bodyPost_ret (results_cell_row Tryd.results65 _ w3 (w.heap.size + 1) 37 (evA 0 0 0) (0, 0) _ rfl h3.out Tryd.underlying37 rfl size37) rfl ⟨rfl, HD.out.fin HM3.out g3.out⟩
theorem copy_any {w0 : WK} {w : World} {F mb vb ib hb : Nat} {N : Nat → Prop} {vs is : List Int} {cs : List PC} (h : Mo w0 w F N mb vb ib hb vs is cs) (a : Acn) (inp : Int) (k j : Nat) (hx : a.x = k) (hy : a.y = j) (hk : k < vs.length) (hj : j < vs.length) :
    Calls Tryd.prog 59 #[.pointer (some ⟨mb, 0, none⟩), .agg a.cs, .int .i64 inp] w (MoP w0 F N mb vb ib hb (vs.set k (atL vs j)) is cs (evA 0 0 0)) := by
  obtain ⟨w2, HW, HD⟩ := dd_hid h a
  have c0 := HD.out.mo.c0
  have a1 : w2.cell? ⟨w.heap.size, 1, none⟩ = some (.int .i64 k) := by rw [← hx]; exact HD.out.ax
  have a2 : w2.cell? ⟨w.heap.size, 2, none⟩ = some (.int .i64 j) := by rw [← hy]; exact HD.out.ay
  have cv := HD.out.mo.cv k hk
  have cj := HD.out.mo.cv j hj
  have fv : w2.frozen? ⟨vb, k, none⟩ = false := HD.out.mo.vr.frozen k
  have hd : Mo w0 w2.drew F (fun k => N k ∨ (w.heap.size ≤ k ∧ k < w.heap.size + 2)) mb vb ib hb vs is cs := HD.out.mo.below (below_drew (Below.refl _ _))
  have HM3 := hdn (hd.setv k (atL vs j))
  have HE : Hid (Bk (w2.drew.setCell ⟨vb, k, none⟩ (.int .i64 (atL vs j))) (w.heap.size + 1) 37 (evA 0 0 0)) := hdn (Bk.far (w := w2.drew) HD.out.ev (p := ⟨vb, k, none⟩) (by have := HD.out.old _ HD.out.nv; show w.heap.size + 1 ≠ vb; omega) _)
  have hk0 : (0 : Int) ≤ (k : Int) := Int.natCast_nonneg _
  have hk1 : (k : Int) < (vs.length : Int) := by omega
  have hj0 : (0 : Int) ≤ (j : Int) := Int.natCast_nonneg _
  have hj1 : (j : Int) < (vs.length : Int) := by omega
  generalize atL vs j = y at *
  clear h hx hy hd
  go_enter Tryd.func59, Tryd.ntmps59
  go_upto_region 1 with fail
  rw [HW.out]
  go_still_tail 15, (by kernel_rfl)
  change wpList _ _ _ _ _ w2.drew
  go_wp2_with ((with_reducible show wpList _ _ _ (Oper.mk none (Op.store 37 _ _) _ _ _ _ :: _) _ _); refine wpList_store_all rfl 37 _ _ rfl (w.heap.size + 1) 37 _ (evA 0 0 0) rfl rfl HE.out size37 rfl (evA_one _ _ _) ?_; intro w3 h3 g3)
  exact bodyPost_ret (results_cell_row Tryd.results59 _ w3 (w.heap.size + 1) 37 (evA 0 0 0) (0, 0) _ rfl h3.out Tryd.underlying37 rfl size37) rfl ⟨rfl, HD.out.fin HM3.out g3.out⟩
end Go.Proofs.YtebmhadpkncgfaaDoor
namespace Go.Proofs.YtebmhadpkncgfaaDoor
open Go.RowKit Go.Maps Go.Sort
open Aw.Ac (Acn Opd)
theorem qb_call {F : Nat} {ar : Array Value} {wB : World} {v : Value} (h : ∀ wr, Below wB.heap.size wB wr → Calls Tryd.prog F ar wr fun en w' => en = .returned v ∧ Below wr.heap.size wr w') :
    ∀ dd os, Calls Tryd.prog F ar (grow (redrawn wB dd) os) fun en w'' => en = .returned v ∧ ∃ p : Regrown, w'' = grow (redrawn wB p.d) p.os := fun _ _ => Calls.regrown_of (h _ (below_regrown _ _ _))
theorem evE_size (a : Acn) (n : Int) : (evE a n).size = 3 := by unfold evE; split <;> rfl
theorem evE_one (a : Acn) (n : Int) : (evE a n).all (·.oneCell') = true := by unfold evE; split <;> exact evA_one _ _ _
theorem evE_37 (a : Acn) (n : Int) : (Tryd.prog.info? 37).map (·.size) = some (evE a n).size := by rw [evE_size]; exact size37
theorem same_below {w w' : World} (h : w = w') : Below w.heap.size w w' := by subst h; exact Below.refl _ _
theorem faultC_ways (cs : List PC) (c : Int) : faultC cs c = 0 ∨ faultC cs c = 1 ∨ faultC cs c = 2 := by
  unfold faultC; split
  · split <;> simp
  · simp
theorem load59_any {w0 : WK} {w : World} {F mb vb ib hb : Nat} {N : Nat → Prop} {vs is : List Int} {cs : List PC} (h : Mo w0 w F N mb vb ib hb vs is cs) (hF : F ≤ 2000000) (hn : cs.length ≤ maxLen) (a : Acn) (inp : Int) (k j : Nat) (hx : a.x = k) (hy : a.y = j) (hk : k < vs.length) (hj : j < vs.length) :
    Calls Tryd.prog 60 #[.pointer (some ⟨mb, 0, none⟩), .agg a.cs, .int .i64 inp] w (MoP w0 F N mb vb ib hb (if faultC cs (atL vs j) = 0 then vs.set k (getV F cs (atL vs j) a.f) else vs) is cs (evE a (faultC cs (atL vs j)))) := by
  obtain ⟨w2, HW, HD⟩ := dd_hid h a
  have c0 := HD.out.mo.c0
  have c2 := HD.out.mo.c2
  have a1 : w2.cell? ⟨w.heap.size, 1, none⟩ = some (.int .i64 k) := by rw [← hx]; exact HD.out.ax
  have a2 : w2.cell? ⟨w.heap.size, 2, none⟩ = some (.int .i64 j) := by rw [← hy]; exact HD.out.ay
  have a3 := HD.out.af
  have cj := HD.out.mo.cv j hj
  have CC := hdn (qb_call (wB := w2) (F := 56) (ar := #[.pointer (some ⟨hb, 0, none⟩), .int .i64 (atL vs j), .int .i64 a.f]) (v := two (getV F cs (atL vs j) a.f) (faultC cs (atL vs j))) (fun wr hb' => ((HD.out.mo.below hb').heap.get (atL vs j) a.f hF hn).mono (fun e w' he => ⟨he.1, same_below he.2⟩)))
  have hk0 : (0 : Int) ≤ (k : Int) := Int.natCast_nonneg _
  have hk1 : (k : Int) < (vs.length : Int) := by omega
  have hj0 : (0 : Int) ≤ (j : Int) := Int.natCast_nonneg _
  have hj1 : (j : Int) < (vs.length : Int) := by omega
  generalize atL vs j = y at *
  generalize getV F cs y a.f = gv at *
  generalize faultC cs y = wr at *
  have hxx := hdn hx
  generalize hVS : (if wr = 0 then vs.set k gv else vs) = VS
  have HV := hdn hVS
  clear h hx hy hF hn hVS
  have k0 := cell_regrown c0
  have k2 := cell_regrown c2
  have k3 := cell_regrown a1
  have k4 := cell_regrown a2
  have k5 := cell_regrown a3
  have k6 := cell_regrown cj
  unfold two at CC
  go_enter Tryd.func60, Tryd.ntmps60
  go_upto_region 1 with fail
  rw [HW.out]
  have cC := CC.out
  refine wp_region_quiet_below (by kernel_rfl) (by kernel_rfl) ?_
  repeat (go_big_quiet_step (with_reducible exact cC _ _))
  refine wpQuiet_nil ?_
  intro _ hw'
  obtain ⟨⟨dq, osq⟩, hw''⟩ := hw'
  subst hw''
  have HB3 : Hid (Below w2.heap.size w2 (grow (redrawn w2 dq) osq)) := hdn (below_regrown w2 dq osq)
  generalize grow (redrawn w2 dq) osq = w3 at HB3 ⊢
  have HM3 := hdn (HD.out.mo.below HB3.out)
  have HA3 : Hid (Bk w3 w.heap.size 43 a.cs) := hdn (HD.out.act.below HB3.out HD.out.act.lt)
  have HE3 : Hid (Bk w3 (w.heap.size + 1) 37 (evA 0 0 0)) := hdn (HD.out.ev.below HB3.out HD.out.ev.lt)
  clear cC k0 k2 k3 k4 k5 k6 c0 c2 a1 a2 a3 cj
  by_cases hw0 : wr = 0
  · subst hw0
    have HV0 : Hid (VS = vs.set k gv) := hdn (by rw [← HV.out]; exact if_pos rfl)
    clear HV
    have d0 : w3.cell? ⟨mb, 0, none⟩ = _ := HM3.out.c0
    have d1 : w3.cell? ⟨w.heap.size, 1, none⟩ = some (.int .i64 k) := by have := HA3.out.cell 1; rw [← hxx.out]; exact this
    have cv := HM3.out.cv k hk
    have fv : w3.frozen? ⟨vb, k, none⟩ = false := HM3.out.vr.frozen k
    have hd : Mo w0 w3.drew F (fun k => N k ∨ (w.heap.size ≤ k ∧ k < w.heap.size + 2)) mb vb ib hb vs is cs := HM3.out.below (below_drew (Below.refl _ _))
    have HM4 : Hid (Mo w0 (w3.setCell ⟨vb, k, none⟩ (.int .i64 gv)).drew F (fun k => N k ∨ (w.heap.size ≤ k ∧ k < w.heap.size + 2)) mb vb ib hb (vs.set k gv) is cs) := hdn (hd.setv k gv)
    have hlt := HD.out.old _ HD.out.nv
    have HA4 : Hid (Bk (w3.setCell ⟨vb, k, none⟩ (.int .i64 gv)).drew w.heap.size 43 a.cs) := hdn (Bk.far (w := w3.drew) HA3.out (p := ⟨vb, k, none⟩) (by show w.heap.size ≠ vb; omega) _)
    have HE4 : Hid (Bk (w3.setCell ⟨vb, k, none⟩ (.int .i64 gv)).drew (w.heap.size + 1) 37 (evA 0 0 0)) := hdn (Bk.far (w := w3.drew) HE3.out (p := ⟨vb, k, none⟩) (by show w.heap.size + 1 ≠ vb; omega) _)
    clear hd HM3 HA3 HE3 hlt
    go_wp2_with fail
    go_still_tail 8, (by kernel_rfl)
    change wpList _ _ _ _ _ w3.drew
    go_upto_region 4 with fail
    generalize (w3.setCell ⟨vb, k, none⟩ (.int .i64 gv)).drew = w4 at HM4 HA4 HE4 ⊢
    go_wp2_with (first
      | ((with_reducible show wpList _ _ _ (Oper.mk _ (Op.load 43 _) _ _ _ _ :: _) _ _); refine wpList_load_bk rfl 43 _ rfl w.heap.size 43 a.cs rfl _ HA4.out Tryd.underlying43 rfl size43 ?_)
      | (go_at_call 80; refine (raised_any a 0 _).mono ?_; rintro e w5 ⟨rfl, hb5⟩; have HM5 := hdn (HM4.out.below hb5); have HE5 := hdn (HE4.out.below hb5 HE4.out.lt); clear hb5)
      | ((with_reducible show wpList _ _ _ (Oper.mk none (Op.store 37 _ _) _ _ _ _ :: _) _ _); refine wpList_store_all rfl 37 _ _ rfl (w.heap.size + 1) 37 _ (evE a 0) rfl rfl HE5.out (evE_37 a 0) (evE_size a 0) (evE_one a 0) ?_; intro w6 h6 g6))
    rw [HV0.out]
    exact bodyPost_ret (results_cell_row Tryd.results60 _ w6 (w.heap.size + 1) 37 (evE a 0) (0, 0) _ rfl h6.out Tryd.underlying37 rfl (evE_37 a 0)) rfl ⟨rfl, HD.out.fin HM5.out g6.out⟩
  · have HV0 : Hid (VS = vs) := hdn (by rw [← HV.out]; exact if_neg hw0)
    clear HV
    have hd0 : (wr == 0) = false := by simpa using hw0
    have HM4 := HM3
    have HA4 := HA3
    have HE4 := HE3
    clear HM3 HA3 HE3 hw0
    go_wp2_with (first
      | ((with_reducible show wpList _ _ _ (Oper.mk _ (Op.load 43 _) _ _ _ _ :: _) _ _); refine wpList_load_bk rfl 43 _ rfl w.heap.size 43 a.cs rfl _ HA4.out Tryd.underlying43 rfl size43 ?_)
      | (go_at_call 80; refine (raised_any a wr _).mono ?_; rintro e w5 ⟨rfl, hb5⟩; have HM5 := hdn (HM4.out.below hb5); have HE5 := hdn (HE4.out.below hb5 HE4.out.lt); clear hb5)
      | ((with_reducible show wpList _ _ _ (Oper.mk none (Op.store 37 _ _) _ _ _ _ :: _) _ _); refine wpList_store_all rfl 37 _ _ rfl (w.heap.size + 1) 37 _ (evE a wr) rfl rfl HE5.out (evE_37 a wr) (evE_size a wr) (evE_one a wr) ?_; intro w6 h6 g6))
    rw [HV0.out]
    exact bodyPost_ret (results_cell_row Tryd.results60 _ w6 (w.heap.size + 1) 37 (evE a wr) (0, 0) _ rfl h6.out Tryd.underlying37 rfl (evE_37 a wr)) rfl ⟨rfl, HD.out.fin HM5.out g6.out⟩
end Go.Proofs.YtebmhadpkncgfaaDoor
