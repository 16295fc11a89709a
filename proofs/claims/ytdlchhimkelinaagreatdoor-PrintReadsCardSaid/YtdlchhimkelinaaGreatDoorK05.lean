/-
  The walk of lex.IsName; the loops of the printer over no item. The walks of the parser's statements that lead to no others. The walks of the parser's blocks, branches and loops. The walk of the parser's statement. The walk of the parser's statements. The walks of the parser's structs and procedures.
-/
import Derived.Test.YtdlchhimkelinaaGreatDoorK02
import Derived.Test.YtdlchhimkelinaaGreatDoorK04
import Derived.Test.YtdlchhimkelinaaGreatDoorK03
import Derived.Recover
import Derived.Laws.Pointers
import Derived.Deep.RegionHeld3
import Derived.Test.YtdlchhimkelinaaGreatDoorK01
import Derived.WalkLawsBesides
import Derived.Laws.StructEq
import Derived.Great.BuildSlice
set_option maxHeartbeats 6400000
set_option maxRecDepth 100000
namespace Go.Proofs.YtdlchhimkelinaaGreatDoor
open Go.RowKit Go.Sort
theorem isNameLex_any (s : ByteArray) (w : World) (hs : s.size ≤ 5000000) (hg : Gl w) :
  Calls Tryz.prog 79 #[.string s] w fun e w' => e = .returned (.bool (Tx.nameB s)) ∧ w = w' := by
 by_cases h0 : s.size = 0
 ·obtain rfl := Tx.empty_of s h0
  clear h0
  go_enter Tryz.func79, Tryz.ntmps79
  go_wp2
  go_ret
  exact ⟨rfl, rfl⟩
 ·have h1 : 0 < s.size := by omega
  have hne := toList_ne s h1
  clear h0
  have hw := hdn (Tx.headL_eq s h1)
  by_cases h16 : s.size ≤ 16
  ·cases hl : Tx.ltr (s[0].toNat : Int)
   ·have HE : Hid (Tx.nameB s = false) := hdn (by unfold Tx.nameB; rw [hw.out, hl]; simp)
    go_enter Tryz.func79, Tryz.ntmps79
    go_wp2_with (first | (go_at_call 89; refine (isLetter_any _ _).mono ?_; rintro e w' ⟨rfl, rfl⟩) | (go_at_call 114; refine (wordEnd_any s 0 _ hs (by omega)).mono ?_; rintro e w' ⟨rfl, rfl⟩) | (go_at_call 115; refine (isKeyLex_any _ _ hg).mono ?_; rintro e w' ⟨rfl, rfl⟩))
    go_ret
    exact ⟨ret_bool HE.out.symm, rfl⟩
   ·have h16' := hdn h16
    by_cases hd : Tx.wend Tx.wrd s 0 = s.size
    ·have HE : Hid (Tx.nameB s = !Tx.isKey s) := hdn (by unfold Tx.nameB; rw [hw.out, hl, decide_eq_true hd, decide_eq_true h16]; simp)
     have hd' : decide (Tx.wend Tx.wrd s 0 = s.size) = true := decide_eq_true hd
     have hd2 : ((Tx.wend Tx.wrd s 0 : Int) == (s.size : Int)) = true := by rw [hd]; simp
     clear hd
     go_enter Tryz.func79, Tryz.ntmps79
     go_wp2_with (first | (go_at_call 89; refine (isLetter_any _ _).mono ?_; rintro e w' ⟨rfl, rfl⟩) | (go_at_call 114; refine (wordEnd_any s 0 _ hs (by omega)).mono ?_; rintro e w' ⟨rfl, rfl⟩) | (go_at_call 115; refine (isKeyLex_any _ _ hg).mono ?_; rintro e w' ⟨rfl, rfl⟩))
     go_ret
     exact ⟨ret_bool HE.out.symm, rfl⟩
    ·have HE : Hid (Tx.nameB s = false) := hdn (by unfold Tx.nameB; rw [decide_eq_false hd]; simp)
     have hd2 : ((Tx.wend Tx.wrd s 0 : Int) == (s.size : Int)) = false := by rw [Bool.eq_false_iff]; intro e; rw [beq_iff_eq] at e; exact hd (by omega)
     clear hd
     go_enter Tryz.func79, Tryz.ntmps79
     go_wp2_with (first | (go_at_call 89; refine (isLetter_any _ _).mono ?_; rintro e w' ⟨rfl, rfl⟩) | (go_at_call 114; refine (wordEnd_any s 0 _ hs (by omega)).mono ?_; rintro e w' ⟨rfl, rfl⟩) | (go_at_call 115; refine (isKeyLex_any _ _ hg).mono ?_; rintro e w' ⟨rfl, rfl⟩))
     go_ret
     exact ⟨ret_bool HE.out.symm, rfl⟩
  ·have HE : Hid (Tx.nameB s = false) := hdn (by unfold Tx.nameB; rw [decide_eq_false h16]; simp)
   go_enter Tryz.func79, Tryz.ntmps79
   go_wp2_with fail
   go_ret
   exact ⟨ret_bool HE.out.symm, rfl⟩
theorem allSr_nil (p : Option Addr) (c : Nat) (f : Value) (w : World) : Calls Tryz.prog 36 #[.slice p 0 c, f] w fun e w' => e = .returned (.bool true) ∧ w = w' := by
 go_enter Tryz.func36, Tryz.ntmps36
 go_wp2_with fail
 go_loop [8] (fun i => i = .int .i64 0) (fun _ => 0)
 case atStart => rfl
 case round =>
  obtain rfl := hrel
  go_wp2_with fail
  go_ret
  exact ⟨rfl, rfl⟩
theorem allDc_nil (p : Option Addr) (c : Nat) (f : Value) (w : World) : Calls Tryz.prog 38 #[.slice p 0 c, f] w fun e w' => e = .returned (.bool true) ∧ w = w' := by
 go_enter Tryz.func38, Tryz.ntmps38
 go_wp2_with fail
 go_loop [8] (fun i => i = .int .i64 0) (fun _ => 0)
 case atStart => rfl
 case round =>
  obtain rfl := hrel
  go_wp2_with fail
  go_ret
  exact ⟨rfl, rfl⟩
theorem allHp_nil (p : Option Addr) (c : Nat) (f : Value) (w : World) : Calls Tryz.prog 173 #[.slice p 0 c, f] w fun e w' => e = .returned (.bool true) ∧ w = w' := by
 go_enter Tryz.func173, Tryz.ntmps173
 go_wp2_with fail
 go_loop [8] (fun i => i = .int .i64 0) (fun _ => 0)
 case atStart => rfl
 case round =>
  obtain rfl := hrel
  go_wp2_with fail
  go_ret
  exact ⟨rfl, rfl⟩
theorem eachSr_nil (p : Option Addr) (c : Nat) (f : Value) (w : World) : Calls Tryz.prog 42 #[.slice p 0 c, f] w fun e w' => e = .returned (.tuple #[]) ∧ w = w' := by
 go_enter Tryz.func42, Tryz.ntmps42
 go_wp2_with fail
 go_loop [7] (fun i => i = .int .i64 0) (fun _ => 0)
 case atStart => rfl
 case round =>
  obtain rfl := hrel
  go_wp2_with fail
  go_end0
  exact ⟨rfl, rfl⟩
theorem eachDc_nil (p : Option Addr) (c : Nat) (f : Value) (w : World) : Calls Tryz.prog 44 #[.slice p 0 c, f] w fun e w' => e = .returned (.tuple #[]) ∧ w = w' := by
 go_enter Tryz.func44, Tryz.ntmps44
 go_wp2_with fail
 go_loop [7] (fun i => i = .int .i64 0) (fun _ => 0)
 case atStart => rfl
 case round =>
  obtain rfl := hrel
  go_wp2_with fail
  go_end0
  exact ⟨rfl, rfl⟩
end Go.Proofs.YtdlchhimkelinaaGreatDoor
namespace Go.Proofs.YtdlchhimkelinaaGreatDoor
open Go.RowKit Go.Sort
attribute [local go_sem] field79_0 field79_1 field79_2 field79_3
section
variable {pb sb cap : Nat} {l : List Tx.Sg}
end
end Go.Proofs.YtdlchhimkelinaaGreatDoor
namespace Go.Proofs.YtdlchhimkelinaaGreatDoor
open Go.RowKit Go.Sort
attribute [local go_sem] field79_0 field79_1 field79_2 field79_3
section
variable {pb sb cap : Nat} {l : List Tx.Sg}
end
end Go.Proofs.YtdlchhimkelinaaGreatDoor
namespace Go.Proofs.YtdlchhimkelinaaGreatDoor
open Go.RowKit Go.Sort
attribute [local go_sem] field79_0 field79_1 field79_2 field79_3
section
variable {pb sb cap : Nat} {l : List Tx.Sg}
end
end Go.Proofs.YtdlchhimkelinaaGreatDoor
namespace Go.Proofs.YtdlchhimkelinaaGreatDoor
open Go.RowKit Go.Sort
/-- Items ahead of a list of statements. -/
def SL.onto : List It → SL → SL
 | [], r => r
 | x :: l, r => .cons x.h x.tp x.tc x.t x.ep x.ec x.e (SL.onto l r)
theorem SL.onto_nil : ∀ (l : List It), SL.onto l .nil = SL.of l
 | [] => rfl
 | x :: l => by rw [SL.onto, SL.of, SL.onto_nil l]
theorem SL.onto_app : ∀ (l m : List It) (r : SL), SL.onto (l ++ m) r = SL.onto l (SL.onto m r)
 | [], _, _ => rfl
 | x :: l, m, r => by rw [List.cons_append, SL.onto, SL.onto, SL.onto_app l m r]
theorem SL.of_len : ∀ (l : List It), (SL.of l).len = l.length
 | [] => rfl
 | x :: l => by rw [SL.of, SL.len, SL.of_len l, List.length_cons]
/-- Items that were read, ahead of what is read then. -/
def thenOnto (acc : List It) (r : Pr.Res SL) : Pr.Res SL :=
 match r with
 | .error e => .error e
 | .ok (s, v) => .ok (SL.onto acc s, v)
theorem thenOnto_nil (r : Pr.Res SL) : thenOnto [] r = r := by
 cases r with
 | error e => rfl
 | ok x => rfl
theorem thenOnto_app (acc m : List It) (r : Pr.Res SL) : thenOnto acc (thenOnto m r) = thenOnto (acc ++ m) r := by
 cases r with
 | error e => rfl
 | ok x => simp only [thenOnto, SL.onto_app]
theorem lies_ofItems {w : World} : ∀ (l : List It) (b o : Nat), (∀ (k : Nat) (x : It), l[k]? = some x → w.rangeAt b (o + k * 48) x.cells ∧ itLies w x) → lies w (SL.of l) b o
 | [], _, _, _ => trivial
 | x :: l, b, o, h => by
  obtain ⟨h1, h2⟩ := h 0 x rfl
  rw [Nat.zero_mul, Nat.add_zero] at h1
  exact ⟨h1, h2.1, h2.2.1, h2.2.2, lies_ofItems l b (o + 48) fun k y hk => by
   have := h (k + 1) y hk
   rwa [show o + (k + 1) * 48 = o + 48 + k * 48 by omega] at this⟩
theorem sLies_items {w : World} {p : Option Addr} {l : List It} (h : kIt.Ly w p l) : sLies w p (SL.of l) := by
 obtain ⟨h0, h⟩ := h
 refine ⟨by rw [SL.of_len]; exact h0, ?_⟩
 rcases h with h | ⟨b, o, hp, hx⟩
 ·exact .inl (by rw [h]; rfl)
 ·exact .inr ⟨b, o, hp, lies_ofItems l b o hx⟩
attribute [local go_sem] field79_0 field79_1 field79_2 field79_3
section
variable {pb sb cap : Nat} {l : List Tx.Sg}
end
end Go.Proofs.YtdlchhimkelinaaGreatDoor
namespace Go.Proofs.YtdlchhimkelinaaGreatDoor
open Go.RowKit Go.Sort
attribute [local go_sem] field79_0 field79_1 field79_2 field79_3
section
variable {pb sb cap : Nat} {l : List Tx.Sg}
end
end Go.Proofs.YtdlchhimkelinaaGreatDoor
namespace Go.Proofs.YtdlchhimkelinaaGreatDoor
open Go.RowKit Go.Sort
/-! What was made between two moments. -/
attribute [local go_sem] field79_0 field79_1 field79_2 field79_3
section
variable {pb sb cap : Nat} {l : List Tx.Sg}
end
end Go.Proofs.YtdlchhimkelinaaGreatDoor
namespace Go.Proofs.YtdlchhimkelinaaGreatDoor
open Go.RowKit Go.Sort
namespace Pr
section
variable {t : List Tk}
end
end Pr
/-- All but what was there, and three blocks. -/
def M3 (B : Nat) (r1 r2 r3 : Option Nat) (w : World) : World := mask (fun b => decide (b < B) || (decide (some b = r1) || (decide (some b = r2) || decide (some b = r3)))) w
theorem M3.par {B g : Nat} {r1 r2 r3 : Option Nat} {w w' : World} (h : w.grownBy w' (some g)) (hg : g < B) : Ext (M3 B r1 r2 r3 w) (M3 B r1 r2 r3 w') := Ext.of_mask fun b hb hlt => by
 refine ⟨hb, h.block b hlt ?_⟩
 simp only [Bool.or_eq_false_iff, decide_eq_false_iff_not] at hb
 intro e; injection e with e; omega
theorem M3.below {B : Nat} {r1 r2 r3 : Option Nat} {w w' : World} (h : Below w.heap.size w w') : Ext (M3 B r1 r2 r3 w) (M3 B r1 r2 r3 w') := Ext.of_mask fun b hb hlt => ⟨hb, h.block b hlt⟩
theorem M3.of_fresh {B B' : Nat} {r1 r2 r3 : Option Nat} {w : World} (hB : B ≤ B') (h1 : ∀ q, r1 = some q → q < B') (h2 : ∀ q, r2 = some q → q < B') (h3 : ∀ q, r3 = some q → q < B') : Ext (fresh B' w) (M3 B r1 r2 r3 w) := Ext.of_mask fun b hb _ => by
 simp only [Bool.or_eq_false_iff, decide_eq_false_iff_not] at hb ⊢
 exact ⟨⟨by omega, fun e => by have := h1 b e.symm; omega, fun e => by have := h2 b e.symm; omega, fun e => by have := h3 b e.symm; omega⟩, trivial⟩
theorem M3.fresh {B : Nat} {r1 r2 r3 : Option Nat} {w : World} : Ext (M3 B r1 r2 r3 w) (YtdlchhimkelinaaGreatDoor.fresh B w) := Ext.of_mask fun b hb _ => by
 simp only [Bool.or_eq_false_iff, decide_eq_false_iff_not] at hb ⊢
 exact ⟨hb.1, trivial⟩
theorem M3.push1 {B g : Nat} {r1 r2 r3 : Option Nat} {w w' : World} (h : w.grownBy w' r1) (hat : r1 = some g ∨ w.heap.size ≤ g) : Ext (M3 B r1 r2 r3 w) (M3 B (some g) r2 r3 w') := Ext.of_mask fun b hb hlt => by
 simp only [Bool.or_eq_false_iff, decide_eq_false_iff_not] at hb ⊢
 obtain ⟨h0, h1, h2, h3⟩ := hb
 refine ⟨⟨h0, ?_, h2, h3⟩, h.block b hlt h1⟩
 rcases hat with rfl | hat
 ·exact h1
 ·intro e; injection e with e; omega
theorem M3.push2 {B g : Nat} {r1 r2 r3 : Option Nat} {w w' : World} (h : w.grownBy w' r2) (hat : r2 = some g ∨ w.heap.size ≤ g) : Ext (M3 B r1 r2 r3 w) (M3 B r1 (some g) r3 w') := Ext.of_mask fun b hb hlt => by
 simp only [Bool.or_eq_false_iff, decide_eq_false_iff_not] at hb ⊢
 obtain ⟨h0, h1, h2, h3⟩ := hb
 refine ⟨⟨h0, h1, ?_, h3⟩, h.block b hlt h2⟩
 rcases hat with rfl | hat
 ·exact h2
 ·intro e; injection e with e; omega
theorem M3.push3 {B g : Nat} {r1 r2 r3 : Option Nat} {w w' : World} (h : w.grownBy w' r3) (hat : r3 = some g ∨ w.heap.size ≤ g) : Ext (M3 B r1 r2 r3 w) (M3 B r1 r2 (some g) w') := Ext.of_mask fun b hb hlt => by
 simp only [Bool.or_eq_false_iff, decide_eq_false_iff_not] at hb ⊢
 obtain ⟨h0, h1, h2, h3⟩ := hb
 refine ⟨⟨h0, h1, h2, ?_⟩, h.block b hlt h3⟩
 rcases hat with rfl | hat
 ·exact h3
 ·intro e; injection e with e; omega
/-- A row of one's own, its items' parts in a world of their own. -/
def Kd.Row {α : Type} (K : Kd α) (B : Nat) (xs : List α) (v : Value) (wm w : World) : Prop := ∃ ys : List α, ys.map K.er = xs ∧ w.ownsRow B K.T K.size v xs.length (ys.flatMap K.cells) ∧ ∀ y ∈ ys, K.R wm y
theorem Kd.Row.lt {α : Type} {K : Kd α} {B : Nat} {xs : List α} {v : Value} {wm w : World} (h : K.Row B xs v wm w) : ∀ q, v.ownBlock = some q → B ≤ q ∧ q < w.heap.size := by obtain ⟨ys, _, h, _⟩ := h; exact fun q hq => h.lt q hq
theorem Kd.Row.shape {α : Type} {K : Kd α} {B : Nat} {xs : List α} {v : Value} {wm w : World} (h : K.Row B xs v wm w) : ∃ a c, v = .slice a xs.length c := by obtain ⟨ys, _, h, _⟩ := h; exact own_shape h
theorem Kd.Row.to {α : Type} {K : Kd α} {B : Nat} {xs : List α} {v : Value} {wm w wm' w' : World} (h : K.Row B xs v wm w) (hx : Ext wm wm') {r : Option Nat} (hg : w.grownBy w' r) (hr : ∀ q, v.ownBlock = some q → r ≠ some q) : K.Row B xs v wm' w' := by
 obtain ⟨ys, h1, h2, h3⟩ := h
 refine ⟨ys, h1, h2.kept hg ?_, fun y hy => K.ext y hx (h3 y hy)⟩
 cases hv : v.ownBlock with
 | none => exact .inl rfl
 | some q => right; intro e; exact hr q hv e.symm
theorem Kd.Row.add {α : Type} {K : Kd α} {B g cap : Nat} {xs ys : List α} {y : α} {wm' w' : World} (h1 : ys.map K.er = xs) (h3 : ∀ y ∈ ys, K.R wm' y) (hy : K.R wm' y)
  (ho : w'.ownsRow B K.T K.size (.slice (some ⟨g, 0, none⟩) (xs.length + 1) cap) (xs.length + 1) (ys.flatMap K.cells ++ K.cells y)) : K.Row B (xs ++ [K.er y]) (.slice (some ⟨g, 0, none⟩) (xs.length + 1) cap) wm' w' := by
 refine ⟨ys ++ [y], by rw [List.map_append, h1]; rfl, by rw [List.flatMap_append, List.flatMap_singleton, List.length_append, List.length_singleton]; exact ho, fun z hz => ?_⟩
 rcases List.mem_append.1 hz with hz | hz
 ·exact h3 z hz
 ·rw [List.mem_singleton.1 hz]; exact hy
theorem Kd.Row.fin {α : Type} {K : Kd α} {B : Nat} {xs : List α} {v : Value} {wm w : World} (hl : xs.length * K.bytes ≤ 140737488351232) (hx : Ext wm (YtdlchhimkelinaaGreatDoor.fresh B w)) (h : K.Row B xs v wm w) :
  ∃ s : Sl α, v = .slice s.p s.l.length s.cap ∧ s.l.map K.er = xs ∧ K.Ly (YtdlchhimkelinaaGreatDoor.fresh B w) s.p s.l := by
 obtain ⟨ys, h1, h2, h3⟩ := h
 subst h1
 rw [List.length_map] at h2 hl
 obtain ⟨p, c, rfl, hp⟩ := own_lies K.len h2
 refine ⟨⟨p, c, ys⟩, rfl, rfl, hl, ?_⟩
 rcases hp with hp | ⟨b, o, rfl, hB, _, hk⟩
 ·exact .inl hp
 ·exact .inr ⟨b, o, rfl, fun k x hj => ⟨hk k x hj, K.ext x hx (h3 x (List.mem_of_getElem? hj))⟩⟩
/-- At a step of a region that draws: an item goes to the end of a row; what is known is told raw. -/
theorem Kd.step_pushR {α : Type} (K : Kd α) {P : Program} {ops : Array Oper} {o : Oper} {a : Act} {w : World} {R : Act → World → Prop} {Q : Exit → Act → World → Prop} {E : Prop} (hgd : o.guard = none) (t : TypeId) (i : TypeInfo) (z : Value) (hI : K.Inf P t i z) (s x : Operand)
  (ho : o.op = .call { callee := .builtin .append, args := #[s, x], argTypes := #[t, t] })
  (B n : Nat) (cs : List Value) (v : Value) (hs : a.eval s = v) (h2 : w.ownsRow B K.T K.size v n cs) (hB : B ≤ w.heap.size) (y : α) (hx : a.eval x = .slice (some ⟨w.heap.size, 0, none⟩) 1 1)
  (h63 : n + 1 ≤ maxLen) (hb : (n + 1) * K.bytes ≤ 140737488355328)
  (h : ∀ g cap w', w'.ownsRow B K.T K.size (.slice (some ⟨g, 0, none⟩) (n + 1) cap) (n + 1) (cs ++ K.cells y) → w.grownBy w' v.ownBlock → (v.ownBlock = some g ∨ w.heap.size ≤ g) → R (a.put o.dst (.slice (some ⟨g, 0, none⟩) (n + 1) cap)) w') :
  if Region.wanted o (yielded ops a.tmps) = true then Oper.wp P o a (w.alloc (.cells (K.cells y).toArray K.T)) R Q else E := by
 have hw : Region.wanted o (yielded ops a.tmps) = true := by simp [Region.wanted, hgd]
 rw [if_pos hw]
 have hm : Below w.heap.size w (w.alloc (.cells (K.cells y).toArray K.T)) := (Below.refl _ _).alloc (Nat.le_refl _) _
 refine wp_append_lies _ s x t ho B K.T i z K.size K.bytes hI.und hI.info hI.zero hI.size hI.bytes hI.cells hI.pos v n _ hs (h2.alloc _) ⟨w.heap.size, 0, none⟩ 1 1 (K.cells y) hx (by rw [K.len, Nat.one_mul]) ?_ (one_of (K.one y)) (by decide) h63 hb (Nat.le_trans hB hm.size) _ rfl ?_
 ·have := World.news_of_block (heap_alloc_new w (.cells (K.cells y).toArray K.T))
  simpa using this
 ·intro g cap w' ho2 hg2 hat hlt
  exact h g cap w' ho2 (below_grown hm hg2) (hat.imp id (fun e => by rw [e]; simp))
/-- Three rows of one's own: structs, globals, procedures. -/
structure P3 (B : Nat) (w : World) (v1 v2 v3 : Value) (ss : List Sr) (gs : List Dc) (ps : List Pc) : Prop where
 a : kSr.Row B ss v1 (M3 B v1.ownBlock v2.ownBlock v3.ownBlock w) w
 b : kDc.Row B gs v2 (M3 B v1.ownBlock v2.ownBlock v3.ownBlock w) w
 c : kPc.Row B ps v3 (M3 B v1.ownBlock v2.ownBlock v3.ownBlock w) w
 d12 : ∀ q, v1.ownBlock = some q → v2.ownBlock ≠ some q
 d13 : ∀ q, v1.ownBlock = some q → v3.ownBlock ≠ some q
 d23 : ∀ q, v2.ownBlock = some q → v3.ownBlock ≠ some q
section
variable {B : Nat} {w w' : World} {v1 v2 v3 : Value} {ss : List Sr} {gs : List Dc} {ps : List Pc}
theorem P3.par {g : Nat} (h : P3 B w v1 v2 v3 ss gs ps) (hg : w.grownBy w' (some g)) (hB : g < B) : P3 B w' v1 v2 v3 ss gs ps :=
 ⟨h.a.to (M3.par hg hB) hg (fun q hq e => by have := (h.a.lt q hq).1; injection e with e; omega), h.b.to (M3.par hg hB) hg (fun q hq e => by have := (h.b.lt q hq).1; injection e with e; omega), h.c.to (M3.par hg hB) hg (fun q hq e => by have := (h.c.lt q hq).1; injection e with e; omega), h.d12, h.d13, h.d23⟩
theorem P3.below (h : P3 B w v1 v2 v3 ss gs ps) (hb : Below w.heap.size w w') : P3 B w' v1 v2 v3 ss gs ps :=
 ⟨h.a.to (M3.below hb) (grownBy_of hb none) (fun _ _ e => by cases e), h.b.to (M3.below hb) (grownBy_of hb none) (fun _ _ e => by cases e), h.c.to (M3.below hb) (grownBy_of hb none) (fun _ _ e => by cases e), h.d12, h.d13, h.d23⟩
theorem P3.nil (B : Nat) (w : World) : P3 B w (.slice none 0 0) (.slice none 0 0) (.slice none 0 0) [] [] [] :=
 ⟨⟨[], rfl, World.ownsRow_nil _ _ _ _, by simp⟩, ⟨[], rfl, World.ownsRow_nil _ _ _ _, by simp⟩, ⟨[], rfl, World.ownsRow_nil _ _ _ _, by simp⟩, (fun _ h => by cases h), (fun _ h => by cases h), (fun _ h => by cases h)⟩
theorem P3.fresh (h : P3 B w v1 v2 v3 ss gs ps) {B' : Nat} (hB : w.heap.size ≤ B') : Ext (YtdlchhimkelinaaGreatDoor.fresh B' w') (M3 B v1.ownBlock v2.ownBlock v3.ownBlock w') ∨ B' < B := by
 by_cases hl : B' < B
 ·exact .inr hl
 ·exact .inl (M3.of_fresh (by omega) (fun q hq => by have := (h.a.lt q hq).2; omega) (fun q hq => by have := (h.b.lt q hq).2; omega) (fun q hq => by have := (h.c.lt q hq).2; omega))
theorem P3.push1 {g cap : Nat} {y : Sr} {ys : List Sr} (h : P3 B w v1 v2 v3 ss gs ps) (h1 : ys.map Sr.er = ss) (h3 : ∀ y ∈ ys, kSr.R (M3 B v1.ownBlock v2.ownBlock v3.ownBlock w) y) (hy : kSr.R (M3 B v1.ownBlock v2.ownBlock v3.ownBlock w) y)
  (ho : w'.ownsRow B 37 3 (.slice (some ⟨g, 0, none⟩) (ss.length + 1) cap) (ss.length + 1) (ys.flatMap Sr.cells ++ y.cells)) (hg : w.grownBy w' v1.ownBlock) (hat : v1.ownBlock = some g ∨ w.heap.size ≤ g) : P3 B w' (.slice (some ⟨g, 0, none⟩) (ss.length + 1) cap) v2 v3 (ss ++ [y.er]) gs ps := by
 have hx : Ext (M3 B v1.ownBlock v2.ownBlock v3.ownBlock w) (M3 B (some g) v2.ownBlock v3.ownBlock w') := M3.push1 hg hat
 refine ⟨Kd.Row.add (K := kSr) h1 (fun z hz => kSr.ext z hx (h3 z hz)) (kSr.ext y hx hy) ho, h.b.to hx hg (fun q hq e => h.d12 q e hq), h.c.to hx hg (fun q hq e => h.d13 q e hq), ?_, ?_, h.d23⟩
 ·intro q hq e
  injection hq with hq; subst hq
  rcases hat with hat | hat
  ·exact h.d12 _ hat e
  ·have := (h.b.lt _ e).2; simp only at this; omega
 ·intro q hq e
  injection hq with hq; subst hq
  rcases hat with hat | hat
  ·exact h.d13 _ hat e
  ·have := (h.c.lt _ e).2; simp only at this; omega
theorem P3.push2 {g cap : Nat} {y : Dc} {ys : List Dc} (h : P3 B w v1 v2 v3 ss gs ps) (h1 : ys.map Dc.er = gs) (h3 : ∀ y ∈ ys, kDc.R (M3 B v1.ownBlock v2.ownBlock v3.ownBlock w) y) (hy : kDc.R (M3 B v1.ownBlock v2.ownBlock v3.ownBlock w) y)
  (ho : w'.ownsRow B 77 3 (.slice (some ⟨g, 0, none⟩) (gs.length + 1) cap) (gs.length + 1) (ys.flatMap Dc.cells ++ y.cells)) (hg : w.grownBy w' v2.ownBlock) (hat : v2.ownBlock = some g ∨ w.heap.size ≤ g) : P3 B w' v1 (.slice (some ⟨g, 0, none⟩) (gs.length + 1) cap) v3 ss (gs ++ [y.er]) ps := by
 have hx : Ext (M3 B v1.ownBlock v2.ownBlock v3.ownBlock w) (M3 B v1.ownBlock (some g) v3.ownBlock w') := M3.push2 hg hat
 refine ⟨h.a.to hx hg (fun q hq e => h.d12 q hq e), Kd.Row.add (K := kDc) h1 (fun z hz => kDc.ext z hx (h3 z hz)) (kDc.ext y hx hy) ho, h.c.to hx hg (fun q hq e => h.d23 q e hq), ?_, h.d13, ?_⟩
 ·intro q hq e
  injection e with e; subst e
  rcases hat with hat | hat
  ·exact h.d12 _ hq hat
  ·have := (h.a.lt _ hq).2; simp only at this; omega
 ·intro q hq e
  injection hq with hq; subst hq
  rcases hat with hat | hat
  ·exact h.d23 _ hat e
  ·have := (h.c.lt _ e).2; simp only at this; omega
theorem P3.push3 {g cap : Nat} {y : Pc} {ys : List Pc} (h : P3 B w v1 v2 v3 ss gs ps) (h1 : ys.map Pc.er = ps) (h3 : ∀ y ∈ ys, kPc.R (M3 B v1.ownBlock v2.ownBlock v3.ownBlock w) y) (hy : kPc.R (M3 B v1.ownBlock v2.ownBlock v3.ownBlock w) y)
  (ho : w'.ownsRow B 40 6 (.slice (some ⟨g, 0, none⟩) (ps.length + 1) cap) (ps.length + 1) (ys.flatMap Pc.cells ++ y.cells)) (hg : w.grownBy w' v3.ownBlock) (hat : v3.ownBlock = some g ∨ w.heap.size ≤ g) : P3 B w' v1 v2 (.slice (some ⟨g, 0, none⟩) (ps.length + 1) cap) ss gs (ps ++ [y.er]) := by
 have hx : Ext (M3 B v1.ownBlock v2.ownBlock v3.ownBlock w) (M3 B v1.ownBlock v2.ownBlock (some g) w') := M3.push3 hg hat
 refine ⟨h.a.to hx hg (fun q hq e => h.d13 q hq e), h.b.to hx hg (fun q hq e => h.d23 q hq e), Kd.Row.add (K := kPc) h1 (fun z hz => kPc.ext z hx (h3 z hz)) (kPc.ext y hx hy) ho, h.d12, ?_, ?_⟩
 ·intro q hq e
  injection e with e; subst e
  rcases hat with hat | hat
  ·exact h.d13 _ hq hat
  ·have := (h.a.lt _ hq).2; simp only at this; omega
 ·intro q hq e
  injection e with e; subst e
  rcases hat with hat | hat
  ·exact h.d23 _ hq hat
  ·have := (h.b.lt _ hq).2; simp only at this; omega
end
theorem size33 : (Tryz.prog.info? 26).map (·.size) = some 3 := by kernel_rfl
end Go.Proofs.YtdlchhimkelinaaGreatDoor
namespace Go.Proofs.YtdlchhimkelinaaGreatDoor
open Go.RowKit Go.Sort
attribute [local go_sem] field79_0 field79_1 field79_2 field79_3
section
variable {pb sb cap : Nat} {l : List Tx.Sg}
end
end Go.Proofs.YtdlchhimkelinaaGreatDoor
namespace Go.Proofs.YtdlchhimkelinaaGreatDoor
open Go.RowKit Go.Sort
theorem asserts (p n : Int) (w : World) : (Instr.typeAssert (.iface 120 (.agg #[.int .i64 p, .int .i64 n])) 20 120 true).run Tryz.prog w = .ok (.tuple #[.agg #[.int .i64 p, .int .i64 n], .bool true]) w := by
 simp [Instr.typeAssert, go_sem]
theorem asserts_nil (w : World) : (Instr.typeAssert .nilIface 20 120 true).run Tryz.prog w = .ok (.tuple #[.agg #[.int .i64 0, .int .i64 0], .bool false]) w := by
 simp [Instr.typeAssert, go_sem]
theorem Gr2.drew {w w' : World} {a b : Nat} (h : Gr2 w w' a b) : Gr2 w w'.drew a b := ⟨h.os, h.tape, h.output, h.size, h.block⟩
attribute [local go_sem ↓] asserts asserts_nil
end Go.Proofs.YtdlchhimkelinaaGreatDoor
namespace Go.Proofs.YtdlchhimkelinaaGreatDoor
open Go.RowKit Go.Sort
attribute [local go_sem] field79_0 field79_1 field79_2 field79_3
theorem below_par {w0 w w' : World} {g : Nat} (h : Below w0.heap.size w0 w) (hg : w.grownBy w' (some g)) (hB : w0.heap.size ≤ g) : Below w0.heap.size w0 w' :=
 ⟨hg.os.trans h.os, hg.tape.trans h.tape, hg.output.trans h.output, Nat.le_trans h.size hg.size, fun i hi => (hg.block i (Nat.lt_of_lt_of_le hi h.size) (by intro e; injection e with e; omega)).trans (h.block i hi)⟩
end Go.Proofs.YtdlchhimkelinaaGreatDoor
namespace Go.Proofs.YtdlchhimkelinaaGreatDoor
open Go.RowKit Go.Sort
attribute [local go_sem] field79_0 field79_1 field79_2 field79_3
end Go.Proofs.YtdlchhimkelinaaGreatDoor
namespace Go.Proofs.YtdlchhimkelinaaGreatDoor
open Go.RowKit Go.Sort
end Go.Proofs.YtdlchhimkelinaaGreatDoor
namespace Go.Proofs.YtdlchhimkelinaaGreatDoor
open Go.RowKit Go.Sort
end Go.Proofs.YtdlchhimkelinaaGreatDoor
namespace Go.Proofs.YtdlchhimkelinaaGreatDoor
open Go.RowKit Go.Sort
theorem range_blockS {w : World} {b : Nat} {cs : List Value} {t : TypeId} {fr : Nat × Nat} (hb : w.heap[b]? = some (.cells cs.toArray t fr)) : w.rangeAt b 0 cs := fun j v hv => by
 rw [cell_of_row w b (0 + j) _ t fr hb]; simpa using hv
end Go.Proofs.YtdlchhimkelinaaGreatDoor
namespace Go.Proofs.YtdlchhimkelinaaGreatDoor
open Go.RowKit Go.Sort
/-- What a type's row of the table holds. -/
theorem infoParts {e : TypeId} {n : Nat} (h : (Tryz.prog.info? e).map (fun i => (i.zero.isSome, i.size)) = some (true, n)) : ∃ ie z, Tryz.prog.info? e = some ie ∧ ie.zero = some z ∧ ie.size = n := by
 cases hi : Tryz.prog.info? e with
 | none => rw [hi] at h; simp at h
 | some ie =>
  rw [hi] at h
  simp only [Option.map_some, Option.some.injEq, Prod.mk.injEq] at h
  obtain ⟨z, hz⟩ := Option.isSome_iff_exists.1 h.1
  exact ⟨ie, z, rfl, hz, h.2⟩
theorem info54 : (Tryz.prog.info? 54).map (fun i => (i.zero.isSome, i.size)) = some (true, 48) := by kernel_rfl
theorem info40 : (Tryz.prog.info? 40).map (fun i => (i.zero.isSome, i.size)) = some (true, 6) := by kernel_rfl
/-- A struct's zero value. -/
theorem wpList_zero {P : Program} {ops : Array Oper} {rest : List Oper} {o : Oper} {a : Act} {w : World} {Q : Exit → Act → World → Prop} (hg : o.guard = none) (t : TypeId) (ho : o.op = .build t #[])
  (d : Option Tmp) (hd : o.dst = d) (cells : Array Value) (hf : P.built t [] = some cells)
  (h : wpList P ops Q rest (a.put d (.agg cells)) w) : wpList P ops Q (o :: rest) a w :=
 wpList_buildTo hg t #[] ho d hd cells (by simpa using hf) h
/-- The statement that is nothing. -/
def zIt : It := ⟨Pr.noHd, none, 0, .nil, none, 0, .nil⟩
def It.one (x : It) : SL := .cons x.h x.tp x.tc x.t x.ep x.ec x.e .nil
theorem zIt_built : Tryz.prog.built 54 [] = some zIt.cells.toArray := by kernel_rfl
theorem no_lies {α : Type} (w : World) (n b : Nat) (f : α → List Value) (R : α → Prop) : slLies w n b f R ⟨none, 0, []⟩ := ⟨by simp, .inl rfl⟩
theorem zIt_lies (w : World) : itLies w zIt := ⟨⟨no_lies .., no_lies .., no_lies .., no_lies .., no_lies .., by decide⟩, ⟨by decide, .inl rfl⟩, ⟨by decide, .inl rfl⟩⟩
theorem one_lies {w : World} {x : It} {b : Nat} (h : itLies w x) (hb : w.heap[b]? = some (.cells x.cells.toArray 54 (0, 0))) : sLies w (some ⟨b, 0, none⟩) x.one :=
 ⟨by show (0 + 1) * 608 ≤ _; decide, .inr ⟨b, 0, rfl, range_blockS hb, h.1, h.2.1, h.2.2, trivial⟩⟩
theorem isNothing_any (x : It) (cs : Array Value) (hcs : cs = x.cells.toArray) (w : World) (hx : itLies w x) :
  Calls Tryz.prog 116 #[.agg cs] w fun e w' => e = .returned (.bool (sameSL zIt.one x.one)) ∧ Below w.heap.size w w' := by
 obtain ⟨zs, hzs⟩ : ∃ zs, zs = zIt.cells.toArray := ⟨_, rfl⟩
 obtain ⟨i1, z1, q1, q2, q3⟩ := infoParts info54
 have HZB : Hid (Tryz.prog.built 54 [] = some zs) := hdn (by rw [hzs]; exact zIt_built)
 have HSZ : Hid (48 = cs.size) := hdn (by rw [hcs]; rfl)
 have HSI : Hid ((Tryz.prog.info? 54).map (·.size) = some cs.size) := hdn (by rw [hcs]; exact size57)
 have HZZ : Hid (48 = zs.size) := hdn (by rw [hzs]; rfl)
 have HI := hdn q1; have HI2 := hdn q2; have HI3 := hdn q3
 obtain ⟨wA, hwA⟩ : ∃ wA : World, wA = w.alloc (.cells cs 54) := ⟨_, rfl⟩
 have HBA : Hid (Below w.heap.size w wA) := hdn (by rw [hwA]; exact (Below.refl _ _).alloc (Nat.le_refl _) _)
 have HK : Hid (Bk wA w.heap.size 54 cs) := hdn (by rw [hwA]; exact heap_alloc_new _ _)
 obtain ⟨w1, hw1⟩ : ∃ w1 : World, w1 = wA.alloc (.cells zs 54) := ⟨_, rfl⟩
 have HB1 : Hid (Below wA.heap.size wA w1) := hdn (by rw [hw1]; exact (Below.refl _ _).alloc (Nat.le_refl _) _)
 have HK1 : Hid (Bk w1 wA.heap.size 54 zs) := hdn (by rw [hw1]; exact heap_alloc_new _ _)
 have HKA : Hid (Bk w1 w.heap.size 54 cs) := hdn (HK.out.below HB1.out HK.out.lt)
 obtain ⟨w2, hw2⟩ : ∃ w2 : World, w2 = w1.alloc (.cells cs 54) := ⟨_, rfl⟩
 have HB2 : Hid (Below w1.heap.size w1 w2) := hdn (by rw [hw2]; exact (Below.refl _ _).alloc (Nat.le_refl _) _)
 have HK2 : Hid (Bk w2 w1.heap.size 54 cs) := hdn (by rw [hw2]; exact heap_alloc_new _ _)
 have HBB : Hid (Below w.heap.size w w2) := hdn ((HBA.out.trans (HB1.out.mono HBA.out.size)).trans (HB2.out.mono (Nat.le_trans HBA.out.size HB1.out.size)))
 have CS : Calls Tryz.prog 150 #[.slice (some ⟨wA.heap.size, 0, none⟩) 1 1, .slice (some ⟨w1.heap.size, 0, none⟩) 1 1] w2 fun en w' => en = .returned (.bool (sameSL zIt.one x.one)) ∧ Below w2.heap.size w2 w' :=
  sameList_any zIt.one x.one (some ⟨wA.heap.size, 0, none⟩) 1 (some ⟨w1.heap.size, 0, none⟩) 1 w2 (one_lies (zIt_lies _) (by have := HK1.out.below HB2.out HK1.out.lt; rw [hzs] at this; exact this)) (one_lies (itLies_below hx HBB.out) (by have := HK2.out; rw [hcs] at this; exact this))
 have HCS := hdn CS
 generalize sameSL zIt.one x.one = bo at *
 have HW1 := hdn hw1; have HW2 := hdn hw2
 clear CS hx hcs hzs q1 q2 q3 hw1 hw2
 go_enter Tryz.func116, Tryz.ntmps116
 go_upto_region 1 with fail
 rw [← hwA]
 clear hwA
 obtain ⟨A, hA⟩ : ∃ A, A = w.heap.size := ⟨_, rfl⟩
 rw [← hA] at HK HKA ⊢
 clear hA
 go_wp2_with (first | ((with_reducible show wpList _ _ _ (Oper.mk (some 3) _ _ _ _ _ :: _) _ _); refine wpList_zero rfl 54 rfl (some 3) rfl zs HZB.out ?_) | ((with_reducible show wpList _ _ _ (Oper.mk (some 4) _ _ _ _ _ :: _) _ _); refine wpList_one rfl 38 54 (.tmp 3) rfl zs rfl Tryz.underlying38 i1 z1 48 HI.out HI2.out HI3.out (by omega) (by omega) HZZ.out ?_; rw [← HW1.out]) | ((with_reducible show wpList _ _ _ (Oper.mk (some 5) _ _ _ _ _ :: _) _ _); refine wpList_load_bk rfl 54 (.tmp 1) rfl A 54 cs rfl _ HKA.out Tryz.underlying54 rfl HSI.out ?_) | ((with_reducible show wpList _ _ _ (Oper.mk (some 6) _ _ _ _ _ :: _) _ _); refine wpList_one rfl 38 54 (.tmp 5) rfl cs rfl Tryz.underlying38 i1 z1 48 HI.out HI2.out HI3.out (by omega) (by omega) HSZ.out ?_; rw [← HW2.out]) | (go_at_call 150; refine HCS.out.mono ?_; rintro en w3 ⟨rfl, hb⟩; have HB3 := hdn (HBB.out.trans (hb.mono HBB.out.size)); clear hb))
 go_ret
 exact ⟨rfl, HB3.out⟩
end Go.Proofs.YtdlchhimkelinaaGreatDoor
namespace Go.Proofs.YtdlchhimkelinaaGreatDoor
open Go.RowKit Go.Sort
/-- A Set without its Kind and what that has. -/
def It.bare1 (x : It) : It := { x with h := { x.h with kind := 0, place := Pr.noPth, value := Pr.noVl } }
theorem zPth_built : Tryz.prog.built 45 [] = some (Pth.cells Pr.noPth).toArray := by kernel_rfl
theorem zVl_built : Tryz.prog.built 49 [] = some (Vl.cells Pr.noVl).toArray := by kernel_rfl
theorem size45p : (Tryz.prog.info? 45).map (·.size) = some (Pth.cells Pr.noPth).toArray.size := by kernel_rfl
theorem size49v : (Tryz.prog.info? 49).map (·.size) = some (Vl.cells Pr.noVl).toArray.size := by kernel_rfl
theorem zVl_one : (Vl.cells Pr.noVl).toArray.all (·.oneCell') = true := by simp [Vl.cells, Value.oneCell']
theorem zPth_one : (Pth.cells Pr.noPth).toArray.all (·.oneCell') = true := by simp [Pth.cells, Value.oneCell']
theorem below_by {w0 w w' : World} {g : Nat} (h : Below w0.heap.size w0 w) (hg : w.grownBy w' (some g)) (hB : w0.heap.size ≤ g) : Below w0.heap.size w0 w' := below_par h hg hB
theorem Bk.setArr {w : World} {g : Nat} {t : TypeId} {l : List Value} (h : Bk w g t l.toArray) (i : Nat) (u : Value) : Bk (w.setCell ⟨g, i, none⟩ u) g t (l.set i u).toArray := by
 have := h.set_ i u
 simpa using this
theorem besides1 (x : It) (cs : Array Value) (hcs : cs = x.cells.toArray) (w : World) (k : x.h.kind = 1) :
  Calls Tryz.prog 117 #[.agg cs] w fun e w' => e = .returned (.agg x.bare1.cells.toArray) ∧ Below w.heap.size w w' := by
 obtain ⟨wA, hwA⟩ : ∃ wA : World, wA = (w.alloc (.cells cs 54)).alloc (.cells zIt.cells.toArray 54) := ⟨_, rfl⟩
 have HBA : Hid (Below w.heap.size w wA) := hdn (by rw [hwA]; exact ((Below.refl _ _).alloc (Nat.le_refl _) _).alloc (by simp) _)
 have HK : Hid (Bk wA w.heap.size 54 x.cells.toArray) := hdn (by rw [hwA, ← hcs]; exact heap_alloc2_old _ _ _)
 have HKR : Hid (Bk wA (w.heap.size + 1) 54 zIt.cells.toArray) := hdn (by rw [hwA]; exact heap_alloc2_new _ _ _)
 have Z_k := hdn k
 clear k hcs
 go_enter Tryz.func117, Tryz.ntmps117
 go_upto_region 1 with fail
 change Code.wp _ _ _ _ ((w.alloc (.cells cs 54)).alloc (.cells zIt.cells.toArray 54))
 rw [← hwA]
 clear hwA
 obtain ⟨A, hA⟩ : ∃ A, A = w.heap.size := ⟨_, rfl⟩
 rw [← hA] at HK HKR HBA ⊢
 have HA := hdn hA
 clear hA
 have c0 : wA.cell? ⟨A, 0, none⟩ = some (.int .i64 x.h.kind) := HK.out.cell 0
 rw [Z_k.out] at c0
 go_upto_region 16 with (first | ((with_reducible show wpList _ _ _ (Oper.mk (some 7) _ _ _ _ _ :: _) _ _); refine wpList_zero rfl 45 rfl (some 7) rfl _ zPth_built ?_) | ((with_reducible show wpList _ _ _ (Oper.mk (some 8) _ _ _ _ _ :: _) _ _); refine wpList_zero rfl 49 rfl (some 8) rfl _ zVl_built ?_) | ((with_reducible show wpList _ _ _ (Oper.mk none (Op.store 45 _ _) _ _ _ _ :: _) _ _); refine wpList_store_part rfl 45 (.tmp 9) (.tmp 7) rfl A 2 54 x.cells (Pth.cells Pr.noPth) rfl rfl HK.out size45p (by show 2 + 3 ≤ 48; decide) zPth_one ?_; intro w1 hk1 hg1; have HK1 := hdn hk1; have HG1 := hdn hg1; clear hk1 hg1 c0) | ((with_reducible show wpList _ _ _ (Oper.mk none (Op.store 49 _ _) _ _ _ _ :: _) _ _); refine wpList_store_part rfl 49 (.tmp 10) (.tmp 8) rfl A 5 54 _ (Vl.cells Pr.noVl) rfl rfl HK1.out size49v (by show 5 + 12 ≤ 48; decide) zVl_one ?_; intro w2 hk2 hg2; have HK2 := hdn hk2; have HG2 := hdn hg2; clear hk2 hg2))
 have d0 : w2.cell? ⟨A, 0, none⟩ = some (.int .i64 x.h.kind) := HK2.out.cell 0
 have f0 := HK2.out.frozen 0
 have gS := grownBy_setC w2 ⟨A, 0, none⟩ (.int .i64 0)
 have HK3 : Hid (Bk (w2.setCell ⟨A, 0, none⟩ (.int .i64 0)) A 54 x.bare1.cells.toArray) := hdn (HK2.out.setArr 0 (.int .i64 0))
 have HR3 := hdn (((HKR.out.kept HG1.out (by omega)).kept HG2.out (by omega)).kept gS (by show A + 1 ≠ A; omega))
 have HB3 : Hid (Below w.heap.size w (w2.setCell ⟨A, 0, none⟩ (.int .i64 0))) := hdn (below_by (below_by (below_by (by rw [← HA.out]; exact HBA.out) HG1.out (by rw [HA.out]; exact Nat.le_refl _)) HG2.out (by rw [HA.out]; exact Nat.le_refl _)) gS (by rw [HA.out]; exact Nat.le_refl _))
 clear gS
 go_wp2_with (first | ((with_reducible show wpList _ _ _ (Oper.mk (some 37) _ _ _ _ _ :: _) _ _); refine wpList_load_bk rfl 54 (.tmp 1) rfl A 54 x.bare1.cells.toArray rfl _ HK3.out Tryz.underlying54 rfl size57 ?_) | ((with_reducible show wpList _ _ _ (Oper.mk none (Op.store 54 _ _) _ _ _ _ :: _) _ _); refine wpList_store_bk rfl 54 (.tmp 2) (.tmp 37) rfl (A + 1) 54 _ x.bare1.cells.toArray rfl rfl HR3.out size57 rfl (scells_one _ _ _ _ _ _ _) ?_; intro wZ hZ hF))
 exact bodyPost_ret (results_cell_row Tryz.results117 _ wZ (A + 1) 54 x.bare1.cells.toArray (0, 0) _ rfl hZ Tryz.underlying54 rfl size57) rfl ⟨rfl, below_by HB3.out hF (by rw [HA.out]; exact Nat.le_succ _)⟩
end Go.Proofs.YtdlchhimkelinaaGreatDoor
namespace Go.Proofs.YtdlchhimkelinaaGreatDoor
open Go.RowKit Go.Sort
end Go.Proofs.YtdlchhimkelinaaGreatDoor
namespace Go.Proofs.YtdlchhimkelinaaGreatDoor
open Go.RowKit Go.Sort
theorem e_txt {x : ByteArray} (h : Pn.txt x = []) : (x.toList == []) = true := by
 rw [Lib.toList_data, show x.data.toList = [] from h]; rfl
end Go.Proofs.YtdlchhimkelinaaGreatDoor
namespace Go.Proofs.YtdlchhimkelinaaGreatDoor
open Go.RowKit Go.Sort
end Go.Proofs.YtdlchhimkelinaaGreatDoor
namespace Go.Proofs.YtdlchhimkelinaaGreatDoor
open Go.RowKit Go.Sort
end Go.Proofs.YtdlchhimkelinaaGreatDoor
namespace Go.Proofs.YtdlchhimkelinaaGreatDoor
open Go.RowKit Go.Sort
/-- A struct's value out of the middle of a block, its cells as an array, where the operation has a guard. -/
theorem wpList_load_arr_g {P : Program} {ops : Array Oper} {rest : List Oper} {op : Oper} {a : Act} {w : World} {Q : Exit → Act → World → Prop} (ty : TypeId) (x : Operand) (hw : Region.wanted op (yielded ops a.tmps) = true) (ho : op.op = .load ty x)
  (b o : Nat) (hx : a.eval x = .pointer (some ⟨b, o, none⟩)) (cs : Array Value) (d : TypeDesc) (hc : w.rangeAt b o cs.toList)
  (hu : P.underlying ty = some d) (hd : d.isRow = true) (hi : (P.info? ty).map (·.size) = some cs.size)
  (h : wpList P ops Q rest (a.put op.dst (.agg cs)) w) : wpList P ops Q (op :: rest) a w :=
 wpList_step fun K hK => by rw [if_pos hw]; exact wp_load_mid ty x ho b o hx cs.toList d hc hu hd (by simpa using hi) (hK _ _ (by simpa using h))
end Go.Proofs.YtdlchhimkelinaaGreatDoor
namespace Go.Proofs.YtdlchhimkelinaaGreatDoor
open Go.RowKit Go.Sort
/-- A struct literal of one part, where the operation has a guard. -/
theorem wpList_build1_g {P : Program} {ops : Array Oper} {rest : List Oper} {op : Oper} {a : Act} {w : World} {Q : Exit → Act → World → Prop} (t : TypeId) (i : Nat) (x : Operand) (v : Value) (hw : Region.wanted op (yielded ops a.tmps) = true) (ho : op.op = .build t #[(i, x)])
  (hx : a.eval x = v) (cells : Array Value) (hf : P.built t [(i, v)] = some cells)
  (h : wpList P ops Q rest (a.put op.dst (.agg cells)) w) : wpList P ops Q (op :: rest) a w :=
 wpList_step fun K hK => by
  rw [if_pos hw]
  unfold Oper.wp execOp
  have hr := run_build (P := P) w t #[(i, v)] cells (by simpa using hf)
  simp only [ho, Sem.run_bind, List.map_toArray, List.map_cons, List.map_nil, hx, hr, Result.andThen_ok]
  exact hK _ _ (by simpa using h)
theorem isPath_flat (n : ByteArray) (p : Option Addr) (c b o : Nat) (w : World) (hg : Gl w) (hn : Pn.okN n = true) (h0 : w.cell? ⟨b, o, none⟩ = some (.string n)) (h2 : w.cell? ⟨b, o + 2, none⟩ = some (.slice p 0 c)) :
  Calls Tryz.prog 151 #[.pointer (some ⟨b, o, none⟩)] w fun e w' => e = .returned (.bool true) ∧ w = w' := by
 obtain ⟨hs, hb⟩ := Pn.okN_nameB hn
 have CN := isNameLex_any n w (by omega) hg
 rw [hb] at CN
 clear hn hb hg
 go_enter Tryz.func151, Tryz.ntmps151
 go_wp2_with (first | (go_at_call 79; refine CN.mono ?_; rintro e w1 ⟨rfl, rfl⟩) | (go_at_call 173; refine (allHp_nil _ _ _ _).mono ?_; rintro e w2 ⟨rfl, rfl⟩))
 go_ret
 exact ⟨rfl, rfl⟩
theorem size49c : (Tryz.prog.info? 49).map (·.size) = some 12 := by kernel_rfl
theorem zIt_built3 : Tryz.prog.built 54 [(3, .agg (Vl.cells Pr.noVl).toArray)] = some zIt.cells.toArray := by kernel_rfl
theorem zIt_same : sameSL zIt.one zIt.one = true := sameSL_refl _
theorem isValue_zero (b o : Nat) (w : World) (hr : w.rangeAt b o (Vl.cells Pr.noVl)) :
  Calls Tryz.prog 152 #[.pointer (some ⟨b, o, none⟩)] w fun e w' => e = .returned (.bool true) ∧ Below w.heap.size w w' := by
 obtain ⟨vs, hvs⟩ : ∃ vs, vs = (Vl.cells Pr.noVl).toArray := ⟨_, rfl⟩
 have HR : Hid (w.rangeAt b o vs.toList) := hdn (by rw [hvs]; exact hr)
 have HSI : Hid ((Tryz.prog.info? 49).map (·.size) = some vs.size) := hdn (by rw [hvs]; exact size49c)
 have HZ : Hid (12 = vs.size) := hdn (by rw [hvs]; rfl)
 have HON : Hid (vs.all (·.oneCell') = true) := hdn (by rw [hvs]; exact zVl_one)
 have HBL : Hid (Tryz.prog.built 54 [(3, .agg vs)] = some zIt.cells.toArray) := hdn (by rw [hvs]; exact zIt_built3)
 obtain ⟨wA, hwA⟩ : ∃ wA : World, wA = w.alloc (.cells vs 49) := ⟨_, rfl⟩
 have HBA : Hid (Below w.heap.size w wA) := hdn (by rw [hwA]; exact (Below.refl _ _).alloc (Nat.le_refl _) _)
 have HK : Hid (Bk wA w.heap.size 49 vs) := hdn (by rw [hwA]; exact heap_alloc_new _ _)
 have HW := hdn hwA
 have HV := hdn hvs
 have c0 := cell_at hr 0 _ rfl
 clear hwA hr hvs
 go_enter Tryz.func152, Tryz.ntmps152
 go_upto_region 2 with (first | ((with_reducible show wpList _ _ _ (Oper.mk (some 7) _ _ _ _ _ :: _) _ _); refine wpList_load_arr rfl 49 (.tmp 6) rfl b o rfl vs _ HR.out Tryz.underlying49 rfl HSI.out ?_) | ((with_reducible show wpList _ _ _ (Oper.mk none (Op.store 49 _ _) _ _ _ _ :: _) _ _); refine wpList_store_new rfl 49 (.tmp 3) (.tmp 7) rfl _ vs rfl rfl HSI.out HZ.out HON.out ?_))
 rw [← HW.out]
 obtain ⟨A, hA⟩ : ∃ A, A = w.heap.size := ⟨_, rfl⟩
 rw [← hA] at HK HBA ⊢
 have HA := hdn hA
 clear hA
 have d0 : wA.cell? ⟨A, 0, none⟩ = some (.int .i64 0) := by have := HK.out; rw [HV.out] at this; exact this.cell 0
 have f0 := HK.out.frozen 0
 have gS := grownBy_setC wA ⟨A, 0, none⟩ (.int .i64 0)
 have HK2 : Hid (Bk (wA.setCell ⟨A, 0, none⟩ (.int .i64 0)) A 49 vs) := hdn (by
  have := HK.out
  rw [HV.out] at this ⊢
  exact this.setArr 0 (.int .i64 0))
 have HB2 : Hid (Below w.heap.size w (wA.setCell ⟨A, 0, none⟩ (.int .i64 0))) := hdn (below_by (by rw [← HA.out]; exact HBA.out) gS (by rw [HA.out]; exact Nat.le_refl _))
 have e0 : (wA.setCell ⟨A, 0, none⟩ (.int .i64 0)).cell? ⟨b, o, none⟩ = some (.int .i64 0) := by
  have hlt := World.block_lt_of_cell? w _ c0
  have h1 : Below w.heap.size w (wA.setCell ⟨A, 0, none⟩ (.int .i64 0)) := HB2.out
  exact (h1.cell (p := ⟨b, o, none⟩) hlt).trans c0
 clear gS c0
 go_upto_region 3 with fail
 clear d0 f0
 generalize wA.setCell ⟨A, 0, none⟩ (.int .i64 0) = w2 at HK2 HB2 e0 ⊢
 have HN := hdn (isNothing_any zIt zIt.cells.toArray rfl w2 (zIt_lies _))
 rw [zIt_same] at HN
 go_wp2_with (first | ((with_reducible show wpList _ _ _ (Oper.mk (some 61) _ _ _ _ _ :: _) _ _); refine wpList_load_arr_g 49 (.tmp 3) rfl rfl A 0 rfl vs _ HK2.out.range Tryz.underlying49 rfl HSI.out ?_) | ((with_reducible show wpList _ _ _ (Oper.mk (some 62) _ _ _ _ _ :: _) _ _); refine wpList_build1_g 54 3 (.tmp 61) (.agg vs) rfl rfl rfl _ HBL.out ?_) | (go_at_call 116; refine HN.out.mono ?_; rintro e w3 ⟨rfl, hb⟩; have HB3 := hdn (HB2.out.trans (hb.mono HB2.out.size)); clear hb))
 go_ret
 exact ⟨rfl, HB3.out⟩
end Go.Proofs.YtdlchhimkelinaaGreatDoor
namespace Go.Proofs.YtdlchhimkelinaaGreatDoor
namespace Pn
open Pr (th St Res)
def toTk (k : K) : Pr.Tk := ⟨k.1, ⟨k.2.1.toArray⟩, k.2.2⟩
/-- The signs from i on are just these. -/
def Rs (t : List Pr.Tk) (i : Nat) (ks : List K) : Prop := t.drop i = ks.map toTk
def hd : List K → List UInt8
 | [] => []
 | x :: _ => x.2.1
def kd : List K → Int
 | [] => 0
 | x :: _ => x.1
section
variable {t : List Pr.Tk}
theorem Rs.sg {i : Nat} {x : K} {r : List K} (h : Rs t i (x :: r)) : Pr.sg t i = toTk x ∧ Rs t (i + 1) r := by
 unfold Rs at h ⊢
 constructor
 ·unfold Pr.sg
  rw [List.getD_eq_getElem?_getD, ← List.head?_drop, h]; rfl
 ·rw [← List.drop_drop, h]; rfl
theorem Rs.sg_nil {i : Nat} (h : Rs t i []) : Pr.sg t i = ⟨0, ByteArray.empty, 0⟩ := by
 unfold Rs at h; unfold Pr.sg
 rw [List.getD_eq_getElem?_getD, ← List.head?_drop, h]; rfl
theorem Rs.is {i : Nat} {ks : List K} (h : Rs t i ks) (s : ByteArray) : Pr.is t i s = decide (hd ks = s.data.toList) := by
 unfold Pr.is
 rw [Lib.toList_data, Lib.toList_data]
 cases ks with
 | nil => rw [h.sg_nil]; exact Bool.beq_eq_decide_eq _ _
 | cons x r => rw [h.sg.1]; show ((x.2.1.toArray.toList == s.data.toList)) = _; exact Bool.beq_eq_decide_eq _ _
theorem Rs.is_yes {i : Nat} {ks : List K} (h : Rs t i ks) {s : ByteArray} (e : hd ks = s.data.toList) : Pr.is t i s = true := by rw [h.is]; exact decide_eq_true e
theorem Rs.is_no {i : Nat} {ks : List K} (h : Rs t i ks) {s : ByteArray} (e : hd ks ≠ s.data.toList) : Pr.is t i s = false := by rw [h.is]; exact decide_eq_false e
theorem Rs.kind {i : Nat} {ks : List K} (h : Rs t i ks) : (Pr.sg t i).kind = kd ks := by
 cases ks with
 | nil => rw [h.sg_nil]; rfl
 | cons x r => rw [h.sg.1]; rfl
/-- A part of the parser makes this, and is then where these signs are ahead. -/
def Bk (t : List Pr.Tk) {α : Type} (res : Res α) (a : α) (o b : Int) (r : List K) : Prop := ∃ i, res = .ok (a, ⟨i, o, b⟩) ∧ Rs t i r
theorem Bk.th {α β : Type} {res : Res α} {a : α} {o b o' b' : Int} {r q : List K} {f : α → St → Res β} {c : β} (h : Bk t res a o b r) (g : ∀ i, Rs t i r → Bk t (f a ⟨i, o, b⟩) c o' b' q) : Bk t (th res f) c o' b' q := by
 obtain ⟨i, rfl, hi⟩ := h
 exact g i hi
theorem Bk.ok {α : Type} {a : α} {i : Nat} {o b : Int} {r : List K} (h : Rs t i r) : Bk t (.ok (a, ⟨i, o, b⟩)) a o b r := ⟨i, rfl, h⟩
theorem must_bk {s : ByteArray} {i : Nat} {o b : Int} {x : K} {r : List K} (h : Rs t i (x :: r)) (e : x.2.1 = s.data.toList) : Bk t (Pr.must t s ⟨i, o, b⟩) (toTk x) o b r := by
 unfold Pr.must
 rw [if_pos (h.is_yes e), h.sg.1]
 exact ⟨i + 1, rfl, h.sg.2⟩
theorem name_bk {x : ByteArray} {i : Nat} {o b : Int} {r : List K} (h : Rs t i (nm x :: r)) : Bk t (Pr.name t ⟨i, o, b⟩) (toTk (nm x)) o b r := by
 unfold Pr.name
 have hk : (Pr.sg t i).kind = 1 := h.kind
 rw [if_pos hk, h.sg.1]
 exact ⟨i + 1, rfl, h.sg.2⟩
theorem nm_text (x : ByteArray) : (toTk (nm x)).text = x := by
 show (⟨(x.data.toList).toArray⟩ : ByteArray) = x
 rw [Array.toArray_toList]
theorem empty_of {x : ByteArray} (h : txt x = []) : x = ByteArray.empty := by
 have : x = ⟨(txt x).toArray⟩ := (nm_text x).symm
 rw [this, h]; rfl
theorem okN_ne {x : ByteArray} (h : okN x = true) {a : List UInt8} (ha : Tx.isKeyL a = true ∨ ∀ b l, a = b :: l → Tx.wrd (b.toNat : Int) = false) : txt x ≠ a := by
 intro e
 obtain ⟨⟨⟨b, l, hb, hl⟩, hw, _⟩, h2⟩ := okN_word h
 rcases ha with ha | ha
 ·rw [e, ha] at h2; cases h2
 ·have h3 := ha b l (e.symm.trans hb)
  rw [hw b (by rw [hb]; exact List.mem_cons_self)] at h3; cases h3
theorem notword {a : UInt8} (h : Tx.wrd (a.toNat : Int) = false) (l : List UInt8) : ∀ b m, a :: l = b :: m → Tx.wrd (b.toNat : Int) = false := fun b m e => by
 injection e with e _; rw [← e]; exact h
theorem digits_ne (n : Nat) {a : List UInt8} (ha : ∀ b ∈ a.head?, Tx.dgt (b.toNat : Int) = false) : Tx.digits n ≠ a := by
 intro e
 obtain ⟨h1, h2, _⟩ := Tx.digits_ok n
 cases hd : Tx.digits n with
 | nil => exact h1 hd
 | cons b l =>
  have h3 := ha b (by rw [← e, hd]; rfl)
  rw [h2 b (by rw [hd]; exact List.mem_cons_self)] at h3; cases h3
theorem hops_bk : ∀ (l : List Hp) (n : Nat) (acc : List Hp) (i : Nat) (o b : Int) (r : List K), l.length ≤ n → Rs t i (hopsK l ++ r) → hd r ≠ [45, 62] → Bk t (Pr.hops t n acc ⟨i, o, b⟩) (acc ++ l.map Hp.er) o b r
 | [], 0, acc, i, o, b, r, _, h, hr => by
  unfold Pr.hops
  rw [if_neg (by rw [Rs.is_no (ks := r) h hr]; decide), List.map_nil, List.append_nil]
  exact Bk.ok h
 | [], n + 1, acc, i, o, b, r, _, h, hr => by
  unfold Pr.hops
  rw [if_neg (by rw [Rs.is_no (ks := r) h hr]; decide), List.map_nil, List.append_nil]
  exact Bk.ok h
 | x :: l, 0, acc, i, o, b, r, hl, h, hr => by simp at hl
 | x :: l, n + 1, acc, i, o, b, r, hl, h, hr => by
  unfold Pr.hops
  have h1 : Rs t i (mk [45, 62] :: nm x.name :: (hopsK l ++ r)) := h
  rw [if_pos (h1.is_yes rfl)]
  refine (name_bk h1.sg.2).th fun j hj => ?_
  rw [nm_text]
  have := hops_bk l n (acc ++ [⟨x.name, 0⟩]) j o b r (by simpa using hl) hj hr
  rwa [List.append_assoc] at this
theorem path_bk {w : Pth} {i : Nat} {o b : Int} {r : List K} (ho : okPath w = true) (h : Rs t i (pathK w ++ r)) (hr : hd r ≠ [45, 62]) : Bk t (Pr.path t ⟨i, o, b⟩) w.er o b r := by
 unfold okPath at ho
 simp only [Bool.and_eq_true, decide_eq_true_eq] at ho
 unfold Pr.path
 refine (name_bk h).th fun j hj => ?_
 refine (hops_bk w.hops.l 8 [] j o b r ho.1.2 hj hr).th fun m hm => ?_
 rw [nm_text]
 exact Bk.ok hm
theorem term_bk {x : Tm} {i : Nat} {o b : Int} {r : List K} (ho : okTerm x = true) (h : Rs t i (termK x ++ r)) : Bk t (Pr.term t ⟨i, o, b⟩) x.er o b r := by
 unfold okTerm at ho; unfold termK at h; unfold Pr.term
 by_cases h0 : txt x.name = []
 ·rw [if_pos h0] at h
  have h1 : Rs t i (dg x.n :: r) := h
  have hk : (Pr.sg t i).kind = 2 := h1.kind
  rw [if_pos hk, h1.sg.1]
  refine ⟨i + 1, ?_, h1.sg.2⟩
  unfold Tm.er
  rw [empty_of h0]; rfl
 ·rw [if_neg h0] at h ho
  simp only [Bool.and_eq_true, decide_eq_true_eq] at ho
  have h1 : Rs t i (nm x.name :: r) := h
  rw [if_neg (by rw [h1.kind]; show ¬ (1 : Int) = 2; decide)]
  refine (name_bk h1).th fun j hj => ?_
  rw [nm_text]
  unfold Tm.er
  rw [ho.2]
  exact Bk.ok hj
theorem noP_er {w : Pth} (h : noP w = true) : w.er = Pr.noPth := by
 unfold noP at h
 simp only [Bool.and_eq_true, decide_eq_true_eq] at h
 unfold Pth.er Sl.er
 rw [empty_of h.1, h.2]; rfl
theorem noT_er {x : Tm} (h : noT x = true) : x.er = Pr.noTm := by
 unfold noT at h
 simp only [Bool.and_eq_true, decide_eq_true_eq] at h
 unfold Tm.er
 rw [empty_of h.1, h.2]; rfl
theorem noVal_er {v : Vl} (h : noVal v = true) : v.er = Pr.noVl := by
 unfold noVal okVal at h
 simp only [Bool.and_eq_true, decide_eq_true_eq] at h
 obtain ⟨h0, h⟩ := h
 rw [if_pos (.inl h0)] at h
 simp only [Bool.and_eq_true, decide_eq_true_eq] at h
 unfold Vl.er
 rw [h0, noP_er h.1.1.1, noT_er h.1.1.2, noT_er h.1.2, empty_of h.2]; rfl
theorem noCond_er {c : Cd} (h : noCond c = true) : c.er = Pr.noCd := by
 unfold noCond at h
 simp only [Bool.and_eq_true, decide_eq_true_eq] at h
 unfold Cd.er
 rw [h.1.1, noVal_er h.1.2, noVal_er h.2]; rfl
theorem side_bk {v : Vl} {i : Nat} {o b : Int} {r : List K} (ho : okSide v = true) (h : Rs t i (valK v ++ r)) (hr : hd r ≠ [45, 62]) : Bk t (Pr.side t ⟨i, o, b⟩) v.er o b r := by
 unfold okSide at ho
 simp only [Bool.and_eq_true, Bool.or_eq_true, decide_eq_true_eq] at ho
 obtain ⟨hv, hk⟩ := ho
 unfold Pr.side
 by_cases h0 : v.kind = 0
 ·have hn : noVal v = true := by unfold noVal; rw [hv, decide_eq_true h0]; rfl
  unfold valK at h
  rw [if_pos h0] at h
  have h1 : Rs t i (ky tNull :: r) := h
  rw [if_pos (h1.is_yes rfl), noVal_er hn]
  exact ⟨i + 1, rfl, h1.sg.2⟩
 by_cases h1 : v.kind = 1
 ·unfold okVal at hv
  rw [if_neg (by omega), if_pos h1] at hv
  simp only [Bool.and_eq_true, decide_eq_true_eq] at hv
  unfold valK at h
  rw [if_neg h0, if_pos h1] at h
  have hw := hv.2
  unfold okPath at hw
  simp only [Bool.and_eq_true] at hw
  rw [if_neg (by rw [h.is_no (s := ⟨#[110, 117, 108, 108]⟩) (okN_ne hw.1.1 (.inl (by decide)))]; decide), if_neg (by rw [h.kind]; show ¬ (1 : Int) = 2; decide)]
  refine (path_bk hv.2 h hr).th fun j hj => ?_
  refine ⟨j, ?_, hj⟩
  unfold Vl.er
  rw [h1, noT_er hv.1.1.1, noT_er hv.1.1.2, empty_of hv.1.2]; rfl
 have h4 : v.kind = 4 := by omega
 unfold okVal at hv
 rw [if_neg (by omega), if_neg h1, if_neg (by omega), if_pos h4] at hv
 simp only [Bool.and_eq_true, decide_eq_true_eq] at hv
 unfold valK at h
 rw [if_neg h0, if_neg h1, if_neg (by omega), if_neg (by omega), if_pos h4] at h
 have h5 : Rs t i (dg v.left.n :: r) := h
 have hk5 : (Pr.sg t i).kind = 2 := h5.kind
 rw [if_neg (by rw [h5.is_no (s := ⟨#[110, 117, 108, 108]⟩) (digits_ne _ (by decide))]; decide), if_pos hk5]
 have ht : okTerm v.left = true := by unfold okTerm; rw [if_pos hv.1.2]; exact hv.2
 have h6 : Rs t i (termK v.left ++ r) := by unfold termK; rw [if_pos hv.1.2]; exact h5
 refine (term_bk ht h6).th fun j hj => ?_
 refine ⟨j, ?_, hj⟩
 unfold Vl.er
 rw [h4, noP_er hv.1.1.1.1, noT_er hv.1.1.1.2, empty_of hv.1.1.2]; rfl
end
end Pn
end Go.Proofs.YtdlchhimkelinaaGreatDoor
namespace Go.Proofs.YtdlchhimkelinaaGreatDoor
namespace Pn
open Pr (th St Res)
section
variable {t : List Pr.Tk}
theorem Rs.no {i : Nat} {x : K} {r : List K} (h : Rs t i (x :: r)) {s : ByteArray} (e : x.2.1 ≠ s.data.toList) : Pr.is t i s = false := Rs.is_no (ks := x :: r) h e
theorem Rs.len {i : Nat} {ks : List K} (h : Rs t i ks) : ks.length ≤ t.length := by
 have := congrArg List.length h
 rw [List.length_drop, List.length_map] at this; omega
theorem Rs.sums {i : Nat} {ks : List K} {o b : Int} (h : Rs t i ks) (ht : ∀ x r, ks = x :: r → hd r ≠ [43] ∧ hd r ≠ [45] ∨ x.1 ≠ 1 ∧ x.1 ≠ 2) : Pr.sums t ⟨i, o, b⟩ = false := by
 unfold Pr.sums
 cases ks with
 | nil =>
  have : (Pr.sg t i).kind = 0 := by rw [h.sg_nil]
  rw [this]; rfl
 | cons x r =>
  have hk : (Pr.sg t i).kind = x.1 := h.kind
  rw [hk]
  rcases ht x r rfl with ⟨h1, h2⟩ | ⟨h1, h2⟩
  ·rw [h.sg.2.is_no (s := ⟨#[43]⟩) h1, h.sg.2.is_no (s := ⟨#[45]⟩) h2]; simp
  ·have e1 : (x.1 == 1) = false := by rw [beq_eq_false_iff_ne]; exact h1
   have e2 : (x.1 == 2) = false := by rw [beq_eq_false_iff_ne]; exact h2
   rw [e1, e2]; rfl
theorem term_hd {x : Tm} (ho : okTerm x = true) {a : List UInt8} (ha : Tx.isKeyL a = true) (h2 : ∀ b ∈ a.head?, Tx.dgt (b.toNat : Int) = false) (r : List K) : hd (termK x ++ r) ≠ a := by
 unfold okTerm at ho; unfold termK
 by_cases h0 : txt x.name = []
 ·rw [if_pos h0]; exact digits_ne _ h2
 ·rw [if_neg h0] at ho ⊢
  simp only [Bool.and_eq_true] at ho
  exact okN_ne ho.1 (.inl ha)
theorem sum_bk {v : Vl} {i : Nat} {o b : Int} {r : List K} {c : UInt8} (hl : okTerm v.left = true) (hr : okTerm v.right = true) (hp : noP v.path = true) (hy : txt v.type = []) (hc : c = 43 ∧ v.kind = 5 ∨ c = 45 ∧ v.kind = 6)
  (h : Rs t i (termK v.left ++ mk [c] :: (termK v.right ++ r))) : Bk t (Pr.value t ⟨i, o, b⟩) v.er o b r := by
 unfold Pr.value
 rw [if_neg (by rw [h.is_no (s := ⟨#[110, 101, 119]⟩) (term_hd hl (by decide) (by decide) _)]; decide), if_neg (by rw [h.is_no (s := ⟨#[105, 110, 112, 117, 116]⟩) (term_hd hl (by decide) (by decide) _)]; decide)]
 have hs : Pr.sums t ⟨i, o, b⟩ = true := by
  unfold Pr.sums
  have hk : (Pr.sg t i).kind = 1 ∨ (Pr.sg t i).kind = 2 := by
   rw [h.kind]; unfold termK; split
   ·exact .inr rfl
   ·exact .inl rfl
  have h2 : Rs t (i + 1) (mk [c] :: (termK v.right ++ r)) := by
   unfold termK at h; exact h.sg.2
  have e1 : ((Pr.sg t i).kind == 1 || (Pr.sg t i).kind == 2) = true := by
   rcases hk with hk | hk <;> rw [hk] <;> rfl
  show (((Pr.sg t i).kind == 1 || (Pr.sg t i).kind == 2) && (Pr.is t (i + 1) ⟨#[43]⟩ || Pr.is t (i + 1) ⟨#[45]⟩)) = true
  rw [e1]
  rcases hc with ⟨rfl, _⟩ | ⟨rfl, _⟩
  ·rw [h2.is_yes (s := ⟨#[43]⟩) rfl]; rfl
  ·rw [h2.is_yes (s := ⟨#[45]⟩) rfl]; simp
 rw [if_pos hs]
 unfold Pr.sum
 refine (term_bk hl h).th fun j hj => ?_
 refine (term_bk hr hj.sg.2).th fun m hm => ?_
 refine ⟨m, ?_, hm⟩
 unfold Vl.er
 rw [noP_er hp, empty_of hy]
 rcases hc with ⟨rfl, hk⟩ | ⟨rfl, hk⟩
 ·rw [hk, if_neg (by rw [hj.no (s := ⟨#[45]⟩) (by decide)]; decide)]; rfl
 ·rw [hk, if_pos (hj.is_yes (s := ⟨#[45]⟩) rfl)]; rfl
theorem value_bk {v : Vl} {i : Nat} {o b : Int} {r : List K} (ho : okVal v = true) (h : Rs t i (valK v ++ r)) (hr : hd r ≠ [45, 62]) (hr1 : hd r ≠ [43]) (hr2 : hd r ≠ [45]) : Bk t (Pr.value t ⟨i, o, b⟩) v.er o b r := by
 by_cases h56 : v.kind = 5 ∨ v.kind = 6
 ·have hv := ho
  unfold okVal at hv
  rw [if_neg (by omega), if_neg (by omega), if_neg (by omega), if_neg (by omega), if_pos h56] at hv
  simp only [Bool.and_eq_true, decide_eq_true_eq] at hv
  unfold valK at h
  rw [if_neg (by omega), if_neg (by omega), if_neg (by omega), if_neg (by omega), if_neg (by omega)] at h
  rcases h56 with h5 | h6
  ·rw [if_pos h5] at h
   exact sum_bk hv.1.2 hv.2 hv.1.1.1 hv.1.1.2 (.inl ⟨rfl, h5⟩) (by simpa using h)
  ·rw [if_neg (by omega)] at h
   exact sum_bk hv.1.2 hv.2 hv.1.1.1 hv.1.1.2 (.inr ⟨rfl, h6⟩) (by simpa using h)
 unfold Pr.value
 by_cases h2 : v.kind = 2
 ·unfold okVal at ho
  rw [if_neg (by omega), if_neg (by omega), if_pos h2] at ho
  simp only [Bool.and_eq_true] at ho
  unfold valK at h
  rw [if_neg (by omega), if_neg (by omega), if_pos h2] at h
  have h1 : Rs t i (ky tNew :: nm v.type :: r) := h
  rw [if_pos (h1.is_yes rfl)]
  refine (name_bk h1.sg.2).th fun j hj => ?_
  refine ⟨j, ?_, hj⟩
  rw [nm_text]
  unfold Vl.er
  rw [h2, noP_er ho.1.1.1, noT_er ho.1.1.2, noT_er ho.1.2]; rfl
 by_cases h3 : v.kind = 3
 ·unfold okVal at ho
  rw [if_pos (.inr h3)] at ho
  simp only [Bool.and_eq_true, decide_eq_true_eq] at ho
  unfold valK at h
  rw [if_neg (by omega), if_neg (by omega), if_neg h2, if_pos h3] at h
  have h1 : Rs t i (ky tInput :: r) := h
  rw [if_neg (by rw [h1.no (s := ⟨#[110, 101, 119]⟩) (by decide)]; decide), if_pos (h1.is_yes rfl)]
  refine ⟨i + 1, ?_, h1.sg.2⟩
  unfold Vl.er
  rw [h3, noP_er ho.1.1.1, noT_er ho.1.1.2, noT_er ho.1.2, empty_of ho.2]; rfl
 have hk : v.kind = 0 ∨ v.kind = 1 ∨ v.kind = 4 := by
  have ho' := ho
  unfold okVal at ho'
  by_cases h0 : v.kind = 0
  ·exact .inl h0
  by_cases h1 : v.kind = 1
  ·exact .inr (.inl h1)
  by_cases h4 : v.kind = 4
  ·exact .inr (.inr h4)
  rw [if_neg (by omega), if_neg h1, if_neg h2, if_neg h4, if_neg h56] at ho'
  cases ho'
 have hs : okSide v = true := by
  unfold okSide; rw [ho]
  rcases hk with h | h | h <;> simp [h]
 have hside := fun hr => side_bk (o := o) (b := b) hs h hr
 rcases hk with h0 | h1 | h4
 ·unfold valK at h
  rw [if_pos h0] at h
  rw [if_neg (by rw [h.is_no (s := ⟨#[110, 101, 119]⟩) (by show tNull ≠ _; decide)]; decide), if_neg (by rw [h.is_no (s := ⟨#[105, 110, 112, 117, 116]⟩) (by show tNull ≠ _; decide)]; decide), if_neg (by rw [h.sums (fun x q e => .inr (by injection e with e _; rw [← e]; decide))]; decide)]
  exact hside hr
 ·have hv := ho
  unfold okVal at hv
  rw [if_neg (by omega), if_pos h1] at hv
  simp only [Bool.and_eq_true, decide_eq_true_eq] at hv
  have hw := hv.2
  unfold okPath at hw
  simp only [Bool.and_eq_true] at hw
  unfold valK at h
  rw [if_neg (by omega), if_pos h1] at h
  rw [if_neg (by rw [h.is_no (s := ⟨#[110, 101, 119]⟩) (okN_ne hw.1.1 (.inl (by decide)))]; decide), if_neg (by rw [h.is_no (s := ⟨#[105, 110, 112, 117, 116]⟩) (okN_ne hw.1.1 (.inl (by decide)))]; decide), if_neg]
  ·exact hside hr
  ·rw [h.sums]
   ·decide
   ·intro x q e
    refine .inl ?_
    have e' : nm v.path.name :: (hopsK v.path.hops.l ++ r) = x :: q := e
    injection e' with _ e'
    rw [← e']
    cases v.path.hops.l with
    | nil => exact ⟨hr1, hr2⟩
    | cons a l => exact ⟨by show ([45, 62] : List UInt8) ≠ _; decide, by show ([45, 62] : List UInt8) ≠ _; decide⟩
 ·unfold valK at h
  rw [if_neg (by omega), if_neg (by omega), if_neg (by omega), if_neg (by omega), if_pos h4] at h
  rw [if_neg (by rw [h.is_no (s := ⟨#[110, 101, 119]⟩) (digits_ne _ (by decide))]; decide), if_neg (by rw [h.is_no (s := ⟨#[105, 110, 112, 117, 116]⟩) (digits_ne _ (by decide))]; decide), if_neg]
  ·exact hside hr
  ·rw [h.sums]
   ·decide
   ·intro x q e
    refine .inl ?_
    have e' : dg v.left.n :: r = x :: q := e
    injection e' with _ e'
    rw [← e']; exact ⟨hr1, hr2⟩
/-- What a side begins with is no mark, and no key but null. -/
theorem side_hd {v : Vl} (ho : okSide v = true) (r : List K) {a : List UInt8} (ha : ∀ b ∈ a.head?, Tx.wrd (b.toNat : Int) = false) : hd (valK v ++ r) ≠ a := by
 have hw : ∀ b l, a = b :: l → Tx.wrd (b.toNat : Int) = false := fun b l e => ha b (by rw [e]; rfl)
 have hd' : ∀ b ∈ a.head?, Tx.dgt (b.toNat : Int) = false := fun b hb => by
  have := ha b hb
  unfold Tx.wrd at this; simp at this; exact this.2
 unfold okSide at ho
 simp only [Bool.and_eq_true, Bool.or_eq_true, decide_eq_true_eq] at ho
 obtain ⟨hv, hk⟩ := ho
 unfold valK
 by_cases h0' : v.kind = 0
 ·rw [if_pos h0']
  show tNull ≠ a
  intro e
  have := hw 110 [117, 108, 108] e.symm
  revert this; decide
 by_cases h1 : v.kind = 1
 ·unfold okVal at hv
  rw [if_neg (by omega), if_pos h1] at hv
  simp only [Bool.and_eq_true] at hv
  have hx := hv.2
  unfold okPath at hx
  simp only [Bool.and_eq_true] at hx
  rw [if_neg h0', if_pos h1]
  exact okN_ne hx.1.1 (.inr hw)
 ·rw [if_neg h0', if_neg h1, if_neg (by omega), if_neg (by omega), if_pos (by omega)]
  exact digits_ne _ hd'
theorem rel_bk {k : Int} {i : Nat} {o b : Int} {r : List K} (h1 : 1 ≤ k) (h4 : k ≤ 4) (h : Rs t i (mk (relT k) :: r)) : Bk t (Pr.relation t ⟨i, o, b⟩) k o b r := by
 unfold Pr.relation
 by_cases e1 : k = 1
 ·subst e1; rw [if_pos (h.is_yes rfl)]; exact ⟨i + 1, rfl, h.sg.2⟩
 by_cases e2 : k = 2
 ·subst e2; rw [if_neg (by rw [h.no (s := ⟨#[61, 61]⟩) (by decide)]; decide), if_pos (h.is_yes rfl)]; exact ⟨i + 1, rfl, h.sg.2⟩
 by_cases e3 : k = 3
 ·subst e3; rw [if_neg (by rw [h.no (s := ⟨#[61, 61]⟩) (by decide)]; decide), if_neg (by rw [h.no (s := ⟨#[33, 61]⟩) (by decide)]; decide), if_pos (h.is_yes rfl)]; exact ⟨i + 1, rfl, h.sg.2⟩
 obtain rfl : k = 4 := by omega
 rw [if_neg (by rw [h.no (s := ⟨#[61, 61]⟩) (by decide)]; decide), if_neg (by rw [h.no (s := ⟨#[33, 61]⟩) (by decide)]; decide), if_neg (by rw [h.no (s := ⟨#[60]⟩) (by decide)]; decide)]
 exact (must_bk h rfl).th fun j hj => Bk.ok hj
theorem cond_bk {c : Cd} {i : Nat} {o b : Int} {r : List K} (ho : okCond c = true) (h : Rs t i (condK c ++ r)) (hr : hd r ≠ [45, 62]) : Bk t (Pr.cond t ⟨i, o, b⟩) c.er o b r := by
 unfold okCond at ho; unfold condK at h; unfold Pr.cond
 by_cases h0 : c.kind = 0
 ·rw [if_pos h0] at ho h
  have h1 : Rs t i (mk [63] :: r) := h
  rw [if_pos (h1.is_yes rfl), noCond_er ho]
  exact ⟨i + 1, rfl, h1.sg.2⟩
 ·rw [if_neg h0] at ho h
  simp only [Bool.and_eq_true, decide_eq_true_eq] at ho
  have h1 : Rs t i (valK c.left ++ mk (relT c.kind) :: (valK c.right ++ r)) := by simpa using h
  rw [if_neg (by rw [h1.is_no (s := ⟨#[63]⟩) (side_hd ho.1.2 _ (by decide))]; decide)]
  refine (side_bk ho.1.2 h1 ?_).th fun j hj => ?_
  ·show relT c.kind ≠ _
   unfold relT; split
   ·decide
   ·split
    ·decide
    ·split <;> decide
  refine (rel_bk ho.1.1.1 ho.1.1.2 hj).th fun m hm => ?_
  refine (side_bk ho.2 hm hr).th fun n hn => ?_
  exact Bk.ok hn
theorem held_bk {c : Cd} {i : Nat} {o b : Int} {r : List K} (ho : okCond c = true) (h : Rs t i (mk [40] :: (condK c ++ mk [41] :: r))) : Bk t (Pr.held t ⟨i, o, b⟩) c.er o b r := by
 unfold Pr.held
 refine (must_bk h rfl).th fun j hj => ?_
 refine (cond_bk ho hj (by show ([41] : List UInt8) ≠ _; decide)).th fun m hm => ?_
 exact (must_bk hm rfl).th fun n hn => Bk.ok hn
def restK {β : Type} (f : β → List K) : List β → List K
 | [] => []
 | x :: l => mk [44] :: (f x ++ restK f l)
theorem comma_rest {β : Type} (f : β → List K) : ∀ (l : List β) (x : β), commaK f (x :: l) = f x ++ restK f l
 | [], x => by simp [commaK, restK]
 | y :: l, x => by simp only [commaK, restK]; rw [comma_rest f l y]
theorem rest_len {β : Type} (f : β → List K) : ∀ l : List β, l.length ≤ (restK f l).length
 | [] => Nat.le_refl _
 | x :: l => by have := rest_len f l; simp only [restK, List.length_cons, List.length_append]; omega
theorem more_bk {α β : Type} {item : St → Res α} {f : β → List K} {e : β → α} {o b : Int} {r : List K} : ∀ (l : List β) (_ : ∀ x ∈ l, ∀ i q, Rs t i (f x ++ q) → (hd q = [44] ∨ hd q = [41]) → Bk t (item ⟨i, o, b⟩) (e x) o b q)
  (n : Nat) (acc : List α) (i : Nat), l.length < n → Rs t i (restK f l ++ mk [41] :: r) → Bk t (Pr.more t item n acc ⟨i, o, b⟩) (acc ++ l.map e) o b r
 | [], _, 0, _, _, hn, _ => absurd hn (by simp)
 | [], _, n + 1, acc, i, _, h => by
  unfold Pr.more
  have h1 : Rs t i (mk [41] :: r) := h
  rw [if_neg (by rw [h1.no (s := ⟨#[44]⟩) (by decide)]; decide), List.map_nil, List.append_nil]
  exact (must_bk h1 rfl).th fun j hj => Bk.ok hj
 | x :: l, _, 0, _, _, hn, _ => absurd hn (by simp)
 | x :: l, hx, n + 1, acc, i, hn, h => by
  unfold Pr.more
  have h1 : Rs t i (mk [44] :: (f x ++ (restK f l ++ mk [41] :: r))) := by
   have := h; simp only [restK, List.cons_append, List.append_assoc] at this; exact this
  rw [if_pos (h1.is_yes rfl)]
  refine (hx x List.mem_cons_self _ _ h1.sg.2 ?_).th fun j hj => ?_
  ·cases l with
   | nil => exact .inr rfl
   | cons y l => exact .inl rfl
  ·have := more_bk l (fun y hy => hx y (List.mem_cons_of_mem _ hy)) n (acc ++ [e x]) j (by simpa using hn) hj
   rwa [List.append_assoc] at this
theorem listed_bk {α β : Type} {item : St → Res α} {f : β → List K} {e : β → α} {o b : Int} {r : List K} {i : Nat} (l : List β) (hx : ∀ x ∈ l, ∀ i q, Rs t i (f x ++ q) → (hd q = [44] ∨ hd q = [41]) → Bk t (item ⟨i, o, b⟩) (e x) o b q)
  (h0 : ∀ x ∈ l, ∀ q, hd (f x ++ q) ≠ [41]) (h : Rs t i (mk [40] :: (commaK f l ++ mk [41] :: r))) : Bk t (Pr.listed t item ⟨i, o, b⟩) (l.map e) o b r := by
 unfold Pr.listed
 refine (must_bk h rfl).th fun j hj => ?_
 cases l with
 | nil =>
  have h1 : Rs t j (mk [41] :: r) := hj
  rw [if_pos (h1.is_yes rfl)]
  exact ⟨j + 1, rfl, h1.sg.2⟩
 | cons x l =>
  rw [comma_rest, List.append_assoc] at hj
  rw [if_neg (by rw [hj.is_no (s := ⟨#[41]⟩) (h0 x List.mem_cons_self _)]; decide)]
  refine (hx x List.mem_cons_self _ _ hj ?_).th fun m hm => ?_
  ·cases l with
   | nil => exact .inr rfl
   | cons y l => exact .inl rfl
  ·have hl := hm.len
   have := rest_len f l
   rw [List.length_append] at hl
   exact more_bk l (fun y hy => hx y (List.mem_cons_of_mem _ hy)) _ [e x] m (by omega) hm
/- Declarations. -/
theorem pointer_bk {d : Dc} {i : Nat} {o b : Int} {r : List K} (h : Rs t i (nm d.type :: mk [42] :: nm d.name :: r)) : Bk t (Pr.pointer t ⟨i, o, b⟩) d.er o b r := by
 unfold Pr.pointer
 refine (name_bk h).th fun j hj => ?_
 refine (must_bk hj rfl).th fun m hm => ?_
 refine (name_bk hm).th fun n hn => ?_
 rw [nm_text, nm_text]
 exact Bk.ok hn
theorem variable_bk {d : Dc} {i : Nat} {o b : Int} {r : List K} (ho : okDecl d = true) (h : Rs t i (declK d ++ r)) : Bk t (Pr.variable_ t ⟨i, o, b⟩) d.er o b r := by
 unfold okDecl at ho
 simp only [Bool.and_eq_true, Bool.or_eq_true, decide_eq_true_eq] at ho
 unfold declK at h; unfold Pr.variable_
 by_cases h0 : txt d.type = []
 ·rw [if_pos h0] at h
  have h1 : Rs t i (ky tInt :: nm d.name :: r) := h
  rw [if_pos (h1.is_yes rfl)]
  refine (name_bk h1.sg.2).th fun j hj => ?_
  rw [nm_text]
  unfold Dc.er
  rw [empty_of h0]
  exact Bk.ok hj
 ·rw [if_neg h0] at h
  have h1 : Rs t i (nm d.type :: mk [42] :: nm d.name :: r) := h
  rw [if_neg (by rw [h1.is_no (s := ⟨#[105, 110, 116]⟩) (okN_ne (ho.2.resolve_left h0) (.inl (by decide)))]; decide)]
  exact pointer_bk h1
theorem decl_bk {d : Dc} {i : Nat} {o b : Int} {r : List K} (ho : okDecl d = true) (h : Rs t i (declK d ++ mk [59] :: r)) : Bk t (Pr.decl t ⟨i, o, b⟩) d.er o b r := by
 unfold Pr.decl
 refine (variable_bk ho h).th fun j hj => ?_
 exact (must_bk hj rfl).th fun n hn => Bk.ok hn
theorem fields_len : ∀ (l : List Dc) (k : List K), l.length ≤ (fieldsK l k).length
 | [], _ => Nat.zero_le _
 | x :: l, k => by have := fields_len l k; simp only [fieldsK, List.length_append, List.length_cons]; omega
theorem fields_bk {o b : Int} {r : List K} : ∀ (l : List Dc) (n : Nat) (acc : List Dc) (i : Nat), l.all okField = true → l.length < n → Rs t i (fieldsK l (mk [125] :: r)) → Bk t (Pr.fields t n acc ⟨i, o, b⟩) (acc ++ l.map Dc.er) o b r
 | [], 0, _, _, _, hn, _ => absurd hn (by simp)
 | [], n + 1, acc, i, _, _, h => by
  unfold Pr.fields
  have h1 : Rs t i (mk [125] :: r) := h
  rw [if_pos (h1.is_yes rfl), List.map_nil, List.append_nil]
  exact ⟨i + 1, rfl, h1.sg.2⟩
 | x :: l, 0, _, _, _, hn, _ => absurd hn (by simp)
 | x :: l, n + 1, acc, i, ho, hn, h => by
  unfold Pr.fields
  simp only [List.all_cons, Bool.and_eq_true, okField, okDecl, Bool.or_eq_true, Bool.not_eq_true', decide_eq_true_eq, decide_eq_false_iff_not] at ho
  have hd0 := ho.1.2
  have hk : declK x = [nm x.type, mk [42], nm x.name] := by unfold declK; rw [if_neg hd0]
  have h1 : Rs t i (nm x.type :: mk [42] :: nm x.name :: mk [59] :: fieldsK l (mk [125] :: r)) := by
   have := h; simp only [fieldsK, hk] at this; exact this
  rw [if_neg (by rw [h1.is_no (s := ⟨#[125]⟩) (okN_ne (ho.1.1.2.resolve_left hd0) (.inr (notword (by rfl) _)))]; decide)]
  refine (pointer_bk (d := x) h1).th fun j hj => ?_
  refine (must_bk hj rfl).th fun m hm => ?_
  have := fields_bk (o := o) (b := b) l n (acc ++ [x.er]) m (by rw [List.all_eq_true]; intro y hy; have := List.all_eq_true.1 (show l.all okField = true by simpa [okField, okDecl] using ho.2) y hy; exact this) (by simpa using hn) hm
  rwa [List.append_assoc] at this
/-- No declaration is ahead. -/
def NoDecl (r : List K) : Prop := hd r ≠ tInt ∧ (kd r ≠ 1 ∨ hd r.tail ≠ [42])
theorem Rs.declares {i : Nat} {r : List K} {o b : Int} (h : Rs t i r) (hr : NoDecl r) : Pr.declares t ⟨i, o, b⟩ = false := by
 unfold Pr.declares
 rw [h.is_no (s := ⟨#[105, 110, 116]⟩) hr.1, h.kind]
 rcases hr.2 with h2 | h2
 ·have : (kd r == 1) = false := by rw [beq_eq_false_iff_ne]; exact h2
  rw [this]; rfl
 ·cases r with
  | nil => rfl
  | cons x r => rw [h.sg.2.is_no (s := ⟨#[42]⟩) h2]; simp
theorem Rs.declares_yes {i : Nat} {d : Dc} {r : List K} {o b : Int} (h : Rs t i (declK d ++ r)) : Pr.declares t ⟨i, o, b⟩ = true := by
 unfold Pr.declares
 unfold declK at h
 by_cases h0 : txt d.type = []
 ·rw [if_pos h0] at h
  have h1 : Rs t i (ky tInt :: nm d.name :: r) := h
  rw [h1.is_yes (s := ⟨#[105, 110, 116]⟩) rfl]; rfl
 ·rw [if_neg h0] at h
  have h1 : Rs t i (nm d.type :: mk [42] :: nm d.name :: r) := h
  have hk : (Pr.sg t i).kind = 1 := h1.kind
  rw [hk, h1.sg.2.is_yes (s := ⟨#[42]⟩) rfl]; simp
theorem locals_bk {o b : Int} {r : List K} (hr : NoDecl r) : ∀ (l : List Dc) (n : Nat) (acc : List Dc) (i : Nat), l.all okDecl = true → l.length < n → Rs t i (fieldsK l r) → Bk t (Pr.locals t n acc ⟨i, o, b⟩) (acc ++ l.map Dc.er) o b r
 | [], 0, _, _, _, hn, _ => absurd hn (by simp)
 | [], n + 1, acc, i, _, _, h => by
  unfold Pr.locals
  have h1 : Rs t i r := h
  rw [if_neg (by rw [h1.declares hr]; decide), List.map_nil, List.append_nil]
  exact Bk.ok h1
 | x :: l, 0, _, _, _, hn, _ => absurd hn (by simp)
 | x :: l, n + 1, acc, i, ho, hn, h => by
  unfold Pr.locals
  simp only [List.all_cons, Bool.and_eq_true] at ho
  rw [if_pos (Rs.declares_yes (d := x) h)]
  refine (decl_bk ho.1 h).th fun j hj => ?_
  have := locals_bk (o := o) (b := b) hr l n (acc ++ [x.er]) j ho.2 (by simpa using hn) hj
  rwa [List.append_assoc] at this
end
end Pn
end Go.Proofs.YtdlchhimkelinaaGreatDoor
namespace Go.Proofs.YtdlchhimkelinaaGreatDoor
namespace Pn
open Pr (th St Res)
/-- How many statements there are. -/
def cnt : SL → Int
 | .nil => 0
 | .cons _ _ _ t _ _ e r => 1 + cnt t + cnt e + cnt r
/-- How deep blocks stand in each other. -/
def dp : SL → Int
 | .nil => 0
 | .cons h _ _ t _ _ e r => max (if 4 ≤ h.kind then 1 + max (dp t) (dp e) else 0) (dp r)
/-- The fuel that a reading takes. -/
def fu : SL → Nat
 | .nil => 1
 | .cons _ _ _ t _ _ e r => 1 + max (fu t) (max (fu e) (fu r))
theorem cnt_nn : ∀ l : SL, 0 ≤ cnt l
 | .nil => Int.le_refl _
 | .cons _ _ _ t _ _ e r => by have := cnt_nn t; have := cnt_nn e; have := cnt_nn r; simp only [cnt]; omega
theorem dp_nn : ∀ l : SL, 0 ≤ dp l
 | .nil => Int.le_refl _
 | .cons _ _ _ t _ _ e r => by have := dp_nn r; simp only [dp]; omega
theorem nil_of {l : SL} (h : isNil l = true) : l = .nil := by cases l with
 | nil => rfl
 | cons => cases h
theorem noCall_er {h : Hd} (hc : noCall h = true) : h.name = ByteArray.empty ∧ h.args.er Vl.er = ⟨none, 0, []⟩ := by
 unfold noCall at hc
 simp only [Bool.and_eq_true, decide_eq_true_eq] at hc
 refine ⟨empty_of hc.1, ?_⟩
 unfold Sl.er; rw [hc.2]; rfl
section
variable {t : List Pr.Tk}
theorem stK_app (h : Hd) (a e k q : List K) : stK h a e k ++ q = stK h a e (k ++ q) := by
 unfold stK
 split
 ·rfl
 split
 ·simp
 split
 ·simp
 split
 ·simp
 split
 ·split <;> simp
 split
 ·simp
 ·simp
theorem count_bk {i : Nat} {o b : Int} {ks : List K} (h : Rs t i ks) (hb : b ≠ 400) (ho : hd ks = [123] → o ≠ 20) : Bk t (Pr.count t ⟨i, o, b⟩) () o (b + 1) ks := by
 unfold Pr.count Pr.mustHold
 have : (Pr.is t i ⟨#[123]⟩ && o == 20) = false := by
  by_cases e : hd ks = [123]
  ·have := ho e
   have h2 : (o == 20) = false := by rw [beq_eq_false_iff_ne]; exact this
   rw [h2, Bool.and_false]
  ·rw [h.is_no (s := ⟨#[123]⟩) e, Bool.false_and]
 rw [if_neg (by show ¬ (Pr.is t i ⟨#[123]⟩ && o == 20) = true; rw [this]; decide)]
 show Bk t (if b = 400 then _ else _) _ _ _ _
 rw [if_neg hb]
 exact ⟨i, rfl, h⟩
theorem block_bk {rec : St → Res SL} {a : SL} {tk r : List K} {i : Nat} {o b b' : Int} (hrec : ∀ i q, Rs t i (tk ++ mk [125] :: q) → Bk t (rec ⟨i, o + 1, b⟩) a (o + 1) b' (mk [125] :: q)) (h : Rs t i (mk [123] :: (tk ++ mk [125] :: r))) (ho : o ≠ 20) : Bk t (Pr.block t rec ⟨i, o, b⟩) a o b' r := by
 unfold Pr.block Pr.mustHold
 have h2 : (o == 20) = false := by rw [beq_eq_false_iff_ne]; exact ho
 rw [if_neg (by show ¬ (_ && o == 20) = true; rw [h2, Bool.and_false]; decide)]
 refine (must_bk h rfl).th fun j hj => ?_
 refine (hrec j r hj).th fun m hm => ?_
 refine (must_bk hm rfl).th fun n hn => ?_
 exact ⟨n, by rw [show o + 1 - 1 = o by omega], hn⟩
/-- What a statement's signs begin with. -/
theorem st_hd {h : Hd} {t0 e0 : Bool} (ho : okStmt h t0 e0 = true) (a e k : List K) :
  (h.kind = 0 ∧ hd (stK h a e k) = [59] ∧ kd (stK h a e k) = 4) ∨ (h.kind = 1 ∧ okN h.place.name = true ∧ hd (stK h a e k) = txt h.place.name ∧ kd (stK h a e k) = 1 ∧ (hd (stK h a e k).tail = [45, 62] ∨ hd (stK h a e k).tail = [61])) ∨ (h.kind = 2 ∧ hd (stK h a e k) = tFree ∧ kd (stK h a e k) = 3)
  ∨ (h.kind = 3 ∧ okN h.name = true ∧ hd (stK h a e k) = txt h.name ∧ kd (stK h a e k) = 1 ∧ hd (stK h a e k).tail = [40]) ∨ (h.kind = 4 ∧ hd (stK h a e k) = tIf ∧ kd (stK h a e k) = 3) ∨ (h.kind = 5 ∧ hd (stK h a e k) = tWhile ∧ kd (stK h a e k) = 3) ∨ (h.kind = 6 ∧ hd (stK h a e k) = [123] ∧ kd (stK h a e k) = 4) := by
 unfold okStmt at ho; unfold stK
 by_cases h0 : h.kind = 0
 ·rw [if_pos h0]; exact .inl ⟨h0, rfl, rfl⟩
 by_cases h1 : h.kind = 1
 ·rw [if_neg h0, if_pos h1] at ho
  simp only [Bool.and_eq_true, okPath] at ho
  rw [if_neg h0, if_pos h1]
  refine .inr (.inl ⟨h1, ho.1.1.1.1.1.1.1.1, rfl, rfl, ?_⟩)
  unfold pathK
  cases h.place.hops.l with
  | nil => exact .inr rfl
  | cons x l => exact .inl rfl
 by_cases h2 : h.kind = 2
 ·rw [if_neg h0, if_neg h1, if_pos h2]; exact .inr (.inr (.inl ⟨h2, rfl, rfl⟩))
 by_cases h3 : h.kind = 3
 ·rw [if_neg h0, if_neg h1, if_neg h2, if_pos h3] at ho
  simp only [Bool.and_eq_true] at ho
  rw [if_neg h0, if_neg h1, if_neg h2, if_pos h3]; exact .inr (.inr (.inr (.inl ⟨h3, ho.1.1.1.2, rfl, rfl, rfl⟩)))
 by_cases h4 : h.kind = 4
 ·rw [if_neg h0, if_neg h1, if_neg h2, if_neg h3, if_pos h4]; exact .inr (.inr (.inr (.inr (.inl ⟨h4, rfl, rfl⟩))))
 by_cases h5 : h.kind = 5
 ·rw [if_neg h0, if_neg h1, if_neg h2, if_neg h3, if_neg h4, if_pos h5]; exact .inr (.inr (.inr (.inr (.inr (.inl ⟨h5, rfl, rfl⟩)))))
 by_cases h6 : h.kind = 6
 ·rw [if_neg h0, if_neg h1, if_neg h2, if_neg h3, if_neg h4, if_neg h5]; exact .inr (.inr (.inr (.inr (.inr (.inr ⟨h6, rfl, rfl⟩)))))
 rw [if_neg h0, if_neg h1, if_neg h2, if_neg h3, if_neg h4, if_neg h5, if_neg h6] at ho
 cases ho
theorem begins_bk {h : Hd} {t0 e0 : Bool} (ho : okStmt h t0 e0 = true) {a e k : List K} {i : Nat} {o b : Int} (hr : Rs t i (stK h a e k)) : Pr.begins t ⟨i, o, b⟩ = true := by
 unfold Pr.begins
 rcases st_hd ho a e k with ⟨_, g, _⟩ | ⟨_, _, _, g, _⟩ | ⟨_, g, _⟩ | ⟨_, _, _, g, _⟩ | ⟨_, g, _⟩ | ⟨_, g, _⟩ | ⟨_, g, _⟩
 ·rw [hr.is_yes (s := ⟨#[59]⟩) g]; rfl
 ·rw [hr.kind, g]; simp
 ·rw [hr.is_yes (s := ⟨#[102, 114, 101, 101]⟩) g]; simp
 ·rw [hr.kind, g]; simp
 ·rw [hr.is_yes (s := ⟨#[105, 102]⟩) g]; simp
 ·rw [hr.is_yes (s := ⟨#[119, 104, 105, 108, 101]⟩) g]; simp
 ·rw [hr.is_yes (s := ⟨#[123]⟩) g]; simp
theorem begins_no {q : List K} {i : Nat} {o b : Int} (hr : Rs t i (mk [125] :: q)) : Pr.begins t ⟨i, o, b⟩ = false := by
 unfold Pr.begins
 rw [hr.no (s := ⟨#[59]⟩) (by decide), hr.no (s := ⟨#[123]⟩) (by decide), hr.no (s := ⟨#[102, 114, 101, 101]⟩) (by decide), hr.no (s := ⟨#[105, 102]⟩) (by decide), hr.no (s := ⟨#[119, 104, 105, 108, 101]⟩) (by decide), hr.kind]
 rfl
theorem side_item {l : List Vl} (ho : l.all okSide = true) {o b : Int} : ∀ x ∈ l, ∀ i q, Rs t i (valK x ++ q) → (hd q = [44] ∨ hd q = [41]) → Bk t (Pr.side t ⟨i, o, b⟩) x.er o b q := by
 intro x hx i q h hq
 refine side_bk (List.all_eq_true.1 ho x hx) h ?_
 rcases hq with hq | hq <;> rw [hq] <;> decide
theorem stmt_bk {rec : St → Res SL} {h : Hd} {T E : SL} {o b : Int} {r : List K} {i : Nat} (ho : okStmt h (isNil T) (isNil E) = true)
  (hT : 4 ≤ h.kind → ∀ i q, Rs t i (linesK T ++ mk [125] :: q) → Bk t (rec ⟨i, o + 1, b + 1⟩) T.er (o + 1) (b + 1 + cnt T) (mk [125] :: q))
  (hE : h.kind = 4 → ∀ i q, Rs t i (linesK E ++ mk [125] :: q) → Bk t (rec ⟨i, o + 1, b + 1 + cnt T⟩) E.er (o + 1) (b + 1 + cnt T + cnt E) (mk [125] :: q))
  (hb : b ≠ 400) (hoo : 4 ≤ h.kind → o ≠ 20) (hr : hd r ≠ tElse) (hs : Rs t i (stK h (linesK T) (linesK E) r)) :
  Bk t (Pr.stmt t rec ⟨i, o, b⟩) (h.er, T.er, E.er) o (b + 1 + cnt T + cnt E) r := by
 have hst := st_hd ho (linesK T) (linesK E) r
 unfold Pr.stmt
 refine (count_bk hs hb ?_).th fun j hj => ?_
 ·intro e
  rcases hst with ⟨_, g, _⟩ | ⟨_, g0, g, _⟩ | ⟨_, g, _⟩ | ⟨_, g0, g, _⟩ | ⟨hk, _⟩ | ⟨hk, _⟩ | ⟨hk, _⟩
  ·rw [g] at e; exact absurd e (by decide)
  ·rw [g] at e; exact absurd e (okN_ne g0 (.inr (notword (by rfl) _)))
  ·rw [g] at e; exact absurd e (by decide)
  ·rw [g] at e; exact absurd e (okN_ne g0 (.inr (notword (by rfl) _)))
  ·exact hoo (by omega)
  ·exact hoo (by omega)
  ·exact hoo (by omega)
 unfold okStmt at ho
 rcases hst with ⟨hk, g, _⟩ | ⟨hk, g0, g, _, g2⟩ | ⟨hk, g, _⟩ | ⟨hk, g0, g, _, g2⟩ | ⟨hk, g, _⟩ | ⟨hk, g, _⟩ | ⟨hk, g, _⟩
 ·rw [if_pos hk] at ho
  simp only [Bool.and_eq_true, Bool.not_eq_true'] at ho
  rw [if_pos (hj.is_yes g)]
  obtain rfl := nil_of ho.1.1.2
  obtain rfl := nil_of ho.1.2
  unfold stK at hj
  rw [if_pos hk] at hj
  refine ⟨j + 1, ?_, hj.sg.2⟩
  obtain ⟨c1, c2⟩ := noCall_er ho.1.1.1.2
  unfold Hd.er
  rw [hk, noP_er ho.1.1.1.1.1.1, noVal_er ho.1.1.1.1.1.2, noCond_er ho.1.1.1.1.2, c1, c2, ho.2]
  simp [cnt, Pr.noHd, St.go, SL.er]
 ·rw [if_neg (by omega), if_pos hk] at ho
  simp only [Bool.and_eq_true, Bool.not_eq_true'] at ho
  rw [if_neg (by rw [hj.is_no (s := ⟨#[59]⟩) (by rw [g]; exact okN_ne g0 (.inr (notword (by rfl) _)))]; decide), if_neg (by rw [hj.is_no (s := ⟨#[123]⟩) (by rw [g]; exact okN_ne g0 (.inr (notword (by rfl) _)))]; decide),
   if_neg (by rw [hj.is_no (s := ⟨#[102, 114, 101, 101]⟩) (by rw [g]; exact okN_ne g0 (.inl (by decide)))]; decide), if_neg (by rw [hj.is_no (s := ⟨#[105, 102]⟩) (by rw [g]; exact okN_ne g0 (.inl (by decide)))]; decide), if_neg (by rw [hj.is_no (s := ⟨#[119, 104, 105, 108, 101]⟩) (by rw [g]; exact okN_ne g0 (.inl (by decide)))]; decide)]
  obtain rfl := nil_of ho.1.1.2
  obtain rfl := nil_of ho.1.2
  have hj2 : Pr.is t (j + 1) ⟨#[40]⟩ = false := by
   unfold stK at hj g2
   rw [if_neg (by omega), if_pos hk] at hj g2
   refine Rs.is_no (ks := hopsK h.place.hops.l ++ mk [61] :: (valK h.value ++ mk [59] :: r)) hj.sg.2 ?_
   rcases g2 with g2 | g2
   ·rw [show hd (hopsK h.place.hops.l ++ mk [61] :: (valK h.value ++ mk [59] :: r)) = [45, 62] from g2]; decide
   ·rw [show hd (hopsK h.place.hops.l ++ mk [61] :: (valK h.value ++ mk [59] :: r)) = [61] from g2]; decide
  unfold Pr.named
  rw [if_neg (by show ¬ Pr.is t (j + 1) ⟨#[40]⟩ = true; rw [hj2]; decide)]
  unfold stK at hj
  rw [if_neg (by omega), if_pos hk] at hj
  obtain ⟨c1, c2⟩ := noCall_er ho.1.1.1.2
  refine Bk.th (a := h.er) (o := o) (b := b + 1) (r := r) ?_ fun m hm => ⟨m, by simp [cnt, SL.er], hm⟩
  refine (path_bk ho.1.1.1.1.1.1 hj (by show ([61] : List UInt8) ≠ _; decide)).th fun m hm => ?_
  refine (must_bk hm rfl).th fun m hm => ?_
  refine (value_bk ho.1.1.1.1.1.2 hm (by show ([59] : List UInt8) ≠ _; decide) (by show ([59] : List UInt8) ≠ _; decide) (by show ([59] : List UInt8) ≠ _; decide)).th fun m hm => ?_
  refine (must_bk hm rfl).th fun m hm => ⟨m, ?_, hm⟩
  unfold Hd.er
  rw [hk, noCond_er ho.1.1.1.1.2, c1, c2, ho.2]; rfl
 ·rw [if_neg (by omega), if_neg (by omega), if_pos hk] at ho
  simp only [Bool.and_eq_true, Bool.not_eq_true'] at ho
  rw [if_neg (by rw [hj.is_no (s := ⟨#[59]⟩) (by rw [g]; decide)]; decide), if_neg (by rw [hj.is_no (s := ⟨#[123]⟩) (by rw [g]; decide)]; decide), if_pos (hj.is_yes g)]
  obtain rfl := nil_of ho.1.1.2
  obtain rfl := nil_of ho.1.2
  unfold stK at hj
  rw [if_neg (by omega), if_neg (by omega), if_pos hk] at hj
  obtain ⟨c1, c2⟩ := noCall_er ho.1.1.1.2
  refine Bk.th (a := h.er) (o := o) (b := b + 1) (r := r) ?_ fun m hm => ⟨m, by simp [cnt, SL.er], hm⟩
  unfold Pr.free
  refine (must_bk hj rfl).th fun m hm => ?_
  refine (must_bk hm rfl).th fun m hm => ?_
  refine (path_bk ho.1.1.1.1.1.1 hm (by show ([41] : List UInt8) ≠ _; decide)).th fun m hm => ?_
  refine (must_bk hm rfl).th fun m hm => ?_
  refine (must_bk hm rfl).th fun m hm => ⟨m, ?_, hm⟩
  unfold Hd.er
  rw [hk, noVal_er ho.1.1.1.1.1.2, noCond_er ho.1.1.1.1.2, c1, c2, ho.2]; rfl
 ·rw [if_neg (by omega), if_neg (by omega), if_neg (by omega), if_pos hk] at ho
  simp only [Bool.and_eq_true, Bool.not_eq_true'] at ho
  rw [if_neg (by rw [hj.is_no (s := ⟨#[59]⟩) (by rw [g]; exact okN_ne g0 (.inr (notword (by rfl) _)))]; decide), if_neg (by rw [hj.is_no (s := ⟨#[123]⟩) (by rw [g]; exact okN_ne g0 (.inr (notword (by rfl) _)))]; decide),
   if_neg (by rw [hj.is_no (s := ⟨#[102, 114, 101, 101]⟩) (by rw [g]; exact okN_ne g0 (.inl (by decide)))]; decide), if_neg (by rw [hj.is_no (s := ⟨#[105, 102]⟩) (by rw [g]; exact okN_ne g0 (.inl (by decide)))]; decide), if_neg (by rw [hj.is_no (s := ⟨#[119, 104, 105, 108, 101]⟩) (by rw [g]; exact okN_ne g0 (.inl (by decide)))]; decide)]
  obtain rfl := nil_of ho.1.1.2
  obtain rfl := nil_of ho.1.2
  unfold stK at hj
  rw [if_neg (by omega), if_neg (by omega), if_neg (by omega), if_pos hk] at hj
  unfold Pr.named
  rw [if_pos (hj.sg.2.is_yes rfl)]
  refine Bk.th (a := h.er) (o := o) (b := b + 1) (r := r) ?_ fun m hm => ⟨m, by simp [cnt, SL.er], hm⟩
  refine (name_bk hj).th fun m hm => ?_
  refine (listed_bk (e := Vl.er) h.args.l (side_item ho.1.1.1.1.1.1.1) (fun x hx q => side_hd (List.all_eq_true.1 ho.1.1.1.1.1.1.1 x hx) q (by decide)) hm).th fun m hm => ?_
  refine (must_bk hm rfl).th fun m hm => ⟨m, ?_, hm⟩
  rw [nm_text]
  unfold Hd.er
  rw [hk, noP_er ho.1.1.1.1.1.1.2, noVal_er ho.1.1.1.1.1.2, noCond_er ho.1.1.1.1.2, ho.2]; rfl
 ·rw [if_neg (by omega), if_neg (by omega), if_neg (by omega), if_neg (by omega), if_pos hk] at ho
  simp only [Bool.and_eq_true] at ho
  rw [if_neg (by rw [hj.is_no (s := ⟨#[59]⟩) (by rw [g]; decide)]; decide), if_neg (by rw [hj.is_no (s := ⟨#[123]⟩) (by rw [g]; decide)]; decide), if_neg (by rw [hj.is_no (s := ⟨#[102, 114, 101, 101]⟩) (by rw [g]; decide)]; decide), if_pos (hj.is_yes g)]
  unfold stK at hj
  rw [if_neg (by omega), if_neg (by omega), if_neg (by omega), if_neg (by omega), if_pos hk] at hj
  obtain ⟨c1, c2⟩ := noCall_er ho.1.2
  unfold Pr.branch
  refine (must_bk hj rfl).th fun m hm => ?_
  refine (held_bk ho.1.1.2 hm).th fun m hm => ?_
  refine (block_bk (hT (by omega)) hm (hoo (by omega))).th fun m hm => ?_
  by_cases hbo : h.both = true
  ·rw [if_pos hbo] at hm
   rw [if_pos (hm.is_yes rfl)]
   refine (block_bk (hE hk) hm.sg.2 (hoo (by omega))).th fun n hn => ⟨n, ?_, hn⟩
   unfold Hd.er
   rw [hk, noP_er ho.1.1.1.1, noVal_er ho.1.1.1.2, c1, c2, hbo]; rfl
  ·have hbf : h.both = false := by simpa using hbo
   rw [hbf] at ho
   have hE0 := nil_of (by simpa using ho.2 : isNil E = true)
   subst hE0
   rw [if_neg hbo] at hm
   rw [if_neg (by rw [hm.is_no (s := ⟨#[101, 108, 115, 101]⟩) hr]; decide)]
   refine ⟨m, ?_, hm⟩
   unfold Hd.er
   rw [hk, noP_er ho.1.1.1.1, noVal_er ho.1.1.1.2, c1, c2, hbf]; simp [cnt, SL.er, Pr.noHd]
 ·rw [if_neg (by omega), if_neg (by omega), if_neg (by omega), if_neg (by omega), if_neg (by omega), if_pos hk] at ho
  simp only [Bool.and_eq_true, Bool.not_eq_true'] at ho
  rw [if_neg (by rw [hj.is_no (s := ⟨#[59]⟩) (by rw [g]; decide)]; decide), if_neg (by rw [hj.is_no (s := ⟨#[123]⟩) (by rw [g]; decide)]; decide), if_neg (by rw [hj.is_no (s := ⟨#[102, 114, 101, 101]⟩) (by rw [g]; decide)]; decide), if_neg (by rw [hj.is_no (s := ⟨#[105, 102]⟩) (by rw [g]; decide)]; decide), if_pos (hj.is_yes g)]
  obtain rfl := nil_of ho.1.2
  unfold stK at hj
  rw [if_neg (by omega), if_neg (by omega), if_neg (by omega), if_neg (by omega), if_neg (by omega), if_pos hk] at hj
  obtain ⟨c1, c2⟩ := noCall_er ho.1.1.2
  unfold Pr.loop
  refine (must_bk hj rfl).th fun m hm => ?_
  refine (held_bk ho.1.1.1.2 hm).th fun m hm => ?_
  refine (block_bk (hT (by omega)) hm (hoo (by omega))).th fun m hm => ⟨m, ?_, hm⟩
  unfold Hd.er
  rw [hk, noP_er ho.1.1.1.1.1, noVal_er ho.1.1.1.1.2, c1, c2, ho.2]; simp [cnt, SL.er, Pr.noHd]
 ·rw [if_neg (by omega), if_neg (by omega), if_neg (by omega), if_neg (by omega), if_neg (by omega), if_neg (by omega), if_pos hk] at ho
  simp only [Bool.and_eq_true, Bool.not_eq_true'] at ho
  rw [if_neg (by rw [hj.is_no (s := ⟨#[59]⟩) (by rw [g]; decide)]; decide), if_pos (hj.is_yes g)]
  obtain rfl := nil_of ho.1.2
  unfold stK at hj
  rw [if_neg (by omega), if_neg (by omega), if_neg (by omega), if_neg (by omega), if_neg (by omega), if_neg (by omega)] at hj
  obtain ⟨c1, c2⟩ := noCall_er ho.1.1.2
  refine (block_bk (hT (by omega)) hj (hoo (by omega))).th fun m hm => ⟨m, ?_, hm⟩
  unfold Hd.er
  rw [hk, noP_er ho.1.1.1.1.1, noVal_er ho.1.1.1.1.2, noCond_er ho.1.1.1.2, c1, c2, ho.2]; simp [cnt, SL.er, Pr.noHd]
end
end Pn
end Go.Proofs.YtdlchhimkelinaaGreatDoor
namespace Go.Proofs.YtdlchhimkelinaaGreatDoor
namespace Pn
open Pr (th St Res)
section
variable {t : List Pr.Tk}
theorem lines_hd {l : SL} (ho : okList l = true) {q : List K} (hq : hd q ≠ tElse) : hd (linesK l ++ q) ≠ tElse := by
 cases l with
 | nil => exact hq
 | cons h tp tc T ep ec E R =>
  simp only [okList, Bool.and_eq_true] at ho
  show hd (stK h (linesK T) (linesK E) (linesK R) ++ q) ≠ tElse
  rw [stK_app]
  rcases st_hd ho.1.1.1 (linesK T) (linesK E) (linesK R ++ q) with ⟨_, g, _⟩ | ⟨_, g0, g, _⟩ | ⟨_, g, _⟩ | ⟨_, g0, g, _⟩ | ⟨_, g, _⟩ | ⟨_, g, _⟩ | ⟨_, g, _⟩
  ·rw [g]; decide
  ·rw [g]; exact okN_ne g0 (.inl (by decide))
  ·rw [g]; decide
  ·rw [g]; exact okN_ne g0 (.inl (by decide))
  ·rw [g]; decide
  ·rw [g]; decide
  ·rw [g]; decide
theorem stmts_bk : ∀ (l : SL) (n i : Nat) (o b : Int) (q : List K), okList l = true → fu l ≤ n → b + cnt l ≤ 400 → o + dp l ≤ 20 → Rs t i (linesK l ++ mk [125] :: q) → Bk t (Pr.stmts t n ⟨i, o, b⟩) l.er o (b + cnt l) (mk [125] :: q)
 | .nil, 0, _, _, _, _, _, hn, _, _, _ => absurd hn (by simp [fu])
 | .nil, n + 1, i, o, b, q, _, _, _, _, h => by
  unfold Pr.stmts
  have h1 : Rs t i (mk [125] :: q) := h
  rw [if_neg (by rw [begins_no h1]; decide)]
  exact ⟨i, by simp [cnt, SL.er], h1⟩
 | .cons hh tp tc T ep ec E R, 0, _, _, _, _, _, hn, _, _, _ => absurd hn (by simp only [fu]; omega)
 | .cons hh tp tc T ep ec E R, n + 1, i, o, b, q, ho, hn, hb, hdp, h => by
  simp only [okList, Bool.and_eq_true] at ho
  simp only [fu] at hn
  simp only [cnt] at hb
  simp only [dp] at hdp
  have cT := cnt_nn T; have cE := cnt_nn E; have cR := cnt_nn R
  have dT := dp_nn T; have dE := dp_nn E; have dR := dp_nn R
  have h1 : Rs t i (stK hh (linesK T) (linesK E) (linesK R ++ mk [125] :: q)) := by
   have h2 : Rs t i (stK hh (linesK T) (linesK E) (linesK R) ++ mk [125] :: q) := h
   rwa [stK_app] at h2
  have hd4 : 4 ≤ hh.kind → o + 1 + dp T ≤ 20 ∧ o + 1 + dp E ≤ 20 := fun h4 => by
   rw [if_pos h4] at hdp; omega
  unfold Pr.stmts
  rw [if_pos (begins_bk ho.1.1.1 h1)]
  refine (stmt_bk ho.1.1.1 (fun h4 i q hq => stmts_bk T n i (o + 1) (b + 1) q ho.1.1.2 (by omega) (by omega) (hd4 h4).1 hq)
   (fun h4 i q hq => stmts_bk E n i (o + 1) (b + 1 + cnt T) q ho.1.2 (by omega) (by omega) (hd4 (by omega)).2 hq) (by omega) (fun h4 => by have := hd4 h4; omega) (lines_hd ho.2 (by show ([125] : List UInt8) ≠ _; decide)) h1).th fun j hj => ?_
  refine (stmts_bk R n j o (b + 1 + cnt T + cnt E) q ho.2 (by omega) (by omega) (by omega) hj).th fun m hm => ⟨m, ?_, hm⟩
  simp only [cnt, SL.er, Hd.er]
  rw [show b + (1 + cnt T + cnt E + cnt R) = b + 1 + cnt T + cnt E + cnt R by omega]
/-- The fuel that a reading has is enough. -/
theorem stK_len (h : Hd) (a e k : List K) : k.length + 1 ≤ (stK h a e k).length ∧ (4 ≤ h.kind → a.length + k.length + 2 ≤ (stK h a e k).length) ∧ (h.kind = 4 → h.both = true → e.length + k.length + 2 ≤ (stK h a e k).length) := by
 unfold stK
 split
 ·exact ⟨by simp, fun _ => by omega, fun _ => by omega⟩
 split
 ·exact ⟨by simp; omega, fun _ => by omega, fun _ => by omega⟩
 split
 ·exact ⟨by simp; omega, fun _ => by omega, fun _ => by omega⟩
 split
 ·exact ⟨by simp; omega, fun _ => by omega, fun _ => by omega⟩
 split
 ·split
  ·rename_i hb
   exact ⟨by simp; omega, fun _ => by simp; omega, fun _ _ => by simp; omega⟩
  ·rename_i hb
   exact ⟨by simp; omega, fun _ => by simp; omega, fun _ hb' => absurd hb' hb⟩
 split
 ·exact ⟨by simp; omega, fun _ => by simp; omega, fun _ => by omega⟩
 ·exact ⟨by simp; omega, fun _ => by simp; omega, fun _ => by omega⟩
theorem ok_nils {h : Hd} {T E : SL} (ho : okStmt h (isNil T) (isNil E) = true) : (4 ≤ h.kind ∨ T = .nil) ∧ ((h.kind = 4 ∧ h.both = true) ∨ E = .nil) := by
 unfold okStmt at ho
 by_cases h0 : h.kind = 0
 ·rw [if_pos h0] at ho; simp only [Bool.and_eq_true] at ho; exact ⟨.inr (nil_of ho.1.1.2), .inr (nil_of ho.1.2)⟩
 by_cases h1 : h.kind = 1
 ·rw [if_neg h0, if_pos h1] at ho; simp only [Bool.and_eq_true] at ho; exact ⟨.inr (nil_of ho.1.1.2), .inr (nil_of ho.1.2)⟩
 by_cases h2 : h.kind = 2
 ·rw [if_neg h0, if_neg h1, if_pos h2] at ho; simp only [Bool.and_eq_true] at ho; exact ⟨.inr (nil_of ho.1.1.2), .inr (nil_of ho.1.2)⟩
 by_cases h3 : h.kind = 3
 ·rw [if_neg h0, if_neg h1, if_neg h2, if_pos h3] at ho; simp only [Bool.and_eq_true] at ho; exact ⟨.inr (nil_of ho.1.1.2), .inr (nil_of ho.1.2)⟩
 by_cases h4 : h.kind = 4
 ·rw [if_neg h0, if_neg h1, if_neg h2, if_neg h3, if_pos h4] at ho
  simp only [Bool.and_eq_true, Bool.or_eq_true] at ho
  exact ⟨.inl (by omega), ho.2.elim (fun hb => .inl ⟨h4, hb⟩) fun he => .inr (nil_of he)⟩
 by_cases h5 : h.kind = 5
 ·rw [if_neg h0, if_neg h1, if_neg h2, if_neg h3, if_neg h4, if_pos h5] at ho
  simp only [Bool.and_eq_true] at ho
  exact ⟨.inl (by omega), .inr (nil_of ho.1.2)⟩
 by_cases h6 : h.kind = 6
 ·rw [if_neg h0, if_neg h1, if_neg h2, if_neg h3, if_neg h4, if_neg h5, if_pos h6] at ho
  simp only [Bool.and_eq_true] at ho
  exact ⟨.inl (by omega), .inr (nil_of ho.1.2)⟩
 rw [if_neg h0, if_neg h1, if_neg h2, if_neg h3, if_neg h4, if_neg h5, if_neg h6] at ho
 cases ho
theorem fu_len : ∀ l : SL, okList l = true → fu l ≤ (linesK l).length + 1
 | .nil, _ => Nat.le_refl _
 | .cons h tp tc T ep ec E R, ho => by
  simp only [okList, Bool.and_eq_true] at ho
  have fT := fu_len T ho.1.1.2
  have fE := fu_len E ho.1.2
  have fR := fu_len R ho.2
  obtain ⟨s1, s2, s3⟩ := stK_len h (linesK T) (linesK E) (linesK R)
  obtain ⟨n1, n2⟩ := ok_nils ho.1.1.1
  simp only [fu, linesK]
  have t1 : fu T ≤ (stK h (linesK T) (linesK E) (linesK R)).length := by
   rcases n1 with n1 | n1
   ·have := s2 n1; omega
   ·rw [n1]; show 1 ≤ _; rw [n1] at s1; omega
  have e1 : fu E ≤ (stK h (linesK T) (linesK E) (linesK R)).length := by
   rcases n2 with n2 | n2
   ·have := s3 n2.1 n2.2; omega
   ·rw [n2]; show 1 ≤ _; rw [n2] at s1; omega
  omega
/- Programs. -/
theorem lines_nodecl {l : SL} (ho : okList l = true) (q : List K) : NoDecl (linesK l ++ mk [125] :: q) := by
 cases l with
 | nil => exact ⟨by show ([125] : List UInt8) ≠ _; decide, .inl (by show ¬ (4 : Int) = 1; decide)⟩
 | cons h tp tc T ep ec E R =>
  simp only [okList, Bool.and_eq_true] at ho
  show NoDecl (stK h (linesK T) (linesK E) (linesK R) ++ mk [125] :: q)
  rw [stK_app]
  unfold NoDecl
  rcases st_hd ho.1.1.1 (linesK T) (linesK E) (linesK R ++ mk [125] :: q) with ⟨_, g, k⟩ | ⟨_, g0, g, k, u⟩ | ⟨_, g, k⟩ | ⟨_, g0, g, k, u⟩ | ⟨_, g, k⟩ | ⟨_, g, k⟩ | ⟨_, g, k⟩
  ·rw [g, k]; exact ⟨by decide, .inl (by decide)⟩
  ·rw [g]; refine ⟨okN_ne g0 (.inl (by decide)), .inr ?_⟩; rcases u with u | u <;> rw [u] <;> decide
  ·rw [g, k]; exact ⟨by decide, .inl (by decide)⟩
  ·rw [g, u]; exact ⟨okN_ne g0 (.inl (by decide)), .inr (by decide)⟩
  ·rw [g, k]; exact ⟨by decide, .inl (by decide)⟩
  ·rw [g, k]; exact ⟨by decide, .inl (by decide)⟩
  ·rw [g, k]; exact ⟨by decide, .inl (by decide)⟩
theorem struct_bk {x : Sr} {i : Nat} {o b : Int} {r : List K} (ho : okStruct x = true) (h : Rs t i (ky tStruct :: nm x.name :: mk [123] :: fieldsK x.fields.l (mk [125] :: r))) : Bk t (Pr.structure_ t ⟨i, o, b⟩) x.er o b r := by
 unfold okStruct at ho
 simp only [Bool.and_eq_true] at ho
 unfold Pr.structure_
 refine (must_bk h rfl).th fun j hj => ?_
 refine (name_bk hj).th fun m hm => ?_
 refine (must_bk hm rfl).th fun n hn => ?_
 have hl := hn.len
 have := fields_len x.fields.l (mk [125] :: r)
 refine (fields_bk x.fields.l _ [] n ho.2 (by omega) hn).th fun k hk => ⟨k, ?_, hk⟩
 rw [nm_text]; rfl
theorem decl_hd {d : Dc} (ho : okDecl d = true) {a : List UInt8} (ha : Tx.isKeyL a = true) (h2 : a ≠ tInt) (r : List K) : hd (declK d ++ r) ≠ a := by
 unfold okDecl at ho
 simp only [Bool.and_eq_true, Bool.or_eq_true, decide_eq_true_eq] at ho
 unfold declK
 by_cases h0 : txt d.type = []
 ·rw [if_pos h0]; exact fun e => h2 e.symm
 ·rw [if_neg h0]; exact okN_ne (ho.2.resolve_left h0) (.inl ha)
theorem decl_hd1 {d : Dc} (ho : okDecl d = true) (r : List K) : hd (declK d ++ r) ≠ [41] := by
 unfold okDecl at ho
 simp only [Bool.and_eq_true, Bool.or_eq_true, decide_eq_true_eq] at ho
 unfold declK
 by_cases h0 : txt d.type = []
 ·rw [if_pos h0]; show tInt ≠ _; decide
 ·rw [if_neg h0]; exact okN_ne (ho.2.resolve_left h0) (.inr (notword (by rfl) _))
theorem decl_kd {d : Dc} (r : List K) : kd (declK d ++ r) ≠ 0 := by
 unfold declK; split
 ·show ¬ (3 : Int) = 0; decide
 ·show ¬ (1 : Int) = 0; decide
theorem proc_bk {x : Pc} {i : Nat} {o b : Int} {r : List K} (ho : okProc x = true) (hb : b + cnt x.body ≤ 400) (hdp : o + dp x.body ≤ 20)
  (h : Rs t i (ky tVoid :: nm x.name :: mk [40] :: (commaK declK x.params.l ++ mk [41] :: mk [123] :: fieldsK x.locals_.l (linesK x.body ++ mk [125] :: r)))) : Bk t (Pr.proc t ⟨i, o, b⟩) x.er o (b + cnt x.body) r := by
 unfold okProc at ho
 simp only [Bool.and_eq_true] at ho
 unfold Pr.proc
 refine (must_bk h rfl).th fun j hj => ?_
 refine (name_bk hj).th fun m hm => ?_
 refine (listed_bk (e := Dc.er) x.params.l (fun d hd i q hq _ => variable_bk (List.all_eq_true.1 ho.1.1.2 d hd) hq) (fun d hd q => decl_hd1 (List.all_eq_true.1 ho.1.1.2 d hd) q) hm).th fun n hn => ?_
 refine (must_bk hn rfl).th fun k hk => ?_
 have hl := hk.len
 have := fields_len x.locals_.l (linesK x.body ++ mk [125] :: r)
 refine (locals_bk (lines_nodecl ho.2 r) x.locals_.l _ [] k ho.1.2 (by omega) hk).th fun y hy => ?_
 have hl2 := hy.len
 have hf := fu_len x.body ho.2
 rw [List.length_append] at hl2
 refine (stmts_bk x.body (t.length + 1) y o b r ho.2 (by omega) hb hdp hy).th fun z hz => ?_
 refine (must_bk hz rfl).th fun v hv => ⟨v, ?_, hv⟩
 rw [nm_text]; rfl
def cntP : List Pc → Int
 | [] => 0
 | x :: l => cnt x.body + cntP l
theorem cntP_nn : ∀ l : List Pc, 0 ≤ cntP l
 | [] => Int.le_refl _
 | x :: l => by have := cnt_nn x.body; have := cntP_nn l; simp only [cntP]; omega
def endK : List K := [(0, [], 0)]
theorem prog_procs {ss : List Sr} {gs : List Dc} : ∀ (l : List Pc) (n : Nat) (ps : List Pc) (i : Nat) (b : Int), l.all okProc = true → (∀ p ∈ l, dp p.body ≤ 20) → b + cntP l ≤ 400 → l.length < n → Rs t i (procsK l ++ endK) →
  Bk t (Pr.program t n ss gs ps ⟨i, 0, b⟩) ⟨⟨none, 0, ss⟩, ⟨none, 0, gs⟩, ⟨none, 0, ps ++ l.map Pc.er⟩⟩ 0 (b + cntP l) endK
 | [], 0, _, _, _, _, _, _, hn, _ => absurd hn (by simp)
 | [], n + 1, ps, i, b, _, _, _, _, h => by
  unfold Pr.program
  have h1 : Rs t i endK := h
  have hk : (Pr.sg t i).kind = 0 := h1.kind
  rw [if_pos hk]
  exact ⟨i, by simp [cntP], h1⟩
 | x :: l, 0, _, _, _, _, _, _, hn, _ => absurd hn (by simp)
 | x :: l, n + 1, ps, i, b, ho, hd20, hb, hn, h => by
  simp only [List.all_cons, Bool.and_eq_true] at ho
  simp only [cntP] at hb
  have := cntP_nn l
  have h1 : Rs t i (ky tVoid :: nm x.name :: mk [40] :: (commaK declK x.params.l ++ mk [41] :: mk [123] :: fieldsK x.locals_.l (linesK x.body ++ mk [125] :: (procsK l ++ endK)))) := by
   have e : ∀ (l : List Dc) (k q : List K), fieldsK l k ++ q = fieldsK l (k ++ q) := by
    intro l k q; induction l with
    | nil => rfl
    | cons y l ih => simp only [fieldsK, List.append_assoc, List.cons_append, ih]
   have h2 := h
   simp only [procsK, List.cons_append, List.append_assoc, e] at h2
   exact h2
  unfold Pr.program
  have hk : (Pr.sg t i).kind = 3 := h1.kind
  rw [if_neg (by show ¬ (Pr.sg t i).kind = 0; rw [hk]; decide), if_neg (by rw [h1.no (s := ⟨#[115, 116, 114, 117, 99, 116]⟩) (by decide)]; decide), if_pos (h1.is_yes rfl)]
  refine (proc_bk ho.1 (by omega) (by have := hd20 x List.mem_cons_self; omega) h1).th fun j hj => ?_
  obtain ⟨m, e1, e2⟩ := prog_procs (ss := ss) (gs := gs) l n (ps ++ [x.er]) j (b + cnt x.body) ho.2 (fun p hp => hd20 p (List.mem_cons_of_mem _ hp)) (by omega) (by simpa using hn) hj
  refine ⟨m, ?_, e2⟩
  rw [e1]
  simp only [cntP, List.map_cons, List.append_assoc, List.singleton_append]
  rw [show b + (cnt x.body + cntP l) = b + cnt x.body + cntP l by omega]
theorem fieldsK_app : ∀ (l : List Dc) (k q : List K), fieldsK l k ++ q = fieldsK l (k ++ q)
 | [], k, q => rfl
 | y :: l, k, q => by simp only [fieldsK, List.append_assoc, List.cons_append, fieldsK_app l k q]
theorem prog_globals {ss : List Sr} {ps : List Pc} (hps : ps.all okProc = true) (hd20 : ∀ p ∈ ps, dp p.body ≤ 20) (hb : cntP ps ≤ 400) : ∀ (l : List Dc) (n : Nat) (gs : List Dc) (i : Nat), l.all okDecl = true → l.length + ps.length < n → Rs t i (fieldsK l (procsK ps ++ endK)) →
  Bk t (Pr.program t n ss gs [] ⟨i, 0, 0⟩) ⟨⟨none, 0, ss⟩, ⟨none, 0, gs ++ l.map Dc.er⟩, ⟨none, 0, ps.map Pc.er⟩⟩ 0 (cntP ps) endK
 | [], n, gs, i, _, hn, h => by
  have := prog_procs (t := t) (ss := ss) (gs := gs) ps n [] i 0 hps hd20 (by omega) (by simpa using hn) h
  simpa using this
 | x :: l, 0, _, _, _, hn, _ => absurd hn (by simp)
 | x :: l, n + 1, gs, i, ho, hn, h => by
  simp only [List.all_cons, Bool.and_eq_true] at ho
  have h1 : Rs t i (declK x ++ mk [59] :: fieldsK l (procsK ps ++ endK)) := h
  unfold Pr.program
  rw [if_neg (by show ¬ (Pr.sg t i).kind = 0; rw [h1.kind]; exact decl_kd _), if_neg (by rw [h1.is_no (s := ⟨#[115, 116, 114, 117, 99, 116]⟩) (decl_hd ho.1 (by decide) (by decide) _)]; decide), if_neg (by rw [h1.is_no (s := ⟨#[118, 111, 105, 100]⟩) (decl_hd ho.1 (by decide) (by decide) _)]; decide)]
  refine (decl_bk ho.1 h1).th fun j hj => ?_
  have := prog_globals (ss := ss) hps hd20 hb l n (gs ++ [x.er]) j ho.2 (by simp at hn; omega) hj
  rwa [List.append_assoc] at this
theorem prog_structs {gs : List Dc} {ps : List Pc} (hgs : gs.all okDecl = true) (hps : ps.all okProc = true) (hd20 : ∀ p ∈ ps, dp p.body ≤ 20) (hb : cntP ps ≤ 400) : ∀ (l : List Sr) (n : Nat) (ss : List Sr) (i : Nat), l.all okStruct = true → l.length + gs.length + ps.length < n → Rs t i (structsK l (fieldsK gs (procsK ps ++ endK))) →
  Bk t (Pr.program t n ss [] [] ⟨i, 0, 0⟩) ⟨⟨none, 0, ss ++ l.map Sr.er⟩, ⟨none, 0, gs.map Dc.er⟩, ⟨none, 0, ps.map Pc.er⟩⟩ 0 (cntP ps) endK
 | [], n, ss, i, _, hn, h => by
  have := prog_globals (t := t) (ss := ss) hps hd20 hb gs n [] i hgs (by simpa using hn) h
  simpa using this
 | x :: l, 0, _, _, _, hn, _ => absurd hn (by simp)
 | x :: l, n + 1, ss, i, ho, hn, h => by
  simp only [List.all_cons, Bool.and_eq_true] at ho
  have h1 : Rs t i (ky tStruct :: nm x.name :: mk [123] :: fieldsK x.fields.l (mk [125] :: structsK l (fieldsK gs (procsK ps ++ endK)))) := h
  unfold Pr.program
  have hk : (Pr.sg t i).kind = 3 := h1.kind
  rw [if_neg (by show ¬ (Pr.sg t i).kind = 0; rw [hk]; decide), if_pos (h1.is_yes rfl)]
  refine (struct_bk ho.1 h1).th fun j hj => ?_
  have := prog_structs hgs hps hd20 hb l n (ss ++ [x.er]) j ho.2 (by simp at hn; omega) hj
  rwa [List.append_assoc] at this
end
/-- Is a program as a text's is? -/
def right (p : Pg) : Bool := okProg p && p.procs.l.all (fun q => decide (dp q.body ≤ 20)) && decide (cntP p.procs.l ≤ 400)
theorem structsK_app : ∀ (l : List Sr) (k q : List K), structsK l k ++ q = structsK l (k ++ q)
 | [], k, q => rfl
 | y :: l, k, q => by simp only [structsK, List.cons_append, fieldsK_app, structsK_app l k q]
theorem structs_len : ∀ (l : List Sr) (k : List K), l.length + k.length ≤ (structsK l k).length
 | [], k => by simp [structsK]
 | x :: l, k => by
  have h1 := structs_len l k
  have h2 : ∀ (l : List Dc) (k : List K), k.length ≤ (fieldsK l k).length := by
   intro l k; induction l with
   | nil => exact Nat.le_refl _
   | cons y l ih => simp only [fieldsK, List.length_append, List.length_cons]; omega
  have h3 := h2 x.fields.l (mk [125] :: structsK l k)
  simp only [structsK, List.length_cons] at h3 ⊢; omega
theorem fieldsK_len : ∀ (l : List Dc) (k : List K), l.length + k.length ≤ (fieldsK l k).length
 | [], k => by simp [fieldsK]
 | y :: l, k => by have := fieldsK_len l k; simp only [fieldsK, List.length_append, List.length_cons]; omega
theorem procsK_len : ∀ l : List Pc, l.length ≤ (procsK l).length
 | [] => Nat.le_refl _
 | x :: l => by
  have h1 := procsK_len l
  have h3 := fieldsK_len x.locals_.l (linesK x.body ++ mk [125] :: procsK l)
  simp only [procsK, List.length_cons, List.length_append] at h3 ⊢; omega
end Pn
end Go.Proofs.YtdlchhimkelinaaGreatDoor
namespace Go.Proofs.YtdlchhimkelinaaGreatDoor
namespace Pn
theorem hopsT_er : ∀ l : List Hp, hopsT (l.map Hp.er) = hopsT l
 | [] => rfl
 | h :: l => by simp only [List.map_cons, hopsT, hopsT_er l]; rfl
theorem pathT_er (w : Pth) : pathT w.er = pathT w := by unfold pathT; show _ ++ hopsT (w.hops.l.map Hp.er) = _; rw [hopsT_er]; rfl
theorem okPath_er (w : Pth) : okPath w.er = okPath w := by
 unfold okPath
 show (okN w.name && decide ((w.hops.l.map Hp.er).length ≤ 8) && (w.hops.l.map Hp.er).all fun h => okN h.name) = _
 rw [List.length_map, List.all_map]; rfl
theorem noP_er' (w : Pth) : noP w.er = noP w := by
 unfold noP
 show (decide (txt w.name = []) && decide (w.hops.l.map Hp.er = [])) = _
 simp only [List.map_eq_nil_iff]
theorem valT_er (v : Vl) : valT v.er = valT v := by
 unfold valT
 show (if v.kind = 0 then tNull else if v.kind = 1 then pathT v.path.er else _) = _
 rw [pathT_er]; rfl
theorem okVal_er (v : Vl) : okVal v.er = okVal v := by
 unfold okVal
 show (if v.kind = 0 ∨ v.kind = 3 then noP v.path.er && _ && _ && _ else if v.kind = 1 then _ && _ && _ && okPath v.path.er else if v.kind = 2 then noP v.path.er && _ && _ && _ else if v.kind = 4 then noP v.path.er && _ && _ && _ && _ else if v.kind = 5 ∨ v.kind = 6 then noP v.path.er && _ && _ && _ else false) = _
 rw [noP_er', okPath_er]; rfl
theorem okSide_er (v : Vl) : okSide v.er = okSide v := by unfold okSide; rw [okVal_er]; rfl
theorem noVal_er' (v : Vl) : noVal v.er = noVal v := by unfold noVal; rw [okVal_er]; rfl
theorem condT_er (c : Cd) : condT c.er = condT c := by
 unfold condT
 show (if c.kind = 0 then _ else valT c.left.er ++ _ ++ _ ++ _ ++ valT c.right.er) = _
 rw [valT_er, valT_er]; rfl
theorem noCond_er' (c : Cd) : noCond c.er = noCond c := by
 unfold noCond
 show (_ && noVal c.left.er && noVal c.right.er) = _
 rw [noVal_er', noVal_er']; rfl
theorem okCond_er (c : Cd) : okCond c.er = okCond c := by
 unfold okCond
 rw [noCond_er']
 show (if c.kind = 0 then _ else _ && _ && okSide c.left.er && okSide c.right.er) = _
 rw [okSide_er, okSide_er]; rfl
theorem commaT_er {α : Type} {f : α → List UInt8} {e : α → α} (h : ∀ a, f (e a) = f a) : ∀ l : List α, commaT f (l.map e) = commaT f l
 | [] => rfl
 | [a] => h a
 | a :: b :: l => by
  have := commaT_er h (b :: l)
  simp only [List.map_cons] at this ⊢
  simp only [commaT, this, h a]
theorem stT_er (h : Hd) (t e : List UInt8) (d : Nat) (k : List UInt8) : stT h.er t e d k = stT h t e d k := by
 unfold stT
 show (if h.kind = 0 then _ else if h.kind = 1 then pathT h.place.er ++ 32 :: 61 :: 32 :: (valT h.value.er ++ _) else if h.kind = 2 then tFree ++ 40 :: (pathT h.place.er ++ _) else if h.kind = 3 then txt h.name ++ 40 :: (commaT valT (h.args.l.map Vl.er) ++ _) else if h.kind = 4 then tIf ++ 32 :: 40 :: (condT h.cond.er ++ _) else if h.kind = 5 then tWhile ++ 32 :: 40 :: (condT h.cond.er ++ _) else _) = _
 rw [pathT_er, valT_er, commaT_er valT_er, condT_er]; rfl
theorem linesT_er : ∀ (l : SL) (d : Nat), linesT l.er d = linesT l d
 | .nil, _ => rfl
 | .cons h _ _ t _ _ e r, d => by simp only [SL.er, linesT, stT_er, linesT_er t, linesT_er e, linesT_er r]
theorem noCall_er' (h : Hd) : noCall h.er = noCall h := by
 unfold noCall
 show (decide (txt h.name = []) && decide (h.args.l.map Vl.er = [])) = _
 simp only [List.map_eq_nil_iff]
theorem all_er {α : Type} {f : α → Bool} {e : α → α} (h : ∀ a, f (e a) = f a) (l : List α) : (l.map e).all f = l.all f := by
 rw [List.all_map]; congr 1; funext a; exact h a
theorem okStmt_er (h : Hd) (t0 e0 : Bool) : okStmt h.er t0 e0 = okStmt h t0 e0 := by
 unfold okStmt
 rw [noCall_er']
 show (if h.kind = 0 then noP h.place.er && noVal h.value.er && noCond h.cond.er && _ && _ && _ && _ else if h.kind = 1 then okPath h.place.er && okVal h.value.er && noCond h.cond.er && _ && _ && _ && _ else if h.kind = 2 then okPath h.place.er && noVal h.value.er && noCond h.cond.er && _ && _ && _ && _
  else if h.kind = 3 then (h.args.l.map Vl.er).all okSide && noP h.place.er && noVal h.value.er && noCond h.cond.er && _ && _ && _ && _ else if h.kind = 4 then noP h.place.er && noVal h.value.er && okCond h.cond.er && _ && _ else if h.kind = 5 then noP h.place.er && noVal h.value.er && okCond h.cond.er && _ && _ && _ else if h.kind = 6 then noP h.place.er && noVal h.value.er && noCond h.cond.er && _ && _ && _ else false) = _
 rw [noP_er', noVal_er', noCond_er', okPath_er, okVal_er, okCond_er, all_er okSide_er]; rfl
theorem isNil_er (l : SL) : isNil l.er = isNil l := by cases l <;> rfl
theorem okList_er : ∀ l : SL, okList l.er = okList l
 | .nil => rfl
 | .cons h _ _ t _ _ e r => by simp only [SL.er, okList, okStmt_er, isNil_er, okList_er t, okList_er e, okList_er r]
theorem cnt_er : ∀ l : SL, cnt l.er = cnt l
 | .nil => rfl
 | .cons h _ _ t _ _ e r => by simp only [SL.er, cnt, cnt_er t, cnt_er e, cnt_er r]
theorem dp_er : ∀ l : SL, dp l.er = dp l
 | .nil => rfl
 | .cons h _ _ t _ _ e r => by simp only [SL.er, dp, dp_er t, dp_er e, dp_er r, Hd.er]
theorem declT_er (d : Dc) : declT d.er = declT d := rfl
theorem okDecl_er (d : Dc) : okDecl d.er = okDecl d := rfl
theorem fieldsT_er (n : Nat) (k : List UInt8) : ∀ l : List Dc, fieldsT n (l.map Dc.er) k = fieldsT n l k
 | [] => rfl
 | x :: l => by simp only [List.map_cons, fieldsT, fieldsT_er n k l]; rfl
theorem structsT_er (k : List UInt8) : ∀ l : List Sr, structsT (l.map Sr.er) k = structsT l k
 | [] => rfl
 | x :: l => by
  simp only [List.map_cons, structsT, structsT_er k l]
  show tStruct ++ 32 :: (txt x.name ++ 32 :: 123 :: 10 :: fieldsT 1 (x.fields.l.map Dc.er) _) = _
  rw [fieldsT_er]
theorem procsT_er : ∀ l : List Pc, procsT (l.map Pc.er) = procsT l
 | [] => rfl
 | x :: l => by
  simp only [List.map_cons, procsT, procsT_er l]
  show tVoid ++ 32 :: (txt x.name ++ 40 :: (commaT declT (x.params.l.map Dc.er) ++ 41 :: 32 :: 123 :: 10 :: fieldsT 1 (x.locals_.l.map Dc.er) (linesT x.body.er 1 ++ _))) = _
  rw [commaT_er declT_er, fieldsT_er, linesT_er]
theorem progT_er (p : Pg) : progT p.er = progT p := by
 unfold progT
 show structsT (p.structs.l.map Sr.er) (fieldsT 0 (p.globals.l.map Dc.er) (procsT (p.procs.l.map Pc.er))) = _
 rw [structsT_er, fieldsT_er, procsT_er]
theorem okStruct_er (x : Sr) : okStruct x.er = okStruct x := by
 unfold okStruct
 show (okN x.name && (x.fields.l.map Dc.er).all okField) = _
 rw [all_er (f := okField) (e := Dc.er) (fun _ => rfl)]
theorem okProc_er (x : Pc) : okProc x.er = okProc x := by
 unfold okProc
 show (okN x.name && (x.params.l.map Dc.er).all okDecl && (x.locals_.l.map Dc.er).all okDecl && okList x.body.er) = _
 rw [all_er okDecl_er, all_er okDecl_er, okList_er]
theorem cntP_er : ∀ l : List Pc, cntP (l.map Pc.er) = cntP l
 | [] => rfl
 | x :: l => by simp only [List.map_cons, cntP, cntP_er l]; show cnt x.body.er + _ = _; rw [cnt_er]
theorem right_er (p : Pg) : right p.er = right p := by
 unfold right okProg
 show ((p.structs.l.map Sr.er).all okStruct && (p.globals.l.map Dc.er).all okDecl && (p.procs.l.map Pc.er).all okProc && (p.procs.l.map Pc.er).all (fun q => decide (dp q.body ≤ 20)) && decide (cntP (p.procs.l.map Pc.er) ≤ 400)) = _
 rw [all_er okStruct_er, all_er okDecl_er, all_er okProc_er, all_er (f := fun q : Pc => decide (dp q.body ≤ 20)) (e := Pc.er) (fun q => by show decide (dp q.body.er ≤ 20) = _; rw [dp_er]), cntP_er]
end Pn
end Go.Proofs.YtdlchhimkelinaaGreatDoor
namespace Go.Proofs.YtdlchhimkelinaaGreatDoor
open Go.RowKit Go.Sort
theorem okN_ne {y : ByteArray} (h : Pn.okN y = true) : (y.toList == []) = false := by
 rw [Bool.eq_false_iff]; intro e
 have e2 : Pn.txt y = [] := by rw [beq_iff_eq, Lib.toList_data] at e; exact e
 unfold Pn.okN at h
 rw [e2] at h
 cases h
end Go.Proofs.YtdlchhimkelinaaGreatDoor
