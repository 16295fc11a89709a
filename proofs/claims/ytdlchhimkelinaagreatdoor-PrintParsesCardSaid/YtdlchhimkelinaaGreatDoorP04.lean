/-
  Plain: memory that the parser makes: rows of one's own beside the parser's own block; structs stored whole. The walk of the parser's path. Laws: structs stored whole into a part of a block of one's own. The walk of the parser's side. The walk of the parser's value.
-/
import Derived.Test.YtdlchhimkelinaaGreatDoorP03
import Derived.Deep.AppendLies
import Derived.Deep.WholeRow
import Derived.Deep.RegionLaw
import Derived.Deep.LoopGhost
set_option maxHeartbeats 6400000
set_option maxRecDepth 100000
namespace Go.Proofs.YtdlchhimkelinaaGreatDoor
open Go.RowKit Go.Sort
theorem flat_at {α : Type} (f : α → List Value) (n : Nat) (hf : ∀ x, (f x).length = n) : ∀ (l : List α) (k : Nat) (x : α), l[k]? = some x → ∀ (j : Nat) (v : Value), (f x)[j]? = some v → (l.flatMap f)[k * n + j]? = some v
 | a :: l, 0, x, hx, j, v, hv => by
  simp only [List.getElem?_cons_zero, Option.some.injEq] at hx
  subst hx
  rw [List.flatMap_cons, Nat.zero_mul, Nat.zero_add, List.getElem?_append_left (List.getElem?_eq_some_iff.1 hv).1]; exact hv
 | a :: l, k + 1, x, hx, j, v, hv => by
  rw [List.getElem?_cons_succ] at hx
  rw [List.flatMap_cons, List.getElem?_append_right (by rw [hf]; rw [Nat.add_mul]; omega), hf, show (k + 1) * n + j - n = k * n + j by rw [Nat.add_mul]; omega]
  exact flat_at f n hf l k x hx j v hv
 | [], k, x, hx, _, _, _ => by simp at hx
theorem flat_len {α : Type} (f : α → List Value) (n : Nat) (hf : ∀ x, (f x).length = n) : ∀ (l : List α), (l.flatMap f).length = l.length * n
 | [] => by simp
 | a :: l => by rw [List.flatMap_cons, List.length_append, hf, flat_len f n hf l, List.length_cons, Nat.add_mul]; omega
/-- What a row of one's own holds lies in the new memory. -/
theorem own_lies {α : Type} {w : World} {B : Nat} {e : TypeId} {n : Nat} {v : Value} {l : List α} {f : α → List Value} (hf : ∀ x, (f x).length = n) (h : w.ownsRow B e n v l.length (l.flatMap f)) :
  ∃ (p : Option Addr) (c : Nat), v = .slice p l.length c ∧ (l = [] ∨ ∃ b o, p = some ⟨b, o, none⟩ ∧ B ≤ b ∧ v.ownBlock = some b ∧ ∀ k x, l[k]? = some x → (fresh B w).rangeAt b (o + k * n) (f x)) := by
 rcases h.2 with ⟨rfl, h0⟩ | ⟨g, cap, cur, rfl, hg, hr⟩
 ·have hl : l = [] := List.length_eq_zero_iff.1 h0
  subst hl
  exact ⟨_, _, rfl, .inl rfl⟩
 ·refine ⟨_, _, rfl, .inr ⟨g, 0, rfl, hg, rfl, fun k x hx j u hu => ?_⟩⟩
  have hat := flat_at f n hf l k x hx j u hu
  have hlt := (List.getElem?_eq_some_iff.1 hat).1
  rw [flat_len f n hf] at hlt
  unfold fresh
  rw [mask_cell, if_neg (by simp; omega), Nat.zero_add, h.cellAt _ hlt]
  exact hat
/-! What lies beside the parser's own blocks. -/
/-- All but what was there, and one block. -/
def rest (B : Nat) (r : Option Nat) (w : World) : World := mask (fun b => decide (b < B) || decide (some b = r)) w
theorem rest_below {B : Nat} {r : Option Nat} {w w' : World} (h : Below w.heap.size w w') : Ext (rest B r w) (rest B r w') := Ext.of_mask fun b hb hlt => ⟨hb, h.block b hlt⟩
theorem rest_fresh {B : Nat} {r : Option Nat} {w : World} : Ext (rest B r w) (fresh B w) := Ext.of_mask fun b hb _ => by
 simp only [Bool.or_eq_false_iff, decide_eq_false_iff_not] at hb ⊢
 exact ⟨hb.1, trivial⟩
theorem rest_grown {B g : Nat} {v : Value} {w w' : World} (h : w.grownBy w' v.ownBlock) (hat : v.ownBlock = some g ∨ g = w.heap.size) : Ext (rest B v.ownBlock w) (rest B (some g) w') := Ext.of_mask fun b hb hlt => by
 simp only [Bool.or_eq_false_iff, decide_eq_false_iff_not] at hb ⊢
 refine ⟨⟨hb.1, ?_⟩, h.block b hlt hb.2⟩
 rcases hat with hat | hat
 ·rw [← hat]; exact hb.2
 ·intro e; injection e with e; omega
/-- An old block turns: what is new stays. -/
theorem rest_par {B g : Nat} {r : Option Nat} {w w' : World} (h : w.grownBy w' (some g)) (hg : g < B) : Ext (rest B r w) (rest B r w') := Ext.of_mask fun b hb hlt => by
 simp only [Bool.or_eq_false_iff, decide_eq_false_iff_not] at hb ⊢
 exact ⟨hb, h.block b hlt (by intro e; injection e with e; omega)⟩
theorem fresh_par {B g : Nat} {w w' : World} (h : w.grownBy w' (some g)) (hg : g < B) : Ext (fresh B w) (fresh B w') := Ext.of_mask fun b hb hlt => by
 simp only [decide_eq_false_iff_not] at hb ⊢
 exact ⟨hb, h.block b hlt (by intro e; injection e with e; omega)⟩
theorem fresh_rest {B B' : Nat} {r : Option Nat} {w : World} (hB : B' ≤ B) (hr : ∀ g, r = some g → g < B) : Ext (fresh B w) (rest B' r w) := Ext.of_mask fun b hb _ => by
 simp only [decide_eq_false_iff_not, Bool.or_eq_false_iff] at hb ⊢
 exact ⟨⟨by omega, by intro e; have := hr b e.symm; omega⟩, trivial⟩
/-! Rows of one's own. -/
theorem own_par {w w' : World} {B g : Nat} {e : TypeId} {k n : Nat} {v : Value} {xs : List Value} (h : w.ownsRow B e k v n xs) (hg : w.grownBy w' (some g)) (hB : g < B) : w'.ownsRow B e k v n xs :=
 h.kept hg (by
  cases hv : v.ownBlock with
  | none => exact .inl rfl
  | some b => right; intro e; injection e with e; have := (h.lt b hv).1; omega)
theorem own_keep {w w' : World} {B : Nat} {e : TypeId} {k n : Nat} {v : Value} {xs : List Value} (h : w.ownsRow B e k v n xs) (hb : Below w.heap.size w w') : w'.ownsRow B e k v n xs :=
 h.kept (grownBy_of hb none) (by
  cases hv : v.ownBlock with
  | none => exact .inl rfl
  | some b => right; intro e; cases e)
/-- What kind of items a list has. -/
structure Kd (α : Type) where
 T : TypeId
 size : Nat
 bytes : Nat
 cells : α → List Value
 er : α → α
 R : World → α → Prop
 len : ∀ x, (cells x).length = size
 one : ∀ x, (cells x).toArray.all (·.oneCell') = true
 ext : ∀ {w w' : World} (x : α), Ext w w' → R w x → R w' x
namespace Kd
variable {α : Type} (K : Kd α)
/-- A list lies in memory. -/
def Ly (w : World) (p : Option Addr) (l : List α) : Prop :=
 l.length * K.bytes ≤ 140737488351232 ∧ (l = [] ∨ ∃ b o, p = some ⟨b, o, none⟩ ∧ ∀ k x, l[k]? = some x → w.rangeAt b (o + k * K.size) (K.cells x) ∧ K.R w x)
/-- What a call hands back: something that lies in what is new since. -/
def Val (B : Nat) (w : World) (v : Value) (a : α) : Prop := ∃ y, v = .agg (K.cells y).toArray ∧ K.er y = a ∧ K.R (fresh B w) y
/-- Items that were read, in a row of one's own. -/
def Gr (B : Nat) (xs : List α) (v : Value) (w : World) : Prop :=
 ∃ ys : List α, ys.map K.er = xs ∧ w.ownsRow B K.T K.size v xs.length (ys.flatMap K.cells) ∧ ∀ y ∈ ys, K.R (rest B v.ownBlock w) y
theorem Gr.nil {B : Nat} {v : Value} {w : World} (h : w.ownsRow B K.T K.size v 0 []) : K.Gr B [] v w := ⟨[], rfl, h, by simp⟩
theorem Gr.below {K : Kd α} {B : Nat} {xs : List α} {v : Value} {w w' : World} (h : K.Gr B xs v w) (hb : Below w.heap.size w w') : K.Gr B xs v w' := by
 obtain ⟨ys, h1, h2, h3⟩ := h
 exact ⟨ys, h1, own_keep h2 hb, fun y hy => K.ext y (rest_below hb) (h3 y hy)⟩
theorem Gr.par {K : Kd α} {B g : Nat} {xs : List α} {v : Value} {w w' : World} (h : K.Gr B xs v w) (hg : w.grownBy w' (some g)) (hB : g < B) : K.Gr B xs v w' := by
 obtain ⟨ys, h1, h2, h3⟩ := h
 exact ⟨ys, h1, own_par h2 hg hB, fun y hy => K.ext y (rest_par hg hB) (h3 y hy)⟩
/-- One item more. -/
theorem add {B g cap : Nat} {xs : List α} {ys : List α} {v : Value} {w w1 : World} {y : α} (h1 : ys.map K.er = xs) (h3 : ∀ y ∈ ys, K.R (rest B v.ownBlock w) y)
  (hg : w.grownBy w1 v.ownBlock) (hat : v.ownBlock = some g ∨ g = w.heap.size)
  (ho : w1.ownsRow B K.T K.size (.slice (some ⟨g, 0, none⟩) (xs.length + 1) cap) (xs.length + 1) (ys.flatMap K.cells ++ K.cells y))
  (hR : K.R (rest B v.ownBlock w) y) : K.Gr B (xs ++ [K.er y]) (.slice (some ⟨g, 0, none⟩) (xs.length + 1) cap) w1 := by
 refine ⟨ys ++ [y], by rw [List.map_append, h1]; rfl, ?_, ?_⟩
 ·rw [List.flatMap_append, List.flatMap_singleton, List.length_append, List.length_singleton]; exact ho
 ·intro z hz
  rcases List.mem_append.1 hz with hz | hz
  ·exact K.ext z (rest_grown hg hat) (h3 z hz)
  ·rw [List.mem_singleton.1 hz]; exact K.ext y (rest_grown hg hat) hR
/-- All of them. -/
theorem fin {B : Nat} {xs : List α} {v : Value} {w : World} (hl : xs.length * K.bytes ≤ 140737488351232) (h : K.Gr B xs v w) :
  ∃ s : Sl α, v = .slice s.p s.l.length s.cap ∧ s.l.map K.er = xs ∧ K.Ly (fresh B w) s.p s.l := by
 obtain ⟨ys, h1, h2, h3⟩ := h
 subst h1
 rw [List.length_map] at h2 hl
 obtain ⟨p, c, rfl, hp⟩ := own_lies K.len h2
 refine ⟨⟨p, c, ys⟩, rfl, rfl, hl, ?_⟩
 rcases hp with hp | ⟨b, o, rfl, hB, _, hx⟩
 ·exact .inl hp
 ·exact .inr ⟨b, o, rfl, fun k x hk => ⟨hx k x hk, K.ext x rest_fresh (h3 x (List.mem_of_getElem? hk))⟩⟩
theorem Val.par {K : Kd α} {B g : Nat} {v : Value} {a : α} {w w' : World} (h : K.Val B w v a) (hg : w.grownBy w' (some g)) (hB : g < B) : K.Val B w' v a := by
 obtain ⟨y, h1, h2, h3⟩ := h
 exact ⟨y, h1, h2, K.ext y (fresh_par hg hB) h3⟩
end Kd
/-! Structs loaded and stored whole. -/
theorem Bk.setRow {w : World} {R : Nat} {t : TypeId} {old : Array Value} (h : Bk w R t old) (cs : Array Value) : Bk (w.setRow R cs) R t cs ∧ w.grownBy (w.setRow R cs) (some R) := by
 refine ⟨?_, ⟨rfl, rfl, rfl, by simp [World.setRow], fun i _ hne => ?_⟩⟩
 ·unfold Bk at h ⊢
  simp [World.setRow, Array.getElem?_modify, h]
 ·have hne' : ¬ R = i := fun e => hne (by rw [e])
  simp [World.setRow, Array.getElem?_modify, hne']
/-- A struct's value goes into a block of its size. -/
theorem wpList_store_bk {P : Program} {ops : Array Oper} {rest : List Oper} {op : Oper} {a : Act} {w : World} {Q : Exit → Act → World → Prop} (hgd : op.guard = none) (ty : TypeId) (x y : Operand) (ho : op.op = .store ty x y)
  (R : Nat) (t : TypeId) (old cs : Array Value) (hx : a.eval x = .pointer (some ⟨R, 0, none⟩)) (hy : a.eval y = .agg cs) (hk : Bk w R t old) (hi : (P.info? ty).map (·.size) = some cs.size) (hc : old.size = cs.size) (h1 : cs.all (·.oneCell') = true)
  (h : ∀ w', Bk w' R t cs → w.grownBy w' (some R) → wpList P ops Q rest (a.put op.dst undef) w') : wpList P ops Q (op :: rest) a w :=
 wpList_plain hgd fun _ hK => by
  unfold Oper.wp execOp
  simp only [ho, hx, hy, Instr.storeAt, Instr.sureAddr, Sem.run_bind, Sem.run_pure, Result.andThen_ok, run_storeVar_row w R t ty old cs hk hi hc h1]
  exact hK _ _ (h _ (hk.setRow cs).1 (hk.setRow cs).2)
theorem Bk.range {w : World} {g : Nat} {t : TypeId} {cs : Array Value} (h : Bk w g t cs) : w.rangeAt g 0 cs.toList := fun j v hv => by
 rw [Nat.zero_add, h.cell]; simpa using hv
theorem PS.grown {w w' : World} {pb sb cap : Nat} {l : List Tx.Sg} {i : Nat} {o b : Int} {r : Option Nat} (h : PS w pb sb cap l i o b) (hg : w.grownBy w' r) (h1 : ∀ q, r = some q → q ≠ pb ∧ q ≠ sb) : PS w' pb sb cap l i o b :=
 ⟨(hg.block pb h.pb_lt (fun e => (h1 _ e.symm).1 rfl)).trans h.blk, fun k x hx j v hv => hg.cell (h.row k x hx j v hv) (fun e => (h1 _ e.symm).2 rfl), h.ne, h.lt⟩
theorem Bk.grown {w w' : World} {b t : Nat} {cs : Array Value} {r : Option Nat} (h : Bk w b t cs) (hg : w.grownBy w' r) (h1 : ∀ q, r = some q → q ≠ b) : Bk w' b t cs :=
 (hg.block b h.lt (fun e => h1 _ e.symm rfl)).trans h
theorem grownBy_up {a b c : World} {pb : Nat} {r : Option Nat} (h : a.grownBy b (some pb)) (k : b.grownBy c r) (h1 : ∀ q, r = some q → a.heap.size ≤ q) : a.grownBy c (some pb) :=
 ⟨k.os.trans h.os, k.tape.trans h.tape, k.output.trans h.output, Nat.le_trans h.size k.size, fun i hi hne =>
  (k.block i (Nat.lt_of_lt_of_le hi h.size) (fun e => by have := h1 i e.symm; omega)).trans (h.block i hi hne)⟩
theorem grownBy_drew {a b : World} {r : Option Nat} (h : a.grownBy b r) : a.grownBy b.drew r := ⟨h.os, h.tape, h.output, h.size, h.block⟩
/-- The kinds of parts. -/
def kHp : Kd Hp := ⟨165, 2, 24, Hp.cells, Hp.er, fun _ _ => True, fun _ => rfl, fun _ => by simp [Value.oneCell'], fun _ _ _ => trivial⟩
def kDc : Kd Dc := ⟨77, 3, 40, Dc.cells, Dc.er, fun _ _ => True, fun _ => rfl, fun _ => by simp [Value.oneCell'], fun _ _ _ => trivial⟩
def kSr : Kd Sr := ⟨37, 3, 48, Sr.cells, Sr.er, fun w x => declsLie w x.fields, fun _ => rfl, fun _ => by simp [Value.oneCell'], fun _ h k => declsLie_ext h k⟩
def kPc : Kd Pc := ⟨40, 6, 104, Pc.cells, Pc.er, pcLies, fun _ => rfl, fun _ => by simp [Value.oneCell'], fun _ h k => pcLies_ext h k⟩
def kVl : Kd Vl := ⟨49, 12, 144, Vl.cells, Vl.er, vlLies, fun _ => rfl, fun _ => by simp [Value.oneCell'], fun _ h k => vlLies_ext h k⟩
def kIt : Kd It := ⟨54, 48, 608, It.cells, It.er, itLies, fun _ => rfl, fun _ => scells_one _ _ _ _ _ _ _, fun _ h k => itLies_ext h k⟩
def kPth : Kd Pth := ⟨45, 3, 40, Pth.cells, Pth.er, fun w x => hopsLie w x.hops, fun _ => rfl, fun _ => by simp [Value.oneCell'], fun _ h k => hopsLie_ext h k⟩
def kCd : Kd Cd := ⟨51, 26, 304, Cd.cells, Cd.er, fun w x => vlLies w x.left ∧ vlLies w x.right, fun _ => rfl, fun _ => by simp [Value.oneCell'], fun _ h k => ⟨vlLies_ext h k.1, vlLies_ext h k.2⟩⟩
end Go.Proofs.YtdlchhimkelinaaGreatDoor
namespace Go.Proofs.YtdlchhimkelinaaGreatDoor
open Go.RowKit Go.Sort
attribute [local go_sem] field79_0 field79_1 field79_2 field79_3
section
variable {pb sb cap : Nat} {l : List Tx.Sg}
theorem own_shape {w : World} {base : Nat} {e : TypeId} {size : Nat} {v : Value} {n : Nat} {xs : List Value} (h : w.ownsRow base e size v n xs) : ∃ a c, v = .slice a n c := by
 rcases h.2 with ⟨rfl, h0⟩ | ⟨g, cap, cur, rfl, hg, hr⟩
 ·subst h0; exact ⟨_, _, rfl⟩
 ·exact ⟨_, _, rfl⟩
theorem zinfoHp : (Tryz.prog.info? 165).map (fun i => (i.zero, i.size, i.bytes)) = some (some (.agg #[.string ByteArray.empty, .int .i64 0]), 2, 24) := by kernel_rfl
theorem hp_one (x : Hp) : ∀ u ∈ x.cells, u.oneCell' = true := by
 intro u hu; simp only [List.mem_cons, List.not_mem_nil, or_false] at hu; rcases hu with rfl | rfl <;> rfl
/-- The end of a call that hands back a path through a result of its own. -/
theorem path_result {w2 : World} {n : ByteArray} {p : Int} {v s : Value} {R : Nat} {a b : Value} (hk : Bk w2 R 45 #[a, b, s]) :
  Bk (((w2.setCell ⟨R, 0, none⟩ (.string n)).setCell ⟨R, 1, none⟩ (.int .i64 p)).setCell ⟨R, 2, none⟩ v) R 45 #[.string n, .int .i64 p, v] ∧
  w2.grownBy (((w2.setCell ⟨R, 0, none⟩ (.string n)).setCell ⟨R, 1, none⟩ (.int .i64 p)).setCell ⟨R, 2, none⟩ v) (some R) :=
 ⟨((hk.set_ 0 _).set_ 1 _).set_ 2 _, grownBy_tr (grownBy_tr (grownBy_setC _ ⟨R, 0, none⟩ _) (grownBy_setC _ ⟨R, 1, none⟩ _)) (grownBy_setC _ ⟨R, 2, none⟩ _)⟩
theorem path_any (w : World) (u : Pr.St) (h : PS w pb sb cap l u.i u.o u.b) (hg : Good l) :
  Calls Tryz.prog 179 #[.pointer (some ⟨pb, 0, none⟩)] w (Outc (kPth.Val w.heap.size) w pb sb cap l (Pr.path (l.map Pr.tk) u)) := by
 obtain ⟨r, hr⟩ : ∃ r, r = Pr.path (l.map Pr.tk) u := ⟨_, rfl⟩
 rw [← hr]
 have HR := hdn hr
 have HL := hdn hg
 have hn : Below w.heap.size w (w.alloc (.cells #[.string ByteArray.empty, .int .i64 0, .slice none 0 0] 45)) := (Below.refl _ _).alloc (Nat.le_refl _) _
 have HK : Hid (Bk (w.alloc (.cells #[.string ByteArray.empty, .int .i64 0, .slice none 0 0] 45)) w.heap.size 45 #[.string ByteArray.empty, .int .i64 0, .slice none 0 0]) := hdn (heap_alloc_new _ _)
 have HNE : Hid (w.heap.size ≠ pb ∧ w.heap.size ≠ sb ∧ pb < w.heap.size ∧ sb < w.heap.size) := hdn ⟨fun e => by have := h.pb_lt; omega, fun e => by have := h.sb_lt; omega, h.pb_lt, h.sb_lt⟩
 have HZ : Hid ((w.alloc (.cells #[.string ByteArray.empty, .int .i64 0, .slice none 0 0] 45)).heap.size = w.heap.size + 1) := hdn (by simp)
 have HG : Hid (w.grownBy (w.alloc (.cells #[.string ByteArray.empty, .int .i64 0, .slice none 0 0] 45)) (some pb)) := hdn (grownBy_of hn _)
 have HP := hdn (h.below hn)
 generalize hwA : w.alloc (.cells #[.string ByteArray.empty, .int .i64 0, .slice none 0 0] 45) = wA at HK HG HP HZ
 clear h hg hr hn
 go_enter Tryz.func179, Tryz.ntmps179
 go_wp2_with fail
 rw [show w.alloc (.cells #[.string ⟨#[]⟩, .int .i64 0, .slice none 0 0] 45) = wA from hwA]
 clear hwA
 refine (name_any wA u HP.out HL.out).mono ?_; intro en w1 ho
 rcases hm1 : Pr.name (l.map Pr.tk) u with n | ⟨a1, u1⟩
 ·obtain ⟨p, rfl, g1⟩ := ho.of_err hm1
  exact ⟨rfl, Outc.err (by rw [HR.out]; simp only [Pr.path, Pr.th, hm1]) (grownBy_tr HG.out g1)⟩
 obtain ⟨v, rfl, ⟨x, rfl, hx⟩, h1, g1⟩ := ho.of_ok hm1
 have HX := hdn hx
 have HP1 := hdn h1; have HG1 := hdn (grownBy_tr HG.out g1); have HK1 := hdn (HK.out.kept g1 HNE.out.1)
 have HM1 := hdn hm1
 clear h1 g1 ho hx hm1
 go_upto_region 2 with fail
 have hm : Below w1.heap.size w1 (w1.alloc (.cells #[.int .i64 x.kind, .int .i64 x.pos, .string x.text, .int .i64 x.num] 106)) := (Below.refl _ _).alloc (Nat.le_refl _) _
 have HP2 := hdn (HP1.out.below hm)
 have HK2 := hdn (HK1.out.below hm HK1.out.lt)
 have HF : Hid (Bk (w1.alloc (.cells #[.int .i64 x.kind, .int .i64 x.pos, .string x.text, .int .i64 x.num] 106)) w1.heap.size 106 #[.int .i64 x.kind, .int .i64 x.pos, .string x.text, .int .i64 x.num]) := hdn (heap_alloc_new _ _)
 have HG2 : Hid (w.grownBy (w1.alloc (.cells #[.int .i64 x.kind, .int .i64 x.pos, .string x.text, .int .i64 x.num] 106)) (some pb)) := hdn (grownBy_below HG1.out hm)
 obtain ⟨F, hF⟩ : ∃ F, F = w1.heap.size := ⟨_, rfl⟩
 rw [← hF] at HF ⊢
 clear hF hm
 generalize w1.alloc (.cells #[.int .i64 x.kind, .int .i64 x.pos, .string x.text, .int .i64 x.num] 106) = w2 at HP2 HK2 HF HG2 ⊢
 have t1 : w2.cell? ⟨F, 1, none⟩ = some (.int .i64 x.pos) := HF.out.cell 1
 have t2 : w2.cell? ⟨F, 2, none⟩ = some (.string x.text) := HF.out.cell 2
 go_wp2_with fail
 clear t1 t2
 have hm : Below w2.heap.size w2 (w2.alloc (.cells #[.string x.text, .int .i64 x.pos, .slice none 0 0] 45)) := (Below.refl _ _).alloc (Nat.le_refl _) _
 have HP3 := hdn (HP2.out.below hm)
 have HK3 := hdn (HK2.out.below hm HK2.out.lt)
 have HS : Hid (Bk (w2.alloc (.cells #[.string x.text, .int .i64 x.pos, .slice none 0 0] 45)) w2.heap.size 45 #[.string x.text, .int .i64 x.pos, .slice none 0 0]) := hdn (heap_alloc_new _ _)
 have HG3 : Hid (w.grownBy (w2.alloc (.cells #[.string x.text, .int .i64 x.pos, .slice none 0 0] 45)) (some pb)) := hdn (grownBy_below HG2.out hm)
 have HSZ : Hid ((w2.alloc (.cells #[.string x.text, .int .i64 x.pos, .slice none 0 0] 45)).heap.size = w2.heap.size + 1) := hdn (by simp)
 obtain ⟨S, hS⟩ : ∃ S, S = w2.heap.size := ⟨_, rfl⟩
 have HSN : Hid (S ≠ pb ∧ S ≠ sb ∧ w.heap.size ≠ S ∧ w.heap.size ≤ S ∧ pb < S ∧ sb < S) := hdn ⟨by have := HP2.out.pb_lt; omega, by have := HP2.out.sb_lt; omega, by have := HK2.out.lt; omega, by have := HK2.out.lt; omega, by have := HP2.out.pb_lt; omega, by have := HP2.out.sb_lt; omega⟩
 rw [← hS] at HS HSZ ⊢
 clear hS hm HF
 change Code.wp _ _ _ _ (w2.alloc (.cells #[.string x.text, .int .i64 x.pos, .slice none 0 0] 45))
 generalize w2.alloc (.cells #[.string x.text, .int .i64 x.pos, .slice none 0 0] 45) = w3 at HP3 HK3 HS HG3 HSZ ⊢
 obtain ⟨i0, hi0, hz0, hz1, hz2⟩ := info_parts zinfoHp
 have HI := hdn hi0; have HZ0 := hdn hz0; have HZ1 := hdn hz1; have HZ2 := hdn hz2
 clear hi0 hz0 hz1 hz2
 go_loopg [] 8 (fun g wr => ∃ (acc : List Hp) (v : Value) (un : Pr.St), g + acc.length = 8 ∧ Hid (Pr.hops (l.map Pr.tk) g acc un = Pr.hops (l.map Pr.tk) 8 [] u1) ∧ Hid (kHp.Gr w3.heap.size acc v wr) ∧ Hid (Bk wr S 45 #[.string x.text, .int .i64 x.pos, v]) ∧ Hid (PS wr pb sb cap l un.i un.o un.b) ∧ Hid (Bk wr w.heap.size 45 #[.string ByteArray.empty, .int .i64 0, .slice none 0 0]) ∧ Hid (w.grownBy wr (some pb)) ∧ Hid (w3.heap.size ≤ wr.heap.size))
 case atStart => exact ⟨[], .slice none 0 0, u1, rfl, hdn rfl, hdn (Kd.Gr.nil kHp (World.ownsRow_nil _ _ _ _)), HS, HP3, HK3, HG3, hdn (Nat.le_refl _)⟩
 case round =>
  obtain ⟨acc, v, un, hg8, HH, HGr, HSr, HPr, HKr, HGw, HLE⟩ := hrel
  obtain ⟨y, hy⟩ := HPr.out.at
  have HIS := hdn (Pr.is_tk hy ⟨#[45, 62]⟩)
  have HY := hdn hy
  obtain ⟨ys, hy1, hy2, hy3⟩ := HGr.out
  have HY1 := hdn hy1; have HY2 := hdn hy2; have HY3 := hdn hy3
  obtain ⟨a0, c0, rfl⟩ := own_shape hy2
  clear hy1 hy2 hy3
  have HA := hdn (stands_any y ⟨#[45, 62]⟩ wr HPr.out HL.out hy)
  clear hy
  rcases q1 : (y.text.toList == (⟨#[45, 62]⟩ : ByteArray).toList) with _ | _
  ·have HQ := hdn q1
   rw [q1] at HA
   clear q1
   go_wp2_with fail
   refine (HA.out).mono ?_; rintro en w4 ⟨rfl, hb⟩
   have HP4 := hdn (HPr.out.below hb); have HK4 := hdn (HKr.out.below hb HKr.out.lt); have HS4 := hdn (HSr.out.below hb HSr.out.lt); have HG4 := hdn (grownBy_below HGw.out hb); have HGr4 := hdn (HGr.out.below hb)
   clear hb
   have s0 : w4.cell? ⟨S, 0, none⟩ = some (.string x.text) := HS4.out.cell 0
   have s1 : w4.cell? ⟨S, 1, none⟩ = some (.int .i64 x.pos) := HS4.out.cell 1
   have s2 : w4.cell? ⟨S, 2, none⟩ = some (.slice a0 acc.length c0) := HS4.out.cell 2
   have r0 : w4.cell? ⟨w.heap.size, 0, none⟩ = some (.string ByteArray.empty) := HK4.out.cell 0
   have r1 : w4.cell? ⟨w.heap.size, 1, none⟩ = some (.int .i64 0) := HK4.out.cell 1
   have r2 : w4.cell? ⟨w.heap.size, 2, none⟩ = some (.slice none 0 0) := HK4.out.cell 2
   have f0 := HK4.out.frozen 0
   have f1 := HK4.out.frozen 1
   have f2 := HK4.out.frozen 2
   go_wp2_with fail
   clear s0 s1 s2 r0 r1 r2 f0 f1 f2
   obtain ⟨hB, hF⟩ := path_result (n := x.text) (p := x.pos) (v := .slice a0 acc.length c0) HK4.out
   generalize ((w4.setCell ⟨w.heap.size, 0, none⟩ (.string x.text)).setCell ⟨w.heap.size, 1, none⟩ (.int .i64 x.pos)).setCell ⟨w.heap.size, 2, none⟩ (.slice a0 acc.length c0) = w5 at hB hF ⊢
   have e0 := hB.cell 0
   have e1 := hB.cell 1
   have e2 := hB.cell 2
   have hfin := HGr4.out.par hF (by have := HSZ.out; have := HSN.out.2.2.2.1; omega)
   obtain ⟨sl, hv, hsl, hly⟩ := Kd.fin kHp (by show acc.length * 24 ≤ _; omega) hfin
   refine bodyPost_ret (v := .agg #[.string x.text, .int .i64 x.pos, .slice a0 acc.length c0]) (by simp [results, Tryz.results179, go_sem, e0, e1, e2]) rfl (Outc.ok (u := un) (a := ⟨a1.text, 0, ⟨none, 0, acc⟩⟩) ?_ (grownBy_mine HG4.out hF) ⟨⟨x.text, x.pos, sl⟩, ?_, ?_, ?_⟩ (HP4.out.far hF HNE.out.1 HNE.out.2.1))
   ·have hh : Pr.hops (l.map Pr.tk) gk acc un = .ok (acc, un) := by
     cases gk with
     | zero => simp only [Pr.hops, HIS.out, HQ.out, Bool.false_eq_true, if_false]
     | succ n => simp only [Pr.hops, HIS.out, HQ.out, Bool.false_eq_true, if_false]
    rw [HR.out]; simp only [Pr.path, Pr.th, HM1.out]; rw [← HH.out, hh]
   ·rw [hv]; rfl
   ·show Pth.er _ = _; rw [← HX.out]; simp only [Pth.er, Sl.er, Pr.tk]; rw [show sl.l.map Hp.er = acc from hsl]
   ·exact hopsLie_ext (fresh_rest (r := none) (B' := w.heap.size) (by have := HSZ.out; have := HSN.out.2.2.2.1; omega) (by simp) |>.trans rest_fresh) hly
  ·have HQ := hdn q1
   have hk0 : y.kind ≠ 0 := HL.out.kind HY.out q1 (by rw [Lib.toList_data]; decide)
   have HK0 := hdn hk0
   rw [q1] at HA
   clear q1 hk0
   go_wp2_with fail
   refine (HA.out).mono ?_; rintro en w4 ⟨rfl, hb⟩
   have HP4 := hdn (HPr.out.below hb); have HK4 := hdn (HKr.out.below hb HKr.out.lt); have HS4 := hdn (HSr.out.below hb HSr.out.lt); have HG4 := hdn (grownBy_below HGw.out hb); have HGr4 := hdn (HGr.out.below hb); have HLE4 := hdn (Nat.le_trans HLE.out hb.size); have HB4 := hdn hb
   clear hb
   have s2 : w4.cell? ⟨S, 2, none⟩ = some (.slice a0 acc.length c0) := HS4.out.cell 2
   by_cases h8 : gk = 0
   ·have hd : ((acc.length : Int) == 8) = true := by rw [beq_iff_eq]; omega
    go_wp2_with fail
    refine ((stop_any y 11 w4 HP4.out HL.out HY.out).mono (fun e w'' ⟨h1, h2⟩ => (⟨h1.trans (faultN_at HY.out 11), h2⟩ : e = faultN l (11, un.i) ∧ Below w4.heap.size w4 w''))).mono ?_; rintro en w5 ⟨rfl, hb⟩
    subst h8
    exact ⟨rfl, Outc.err (by rw [HR.out]; simp only [Pr.path, Pr.th, HM1.out]; rw [← HH.out]; simp only [Pr.hops, HIS.out, HQ.out, if_true]) (grownBy_below HG4.out hb)⟩
   ·have hd : ((acc.length : Int) == 8) = false := by rw [beq_eq_false_iff_ne]; omega
    go_wp2_with fail
    clear s2
    refine (take_any y w4 HP4.out HL.out HY.out HK0.out).mono ?_; rintro en w5 ⟨rfl, h5, g5⟩
    have HP5 := hdn h5; have HK5 := hdn (HK4.out.kept g5 HNE.out.1); have HS5 := hdn (HS4.out.kept g5 HSN.out.1); have HG5 := hdn (grownBy_tr HG4.out g5); have HLE5 := hdn (Nat.le_trans HLE4.out g5.size)
    have HO5 := hdn (own_par (own_keep HY2.out HB4.out) g5 (by have := HSZ.out; have := HSN.out; omega))
    have HY5 : Hid (∀ z ∈ ys, kHp.R (rest w3.heap.size (Value.slice a0 acc.length c0).ownBlock w5) z) := hdn (fun z hz => kHp.ext z ((rest_below HB4.out).trans (rest_par g5 (by have := HSZ.out; have := HSN.out; omega))) (HY3.out z hz))
    clear h5 g5 HP4 HK4 HS4 HG4 HGr4 HLE4 HB4
    go_upto_region 7 with fail
    have hm : Below w5.heap.size w5 (w5.alloc (.cells #[.int .i64 y.kind, .int .i64 y.pos, .string y.text, .int .i64 y.num] 106)) := (Below.refl _ _).alloc (Nat.le_refl _) _
    have HP6 := hdn (HP5.out.below hm)
    have HK6 := hdn (HK5.out.below hm HK5.out.lt)
    have HS6 := hdn (HS5.out.below hm HS5.out.lt)
    have HT : Hid (Bk (w5.alloc (.cells #[.int .i64 y.kind, .int .i64 y.pos, .string y.text, .int .i64 y.num] 106)) w5.heap.size 106 #[.int .i64 y.kind, .int .i64 y.pos, .string y.text, .int .i64 y.num]) := hdn (heap_alloc_new _ _)
    have HG6 : Hid (w.grownBy (w5.alloc (.cells #[.int .i64 y.kind, .int .i64 y.pos, .string y.text, .int .i64 y.num] 106)) (some pb)) := hdn (grownBy_below HG5.out hm)
    have HO6 := hdn (own_keep HO5.out hm)
    have HY6 : Hid (∀ z ∈ ys, kHp.R (rest w3.heap.size (Value.slice a0 acc.length c0).ownBlock (w5.alloc (.cells #[.int .i64 y.kind, .int .i64 y.pos, .string y.text, .int .i64 y.num] 106))) z) := hdn (fun z hz => kHp.ext z (rest_below hm) (HY5.out z hz))
    have HLE6 := hdn (Nat.le_trans HLE5.out hm.size)
    obtain ⟨T, hT⟩ : ∃ T, T = w5.heap.size := ⟨_, rfl⟩
    have HTN : Hid (w3.heap.size ≤ T ∧ T ≠ pb) := hdn ⟨by have := HLE5.out; omega, by have := HP5.out.pb_lt; omega⟩
    rw [← hT] at HT ⊢
    clear hT hm HP5 HK5 HS5 HG5 HO5 HY5 HLE5
    generalize w5.alloc (.cells #[.int .i64 y.kind, .int .i64 y.pos, .string y.text, .int .i64 y.num] 106) = w6 at HP6 HK6 HS6 HT HG6 HO6 HY6 HLE6 ⊢
    have s2 : w6.cell? ⟨S, 2, none⟩ = some (.slice a0 acc.length c0) := HS6.out.cell 2
    have t1 : w6.cell? ⟨T, 1, none⟩ = some (.int .i64 y.pos) := HT.out.cell 1
    have HPD : Hid (PS w6.drew pb sb cap l un.go.i un.go.o un.go.b) := hdn (HP6.out.below (below_drew (Below.refl _ _)))
    have HKD : Hid (Bk w6.drew w.heap.size 45 #[.string ByteArray.empty, .int .i64 0, .slice none 0 0]) := hdn HK6.out
    have HSD : Hid (Bk w6.drew S 45 #[.string x.text, .int .i64 x.pos, .slice a0 acc.length c0]) := hdn HS6.out
    have HTD : Hid (Bk w6.drew T 106 #[.int .i64 y.kind, .int .i64 y.pos, .string y.text, .int .i64 y.num]) := hdn HT.out
    have HGD : Hid (w.grownBy w6.drew (some pb)) := hdn (grownBy_drew HG6.out)
    have HOD := hdn (own_keep HO6.out (below_drew (Below.refl _ _)))
    have HYD : Hid (∀ z ∈ ys, kHp.R (rest w3.heap.size (Value.slice a0 acc.length c0).ownBlock w6.drew) z) := hdn (fun z hz => kHp.ext z (rest_below (below_drew (Below.refl _ _))) (HY6.out z hz))
    have HLED : Hid (w3.heap.size ≤ w6.drew.heap.size) := hdn HLE6.out
    clear HP6 HK6 HS6 HT HG6 HO6 HY6 HLE6
    go_region_law (first
     | (go_simp; go_at_call 99; (with_reducible refine (name_any _ un.go HPD.out HL.out).mono ?_); intro en w7 ho; rcases hm2 : Pr.name (l.map Pr.tk) un.go with n | ⟨a2, u2⟩; (· obtain ⟨p, rfl, g7⟩ := ho.of_err hm2; exact ⟨rfl, Outc.err (by rw [HR.out]; simp only [Pr.path, Pr.th, HM1.out]; rw [← HH.out]; obtain ⟨gj, rfl⟩ : ∃ k, gk = k + 1 := ⟨gk - 1, by omega⟩; simp only [Pr.hops, Pr.th, HIS.out, HQ.out, if_true, hm2]) (grownBy_tr HGD.out g7)⟩); obtain ⟨v, rfl, ⟨z, rfl, hz⟩, h7, g7⟩ := ho.of_ok hm2; have HZE := hdn hz; have HM2 := hdn hm2; have HP7 := hdn h7; have HK7 := hdn (HKD.out.kept g7 HNE.out.1); have HS7 := hdn (HSD.out.kept g7 HSN.out.1); have HT7 := hdn (HTD.out.kept g7 HTN.out.2); have HG7 := hdn (grownBy_tr HGD.out g7); have HO7 := hdn (own_par HOD.out g7 (by have := HSZ.out; have := HSN.out; omega)); have HY7 : Hid (∀ z ∈ ys, kHp.R (rest w3.heap.size (Value.slice a0 acc.length c0).ownBlock w7) z) := hdn (fun z hz => kHp.ext z (rest_par g7 (by have := HSZ.out; have := HSN.out; omega)) (HYD.out z hz)); have HLE7 := hdn (Nat.le_trans HLED.out g7.size); have s27 : w7.cell? ⟨S, 2, none⟩ = some (.slice a0 acc.length c0) := HS7.out.cell 2; have t17 : w7.cell? ⟨T, 1, none⟩ = some (.int .i64 y.pos) := HT7.out.cell 1; have s27a : ∀ ob, (w7.alloc ob).cell? ⟨S, 2, none⟩ = some (.slice a0 acc.length c0) := (fun ob => (World.cell?_alloc_lt _ _ _ HS7.out.lt).trans s27); clear h7 g7 ho hz hm2; (try dsimp only))
     | (refine step_append_lies _ rfl (.tmp 24) (.tmp 31) 43 rfl w3.heap.size 165 i0 (.agg #[.string ByteArray.empty, .int .i64 0]) 2 24 Tryz.underlying43 HI.out HZ0.out HZ1.out HZ2.out rfl (by decide) _ acc.length _ rfl (HO7.out.alloc _) ⟨w7.heap.size, 0, none⟩ 1 1 (Hp.cells ⟨z.text, y.pos⟩) rfl rfl (World.news_of_block (heap_alloc_new _ _)) (hp_one _) (by decide) (by unfold maxLen; omega) (by omega) (Nat.le_trans HLE7.out (by simp)) _ rfl ?_; intro g cap' w8 hown8 hgrow8 hat8 hlt8; have HO8 := hdn hown8; have HN8 : Hid (∀ q, (Value.slice a0 acc.length c0).ownBlock = some q → w3.heap.size ≤ q) := hdn (fun q hq => (HO7.out.lt q hq).1); have HB8 : Hid (Below w7.heap.size w7 (w7.alloc (.cells #[.string z.text, .int .i64 y.pos] 165))) := hdn ((Below.refl _ _).alloc (Nat.le_refl _) _); have HGR8 := hdn hgrow8; have HAT8 := hdn hat8; have HP8 := hdn ((HP7.out.below HB8.out).grown hgrow8 (fun q hq => by have := HN8.out q hq; have := HSZ.out; have := HSN.out; omega)); have HK8 := hdn ((HK7.out.below HB8.out HK7.out.lt).grown hgrow8 (fun q hq => by have := HN8.out q hq; have := HSZ.out; have := HSN.out; omega)); have HS8 := hdn ((HS7.out.below HB8.out HS7.out.lt).grown hgrow8 (fun q hq => by have := HN8.out q hq; have := HSZ.out; omega)); have HG8 := hdn (grownBy_up (grownBy_below HG7.out HB8.out) hgrow8 (fun q hq => by have := HN8.out q hq; have := HSZ.out; have := HSN.out; omega)); have HLE8 : Hid (w3.heap.size ≤ w8.heap.size) := hdn (by have := hgrow8.size; have := HLE7.out; simp at *; omega); have s28 : w8.cell? ⟨S, 2, none⟩ = some (.slice a0 acc.length c0) := HS8.out.cell 2; have f28 : w8.frozen? ⟨S, 2, none⟩ = false := HS8.out.frozen 2; clear hown8 hgrow8 hat8 hlt8))
    all_goals
     have gS := grownBy_setC w8 ⟨S, 2, none⟩ (.slice (some ⟨g, 0, none⟩) (acc.length + 1) cap')
     have HP9 := hdn (HP8.out.far gS HSN.out.1 HSN.out.2.1)
     have HK9 := hdn (HK8.out.kept gS HSN.out.2.2.1)
     have HS9 : Hid (Bk (w8.setCell ⟨S, 2, none⟩ (.slice (some ⟨g, 0, none⟩) (acc.length + 1) cap')) S 45 #[.string x.text, .int .i64 x.pos, .slice (some ⟨g, 0, none⟩) (acc.length + 1) cap']) := hdn (HS8.out.set_ 2 _)
     have HG9 : Hid (w.grownBy (w8.setCell ⟨S, 2, none⟩ (.slice (some ⟨g, 0, none⟩) (acc.length + 1) cap')) (some pb)) := hdn (grownBy_under HG8.out gS HSN.out.2.2.2.1)
     have hgr : kHp.Gr w3.heap.size (acc ++ [kHp.er ⟨z.text, y.pos⟩]) (.slice (some ⟨g, 0, none⟩) (acc.length + 1) cap') w8 := Kd.add kHp HY1.out (fun q hq => kHp.ext q (rest_below HB8.out) (HY7.out q hq)) HGR8.out HAT8.out HO8.out trivial
     have HR9 := hdn (hgr.par gS (by have := HSZ.out; show S < _; omega))
     have HLE9 := hdn (Nat.le_trans HLE8.out gS.size)
     clear gS hgr s28 f28 HP8 HK8 HS8 HG8 HLE8 HO8 HAT8 HGR8 HB8
     generalize w8.setCell ⟨S, 2, none⟩ (.slice (some ⟨g, 0, none⟩) (acc.length + 1) cap') = w9 at HP9 HK9 HS9 HG9 HR9 HLE9 ⊢
     go_wp2_with fail
     go_roundg (gk - 1)
     case measure => omega
     case rel =>
      refine ⟨acc ++ [kHp.er ⟨z.text, y.pos⟩], .slice (some ⟨g, 0, none⟩) (acc.length + 1) cap', u2, by simp only [List.length_append, List.length_singleton]; omega, hdn ?_, HR9, HS9, HP9, HK9, HG9, HLE9⟩
      rw [← HH.out]
      obtain ⟨gj, rfl⟩ : ∃ k, gk = k + 1 := ⟨gk - 1, by omega⟩
      simp only [Pr.hops, Pr.th, HIS.out, HQ.out, if_true, HM2.out, ← HZE.out]
      rfl
end
end Go.Proofs.YtdlchhimkelinaaGreatDoor
namespace Go.Proofs.YtdlchhimkelinaaGreatDoor
open Go.RowKit Go.Sort
/-- A row with some items set, from the o-th on. -/
def putC : List Value → Nat → List Value → List Value
 | l, _, [] => l
 | l, o, v :: r => putC (l.set o v) (o + 1) r
theorem Bk.setCells {C : Nat} {t : TypeId} : ∀ (vs : List Value) (o : Nat) (w : World) (old : List Value), Bk w C t old.toArray → Bk (w.setCells C o vs) C t (putC old o vs).toArray ∧ w.grownBy (w.setCells C o vs) (some C)
 | [], o, w, old, h => ⟨h, ⟨rfl, rfl, rfl, Nat.le_refl _, fun _ _ _ => rfl⟩⟩
 | v :: r, o, w, old, h => by
  have h1 : Bk (w.setCell ⟨C, o, none⟩ v) C t (old.set o v).toArray := by have := h.set_ o v; rwa [List.setIfInBounds_toArray] at this
  have h2 := Bk.setCells r (o + 1) (w.setCell ⟨C, o, none⟩ v) (old.set o v) h1
  exact ⟨h2.1, grownBy_tr (grownBy_setC w ⟨C, o, none⟩ v) h2.2⟩
/-- A struct's value goes into a part of a block. -/
theorem wpList_store_part {P : Program} {ops : Array Oper} {rest : List Oper} {op : Oper} {a : Act} {w : World} {Q : Exit → Act → World → Prop} (hgd : op.guard = none) (ty : TypeId) (x y : Operand) (ho : op.op = .store ty x y)
  (C off : Nat) (t : TypeId) (old cs : List Value) (hx : a.eval x = .pointer (some ⟨C, off, none⟩)) (hy : a.eval y = .agg cs.toArray) (hk : Bk w C t old.toArray) (hi : (P.info? ty).map (·.size) = some cs.toArray.size) (hc : off + cs.length ≤ old.length) (h1 : cs.toArray.all (·.oneCell') = true)
  (h : ∀ w', Bk w' C t (putC old off cs).toArray → w.grownBy w' (some C) → wpList P ops Q rest (a.put op.dst undef) w') : wpList P ops Q (op :: rest) a w :=
 wpList_plain hgd fun _ hK => by
  unfold Oper.wp execOp
  have ht : w.there C off cs.toArray.size := fun j hj => ⟨by rw [hk.cell]; rw [List.size_toArray] at hj; simp; omega, hk.frozen _⟩
  simp only [ho, hx, hy, Instr.storeAt, Instr.sureAddr, Sem.run_bind, Sem.run_pure, Result.andThen_ok, run_storeVar_mid w C off ty cs.toArray ht hi h1]
  have hh := Bk.setCells (C := C) (t := t) cs off w old hk
  exact hK _ _ (h _ hh.1 hh.2)
/-- A struct's value out of a block that is known whole. -/
theorem wpList_load_bk {P : Program} {ops : Array Oper} {rest : List Oper} {op : Oper} {a : Act} {w : World} {Q : Exit → Act → World → Prop} (hgd : op.guard = none) (ty : TypeId) (x : Operand) (ho : op.op = .load ty x)
  (C : Nat) (t : TypeId) (cs : Array Value) (hx : a.eval x = .pointer (some ⟨C, 0, none⟩)) (d : TypeDesc) (hk : Bk w C t cs)
  (hu : P.underlying ty = some d) (hd : d.isRow = true) (hi : (P.info? ty).map (·.size) = some cs.size)
  (h : wpList P ops Q rest (a.put op.dst (.agg cs)) w) : wpList P ops Q (op :: rest) a w :=
 wpList_load_arr hgd ty x ho C 0 hx cs d hk.range hu hd hi h
theorem size47 : (Tryz.prog.info? 49).map (·.size) = some 12 := by kernel_rfl
theorem size49 : (Tryz.prog.info? 51).map (·.size) = some 26 := by kernel_rfl
end Go.Proofs.YtdlchhimkelinaaGreatDoor
namespace Go.Proofs.YtdlchhimkelinaaGreatDoor
open Go.RowKit Go.Sort
attribute [local go_sem] field79_0 field79_1 field79_2 field79_3
section
variable {pb sb cap : Nat} {l : List Tx.Sg}
theorem side_any (w : World) (u : Pr.St) (h : PS w pb sb cap l u.i u.o u.b) (hg : Good l) :
  Calls Tryz.prog 182 #[.pointer (some ⟨pb, 0, none⟩)] w (Outc (kVl.Val w.heap.size) w pb sb cap l (Pr.side (l.map Pr.tk) u)) := by
 obtain ⟨r, hr⟩ : ∃ r, r = Pr.side (l.map Pr.tk) u := ⟨_, rfl⟩
 rw [← hr]
 have HR := hdn hr
 have HL := hdn hg
 obtain ⟨x, hx⟩ := h.at
 have hn : Below w.heap.size w (w.alloc (.cells #[.int .i64 0, .int .i64 0, .string ByteArray.empty, .int .i64 0, .slice none 0 0, .string ByteArray.empty, .string ByteArray.empty, .int .i64 0, .int .i64 0, .string ByteArray.empty, .int .i64 0, .int .i64 0] 49)) := (Below.refl _ _).alloc (Nat.le_refl _) _
 have HK : Hid (Bk (w.alloc (.cells #[.int .i64 0, .int .i64 0, .string ByteArray.empty, .int .i64 0, .slice none 0 0, .string ByteArray.empty, .string ByteArray.empty, .int .i64 0, .int .i64 0, .string ByteArray.empty, .int .i64 0, .int .i64 0] 49)) w.heap.size 49 #[.int .i64 0, .int .i64 0, .string ByteArray.empty, .int .i64 0, .slice none 0 0, .string ByteArray.empty, .string ByteArray.empty, .int .i64 0, .int .i64 0, .string ByteArray.empty, .int .i64 0, .int .i64 0]) := hdn (heap_alloc_new _ _)
 have HNE : Hid (w.heap.size ≠ pb ∧ w.heap.size ≠ sb ∧ pb < w.heap.size ∧ sb < w.heap.size) := hdn ⟨fun e => by have := h.pb_lt; omega, fun e => by have := h.sb_lt; omega, h.pb_lt, h.sb_lt⟩
 have HZ : Hid ((w.alloc (.cells #[.int .i64 0, .int .i64 0, .string ByteArray.empty, .int .i64 0, .slice none 0 0, .string ByteArray.empty, .string ByteArray.empty, .int .i64 0, .int .i64 0, .string ByteArray.empty, .int .i64 0, .int .i64 0] 49)).heap.size = w.heap.size + 1) := hdn (by simp)
 have HG : Hid (w.grownBy (w.alloc (.cells #[.int .i64 0, .int .i64 0, .string ByteArray.empty, .int .i64 0, .slice none 0 0, .string ByteArray.empty, .string ByteArray.empty, .int .i64 0, .int .i64 0, .string ByteArray.empty, .int .i64 0, .int .i64 0] 49)) (some pb)) := hdn (grownBy_of hn _)
 have HP := hdn (h.below hn)
 generalize hwA : w.alloc (.cells #[.int .i64 0, .int .i64 0, .string ByteArray.empty, .int .i64 0, .slice none 0 0, .string ByteArray.empty, .string ByteArray.empty, .int .i64 0, .int .i64 0, .string ByteArray.empty, .int .i64 0, .int .i64 0] 49) = wA at HK HG HP HZ
 have HX := hdn hx
 have HA := hdn (ahead_any x wA HP.out hg hx)
 clear h hg hr hn hx
 go_enter Tryz.func182, Tryz.ntmps182
 go_wp2_with fail
 rw [show w.alloc (.cells #[.int .i64 0, .int .i64 0, .string ⟨#[]⟩, .int .i64 0, .slice none 0 0, .string ⟨#[]⟩, .string ⟨#[]⟩, .int .i64 0, .int .i64 0, .string ⟨#[]⟩, .int .i64 0, .int .i64 0] 49) = wA from hwA]
 clear hwA
 refine (HA.out).mono ?_; rintro en w1 ⟨rfl, hb⟩
 have HP1 := hdn (HP.out.below hb); have HG1 := hdn (grownBy_below HG.out hb); have HK1 := hdn (HK.out.below hb HK.out.lt)
 clear hb HA
 go_upto_region 2 with fail
 have hm : Below w1.heap.size w1 (w1.alloc (.cells #[.int .i64 x.kind, .int .i64 x.pos, .string x.text, .int .i64 x.num] 106)) := (Below.refl _ _).alloc (Nat.le_refl _) _
 have HP2 := hdn (HP1.out.below hm)
 have HK2 := hdn (HK1.out.below hm HK1.out.lt)
 have HF : Hid (Bk (w1.alloc (.cells #[.int .i64 x.kind, .int .i64 x.pos, .string x.text, .int .i64 x.num] 106)) w1.heap.size 106 #[.int .i64 x.kind, .int .i64 x.pos, .string x.text, .int .i64 x.num]) := hdn (heap_alloc_new _ _)
 have HG2 : Hid (w.grownBy (w1.alloc (.cells #[.int .i64 x.kind, .int .i64 x.pos, .string x.text, .int .i64 x.num] 106)) (some pb)) := hdn (grownBy_below HG1.out hm)
 obtain ⟨F, hF⟩ : ∃ F, F = w1.heap.size := ⟨_, rfl⟩
 have HFN : Hid (F ≠ pb ∧ F ≠ w.heap.size) := hdn ⟨by have := HP1.out.pb_lt; omega, by have := HK1.out.lt; omega⟩
 rw [← hF] at HF ⊢
 clear hF hm HP1 HG1 HK1
 generalize w1.alloc (.cells #[.int .i64 x.kind, .int .i64 x.pos, .string x.text, .int .i64 x.num] 106) = w2 at HP2 HK2 HF HG2 ⊢
 go_wp2_with fail
 refine (may_any ⟨#[110, 117, 108, 108]⟩ (by decide) w2 u HP2.out HL.out).mono ?_; rintro en w3 ⟨q, hq, rfl, h3, g3⟩
 have HP3 := hdn h3; have HG3 := hdn (grownBy_tr HG2.out g3); have HK3 := hdn (HK2.out.kept g3 HNE.out.1); have HF3 := hdn (HF.out.kept g3 HFN.out.1)
 have HQ := hdn hq
 clear h3 g3 hq HP2 HG2 HK2 HF
 have t0 : w3.cell? ⟨F, 0, none⟩ = some (.int .i64 x.kind) := HF3.out.cell 0
 have t1 : w3.cell? ⟨F, 1, none⟩ = some (.int .i64 x.pos) := HF3.out.cell 1
 cases q with
 | true =>
  go_wp2_with (first | ((with_reducible show wpList _ _ _ (Oper.mk none (Op.store 49 (Operand.tmp 2) _) _ _ _ _ :: _) _ _); refine wpList_store_bk rfl 49 (.tmp 2) (.tmp 11) rfl w.heap.size 49 _ #[.int .i64 0, .int .i64 x.pos, .string ⟨#[]⟩, .int .i64 0, .slice none 0 0, .string ⟨#[]⟩, .string ⟨#[]⟩, .int .i64 0, .int .i64 0, .string ⟨#[]⟩, .int .i64 0, .int .i64 0] rfl rfl HK3.out size47 rfl (by simp [Value.oneCell']) ?_; intro wZ hB hF))
  have e0 := hB.cell 0
  have e1 := hB.cell 1
  have e2 := hB.cell 2
  have e3 := hB.cell 3
  have e4 := hB.cell 4
  have e5 := hB.cell 5
  have e6 := hB.cell 6
  have e7 := hB.cell 7
  have e8 := hB.cell 8
  have e9 := hB.cell 9
  have e10 := hB.cell 10
  have e11 := hB.cell 11
  exact bodyPost_ret (v := .agg #[.int .i64 0, .int .i64 x.pos, .string ⟨#[]⟩, .int .i64 0, .slice none 0 0, .string ⟨#[]⟩, .string ⟨#[]⟩, .int .i64 0, .int .i64 0, .string ⟨#[]⟩, .int .i64 0, .int .i64 0]) (by simp [results, Tryz.results182, go_sem, e0, e1, e2, e3, e4, e5, e6, e7, e8, e9, e10, e11]) rfl (Outc.ok (u := u.go) (a := Pr.noVl) (by rw [HR.out]; simp only [Pr.side, HQ.out, if_true]) (grownBy_mine HG3.out hF) ⟨⟨0, x.pos, ⟨ByteArray.empty, 0, ⟨none, 0, []⟩⟩, ByteArray.empty, ⟨ByteArray.empty, 0, 0⟩, ⟨ByteArray.empty, 0, 0⟩⟩, rfl, rfl, (show 0 * 24 ≤ 140737488351232 by decide), .inl rfl⟩ (HP3.out.far hF HNE.out.1 HNE.out.2.1))
 | false =>
 by_cases h2 : x.kind = 2
 ·have hd : (x.kind == 2) = true := by simpa using h2
  have HSK : Hid (Pr.side (l.map Pr.tk) u = Pr.th (Pr.term (l.map Pr.tk) u) fun y u => .ok ({ Pr.noVl with kind := 4, left := y }, u)) := hdn (by simp only [Pr.side, HQ.out, Pr.sg_tk HX.out, Pr.tk, h2, if_true, Bool.false_eq_true, if_false])
  clear h2
  go_wp2_with fail
  clear t0
  have HPD : Hid (PS w3.drew pb sb cap l u.i u.o u.b) := hdn (HP3.out.below (below_drew (Below.refl _ _)))
  have HKD : Hid (Bk w3.drew w.heap.size 49 #[.int .i64 0, .int .i64 0, .string ByteArray.empty, .int .i64 0, .slice none 0 0, .string ByteArray.empty, .string ByteArray.empty, .int .i64 0, .int .i64 0, .string ByteArray.empty, .int .i64 0, .int .i64 0]) := hdn HK3.out
  have HFD : Hid (Bk w3.drew F 106 #[.int .i64 x.kind, .int .i64 x.pos, .string x.text, .int .i64 x.num]) := hdn HF3.out
  have HGD : Hid (w.grownBy w3.drew (some pb)) := hdn (grownBy_drew HG3.out)
  clear HP3 HK3 HF3 HG3
  go_region_law (first
   | (go_simp; go_at_call 193; (with_reducible refine (term_any _ HPD.out HL.out).mono ?_); intro en w4 ho; rcases hm1 : Pr.term (l.map Pr.tk) u with n | ⟨a1, u1⟩; (· obtain ⟨p, rfl, g4⟩ := ho.of_err hm1; exact ⟨rfl, Outc.err (by rw [HR.out, HSK.out]; simp only [Pr.th, hm1]) (grownBy_tr HGD.out g4)⟩); obtain ⟨v, rfl, ⟨d, rfl, hz⟩, h4, g4⟩ := ho.of_ok hm1; have HD := hdn hz; have HM1 := hdn hm1; have HP4 := hdn h4; have HK4 := hdn (HKD.out.kept g4 HNE.out.1); have HF4 := hdn (HFD.out.kept g4 HFN.out.1); have HG4 := hdn (grownBy_tr HGD.out g4); have t14 : w4.cell? ⟨F, 1, none⟩ = some (.int .i64 x.pos) := HF4.out.cell 1; have r0 : w4.cell? ⟨w.heap.size, 0, none⟩ = some (.int .i64 0) := HK4.out.cell 0; have r1 : w4.cell? ⟨w.heap.size, 1, none⟩ = some (.int .i64 0) := HK4.out.cell 1; have r2 : w4.cell? ⟨w.heap.size, 2, none⟩ = some (.string ByteArray.empty) := HK4.out.cell 2; have r3 : w4.cell? ⟨w.heap.size, 3, none⟩ = some (.int .i64 0) := HK4.out.cell 3; have r4 : w4.cell? ⟨w.heap.size, 4, none⟩ = some (.slice none 0 0) := HK4.out.cell 4; have r5 : w4.cell? ⟨w.heap.size, 5, none⟩ = some (.string ByteArray.empty) := HK4.out.cell 5; have r6 : w4.cell? ⟨w.heap.size, 6, none⟩ = some (.string ByteArray.empty) := HK4.out.cell 6; have r7 : w4.cell? ⟨w.heap.size, 7, none⟩ = some (.int .i64 0) := HK4.out.cell 7; have r8 : w4.cell? ⟨w.heap.size, 8, none⟩ = some (.int .i64 0) := HK4.out.cell 8; have r9 : w4.cell? ⟨w.heap.size, 9, none⟩ = some (.string ByteArray.empty) := HK4.out.cell 9; have r10 : w4.cell? ⟨w.heap.size, 10, none⟩ = some (.int .i64 0) := HK4.out.cell 10; have r11 : w4.cell? ⟨w.heap.size, 11, none⟩ = some (.int .i64 0) := HK4.out.cell 11; have f0 := HK4.out.frozen 0; have f1 := HK4.out.frozen 1; have f2 := HK4.out.frozen 2; have f3 := HK4.out.frozen 3; have f4 := HK4.out.frozen 4; have f5 := HK4.out.frozen 5; have f6 := HK4.out.frozen 6; have f7 := HK4.out.frozen 7; have f8 := HK4.out.frozen 8; have f9 := HK4.out.frozen 9; have f10 := HK4.out.frozen 10; have f11 := HK4.out.frozen 11; clear h4 g4 ho hz hm1; (try dsimp only)))
  all_goals
   obtain ⟨hB, hF⟩ := value_result (c0 := .int .i64 4) (c1 := .int .i64 x.pos) (c2 := .string ⟨#[]⟩) (c3 := .int .i64 0) (c4 := .slice none 0 0) (c5 := .string ⟨#[]⟩) (c6 := .string d.name) (c7 := .int .i64 d.n) (c8 := .int .i64 d.pos) (c9 := .string ⟨#[]⟩) (c10 := .int .i64 0) (c11 := .int .i64 0) HK4.out
   generalize ((((((((((((w4.setCell ⟨w.heap.size, 0, none⟩ (.int .i64 4)).setCell ⟨w.heap.size, 1, none⟩ (.int .i64 x.pos)).setCell ⟨w.heap.size, 2, none⟩ (.string ⟨#[]⟩)).setCell ⟨w.heap.size, 3, none⟩ (.int .i64 0)).setCell ⟨w.heap.size, 4, none⟩ (.slice none 0 0)).setCell ⟨w.heap.size, 5, none⟩ (.string ⟨#[]⟩)).setCell ⟨w.heap.size, 6, none⟩ (.string d.name)).setCell ⟨w.heap.size, 7, none⟩ (.int .i64 d.n)).setCell ⟨w.heap.size, 8, none⟩ (.int .i64 d.pos)).setCell ⟨w.heap.size, 9, none⟩ (.string ⟨#[]⟩)).setCell ⟨w.heap.size, 10, none⟩ (.int .i64 0)).setCell ⟨w.heap.size, 11, none⟩ (.int .i64 0)) = wZ at hB hF ⊢
   have HBZ := hdn hB; have HFZ := hdn hF
   clear hB hF r0 f0 r1 f1 r2 f2 r3 f3 r4 f4 r5 f5 r6 f6 r7 f7 r8 f8 r9 f9 r10 f10 r11 f11
   go_wp2_with fail
   have hB := HBZ.out; have hF := HFZ.out
   have e0 := hB.cell 0
   have e1 := hB.cell 1
   have e2 := hB.cell 2
   have e3 := hB.cell 3
   have e4 := hB.cell 4
   have e5 := hB.cell 5
   have e6 := hB.cell 6
   have e7 := hB.cell 7
   have e8 := hB.cell 8
   have e9 := hB.cell 9
   have e10 := hB.cell 10
   have e11 := hB.cell 11
   exact bodyPost_ret (v := .agg #[.int .i64 4, .int .i64 x.pos, .string ⟨#[]⟩, .int .i64 0, .slice none 0 0, .string ⟨#[]⟩, .string d.name, .int .i64 d.n, .int .i64 d.pos, .string ⟨#[]⟩, .int .i64 0, .int .i64 0]) (by simp [results, Tryz.results182, go_sem, e0, e1, e2, e3, e4, e5, e6, e7, e8, e9, e10, e11]) rfl (Outc.ok (u := u1) (a := { Pr.noVl with kind := 4, left := a1 }) (by rw [HR.out, HSK.out]; simp only [Pr.th, HM1.out]) (grownBy_mine HG4.out hF) ⟨⟨4, x.pos, ⟨ByteArray.empty, 0, ⟨none, 0, []⟩⟩, ByteArray.empty, d, ⟨ByteArray.empty, 0, 0⟩⟩, rfl, by rw [← HD.out]; rfl, (show 0 * 24 ≤ 140737488351232 by decide), .inl rfl⟩ (HP4.out.far hF HNE.out.1 HNE.out.2.1))
 ·have hd : (x.kind == 2) = false := by simpa using h2
  have HSK : Hid (Pr.side (l.map Pr.tk) u = Pr.th (Pr.path (l.map Pr.tk) u) fun y u => .ok ({ Pr.noVl with kind := 1, path := y }, u)) := hdn (by simp only [Pr.side, HQ.out, Pr.sg_tk HX.out, Pr.tk, h2, Bool.false_eq_true, if_false])
  clear h2
  go_wp2_with fail
  clear t0
  have HPD : Hid (PS w3.drew pb sb cap l u.i u.o u.b) := hdn (HP3.out.below (below_drew (Below.refl _ _)))
  have HKD : Hid (Bk w3.drew w.heap.size 49 #[.int .i64 0, .int .i64 0, .string ByteArray.empty, .int .i64 0, .slice none 0 0, .string ByteArray.empty, .string ByteArray.empty, .int .i64 0, .int .i64 0, .string ByteArray.empty, .int .i64 0, .int .i64 0]) := hdn HK3.out
  have HFD : Hid (Bk w3.drew F 106 #[.int .i64 x.kind, .int .i64 x.pos, .string x.text, .int .i64 x.num]) := hdn HF3.out
  have HGD : Hid (w.grownBy w3.drew (some pb)) := hdn (grownBy_drew HG3.out)
  have HLT : Hid (w.heap.size < w3.drew.heap.size) := hdn HK3.out.lt
  clear HP3 HK3 HF3 HG3
  go_region_law (first
   | (go_simp; go_at_call 179; (with_reducible refine (path_any _ u HPD.out HL.out).mono ?_); intro en w4 ho; rcases hm1 : Pr.path (l.map Pr.tk) u with n | ⟨a1, u1⟩; (· obtain ⟨p, rfl, g4⟩ := ho.of_err hm1; exact ⟨rfl, Outc.err (by rw [HR.out, HSK.out]; simp only [Pr.th, hm1]) (grownBy_tr HGD.out g4)⟩); obtain ⟨v, rfl, ⟨d, rfl, hz, hlie⟩, h4, g4⟩ := ho.of_ok hm1; have HD := hdn hz; have HLI := hdn hlie; have HM1 := hdn hm1; have HP4 := hdn h4; have HK4 := hdn (HKD.out.kept g4 HNE.out.1); have HF4 := hdn (HFD.out.kept g4 HFN.out.1); have HG4 := hdn (grownBy_tr HGD.out g4); have t14 : w4.cell? ⟨F, 1, none⟩ = some (.int .i64 x.pos) := HF4.out.cell 1; have r0 : w4.cell? ⟨w.heap.size, 0, none⟩ = some (.int .i64 0) := HK4.out.cell 0; have r1 : w4.cell? ⟨w.heap.size, 1, none⟩ = some (.int .i64 0) := HK4.out.cell 1; have r2 : w4.cell? ⟨w.heap.size, 2, none⟩ = some (.string ByteArray.empty) := HK4.out.cell 2; have r3 : w4.cell? ⟨w.heap.size, 3, none⟩ = some (.int .i64 0) := HK4.out.cell 3; have r4 : w4.cell? ⟨w.heap.size, 4, none⟩ = some (.slice none 0 0) := HK4.out.cell 4; have r5 : w4.cell? ⟨w.heap.size, 5, none⟩ = some (.string ByteArray.empty) := HK4.out.cell 5; have r6 : w4.cell? ⟨w.heap.size, 6, none⟩ = some (.string ByteArray.empty) := HK4.out.cell 6; have r7 : w4.cell? ⟨w.heap.size, 7, none⟩ = some (.int .i64 0) := HK4.out.cell 7; have r8 : w4.cell? ⟨w.heap.size, 8, none⟩ = some (.int .i64 0) := HK4.out.cell 8; have r9 : w4.cell? ⟨w.heap.size, 9, none⟩ = some (.string ByteArray.empty) := HK4.out.cell 9; have r10 : w4.cell? ⟨w.heap.size, 10, none⟩ = some (.int .i64 0) := HK4.out.cell 10; have r11 : w4.cell? ⟨w.heap.size, 11, none⟩ = some (.int .i64 0) := HK4.out.cell 11; have f0 := HK4.out.frozen 0; have f1 := HK4.out.frozen 1; have f2 := HK4.out.frozen 2; have f3 := HK4.out.frozen 3; have f4 := HK4.out.frozen 4; have f5 := HK4.out.frozen 5; have f6 := HK4.out.frozen 6; have f7 := HK4.out.frozen 7; have f8 := HK4.out.frozen 8; have f9 := HK4.out.frozen 9; have f10 := HK4.out.frozen 10; have f11 := HK4.out.frozen 11; clear h4 g4 ho hz hm1 hlie; dsimp only [kPth]; (try dsimp only)))
  all_goals
   obtain ⟨hB, hF⟩ := value_result (c0 := .int .i64 1) (c1 := .int .i64 x.pos) (c2 := .string d.name) (c3 := .int .i64 d.pos) (c4 := .slice d.hops.p d.hops.l.length d.hops.cap) (c5 := .string ⟨#[]⟩) (c6 := .string ⟨#[]⟩) (c7 := .int .i64 0) (c8 := .int .i64 0) (c9 := .string ⟨#[]⟩) (c10 := .int .i64 0) (c11 := .int .i64 0) HK4.out
   generalize ((((((((((((w4.setCell ⟨w.heap.size, 0, none⟩ (.int .i64 1)).setCell ⟨w.heap.size, 1, none⟩ (.int .i64 x.pos)).setCell ⟨w.heap.size, 2, none⟩ (.string d.name)).setCell ⟨w.heap.size, 3, none⟩ (.int .i64 d.pos)).setCell ⟨w.heap.size, 4, none⟩ (.slice d.hops.p d.hops.l.length d.hops.cap)).setCell ⟨w.heap.size, 5, none⟩ (.string ⟨#[]⟩)).setCell ⟨w.heap.size, 6, none⟩ (.string ⟨#[]⟩)).setCell ⟨w.heap.size, 7, none⟩ (.int .i64 0)).setCell ⟨w.heap.size, 8, none⟩ (.int .i64 0)).setCell ⟨w.heap.size, 9, none⟩ (.string ⟨#[]⟩)).setCell ⟨w.heap.size, 10, none⟩ (.int .i64 0)).setCell ⟨w.heap.size, 11, none⟩ (.int .i64 0)) = wZ at hB hF ⊢
   have HBZ := hdn hB; have HFZ := hdn hF
   clear hB hF r0 f0 r1 f1 r2 f2 r3 f3 r4 f4 r5 f5 r6 f6 r7 f7 r8 f8 r9 f9 r10 f10 r11 f11
   go_wp2_with fail
   have hB := HBZ.out; have hF := HFZ.out
   have e0 := hB.cell 0
   have e1 := hB.cell 1
   have e2 := hB.cell 2
   have e3 := hB.cell 3
   have e4 := hB.cell 4
   have e5 := hB.cell 5
   have e6 := hB.cell 6
   have e7 := hB.cell 7
   have e8 := hB.cell 8
   have e9 := hB.cell 9
   have e10 := hB.cell 10
   have e11 := hB.cell 11
   exact bodyPost_ret (v := .agg #[.int .i64 1, .int .i64 x.pos, .string d.name, .int .i64 d.pos, .slice d.hops.p d.hops.l.length d.hops.cap, .string ⟨#[]⟩, .string ⟨#[]⟩, .int .i64 0, .int .i64 0, .string ⟨#[]⟩, .int .i64 0, .int .i64 0]) (by simp [results, Tryz.results182, go_sem, e0, e1, e2, e3, e4, e5, e6, e7, e8, e9, e10, e11]) rfl (Outc.ok (u := u1) (a := { Pr.noVl with kind := 1, path := a1 }) (by rw [HR.out, HSK.out]; simp only [Pr.th, HM1.out]) (grownBy_mine HG4.out hF) ⟨⟨1, x.pos, d, ByteArray.empty, ⟨ByteArray.empty, 0, 0⟩, ⟨ByteArray.empty, 0, 0⟩⟩, rfl, by rw [← HD.out]; rfl, hopsLie_ext ((fresh_par hF HLT.out).trans (fresh_mono (Nat.le_of_lt HLT.out) _)) HLI.out⟩ (HP4.out.far hF HNE.out.1 HNE.out.2.1))
end
end Go.Proofs.YtdlchhimkelinaaGreatDoor
namespace Go.Proofs.YtdlchhimkelinaaGreatDoor
open Go.RowKit Go.Sort
attribute [local go_sem] field79_0 field79_1 field79_2 field79_3
section
variable {pb sb cap : Nat} {l : List Tx.Sg}
theorem value_any (w : World) (u : Pr.St) (h : PS w pb sb cap l u.i u.o u.b) (hg : Good l) :
  Calls Tryz.prog 183 #[.pointer (some ⟨pb, 0, none⟩)] w (Outc (kVl.Val w.heap.size) w pb sb cap l (Pr.value (l.map Pr.tk) u)) := by
 obtain ⟨r, hr⟩ : ∃ r, r = Pr.value (l.map Pr.tk) u := ⟨_, rfl⟩
 rw [← hr]
 have HR := hdn hr
 have HL := hdn hg
 obtain ⟨x, hx⟩ := h.at
 have hn : Below w.heap.size w (w.alloc (.cells #[.int .i64 0, .int .i64 0, .string ByteArray.empty, .int .i64 0, .slice none 0 0, .string ByteArray.empty, .string ByteArray.empty, .int .i64 0, .int .i64 0, .string ByteArray.empty, .int .i64 0, .int .i64 0] 49)) := (Below.refl _ _).alloc (Nat.le_refl _) _
 have HK : Hid (Bk (w.alloc (.cells #[.int .i64 0, .int .i64 0, .string ByteArray.empty, .int .i64 0, .slice none 0 0, .string ByteArray.empty, .string ByteArray.empty, .int .i64 0, .int .i64 0, .string ByteArray.empty, .int .i64 0, .int .i64 0] 49)) w.heap.size 49 #[.int .i64 0, .int .i64 0, .string ByteArray.empty, .int .i64 0, .slice none 0 0, .string ByteArray.empty, .string ByteArray.empty, .int .i64 0, .int .i64 0, .string ByteArray.empty, .int .i64 0, .int .i64 0]) := hdn (heap_alloc_new _ _)
 have HNE : Hid (w.heap.size ≠ pb ∧ w.heap.size ≠ sb ∧ pb < w.heap.size ∧ sb < w.heap.size) := hdn ⟨fun e => by have := h.pb_lt; omega, fun e => by have := h.sb_lt; omega, h.pb_lt, h.sb_lt⟩
 have HZ : Hid ((w.alloc (.cells #[.int .i64 0, .int .i64 0, .string ByteArray.empty, .int .i64 0, .slice none 0 0, .string ByteArray.empty, .string ByteArray.empty, .int .i64 0, .int .i64 0, .string ByteArray.empty, .int .i64 0, .int .i64 0] 49)).heap.size = w.heap.size + 1) := hdn (by simp)
 have HG : Hid (w.grownBy (w.alloc (.cells #[.int .i64 0, .int .i64 0, .string ByteArray.empty, .int .i64 0, .slice none 0 0, .string ByteArray.empty, .string ByteArray.empty, .int .i64 0, .int .i64 0, .string ByteArray.empty, .int .i64 0, .int .i64 0] 49)) (some pb)) := hdn (grownBy_of hn _)
 have HP := hdn (h.below hn)
 generalize hwA : w.alloc (.cells #[.int .i64 0, .int .i64 0, .string ByteArray.empty, .int .i64 0, .slice none 0 0, .string ByteArray.empty, .string ByteArray.empty, .int .i64 0, .int .i64 0, .string ByteArray.empty, .int .i64 0, .int .i64 0] 49) = wA at HK HG HP HZ
 have HX := hdn hx
 have HA := hdn (ahead_any x wA HP.out hg hx)
 clear h hg hr hn hx
 go_enter Tryz.func183, Tryz.ntmps183
 go_wp2_with fail
 rw [show w.alloc (.cells #[.int .i64 0, .int .i64 0, .string ⟨#[]⟩, .int .i64 0, .slice none 0 0, .string ⟨#[]⟩, .string ⟨#[]⟩, .int .i64 0, .int .i64 0, .string ⟨#[]⟩, .int .i64 0, .int .i64 0] 49) = wA from hwA]
 clear hwA
 refine (HA.out).mono ?_; rintro en w1 ⟨rfl, hb⟩
 have HP1 := hdn (HP.out.below hb); have HG1 := hdn (grownBy_below HG.out hb); have HK1 := hdn (HK.out.below hb HK.out.lt)
 clear hb HA
 go_upto_region 2 with fail
 have hm : Below w1.heap.size w1 (w1.alloc (.cells #[.int .i64 x.kind, .int .i64 x.pos, .string x.text, .int .i64 x.num] 106)) := (Below.refl _ _).alloc (Nat.le_refl _) _
 have HP2 := hdn (HP1.out.below hm)
 have HK2 := hdn (HK1.out.below hm HK1.out.lt)
 have HF : Hid (Bk (w1.alloc (.cells #[.int .i64 x.kind, .int .i64 x.pos, .string x.text, .int .i64 x.num] 106)) w1.heap.size 106 #[.int .i64 x.kind, .int .i64 x.pos, .string x.text, .int .i64 x.num]) := hdn (heap_alloc_new _ _)
 have HG2 : Hid (w.grownBy (w1.alloc (.cells #[.int .i64 x.kind, .int .i64 x.pos, .string x.text, .int .i64 x.num] 106)) (some pb)) := hdn (grownBy_below HG1.out hm)
 obtain ⟨F, hF⟩ : ∃ F, F = w1.heap.size := ⟨_, rfl⟩
 have HFN : Hid (F ≠ pb ∧ F ≠ w.heap.size) := hdn ⟨by have := HP1.out.pb_lt; omega, by have := HK1.out.lt; omega⟩
 rw [← hF] at HF ⊢
 clear hF hm HP1 HG1 HK1
 generalize w1.alloc (.cells #[.int .i64 x.kind, .int .i64 x.pos, .string x.text, .int .i64 x.num] 106) = w2 at HP2 HK2 HF HG2 ⊢
 go_wp2_with fail
 refine (may_any ⟨#[110, 101, 119]⟩ (by decide) w2 u HP2.out HL.out).mono ?_; rintro en w3 ⟨q, hq, rfl, h3, g3⟩
 have HP3 := hdn h3; have HG3 := hdn (grownBy_tr HG2.out g3); have HK3 := hdn (HK2.out.kept g3 HNE.out.1); have HF3 := hdn (HF.out.kept g3 HFN.out.1)
 have HQ := hdn hq
 clear h3 g3 hq HP2 HG2 HK2 HF
 have t1 : w3.cell? ⟨F, 1, none⟩ = some (.int .i64 x.pos) := HF3.out.cell 1
 cases q with
 | true =>
  have HSK : Hid (Pr.value (l.map Pr.tk) u = Pr.th (Pr.name (l.map Pr.tk) u.go) fun y u => .ok ({ Pr.noVl with kind := 2, type := y.text }, u)) := hdn (by simp only [Pr.value, HQ.out, if_true])
  go_wp2_with fail
  have HPD : Hid (PS w3.drew pb sb cap l u.go.i u.go.o u.go.b) := hdn (HP3.out.below (below_drew (Below.refl _ _)))
  have HKD : Hid (Bk w3.drew w.heap.size 49 #[.int .i64 0, .int .i64 0, .string ByteArray.empty, .int .i64 0, .slice none 0 0, .string ByteArray.empty, .string ByteArray.empty, .int .i64 0, .int .i64 0, .string ByteArray.empty, .int .i64 0, .int .i64 0]) := hdn HK3.out
  have HFD : Hid (Bk w3.drew F 106 #[.int .i64 x.kind, .int .i64 x.pos, .string x.text, .int .i64 x.num]) := hdn HF3.out
  have HGD : Hid (w.grownBy w3.drew (some pb)) := hdn (grownBy_drew HG3.out)
  clear HP3 HK3 HF3 HG3
  go_region_law (first
   | (go_simp; go_at_call 99; (with_reducible refine (name_any _ u.go HPD.out HL.out).mono ?_); intro en w4 ho; rcases hm1 : Pr.name (l.map Pr.tk) u.go with n | ⟨a1, u1⟩; (· obtain ⟨p, rfl, g4⟩ := ho.of_err hm1; exact ⟨rfl, Outc.err (by rw [HR.out, HSK.out]; simp only [Pr.th, hm1]) (grownBy_tr HGD.out g4)⟩); obtain ⟨v, rfl, ⟨z, rfl, hz⟩, h4, g4⟩ := ho.of_ok hm1; have HD := hdn hz; have HM1 := hdn hm1; have HP4 := hdn h4; have HK4 := hdn (HKD.out.kept g4 HNE.out.1); have HF4 := hdn (HFD.out.kept g4 HFN.out.1); have HG4 := hdn (grownBy_tr HGD.out g4); have t14 : w4.cell? ⟨F, 1, none⟩ = some (.int .i64 x.pos) := HF4.out.cell 1; have r0 : w4.cell? ⟨w.heap.size, 0, none⟩ = some (.int .i64 0) := HK4.out.cell 0; have r1 : w4.cell? ⟨w.heap.size, 1, none⟩ = some (.int .i64 0) := HK4.out.cell 1; have r2 : w4.cell? ⟨w.heap.size, 2, none⟩ = some (.string ByteArray.empty) := HK4.out.cell 2; have r3 : w4.cell? ⟨w.heap.size, 3, none⟩ = some (.int .i64 0) := HK4.out.cell 3; have r4 : w4.cell? ⟨w.heap.size, 4, none⟩ = some (.slice none 0 0) := HK4.out.cell 4; have r5 : w4.cell? ⟨w.heap.size, 5, none⟩ = some (.string ByteArray.empty) := HK4.out.cell 5; have r6 : w4.cell? ⟨w.heap.size, 6, none⟩ = some (.string ByteArray.empty) := HK4.out.cell 6; have r7 : w4.cell? ⟨w.heap.size, 7, none⟩ = some (.int .i64 0) := HK4.out.cell 7; have r8 : w4.cell? ⟨w.heap.size, 8, none⟩ = some (.int .i64 0) := HK4.out.cell 8; have r9 : w4.cell? ⟨w.heap.size, 9, none⟩ = some (.string ByteArray.empty) := HK4.out.cell 9; have r10 : w4.cell? ⟨w.heap.size, 10, none⟩ = some (.int .i64 0) := HK4.out.cell 10; have r11 : w4.cell? ⟨w.heap.size, 11, none⟩ = some (.int .i64 0) := HK4.out.cell 11; have f0 := HK4.out.frozen 0; have f1 := HK4.out.frozen 1; have f2 := HK4.out.frozen 2; have f3 := HK4.out.frozen 3; have f4 := HK4.out.frozen 4; have f5 := HK4.out.frozen 5; have f6 := HK4.out.frozen 6; have f7 := HK4.out.frozen 7; have f8 := HK4.out.frozen 8; have f9 := HK4.out.frozen 9; have f10 := HK4.out.frozen 10; have f11 := HK4.out.frozen 11; clear h4 g4 ho hz hm1; (try dsimp only)))
  all_goals
   obtain ⟨hB, hF⟩ := value_result (c0 := .int .i64 2) (c1 := .int .i64 x.pos) (c2 := .string ⟨#[]⟩) (c3 := .int .i64 0) (c4 := .slice none 0 0) (c5 := .string z.text) (c6 := .string ⟨#[]⟩) (c7 := .int .i64 0) (c8 := .int .i64 0) (c9 := .string ⟨#[]⟩) (c10 := .int .i64 0) (c11 := .int .i64 0) HK4.out
   generalize ((((((((((((w4.setCell ⟨w.heap.size, 0, none⟩ (.int .i64 2)).setCell ⟨w.heap.size, 1, none⟩ (.int .i64 x.pos)).setCell ⟨w.heap.size, 2, none⟩ (.string ⟨#[]⟩)).setCell ⟨w.heap.size, 3, none⟩ (.int .i64 0)).setCell ⟨w.heap.size, 4, none⟩ (.slice none 0 0)).setCell ⟨w.heap.size, 5, none⟩ (.string z.text)).setCell ⟨w.heap.size, 6, none⟩ (.string ⟨#[]⟩)).setCell ⟨w.heap.size, 7, none⟩ (.int .i64 0)).setCell ⟨w.heap.size, 8, none⟩ (.int .i64 0)).setCell ⟨w.heap.size, 9, none⟩ (.string ⟨#[]⟩)).setCell ⟨w.heap.size, 10, none⟩ (.int .i64 0)).setCell ⟨w.heap.size, 11, none⟩ (.int .i64 0)) = wZ at hB hF ⊢
   have HBZ := hdn hB; have HFZ := hdn hF
   clear hB hF r0 f0 r1 f1 r2 f2 r3 f3 r4 f4 r5 f5 r6 f6 r7 f7 r8 f8 r9 f9 r10 f10 r11 f11
   go_wp2_with fail
   have hB := HBZ.out; have hF := HFZ.out
   have e0 := hB.cell 0
   have e1 := hB.cell 1
   have e2 := hB.cell 2
   have e3 := hB.cell 3
   have e4 := hB.cell 4
   have e5 := hB.cell 5
   have e6 := hB.cell 6
   have e7 := hB.cell 7
   have e8 := hB.cell 8
   have e9 := hB.cell 9
   have e10 := hB.cell 10
   have e11 := hB.cell 11
   exact bodyPost_ret (v := .agg #[.int .i64 2, .int .i64 x.pos, .string ⟨#[]⟩, .int .i64 0, .slice none 0 0, .string z.text, .string ⟨#[]⟩, .int .i64 0, .int .i64 0, .string ⟨#[]⟩, .int .i64 0, .int .i64 0]) (by simp [results, Tryz.results183, go_sem, e0, e1, e2, e3, e4, e5, e6, e7, e8, e9, e10, e11]) rfl (Outc.ok (u := u1) (a := { Pr.noVl with kind := 2, type := a1.text }) (by rw [HR.out, HSK.out]; simp only [Pr.th, HM1.out]) (grownBy_mine HG4.out hF) ⟨⟨2, x.pos, ⟨ByteArray.empty, 0, ⟨none, 0, []⟩⟩, z.text, ⟨ByteArray.empty, 0, 0⟩, ⟨ByteArray.empty, 0, 0⟩⟩, rfl, by rw [← HD.out]; rfl, (show 0 * 24 ≤ 140737488351232 by decide), .inl rfl⟩ (HP4.out.far hF HNE.out.1 HNE.out.2.1))
 | false =>
 go_wp2_with fail
 clear t1
 refine (may_any ⟨#[105, 110, 112, 117, 116]⟩ (by decide) w3 u HP3.out HL.out).mono ?_; rintro en w4 ⟨q, hq, rfl, h4, g4⟩
 have HP4 := hdn h4; have HG4 := hdn (grownBy_tr HG3.out g4); have HK4 := hdn (HK3.out.kept g4 HNE.out.1); have HF4 := hdn (HF3.out.kept g4 HFN.out.1)
 have HQ4 := hdn hq
 clear h4 g4 hq HP3 HG3 HK3 HF3
 have t1 : w4.cell? ⟨F, 1, none⟩ = some (.int .i64 x.pos) := HF4.out.cell 1
 cases q with
 | true =>
  go_wp2_with (first | ((with_reducible show wpList _ _ _ (Oper.mk none (Op.store 49 (Operand.tmp 2) _) _ _ _ _ :: _) _ _); refine wpList_store_bk rfl 49 (.tmp 2) (.tmp 20) rfl w.heap.size 49 _ #[.int .i64 3, .int .i64 x.pos, .string ⟨#[]⟩, .int .i64 0, .slice none 0 0, .string ⟨#[]⟩, .string ⟨#[]⟩, .int .i64 0, .int .i64 0, .string ⟨#[]⟩, .int .i64 0, .int .i64 0] rfl rfl HK4.out size47 rfl (by simp [Value.oneCell']) ?_; intro wZ hB hF))
  have e0 : wZ.cell? ⟨w.heap.size, 0, none⟩ = some (.int .i64 3) := hB.cell 0
  have e1 : wZ.cell? ⟨w.heap.size, 1, none⟩ = some (.int .i64 x.pos) := hB.cell 1
  have e2 : wZ.cell? ⟨w.heap.size, 2, none⟩ = some (.string ⟨#[]⟩) := hB.cell 2
  have e3 : wZ.cell? ⟨w.heap.size, 3, none⟩ = some (.int .i64 0) := hB.cell 3
  have e4 : wZ.cell? ⟨w.heap.size, 4, none⟩ = some (.slice none 0 0) := hB.cell 4
  have e5 : wZ.cell? ⟨w.heap.size, 5, none⟩ = some (.string ⟨#[]⟩) := hB.cell 5
  have e6 : wZ.cell? ⟨w.heap.size, 6, none⟩ = some (.string ⟨#[]⟩) := hB.cell 6
  have e7 : wZ.cell? ⟨w.heap.size, 7, none⟩ = some (.int .i64 0) := hB.cell 7
  have e8 : wZ.cell? ⟨w.heap.size, 8, none⟩ = some (.int .i64 0) := hB.cell 8
  have e9 : wZ.cell? ⟨w.heap.size, 9, none⟩ = some (.string ⟨#[]⟩) := hB.cell 9
  have e10 : wZ.cell? ⟨w.heap.size, 10, none⟩ = some (.int .i64 0) := hB.cell 10
  have e11 : wZ.cell? ⟨w.heap.size, 11, none⟩ = some (.int .i64 0) := hB.cell 11
  exact bodyPost_ret (v := .agg #[.int .i64 3, .int .i64 x.pos, .string ⟨#[]⟩, .int .i64 0, .slice none 0 0, .string ⟨#[]⟩, .string ⟨#[]⟩, .int .i64 0, .int .i64 0, .string ⟨#[]⟩, .int .i64 0, .int .i64 0]) (by simp [results, Tryz.results183, go_sem, e0, e1, e2, e3, e4, e5, e6, e7, e8, e9, e10, e11]) rfl (Outc.ok (u := u.go) (a := { Pr.noVl with kind := 3 }) (by rw [HR.out]; simp only [Pr.value, HQ.out, HQ4.out, Bool.false_eq_true, if_false, if_true]) (grownBy_mine HG4.out hF) ⟨⟨3, x.pos, ⟨ByteArray.empty, 0, ⟨none, 0, []⟩⟩, ByteArray.empty, ⟨ByteArray.empty, 0, 0⟩, ⟨ByteArray.empty, 0, 0⟩⟩, rfl, rfl, (show 0 * 24 ≤ 140737488351232 by decide), .inl rfl⟩ (HP4.out.far hF HNE.out.1 HNE.out.2.1))
 | false =>
 go_wp2_with fail
 clear t1
 refine (sums_any w4 u HP4.out HL.out).mono ?_; rintro en w5 ⟨rfl, hb⟩
 have HP5 := hdn (HP4.out.below hb); have HG5 := hdn (grownBy_below HG4.out hb); have HK5 := hdn (HK4.out.below hb HK4.out.lt)
 have HLT : Hid (w.heap.size < w5.heap.size) := hdn HK5.out.lt
 clear hb HP4 HG4 HK4 HF4
 rcases hs : Pr.sums (l.map Pr.tk) u with _ | _
 ·have HSK : Hid (Pr.value (l.map Pr.tk) u = Pr.side (l.map Pr.tk) u) := hdn (by simp only [Pr.value, HQ.out, HQ4.out, hs, Bool.false_eq_true, if_false])
  clear hs
  go_wp2_with fail
  refine (side_any w5 u HP5.out HL.out).mono ?_; intro en w6 ho
  rcases hm1 : Pr.side (l.map Pr.tk) u with n | ⟨a1, u1⟩
  ·obtain ⟨p, rfl, g6⟩ := ho.of_err hm1
   exact ⟨rfl, Outc.err (by rw [HR.out, HSK.out, hm1]) (grownBy_tr HG5.out g6)⟩
  obtain ⟨v, rfl, ⟨y, rfl, hz, hlie⟩, h6, g6⟩ := ho.of_ok hm1
  have HD := hdn hz; have HLI := hdn hlie; have HM1 := hdn hm1; have HP6 := hdn h6; have HK6 := hdn (HK5.out.kept g6 HNE.out.1); have HG6 := hdn (grownBy_tr HG5.out g6)
  clear h6 g6 ho hz hm1 hlie
  go_wp2_with (first | ((with_reducible show wpList _ _ _ (Oper.mk none (Op.store 49 (Operand.tmp 2) _) _ _ _ _ :: _) _ _); refine wpList_store_bk rfl 49 (.tmp 2) (.tmp 27) rfl w.heap.size 49 _ (kVl.cells y).toArray rfl rfl HK6.out size47 rfl (kVl.one y) ?_; intro wZ hB hF))
  have e0 : wZ.cell? ⟨w.heap.size, 0, none⟩ = some (.int .i64 y.kind) := hB.cell 0
  have e1 : wZ.cell? ⟨w.heap.size, 1, none⟩ = some (.int .i64 y.pos) := hB.cell 1
  have e2 : wZ.cell? ⟨w.heap.size, 2, none⟩ = some (.string y.path.name) := hB.cell 2
  have e3 : wZ.cell? ⟨w.heap.size, 3, none⟩ = some (.int .i64 y.path.pos) := hB.cell 3
  have e4 : wZ.cell? ⟨w.heap.size, 4, none⟩ = some (.slice y.path.hops.p y.path.hops.l.length y.path.hops.cap) := hB.cell 4
  have e5 : wZ.cell? ⟨w.heap.size, 5, none⟩ = some (.string y.type) := hB.cell 5
  have e6 : wZ.cell? ⟨w.heap.size, 6, none⟩ = some (.string y.left.name) := hB.cell 6
  have e7 : wZ.cell? ⟨w.heap.size, 7, none⟩ = some (.int .i64 y.left.n) := hB.cell 7
  have e8 : wZ.cell? ⟨w.heap.size, 8, none⟩ = some (.int .i64 y.left.pos) := hB.cell 8
  have e9 : wZ.cell? ⟨w.heap.size, 9, none⟩ = some (.string y.right.name) := hB.cell 9
  have e10 : wZ.cell? ⟨w.heap.size, 10, none⟩ = some (.int .i64 y.right.n) := hB.cell 10
  have e11 : wZ.cell? ⟨w.heap.size, 11, none⟩ = some (.int .i64 y.right.pos) := hB.cell 11
  exact bodyPost_ret (v := .agg #[.int .i64 y.kind, .int .i64 y.pos, .string y.path.name, .int .i64 y.path.pos, .slice y.path.hops.p y.path.hops.l.length y.path.hops.cap, .string y.type, .string y.left.name, .int .i64 y.left.n, .int .i64 y.left.pos, .string y.right.name, .int .i64 y.right.n, .int .i64 y.right.pos]) (by simp [results, Tryz.results183, go_sem, e0, e1, e2, e3, e4, e5, e6, e7, e8, e9, e10, e11]) rfl (Outc.ok (u := u1) (a := a1) (by rw [HR.out, HSK.out, HM1.out]) (grownBy_mine HG6.out hF) ⟨y, rfl, HD.out, hopsLie_ext ((fresh_par hF HLT.out).trans (fresh_mono (Nat.le_of_lt HLT.out) _)) HLI.out⟩ (HP6.out.far hF HNE.out.1 HNE.out.2.1))
 ·have HS := hdn hs
  have HSK : Hid (Pr.value (l.map Pr.tk) u = Pr.sum (l.map Pr.tk) u) := hdn (by simp only [Pr.value, HQ.out, HQ4.out, hs, Bool.false_eq_true, if_false, if_true])
  clear hs
  go_wp2_with fail
  refine (sum_any w5 u HP5.out HL.out HS.out).mono ?_; intro en w6 ho
  rcases hm1 : Pr.sum (l.map Pr.tk) u with n | ⟨a1, u1⟩
  ·obtain ⟨p, rfl, g6⟩ := ho.of_err hm1
   exact ⟨rfl, Outc.err (by rw [HR.out, HSK.out, hm1]) (grownBy_tr HG5.out g6)⟩
  obtain ⟨v, rfl, ⟨y, rfl, hz, hlie⟩, h6, g6⟩ := ho.of_ok hm1
  have HD := hdn hz; have HLI := hdn hlie; have HM1 := hdn hm1; have HP6 := hdn h6; have HK6 := hdn (HK5.out.kept g6 HNE.out.1); have HG6 := hdn (grownBy_tr HG5.out g6)
  clear h6 g6 ho hz hm1 hlie
  go_wp2_with (first | ((with_reducible show wpList _ _ _ (Oper.mk none (Op.store 49 (Operand.tmp 2) _) _ _ _ _ :: _) _ _); refine wpList_store_bk rfl 49 (.tmp 2) (.tmp 25) rfl w.heap.size 49 _ (Vl.cells y).toArray rfl rfl HK6.out size47 rfl (kVl.one y) ?_; intro wZ hB hF))
  have e0 : wZ.cell? ⟨w.heap.size, 0, none⟩ = some (.int .i64 y.kind) := hB.cell 0
  have e1 : wZ.cell? ⟨w.heap.size, 1, none⟩ = some (.int .i64 y.pos) := hB.cell 1
  have e2 : wZ.cell? ⟨w.heap.size, 2, none⟩ = some (.string y.path.name) := hB.cell 2
  have e3 : wZ.cell? ⟨w.heap.size, 3, none⟩ = some (.int .i64 y.path.pos) := hB.cell 3
  have e4 : wZ.cell? ⟨w.heap.size, 4, none⟩ = some (.slice y.path.hops.p y.path.hops.l.length y.path.hops.cap) := hB.cell 4
  have e5 : wZ.cell? ⟨w.heap.size, 5, none⟩ = some (.string y.type) := hB.cell 5
  have e6 : wZ.cell? ⟨w.heap.size, 6, none⟩ = some (.string y.left.name) := hB.cell 6
  have e7 : wZ.cell? ⟨w.heap.size, 7, none⟩ = some (.int .i64 y.left.n) := hB.cell 7
  have e8 : wZ.cell? ⟨w.heap.size, 8, none⟩ = some (.int .i64 y.left.pos) := hB.cell 8
  have e9 : wZ.cell? ⟨w.heap.size, 9, none⟩ = some (.string y.right.name) := hB.cell 9
  have e10 : wZ.cell? ⟨w.heap.size, 10, none⟩ = some (.int .i64 y.right.n) := hB.cell 10
  have e11 : wZ.cell? ⟨w.heap.size, 11, none⟩ = some (.int .i64 y.right.pos) := hB.cell 11
  exact bodyPost_ret (v := .agg #[.int .i64 y.kind, .int .i64 y.pos, .string y.path.name, .int .i64 y.path.pos, .slice y.path.hops.p y.path.hops.l.length y.path.hops.cap, .string y.type, .string y.left.name, .int .i64 y.left.n, .int .i64 y.left.pos, .string y.right.name, .int .i64 y.right.n, .int .i64 y.right.pos]) (by simp [results, Tryz.results183, go_sem, e0, e1, e2, e3, e4, e5, e6, e7, e8, e9, e10, e11]) rfl (Outc.ok (u := u1) (a := a1) (by rw [HR.out, HSK.out, HM1.out]) (grownBy_mine HG6.out hF) ⟨y, rfl, HD.out, (show y.path.hops.l.length * 24 ≤ 140737488351232 by rw [HLI.out]; decide), .inl HLI.out⟩ (HP6.out.far hF HNE.out.1 HNE.out.2.1))
end
end Go.Proofs.YtdlchhimkelinaaGreatDoor
