/-
  DERIVED. Plain: memory that the parser makes: rows of one's own beside the parser's own block; structs stored whole.
-/
import Derived.Test.YtlpnkllhpienhaaDoorPq
import Derived.Deep.AppendLies
import Derived.Deep.WholeRow
namespace Go.Proofs.YtlpnkllhpienhaaDoor
open Go.RowKit Go.Sort

theorem flat_at {α : Type} (f : α → List Value) (n : Nat) (hf : ∀ x, (f x).length = n) : ∀ (l : List α) (k : Nat) (x : α), l[k]? = some x → ∀ (j : Nat) (v : Value), (f x)[j]? = some v → (l.flatMap f)[k * n + j]? = some v
  | a :: l, 0, x, hx, j, v, hv => by
    simp only [List.getElem?_cons_zero, Option.some.injEq] at hx
    subst hx
    rw [List.flatMap_cons, Nat.zero_mul, Nat.zero_add, List.getElem?_append_left (List.getElem?_eq_some_iff.1 hv).1]; exact hv
  | a :: l, k + 1, x, hx, j, v, hv => by
    rw [List.getElem?_cons_succ] at hx
    rw [List.flatMap_cons, List.getElem?_append_right (by rw [hf]; rw [Nat.add_mul]; omega), hf, show (k + 1) * n + j - n = k * n + j by rw [Nat.add_mul]; omega]
    exact flat_at f n hf l k x hx j v hv
  | [], k, x, hx, _, _, _ => by simp at hx
theorem flat_len {α : Type} (f : α → List Value) (n : Nat) (hf : ∀ x, (f x).length = n) : ∀ (l : List α), (l.flatMap f).length = l.length * n
  | [] => by simp
  | a :: l => by rw [List.flatMap_cons, List.length_append, hf, flat_len f n hf l, List.length_cons, Nat.add_mul]; omega
/-- What a row of one's own holds lies in the new memory. -/
theorem own_lies {α : Type} {w : World} {B : Nat} {e : TypeId} {n : Nat} {v : Value} {l : List α} {f : α → List Value} (hf : ∀ x, (f x).length = n) (h : w.ownsRow B e n v l.length (l.flatMap f)) :
    ∃ (p : Option Addr) (c : Nat), v = .slice p l.length c ∧ (l = [] ∨ ∃ b o, p = some ⟨b, o, none⟩ ∧ B ≤ b ∧ v.ownBlock = some b ∧ ∀ k x, l[k]? = some x → (fresh B w).rangeAt b (o + k * n) (f x)) := by
  rcases h.2 with ⟨rfl, h0⟩ | ⟨g, cap, cur, rfl, hg, hr⟩
  · have hl : l = [] := List.length_eq_zero_iff.1 h0
    subst hl
    exact ⟨_, _, rfl, .inl rfl⟩
  · refine ⟨_, _, rfl, .inr ⟨g, 0, rfl, hg, rfl, fun k x hx j u hu => ?_⟩⟩
    have hat := flat_at f n hf l k x hx j u hu
    have hlt := (List.getElem?_eq_some_iff.1 hat).1
    rw [flat_len f n hf] at hlt
    unfold fresh
    rw [mask_cell, if_neg (by simp; omega), Nat.zero_add, h.cellAt _ hlt]
    exact hat

/-! What lies beside the parser's own blocks. -/
/-- All but what was there, and one block. -/
def rest (B : Nat) (r : Option Nat) (w : World) : World := mask (fun b => decide (b < B) || decide (some b = r)) w
theorem rest_below {B : Nat} {r : Option Nat} {w w' : World} (h : Below w.heap.size w w') : Ext (rest B r w) (rest B r w') := Ext.of_mask fun b hb hlt => ⟨hb, h.block b hlt⟩
theorem rest_fresh {B : Nat} {r : Option Nat} {w : World} : Ext (rest B r w) (fresh B w) := Ext.of_mask fun b hb _ => by
  simp only [Bool.or_eq_false_iff, decide_eq_false_iff_not] at hb ⊢
  exact ⟨hb.1, trivial⟩
theorem rest_grown {B g : Nat} {v : Value} {w w' : World} (h : w.grownBy w' v.ownBlock) (hat : v.ownBlock = some g ∨ g = w.heap.size) : Ext (rest B v.ownBlock w) (rest B (some g) w') := Ext.of_mask fun b hb hlt => by
  simp only [Bool.or_eq_false_iff, decide_eq_false_iff_not] at hb ⊢
  refine ⟨⟨hb.1, ?_⟩, h.block b hlt hb.2⟩
  rcases hat with hat | hat
  · rw [← hat]; exact hb.2
  · intro e; injection e with e; omega
/-- An old block turns: what is new stays. -/
theorem rest_par {B g : Nat} {r : Option Nat} {w w' : World} (h : w.grownBy w' (some g)) (hg : g < B) : Ext (rest B r w) (rest B r w') := Ext.of_mask fun b hb hlt => by
  simp only [Bool.or_eq_false_iff, decide_eq_false_iff_not] at hb ⊢
  exact ⟨hb, h.block b hlt (by intro e; injection e with e; omega)⟩
theorem fresh_par {B g : Nat} {w w' : World} (h : w.grownBy w' (some g)) (hg : g < B) : Ext (fresh B w) (fresh B w') := Ext.of_mask fun b hb hlt => by
  simp only [decide_eq_false_iff_not] at hb ⊢
  exact ⟨hb, h.block b hlt (by intro e; injection e with e; omega)⟩
theorem fresh_rest {B B' : Nat} {r : Option Nat} {w : World} (hB : B' ≤ B) (hr : ∀ g, r = some g → g < B) : Ext (fresh B w) (rest B' r w) := Ext.of_mask fun b hb _ => by
  simp only [decide_eq_false_iff_not, Bool.or_eq_false_iff] at hb ⊢
  exact ⟨⟨by omega, by intro e; have := hr b e.symm; omega⟩, trivial⟩

/-! Rows of one's own. -/
theorem own_par {w w' : World} {B g : Nat} {e : TypeId} {k n : Nat} {v : Value} {xs : List Value} (h : w.ownsRow B e k v n xs) (hg : w.grownBy w' (some g)) (hB : g < B) : w'.ownsRow B e k v n xs :=
  h.kept hg (by
    cases hv : v.ownBlock with
    | none => exact .inl rfl
    | some b => right; intro e; injection e with e; have := (h.lt b hv).1; omega)
theorem own_keep {w w' : World} {B : Nat} {e : TypeId} {k n : Nat} {v : Value} {xs : List Value} (h : w.ownsRow B e k v n xs) (hb : Below w.heap.size w w') : w'.ownsRow B e k v n xs :=
  h.kept (grownBy_of hb none) (by
    cases hv : v.ownBlock with
    | none => exact .inl rfl
    | some b => right; intro e; cases e)

/-- What kind of items a list has. -/
structure Kd (α : Type) where
  T : TypeId
  size : Nat
  bytes : Nat
  cells : α → List Value
  er : α → α
  R : World → α → Prop
  len : ∀ x, (cells x).length = size
  one : ∀ x, (cells x).toArray.all (·.oneCell') = true
  ext : ∀ {w w' : World} (x : α), Ext w w' → R w x → R w' x
namespace Kd
variable {α : Type} (K : Kd α)
/-- A list lies in memory. -/
def Ly (w : World) (p : Option Addr) (l : List α) : Prop :=
  l.length * K.bytes ≤ 140737488351232 ∧ (l = [] ∨ ∃ b o, p = some ⟨b, o, none⟩ ∧ ∀ k x, l[k]? = some x → w.rangeAt b (o + k * K.size) (K.cells x) ∧ K.R w x)
/-- What a call hands back: something that lies in what is new since. -/
def Val (B : Nat) (w : World) (v : Value) (a : α) : Prop := ∃ y, v = .agg (K.cells y).toArray ∧ K.er y = a ∧ K.R (fresh B w) y
/-- Items that were read, in a row of one's own. -/
def Gr (B : Nat) (xs : List α) (v : Value) (w : World) : Prop :=
  ∃ ys : List α, ys.map K.er = xs ∧ w.ownsRow B K.T K.size v xs.length (ys.flatMap K.cells) ∧ ∀ y ∈ ys, K.R (rest B v.ownBlock w) y
theorem Gr.nil {B : Nat} {v : Value} {w : World} (h : w.ownsRow B K.T K.size v 0 []) : K.Gr B [] v w := ⟨[], rfl, h, by simp⟩
theorem Gr.below {K : Kd α} {B : Nat} {xs : List α} {v : Value} {w w' : World} (h : K.Gr B xs v w) (hb : Below w.heap.size w w') : K.Gr B xs v w' := by
  obtain ⟨ys, h1, h2, h3⟩ := h
  exact ⟨ys, h1, own_keep h2 hb, fun y hy => K.ext y (rest_below hb) (h3 y hy)⟩
theorem Gr.par {K : Kd α} {B g : Nat} {xs : List α} {v : Value} {w w' : World} (h : K.Gr B xs v w) (hg : w.grownBy w' (some g)) (hB : g < B) : K.Gr B xs v w' := by
  obtain ⟨ys, h1, h2, h3⟩ := h
  exact ⟨ys, h1, own_par h2 hg hB, fun y hy => K.ext y (rest_par hg hB) (h3 y hy)⟩
/-- One item more. -/
theorem add {B g cap : Nat} {xs : List α} {ys : List α} {v : Value} {w w1 : World} {y : α} (h1 : ys.map K.er = xs) (h3 : ∀ y ∈ ys, K.R (rest B v.ownBlock w) y)
    (hg : w.grownBy w1 v.ownBlock) (hat : v.ownBlock = some g ∨ g = w.heap.size)
    (ho : w1.ownsRow B K.T K.size (.slice (some ⟨g, 0, none⟩) (xs.length + 1) cap) (xs.length + 1) (ys.flatMap K.cells ++ K.cells y))
    (hR : K.R (rest B v.ownBlock w) y) : K.Gr B (xs ++ [K.er y]) (.slice (some ⟨g, 0, none⟩) (xs.length + 1) cap) w1 := by
  refine ⟨ys ++ [y], by rw [List.map_append, h1]; rfl, ?_, ?_⟩
  · rw [List.flatMap_append, List.flatMap_singleton, List.length_append, List.length_singleton]; exact ho
  · intro z hz
    rcases List.mem_append.1 hz with hz | hz
    · exact K.ext z (rest_grown hg hat) (h3 z hz)
    · rw [List.mem_singleton.1 hz]; exact K.ext y (rest_grown hg hat) hR
/-- All of them. -/
theorem fin {B : Nat} {xs : List α} {v : Value} {w : World} (hl : xs.length * K.bytes ≤ 140737488351232) (h : K.Gr B xs v w) :
    ∃ s : Sl α, v = .slice s.p s.l.length s.cap ∧ s.l.map K.er = xs ∧ K.Ly (fresh B w) s.p s.l := by
  obtain ⟨ys, h1, h2, h3⟩ := h
  subst h1
  rw [List.length_map] at h2 hl
  obtain ⟨p, c, rfl, hp⟩ := own_lies K.len h2
  refine ⟨⟨p, c, ys⟩, rfl, rfl, hl, ?_⟩
  rcases hp with hp | ⟨b, o, rfl, hB, _, hx⟩
  · exact .inl hp
  · exact .inr ⟨b, o, rfl, fun k x hk => ⟨hx k x hk, K.ext x rest_fresh (h3 x (List.mem_of_getElem? hk))⟩⟩
theorem Val.par {K : Kd α} {B g : Nat} {v : Value} {a : α} {w w' : World} (h : K.Val B w v a) (hg : w.grownBy w' (some g)) (hB : g < B) : K.Val B w' v a := by
  obtain ⟨y, h1, h2, h3⟩ := h
  exact ⟨y, h1, h2, K.ext y (fresh_par hg hB) h3⟩
end Kd

/-! Structs loaded and stored whole. -/
theorem Bk.setRow {w : World} {R : Nat} {t : TypeId} {old : Array Value} (h : Bk w R t old) (cs : Array Value) : Bk (w.setRow R cs) R t cs ∧ w.grownBy (w.setRow R cs) (some R) := by
  refine ⟨?_, ⟨rfl, rfl, rfl, by simp [World.setRow], fun i _ hne => ?_⟩⟩
  · unfold Bk at h ⊢
    simp [World.setRow, Array.getElem?_modify, h]
  · have hne' : ¬ R = i := fun e => hne (by rw [e])
    simp [World.setRow, Array.getElem?_modify, hne']
/-- A struct's value goes into a block of its size. -/
theorem wpList_store_bk {P : Program} {ops : Array Oper} {rest : List Oper} {op : Oper} {a : Act} {w : World} {Q : Exit → Act → World → Prop} (hgd : op.guard = none) (ty : TypeId) (x y : Operand) (ho : op.op = .store ty x y)
    (R : Nat) (t : TypeId) (old cs : Array Value) (hx : a.eval x = .pointer (some ⟨R, 0, none⟩)) (hy : a.eval y = .agg cs) (hk : Bk w R t old) (hi : (P.info? ty).map (·.size) = some cs.size) (hc : old.size = cs.size) (h1 : cs.all (·.oneCell') = true)
    (h : ∀ w', Bk w' R t cs → w.grownBy w' (some R) → wpList P ops Q rest (a.put op.dst undef) w') : wpList P ops Q (op :: rest) a w :=
  wpList_plain hgd fun _ hK => by
    unfold Oper.wp execOp
    simp only [ho, hx, hy, Instr.storeAt, Instr.sureAddr, Sem.run_bind, Sem.run_pure, Result.andThen_ok, run_storeVar_row w R t ty old cs hk hi hc h1]
    exact hK _ _ (h _ (hk.setRow cs).1 (hk.setRow cs).2)
theorem Bk.range {w : World} {g : Nat} {t : TypeId} {cs : Array Value} (h : Bk w g t cs) : w.rangeAt g 0 cs.toList := fun j v hv => by
  rw [Nat.zero_add, h.cell]; simpa using hv

theorem PS.grown {w w' : World} {pb sb cap : Nat} {l : List Tx.Sg} {i : Nat} {o b : Int} {r : Option Nat} (h : PS w pb sb cap l i o b) (hg : w.grownBy w' r) (h1 : ∀ q, r = some q → q ≠ pb ∧ q ≠ sb) : PS w' pb sb cap l i o b :=
  ⟨(hg.block pb h.pb_lt (fun e => (h1 _ e.symm).1 rfl)).trans h.blk, fun k x hx j v hv => hg.cell (h.row k x hx j v hv) (fun e => (h1 _ e.symm).2 rfl), h.ne, h.lt⟩
theorem Bk.grown {w w' : World} {b t : Nat} {cs : Array Value} {r : Option Nat} (h : Bk w b t cs) (hg : w.grownBy w' r) (h1 : ∀ q, r = some q → q ≠ b) : Bk w' b t cs :=
  (hg.block b h.lt (fun e => h1 _ e.symm rfl)).trans h
theorem grownBy_up {a b c : World} {pb : Nat} {r : Option Nat} (h : a.grownBy b (some pb)) (k : b.grownBy c r) (h1 : ∀ q, r = some q → a.heap.size ≤ q) : a.grownBy c (some pb) :=
  ⟨k.os.trans h.os, k.tape.trans h.tape, k.output.trans h.output, Nat.le_trans h.size k.size, fun i hi hne =>
    (k.block i (Nat.lt_of_lt_of_le hi h.size) (fun e => by have := h1 i e.symm; omega)).trans (h.block i hi hne)⟩
theorem grownBy_drew {a b : World} {r : Option Nat} (h : a.grownBy b r) : a.grownBy b.drew r := ⟨h.os, h.tape, h.output, h.size, h.block⟩

/-- The kinds of parts. -/
def kHp : Kd Hp := ⟨103, 2, 24, Hp.cells, Hp.er, fun _ _ => True, fun _ => rfl, fun _ => by simp [Value.oneCell'], fun _ _ _ => trivial⟩
def kDc : Kd Dc := ⟨85, 3, 40, Dc.cells, Dc.er, fun _ _ => True, fun _ => rfl, fun _ => by simp [Value.oneCell'], fun _ _ _ => trivial⟩
def kSr : Kd Sr := ⟨61, 3, 48, Sr.cells, Sr.er, fun w x => declsLie w x.fields, fun _ => rfl, fun _ => by simp [Value.oneCell'], fun _ h k => declsLie_ext h k⟩
def kPc : Kd Pc := ⟨63, 6, 104, Pc.cells, Pc.er, pcLies, fun _ => rfl, fun _ => by simp [Value.oneCell'], fun _ h k => pcLies_ext h k⟩
def kVl : Kd Vl := ⟨47, 12, 144, Vl.cells, Vl.er, vlLies, fun _ => rfl, fun _ => by simp [Value.oneCell'], fun _ h k => vlLies_ext h k⟩
def kIt : Kd It := ⟨52, 48, 608, It.cells, It.er, itLies, fun _ => rfl, fun _ => scells_one _ _ _ _ _ _ _, fun _ h k => itLies_ext h k⟩
def kPth : Kd Pth := ⟨43, 3, 40, Pth.cells, Pth.er, fun w x => hopsLie w x.hops, fun _ => rfl, fun _ => by simp [Value.oneCell'], fun _ h k => hopsLie_ext h k⟩
def kCd : Kd Cd := ⟨49, 26, 304, Cd.cells, Cd.er, fun w x => vlLies w x.left ∧ vlLies w x.right, fun _ => rfl, fun _ => by simp [Value.oneCell'], fun _ h k => ⟨vlLies_ext h k.1, vlLies_ext h k.2⟩⟩
def kTm : Kd Tm := ⟨45, 3, 40, Tm.cells, Tm.er, fun _ _ => True, fun _ => rfl, fun _ => by simp [Value.oneCell'], fun _ _ _ => trivial⟩

end Go.Proofs.YtlpnkllhpienhaaDoor
