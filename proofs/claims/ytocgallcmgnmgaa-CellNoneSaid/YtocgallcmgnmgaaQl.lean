/-
  DERIVED. Laws: structs loaded and stored whole.
-/
import Derived.Test.YtocgallcmgnmgaaHi
import Derived.WalkKit
import Derived.Deep.MidRow
import Derived.Deep.WholeRow
import Derived.Lib.QuietBelow
import Derived.BigQuiet
namespace Go.Proofs.Ytocgallcmgnmgaa
open Go.RowKit Go.Maps

theorem wpList_store_new {P : Program} {ops : Array Oper} {rest : List Oper} {op : Oper} {a : Act} {w : World} {Q : Exit → Act → World → Prop} (hgd : op.guard = none) (ty : TypeId) (x y : Operand) (ho : op.op = .store ty x y)
    (c c' : Array Value) (hx : a.eval x = .pointer (some ⟨w.heap.size, 0, none⟩)) (hy : a.eval y = .agg c') (hi : (P.info? ty).map (·.size) = some c'.size) (hc : c.size = c'.size) (h1 : c'.all (·.oneCell') = true)
    (h : wpList P ops Q rest (a.put op.dst undef) (w.alloc (.cells c' ty))) : wpList P ops Q (op :: rest) a (w.alloc (.cells c ty)) :=
  wpList_plain hgd fun _ hK => by
    unfold Oper.wp execOp
    simp only [ho, hx, hy, Instr.storeAt, Instr.sureAddr, Sem.run_bind, Sem.run_pure, Result.andThen_ok, run_storeVar_new w ty c c' hi hc h1]
    exact hK _ _ h
theorem wpList_load_arr {P : Program} {ops : Array Oper} {rest : List Oper} {op : Oper} {a : Act} {w : World} {Q : Exit → Act → World → Prop} (hgd : op.guard = none) (ty : TypeId) (x : Operand) (ho : op.op = .load ty x)
    (b o : Nat) (hx : a.eval x = .pointer (some ⟨b, o, none⟩)) (cs : Array Value) (d : TypeDesc) (hc : w.rangeAt b o cs.toList)
    (hu : P.underlying ty = some d) (hd : d.isRow = true) (hi : (P.info? ty).map (·.size) = some cs.size)
    (h : wpList P ops Q rest (a.put op.dst (.agg cs)) w) : wpList P ops Q (op :: rest) a w :=
  wpList_load_mid hgd ty x ho b o hx cs.toList d hc hu hd (by simpa using hi) (by simpa using h)
theorem Bk.range {w : World} {g : Nat} {t : TypeId} {cs : Array Value} (h : Bk w g t cs) : w.rangeAt g 0 cs.toList := fun j v hv => by
  rw [h.cell]; simpa using hv
theorem wpList_load_bk {P : Program} {ops : Array Oper} {rest : List Oper} {op : Oper} {a : Act} {w : World} {Q : Exit → Act → World → Prop} (hgd : op.guard = none) (ty : TypeId) (x : Operand) (ho : op.op = .load ty x)
    (C : Nat) (t : TypeId) (cs : Array Value) (hx : a.eval x = .pointer (some ⟨C, 0, none⟩)) (d : TypeDesc) (hk : Bk w C t cs)
    (hu : P.underlying ty = some d) (hd : d.isRow = true) (hi : (P.info? ty).map (·.size) = some cs.size)
    (h : wpList P ops Q rest (a.put op.dst (.agg cs)) w) : wpList P ops Q (op :: rest) a w :=
  wpList_load_arr hgd ty x ho C 0 hx cs d hk.range hu hd hi h
/-- A row with some items set, from the o-th on. -/
def setFrom : List Value → Nat → List Value → List Value
  | l, _, [] => l
  | l, o, v :: r => setFrom (l.set o v) (o + 1) r
theorem setFrom_len : ∀ (vs : List Value) (o : Nat) (l : List Value), (setFrom l o vs).length = l.length
  | [], _, _ => rfl
  | v :: r, o, l => by rw [setFrom, setFrom_len r]; simp
theorem setFrom_out : ∀ (vs : List Value) (o : Nat) (l : List Value) (j : Nat), (j < o ∨ o + vs.length ≤ j) → (setFrom l o vs)[j]? = l[j]?
  | [], _, _, _, _ => rfl
  | v :: r, o, l, j, h => by
    simp only [List.length_cons] at h
    rw [setFrom, setFrom_out r (o + 1) _ j (by omega), List.getElem?_set_ne (by omega)]
theorem setFrom_in : ∀ (vs : List Value) (o : Nat) (l : List Value) (j : Nat), j < vs.length → o + vs.length ≤ l.length → (setFrom l o vs)[o + j]? = vs[j]?
  | [], _, _, _, h, _ => by simp at h
  | v :: r, o, l, j, h, hl => by
    simp only [List.length_cons] at h hl
    rw [setFrom]
    rcases j with _ | j
    · rw [setFrom_out r (o + 1) _ _ (by omega), Nat.add_zero, List.getElem?_set_self (by omega)]; rfl
    · rw [show o + (j + 1) = (o + 1) + j by omega, setFrom_in r (o + 1) _ j (by omega) (by simp; omega)]; rfl
theorem grownBy_tr {a b c : World} {r : Option Nat} (h : a.grownBy b r) (k : b.grownBy c r) : a.grownBy c r :=
  ⟨k.os.trans h.os, k.tape.trans h.tape, k.output.trans h.output, Nat.le_trans h.size k.size, fun i hi hne => (k.block i (Nat.lt_of_lt_of_le hi h.size) hne).trans (h.block i hi hne)⟩
theorem Bk.setCells {C : Nat} {t : TypeId} : ∀ (vs : List Value) (o : Nat) (w : World) (old : List Value), Bk w C t old.toArray → Bk (w.setCells C o vs) C t (setFrom old o vs).toArray ∧ w.grownBy (w.setCells C o vs) (some C)
  | [], o, w, old, h => ⟨h, ⟨rfl, rfl, rfl, Nat.le_refl _, fun _ _ _ => rfl⟩⟩
  | v :: r, o, w, old, h => by
    have h1 : Bk (w.setCell ⟨C, o, none⟩ v) C t (old.set o v).toArray := by have := h.set_ o v; rwa [List.setIfInBounds_toArray] at this
    have h2 := Bk.setCells r (o + 1) (w.setCell ⟨C, o, none⟩ v) (old.set o v) h1
    exact ⟨h2.1, grownBy_tr (grownBy_setC w ⟨C, o, none⟩ v) h2.2⟩
/-- A struct's value goes into a part of a block. -/
theorem wpList_store_part {P : Program} {ops : Array Oper} {rest : List Oper} {op : Oper} {a : Act} {w : World} {Q : Exit → Act → World → Prop} (hgd : op.guard = none) (ty : TypeId) (x y : Operand) (ho : op.op = .store ty x y)
    (C off : Nat) (t : TypeId) (old : Array Value) (cs : Array Value) (hx : a.eval x = .pointer (some ⟨C, off, none⟩)) (hy : a.eval y = .agg cs) (hk : Bk w C t old) (hi : (P.info? ty).map (·.size) = some cs.size) (hc : off + cs.size ≤ old.size) (h1 : cs.all (·.oneCell') = true)
    (h : ∀ w' cur', Bk w' C t cur' → cur'.size = old.size → (∀ j, j < cs.size → cur'[off + j]? = cs[j]?) → (∀ j, (j < off ∨ off + cs.size ≤ j) → cur'[j]? = old[j]?) → w.grownBy w' (some C) → wpList P ops Q rest (a.put op.dst undef) w') : wpList P ops Q (op :: rest) a w :=
  wpList_plain hgd fun _ hK => by
    unfold Oper.wp execOp
    have ht : w.there C off cs.size := fun j hj => ⟨by rw [hk.cell]; simp; omega, hk.frozen _⟩
    simp only [ho, hx, hy, Instr.storeAt, Instr.sureAddr, Sem.run_bind, Sem.run_pure, Result.andThen_ok, run_storeVar_mid w C off ty cs ht hi h1]
    have hh := Bk.setCells (C := C) (t := t) cs.toList off w old.toList (by simpa using hk)
    refine hK _ _ (h _ _ hh.1 ?_ (fun j hj => ?_) (fun j hj => ?_) hh.2)
    · simp [setFrom_len]
    · rw [List.getElem?_toArray, setFrom_in _ _ _ j (by simpa using hj) (by simpa using hc)]; simp
    · rw [List.getElem?_toArray, setFrom_out _ _ _ j (by simpa using hj)]; simp
theorem ret_int {k : IntKind} {a b : Int} (h : a = b) : Ending.returned (.int k a) = .returned (.int k b) := by rw [h]
theorem ret_bool {a b : Bool} (h : a = b) : Ending.returned (.bool a) = .returned (.bool b) := by rw [h]
theorem Try.own : ownKnob Try.prog.godebug = none := by kernel_rfl
theorem Try.laidOut : laidOutB Try.prog = true := by kernel_rfl
theorem size59 : (Try.prog.info? 59).map (·.size) = some 11 := by kernel_rfl
theorem size50 : (Try.prog.info? 50).map (·.size) = some 3 := by kernel_rfl
theorem size46 : (Try.prog.info? 46).map (·.size) = some 3 := by kernel_rfl
theorem size29 : (Try.prog.info? 29).map (·.size) = some 3 := by kernel_rfl
theorem size35 : (Try.prog.info? 35).map (·.size) = some 5 := by kernel_rfl
end Go.Proofs.Ytocgallcmgnmgaa
