/-
  DERIVED. Laws: structs stored whole into a part of a block of one's own.
-/
import Derived.Test.YtlpnkllhpienhaaDoorQa
namespace Go.Proofs.YtlpnkllhpienhaaDoor
open Go.RowKit Go.Sort

/-- A row with some items set, from the o-th on. -/
def putC : List Value → Nat → List Value → List Value
  | l, _, [] => l
  | l, o, v :: r => putC (l.set o v) (o + 1) r
theorem Bk.setCells {C : Nat} {t : TypeId} : ∀ (vs : List Value) (o : Nat) (w : World) (old : List Value), Bk w C t old.toArray → Bk (w.setCells C o vs) C t (putC old o vs).toArray ∧ w.grownBy (w.setCells C o vs) (some C)
  | [], o, w, old, h => ⟨h, ⟨rfl, rfl, rfl, Nat.le_refl _, fun _ _ _ => rfl⟩⟩
  | v :: r, o, w, old, h => by
    have h1 : Bk (w.setCell ⟨C, o, none⟩ v) C t (old.set o v).toArray := by have := h.set_ o v; rwa [List.setIfInBounds_toArray] at this
    have h2 := Bk.setCells r (o + 1) (w.setCell ⟨C, o, none⟩ v) (old.set o v) h1
    exact ⟨h2.1, grownBy_tr (grownBy_setC w ⟨C, o, none⟩ v) h2.2⟩
/-- A struct's value goes into a part of a block. -/
theorem wpList_store_part {P : Program} {ops : Array Oper} {rest : List Oper} {op : Oper} {a : Act} {w : World} {Q : Exit → Act → World → Prop} (hgd : op.guard = none) (ty : TypeId) (x y : Operand) (ho : op.op = .store ty x y)
    (C off : Nat) (t : TypeId) (old cs : List Value) (hx : a.eval x = .pointer (some ⟨C, off, none⟩)) (hy : a.eval y = .agg cs.toArray) (hk : Bk w C t old.toArray) (hi : (P.info? ty).map (·.size) = some cs.toArray.size) (hc : off + cs.length ≤ old.length) (h1 : cs.toArray.all (·.oneCell') = true)
    (h : ∀ w', Bk w' C t (putC old off cs).toArray → w.grownBy w' (some C) → wpList P ops Q rest (a.put op.dst undef) w') : wpList P ops Q (op :: rest) a w :=
  wpList_plain hgd fun _ hK => by
    unfold Oper.wp execOp
    have ht : w.there C off cs.toArray.size := fun j hj => ⟨by rw [hk.cell]; rw [List.size_toArray] at hj; simp; omega, hk.frozen _⟩
    simp only [ho, hx, hy, Instr.storeAt, Instr.sureAddr, Sem.run_bind, Sem.run_pure, Result.andThen_ok, run_storeVar_mid w C off ty cs.toArray ht hi h1]
    have hh := Bk.setCells (C := C) (t := t) cs off w old hk
    exact hK _ _ (h _ hh.1 hh.2)
/-- A struct's value out of a block that is known whole. -/
theorem wpList_load_bk {P : Program} {ops : Array Oper} {rest : List Oper} {op : Oper} {a : Act} {w : World} {Q : Exit → Act → World → Prop} (hgd : op.guard = none) (ty : TypeId) (x : Operand) (ho : op.op = .load ty x)
    (C : Nat) (t : TypeId) (cs : Array Value) (hx : a.eval x = .pointer (some ⟨C, 0, none⟩)) (d : TypeDesc) (hk : Bk w C t cs)
    (hu : P.underlying ty = some d) (hd : d.isRow = true) (hi : (P.info? ty).map (·.size) = some cs.size)
    (h : wpList P ops Q rest (a.put op.dst (.agg cs)) w) : wpList P ops Q (op :: rest) a w :=
  wpList_load_arr hgd ty x ho C 0 hx cs d hk.range hu hd hi h
theorem size47 : (Tryd.prog.info? 47).map (·.size) = some 12 := by kernel_rfl
theorem size49 : (Tryd.prog.info? 49).map (·.size) = some 26 := by kernel_rfl
end Go.Proofs.YtlpnkllhpienhaaDoor
