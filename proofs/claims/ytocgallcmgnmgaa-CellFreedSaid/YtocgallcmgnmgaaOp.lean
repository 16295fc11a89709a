/-
  DERIVED. How what is handed in reads.
-/
import Derived.Test.YtocgallcmgnmgaaHq
import Derived.SizedLaws
import Derived.ChangeArms
namespace Go.Proofs.Ytocgallcmgnmgaa
open Go.RowKit Go.Maps

/-- A list's items lie in memory. -/
def LayR {α : Type} (size : Nat) (cells : α → List Value) (R : World → α → Prop) (w : World) (p : Option Addr) (l : List α) : Prop :=
  l = [] ∨ ∃ b o, p = some ⟨b, o, none⟩ ∧ ∀ k x, l[k]? = some x → w.rangeAt b (o + k * size) (cells x) ∧ R w x
theorem rangeAt_below {w w' : World} {b o : Nat} {cs : List Value} (h : w.rangeAt b o cs) (hb : Below w.heap.size w w') : w'.rangeAt b o cs := fun j v hv =>
  (hb.cell (p := ⟨b, o + j, none⟩) (World.block_lt_of_cell? _ _ (h j v hv))).trans (h j v hv)
theorem LayR.below {α : Type} {size : Nat} {cells : α → List Value} {R : World → α → Prop} {w w' : World} {p : Option Addr} {l : List α} (h : LayR size cells R w p l) (hb : Below w.heap.size w w') (hR : ∀ x, R w x → R w' x) : LayR size cells R w' p l := by
  rcases h with h | ⟨b, o, hp, hx⟩
  · exact .inl h
  · exact .inr ⟨b, o, hp, fun k x hk => ⟨rangeAt_below (hx k x hk).1 hb, hR x (hx k x hk).2⟩⟩
theorem LayR.at_ {α : Type} {size : Nat} {cells : α → List Value} {R : World → α → Prop} {w : World} {p : Option Addr} {l : List α} (h : LayR size cells R w p l) {k : Nat} {x : α} (hk : l[k]? = some x) :
    ∃ b o, p = some ⟨b, o, none⟩ ∧ w.rangeAt b (o + k * size) (cells x) ∧ R w x := by
  rcases h with h | ⟨b, o, hp, hx⟩
  · rw [h] at hk; simp at hk
  · exact ⟨b, o, hp, hx k _ hk⟩

theorem chunk {cs c : List Value} {o n m : Nat} (h : (cs.drop o).take n = c) (hm : o + n = m) : cs.drop o = c ++ cs.drop m := by
  rw [← h, ← hm, ← List.drop_drop]; exact (List.take_append_drop n _).symm
theorem choose_lt {α : Type} {n : Nat} {p : Nat → α → Prop} (d : α) (h : ∀ i, i < n → ∃ x, p i x) : ∃ f : Nat → α, ∀ i, i < n → p i (f i) := by
  classical
  exact ⟨fun i => if hi : i < n then (h i hi).choose else d, fun i hi => by simp only [dif_pos hi]; exact (h i hi).choose_spec⟩

/-- A call of the law's list. -/
structure OpN where
  kd : Int
  t : Int
  c : Int
  f : Int
  d : Int
def OpN.cells (x : OpN) : List Value := (opA x.kd x.t x.c x.f x.d).toList
def OpN.ok (x : OpN) : Prop := (Lit.int .u8 x.kd).wf = true ∧ okI x.t ∧ okI x.c ∧ okI x.f ∧ okI x.d
/-- A cell that is handed in. -/
structure RC where
  c : PC
  q : Option Addr
  k : Nat
def RC.cells (x : RC) : List Value := [.int .i64 x.c.ty, .bool x.c.fr, .slice x.q x.c.to.length x.k]
def RC.lies (w : World) (x : RC) : Prop := (x.c.to = [] ∨ ∃ b o, x.q = some ⟨b, o, none⟩ ∧ w.rangeAt b o (ints x.c.to)) ∧ x.c.ok

section
variable {H : Type} {enc : TypeId × Value → H} {w : World} {base : Nat} {spare : Nat → Bool} {held : Bool}
theorem fld {T : TypeId} {fs : Array Field} {fuel : Nat} {cs : List Value} {x : DataW H × List MemPlace} (hu : Try.prog.underlying T = some (.struct fs)) (h : DataW.trod enc Try.prog w base spare held fuel T cs = some x) :
    ∃ n, fuel = n + 1 ∧ cs.length = Try.prog.cellsOf T ∧ ∀ (i t o c : Nat), fs[i]?.map (fun f => (f.type, f.offset)) = some (t, o) → Try.prog.cellsOf t = c → ∃ y, DataW.trod enc Try.prog w base spare held n t ((cs.drop o).take c) = some y := by
  obtain ⟨xs, n, rfl, rfl, hl, hx, hf⟩ := DataW.trod_struct hu h
  refine ⟨n, rfl, hl, fun i t o c hi0 hc => ?_⟩
  obtain ⟨f, hi, he⟩ := Option.map_eq_some_iff.1 hi0
  injection he with e1 e2
  subst e1; subst e2; subst hc
  have hlt : i < xs.length := by rw [hx]; exact (Array.getElem?_eq_some_iff.1 hi).1
  exact ⟨xs[i], (hf i f hi).trans (List.getElem?_eq_getElem hlt)⟩
theorem slice_open {t e : TypeId} {size fuel : Nat} {cs : List Value} {x : DataW H × List MemPlace} (ht : Try.prog.underlying t = some (.slice e)) (hc : Try.prog.cellsOf e = size) (hs : 0 < size)
    (h : DataW.trod enc Try.prog w base spare held fuel t cs = some x) :
    ∃ p len cap, cs = [.slice p len cap] ∧ (len = 0 ∨ ∃ b o n, p = some ⟨b, o, none⟩ ∧ n < fuel ∧ ∀ i, i < len → ∃ cs' y, w.rangeAt b (o + i * size) cs' ∧ DataW.trod enc Try.prog w base spare held n e cs' = some y) := by
  rcases DataW.trod_slice ht h with ⟨rfl, rfl⟩ | ⟨a, len, cap, elems, rest, n, rfl, rfl, rfl, _, _, _, hlen, hel, _, _⟩
  · exact ⟨none, 0, 0, rfl, .inl rfl⟩
  · refine ⟨some a, len, cap, rfl, ?_⟩
    by_cases h0 : len = 0
    · exact .inl h0
    · have hcells : ∀ i, i < len → ∃ cs', w.cells? base (a.add (i * size)) size = some cs' ∧ DataW.trod enc Try.prog w base spare held n e cs' = elems[i]? := fun i hi => by
        have h1 := hel i hi
        rw [hc] at h1
        have hsome : elems[i]? = some (elems[i]'(by omega)) := List.getElem?_eq_getElem (by omega)
        rw [hsome] at h1
        cases hq : w.cells? base (a.add (i * size)) size with
        | none => rw [hq] at h1; simp at h1
        | some cs' => rw [hq] at h1; exact ⟨cs', rfl, by rw [hsome]; simpa using h1⟩
      obtain ⟨c0, hc0, _⟩ := hcells 0 (by omega)
      obtain ⟨_, hl0, hat0⟩ := World.cells?_some hc0
      obtain ⟨b, off, sp⟩ := a
      have hsp : sp = none := by
        have h2 := hat0 0 hs
        have h3 : c0[0]? = some (c0[0]'(by omega)) := List.getElem?_eq_getElem (by omega)
        rw [h3] at h2
        cases sp with
        | none => rfl
        | some s => simp [World.cell?, Addr.add] at h2; split at h2 <;> simp at h2
      subst hsp
      refine .inr ⟨b, off, n, rfl, by omega, fun i hi => ?_⟩
      obtain ⟨cs', hcs, htr⟩ := hcells i hi
      obtain ⟨_, hl, hat⟩ := World.cells?_some hcs
      refine ⟨cs', elems[i]'(by omega), fun j v hj => ?_, by rw [htr]; exact List.getElem?_eq_getElem (by omega)⟩
      have hjl : j < size := by rw [← hl]; exact (List.getElem?_eq_some_iff.1 hj).1
      have h4 := hat j hjl
      rw [hj] at h4
      rw [← h4]
      rw [Addr.add_mid, Addr.add_mid]
/-- A slice whose items each read. -/
theorem sl_open {α : Type} (d0 : α) {t e : TypeId} {size fuel : Nat} {cs : List Value} {x : DataW H × List MemPlace} {cells : α → List Value} {R : World → α → Prop} (ht : Try.prog.underlying t = some (.slice e)) (hc : Try.prog.cellsOf e = size) (hs : 0 < size)
    (hel : ∀ n cs y, n < fuel → DataW.trod enc Try.prog w base spare held n e cs = some y → ∃ v : α, cs = cells v ∧ R w v)
    (h : DataW.trod enc Try.prog w base spare held fuel t cs = some x) : ∃ (p : Option Addr) (l : List α) (cap : Nat), cs = [.slice p l.length cap] ∧ LayR size cells R w p l := by
  obtain ⟨p, len, cap, rfl, h2⟩ := slice_open ht hc hs h
  rcases h2 with rfl | ⟨b, o, n, rfl, hn, hx⟩
  · exact ⟨p, [], cap, rfl, .inl rfl⟩
  · have hx' : ∀ i, i < len → ∃ v : α, w.rangeAt b (o + i * size) (cells v) ∧ R w v := fun i hi => by
      obtain ⟨cs', y, h1, h2⟩ := hx i hi
      obtain ⟨v, rfl, hv⟩ := hel n cs' y hn h2
      exact ⟨v, h1, hv⟩
    obtain ⟨f, hf⟩ := choose_lt d0 hx'
    refine ⟨some ⟨b, o, none⟩, (List.range len).map f, cap, by simp, .inr ⟨b, o, rfl, fun k v hk => ?_⟩⟩
    simp only [List.getElem?_map, Option.map_eq_some_iff] at hk
    obtain ⟨j, hj, rfl⟩ := hk
    obtain ⟨hlt, he⟩ := List.getElem?_eq_some_iff.1 hj
    simp only [List.length_range] at hlt
    simp only [List.getElem_range] at he
    subst he
    exact hf k hlt
theorem cells3 : Try.prog.cellsOf 3 = 1 := by kernel_rfl
theorem cells4 : Try.prog.cellsOf 4 = 1 := by kernel_rfl
theorem cells5 : Try.prog.cellsOf 5 = 1 := by kernel_rfl
theorem cells35 : Try.prog.cellsOf 35 = 5 := by kernel_rfl
theorem cells39 : Try.prog.cellsOf 39 = 2 := by kernel_rfl
theorem cells44 : Try.prog.cellsOf 44 = 1 := by kernel_rfl
theorem cells46 : Try.prog.cellsOf 46 = 3 := by kernel_rfl
theorem op_open {fuel : Nat} {cs : List Value} {x : DataW H × List MemPlace} (h : DataW.trod enc Try.prog w base spare held fuel 35 cs = some x) : ∃ v : OpN, cs = v.cells ∧ v.ok := by
  obtain ⟨n, rfl, hl, hf⟩ := fld Try.underlying35 h
  rw [cells35] at hl
  obtain ⟨y0, t0⟩ := hf 0 5 0 _ rfl cells5
  obtain ⟨a, k0, _, z0⟩ := DataW.trod_int Try.underlying5 t0
  obtain ⟨y1, t1⟩ := hf 1 3 1 _ rfl cells3
  obtain ⟨b, k1, _, z1⟩ := DataW.trod_int Try.underlying3 t1
  obtain ⟨y2, t2⟩ := hf 2 3 2 _ rfl cells3
  obtain ⟨c, k2, _, z2⟩ := DataW.trod_int Try.underlying3 t2
  obtain ⟨y3, t3⟩ := hf 3 3 3 _ rfl cells3
  obtain ⟨d, k3, _, z3⟩ := DataW.trod_int Try.underlying3 t3
  obtain ⟨y4, t4⟩ := hf 4 3 4 _ rfl cells3
  obtain ⟨e', k4, _, z4⟩ := DataW.trod_int Try.underlying3 t4
  have e : cs.drop 0 = cs.drop 0 := rfl
  conv at e => rhs; rw [chunk k0 (show _ = 1 from rfl), chunk k1 (show _ = 2 from rfl), chunk k2 (show _ = 3 from rfl), chunk k3 (show _ = 4 from rfl), chunk k4 (show _ = 5 from rfl), List.drop_eq_nil_of_le (show cs.length ≤ 5 by omega)]
  exact ⟨⟨a, b, c, d, e'⟩, e, z0, z1, z2, z3, z4⟩
theorem ops_open {fuel : Nat} {cs : List Value} {x : DataW H × List MemPlace} (h : DataW.trod enc Try.prog w base spare held fuel 24 cs = some x) : ∃ (p : Option Addr) (l : List OpN) (cap : Nat), cs = [.slice p l.length cap] ∧ LayR 5 OpN.cells (fun _ x => x.ok) w p l :=
  sl_open ⟨0, 0, 0, 0, 0⟩ Try.underlying24 cells35 (by decide) (fun n cs y _ h => op_open h) h
theorem int_open {fuel : Nat} {cs : List Value} {x : DataW H × List MemPlace} (h : DataW.trod enc Try.prog w base spare held fuel 3 cs = some x) : ∃ n : Int, cs = [.int .i64 n] ∧ okI n := by
  obtain ⟨n, h1, _, h3⟩ := DataW.trod_int Try.underlying3 h
  exact ⟨n, h1, h3⟩
theorem ints_open {fuel : Nat} {cs : List Value} {x : DataW H × List MemPlace} (h : DataW.trod enc Try.prog w base spare held fuel 44 cs = some x) : ∃ (p : Option Addr) (l : List Int) (cap : Nat), cs = [.slice p l.length cap] ∧ (l = [] ∨ ∃ b o, p = some ⟨b, o, none⟩ ∧ w.rangeAt b o (ints l)) ∧ ∀ x ∈ l, okI x := by
  obtain ⟨p, l, cap, rfl, hl⟩ := sl_open (R := fun _ x => okI x) (cells := fun n : Int => [.int .i64 n]) (0 : Int) Try.underlying44 cells3 (by decide) (fun n cs y _ h => int_open h) h
  refine ⟨p, l, cap, rfl, ?_, ?_⟩
  · rcases hl with h | ⟨b, o, hp, hx⟩
    · exact .inl h
    · refine .inr ⟨b, o, hp, fun j v hj => ?_⟩
      unfold ints at hj
      rw [List.getElem?_map] at hj
      obtain ⟨y, hy, rfl⟩ := Option.map_eq_some_iff.1 hj
      have := (hx j y hy).1 0 _ rfl
      simpa using this
  · rcases hl with h | ⟨b, o, hp, hx⟩
    · rw [h]; intro x hx; simp at hx
    · intro x hm
      obtain ⟨j, hj⟩ := List.getElem?_of_mem hm
      exact (hx j x hj).2
theorem cell_open {fuel : Nat} {cs : List Value} {x : DataW H × List MemPlace} (h : DataW.trod enc Try.prog w base spare held fuel 46 cs = some x) : ∃ v : RC, cs = v.cells ∧ v.lies w := by
  obtain ⟨n, rfl, hl, hf⟩ := fld Try.underlying46 h
  rw [cells46] at hl
  obtain ⟨y0, t0⟩ := hf 0 3 0 _ rfl cells3
  obtain ⟨a, k0, _, z0⟩ := DataW.trod_int Try.underlying3 t0
  obtain ⟨y1, t1⟩ := hf 1 4 1 _ rfl cells4
  obtain ⟨b, k1, _⟩ := DataW.trod_bool Try.underlying4 t1
  obtain ⟨y2, t2⟩ := hf 2 44 2 _ rfl cells44
  obtain ⟨p, l, cap, k2, l2, l3⟩ := ints_open t2
  have e : cs.drop 0 = cs.drop 0 := rfl
  conv at e => rhs; rw [chunk k0 (show _ = 1 from rfl), chunk k1 (show _ = 2 from rfl), chunk k2 (show _ = 3 from rfl), List.drop_eq_nil_of_le (show cs.length ≤ 3 by omega)]
  refine ⟨⟨⟨a, b, l⟩, p, cap⟩, e, l2, fun j => ?_⟩
  show okI (l.getD j 0)
  rw [List.getD_eq_getElem?_getD]
  cases hj : l[j]? with
  | none => rfl
  | some y => exact l3 y (List.mem_of_getElem? hj)
theorem cellsIn_open {fuel : Nat} {cs : List Value} {x : DataW H × List MemPlace} (h : DataW.trod enc Try.prog w base spare held fuel 23 cs = some x) : ∃ (p : Option Addr) (l : List RC) (cap : Nat), cs = [.slice p l.length cap] ∧ LayR 3 RC.cells RC.lies w p l :=
  sl_open ⟨⟨0, false, []⟩, none, 0⟩ Try.underlying23 cells46 (by decide) (fun n cs y _ h => cell_open h) h
theorem fields_open {fuel : Nat} {cs : List Value} {x : DataW H × List MemPlace} (h : DataW.trod enc Try.prog w base spare held fuel 22 cs = some x) : ∃ (p : Option Addr) (len cap : Nat), cs = [.slice p len cap] := by
  obtain ⟨p, len, cap, rfl, _⟩ := slice_open Try.underlying22 cells39 (by decide) h
  exact ⟨p, len, cap, rfl⟩
end
end Go.Proofs.Ytocgallcmgnmgaa
