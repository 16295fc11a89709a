/-
  DERIVED. How a graph that is handed in reads; a law's end.
-/
import Derived.Test.YtnkimfbdcghgpaaDoorYg
import Derived.Test.YtnkimfbdcghgpaaDoorFb
namespace Go.Proofs.YtnkimfbdcghgpaaDoor
open Go.ChangeShapes Go.WideShapes Go.ChangeAt Go.RowKit
open Go.ChangeMaps (open_string shut_string)
open Ac

theorem choose_lt {α : Type} {n : Nat} {p : Nat → α → Prop} (d : α) (h : ∀ i, i < n → ∃ x, p i x) : ∃ f : Nat → α, ∀ i, i < n → p i (f i) := by
  classical
  exact ⟨fun i => if hi : i < n then (h i hi).choose else d, fun i hi => by simp only [dif_pos hi]; exact (h i hi).choose_spec⟩
theorem chunk {cs c : List Value} {o n m : Nat} (h : (cs.drop o).take n = c) (hm : o + n = m) : cs.drop o = c ++ cs.drop m := by
  rw [← h, ← hm, ← List.drop_drop]; exact (List.take_append_drop n _).symm
theorem wf_int {n : Int} (h : (Lit.int .i64 n).wf = true) : isInt n := by
  have e1 : IntKind.i64.min = -9223372036854775808 := rfl
  have e2 : IntKind.i64.max = 9223372036854775807 := rfl
  simp [Lit.wf, e1, e2] at h
  exact ⟨by omega, by omega⟩
section
variable {H : Type} {enc : TypeId × Value → H} {w : World} {base : Nat} {sp : Nat → Bool} {held : Bool}
theorem int_open {fuel : Nat} {cs : List Value} {x : DataW H × List MemPlace} (h : DataW.trod enc Tryd.prog w base sp held fuel 3 cs = some x) : ∃ n, cs = [.int .i64 n] ∧ isInt n := by
  obtain ⟨n, h1, _, h3⟩ := DataW.trod_int Tryd.underlying3 h
  exact ⟨n, h1, wf_int h3⟩
theorem bool_open {fuel : Nat} {cs : List Value} {x : DataW H × List MemPlace} (h : DataW.trod enc Tryd.prog w base sp held fuel 4 cs = some x) : ∃ b, cs = [.bool b] := by
  obtain ⟨b, h1, _⟩ := DataW.trod_bool Tryd.underlying4 h
  exact ⟨b, h1⟩
theorem two_of {α : Type} {l : List α} (h : l.length = 2) : ∃ a b, l = [a, b] := by
  match l, h with
  | [a, b], _ => exact ⟨a, b, rfl⟩
theorem cons_of {α : Type} {l : List α} (n : Nat) (h : l.length = n + 1) : ∃ a r, l = a :: r ∧ r.length = n := by
  cases l with
  | nil => simp at h
  | cons a r => exact ⟨a, r, rfl, by simpa using h⟩
theorem twelve_of {α : Type} {l : List α} (h : l.length = 12) : ∃ a b c d e f g i j k m n, l = [a, b, c, d, e, f, g, i, j, k, m, n] := by
  obtain ⟨a, l0, e0, h0⟩ := cons_of (l := l) 11 h
  obtain ⟨b, l1, e1, h1⟩ := cons_of (l := l0) 10 h0
  obtain ⟨c, l2, e2, h2⟩ := cons_of (l := l1) 9 h1
  obtain ⟨d, l3, e3, h3⟩ := cons_of (l := l2) 8 h2
  obtain ⟨e, l4, e4, h4⟩ := cons_of (l := l3) 7 h3
  obtain ⟨f, l5, e5, h5⟩ := cons_of (l := l4) 6 h4
  obtain ⟨g, l6, e6, h6⟩ := cons_of (l := l5) 5 h5
  obtain ⟨i, l7, e7, h7⟩ := cons_of (l := l6) 4 h6
  obtain ⟨j, l8, e8, h8⟩ := cons_of (l := l7) 3 h7
  obtain ⟨k, l9, e9, h9⟩ := cons_of (l := l8) 2 h8
  obtain ⟨m, l10, e10, h10⟩ := cons_of (l := l9) 1 h9
  obtain ⟨n, l11, e11, h11⟩ := cons_of (l := l10) 0 h10
  have ez := List.length_eq_zero_iff.1 h11
  exact ⟨a, b, c, d, e, f, g, i, j, k, m, n, by rw [e0, e1, e2, e3, e4, e5, e6, e7, e8, e9, e10, e11, ez]⟩
theorem cells30 : Tryd.prog.cellsOf 30 = 2 := by kernel_rfl
theorem cells32 : Tryd.prog.cellsOf 32 = 12 := by kernel_rfl
theorem cells4 : Tryd.prog.cellsOf 4 = 1 := by kernel_rfl
theorem opd_open {fuel : Nat} {cs : List Value} {x : DataW H × List MemPlace} (h : DataW.trod enc Tryd.prog w base sp held fuel 30 cs = some x) : ∃ o : Opd, cs = [.int .i64 o.v, .int .i64 o.n] ∧ isInt o.v ∧ isInt o.n := by
  cases fuel with
  | zero => simp [DataW.trod] at h
  | succ fuel =>
    simp only [DataW.trod, Tryd.underlying30, cells30] at h
    split at h
    · rename_i hl
      obtain ⟨xs, hm, hx⟩ := Option.map_eq_some_iff.1 h
      simp only [List.mapM_cons, List.mapM_nil, Option.bind_eq_bind, Option.bind_eq_some_iff, Option.pure_def, Option.some.injEq, cells3] at hm
      obtain ⟨x0, h0, _, ⟨x1, h1, _, rfl, rfl⟩, rfl⟩ := hm
      obtain ⟨v, t0, i0⟩ := int_open h0
      obtain ⟨n, t1, i1⟩ := int_open h1
      obtain ⟨a, b, rfl⟩ := two_of hl
      simp only [List.drop_zero, List.take_succ_cons, List.take_zero, List.drop_succ_cons, List.cons.injEq, and_true] at t0 t1
      exact ⟨⟨v, n⟩, by rw [t0, t1], i0, i1⟩
    · cases h
theorem acn_open {fuel : Nat} {cs : List Value} {x : DataW H × List MemPlace} (h : DataW.trod enc Tryd.prog w base sp held fuel 32 cs = some x) : ∃ a : Acn, cs = a.cs.toList ∧ a.ok := by
  cases fuel with
  | zero => simp [DataW.trod] at h
  | succ fuel =>
    simp only [DataW.trod, Tryd.underlying32, cells32] at h
    split at h
    · rename_i hl
      obtain ⟨xs, hm, hx⟩ := Option.map_eq_some_iff.1 h
      simp only [List.mapM_cons, List.mapM_nil, Option.bind_eq_bind, Option.bind_eq_some_iff, Option.pure_def, Option.some.injEq, cells3, cells30, cells4] at hm
      obtain ⟨x0, h0, _, ⟨x1, h1, _, ⟨x2, h2, _, ⟨x3, h3, _, ⟨x4, h4, _, ⟨x5, h5, _, ⟨x6, h6, _, ⟨x7, h7, _, ⟨x8, h8, _, ⟨x9, h9, _, rfl, rfl⟩, rfl⟩, rfl⟩, rfl⟩, rfl⟩, rfl⟩, rfl⟩, rfl⟩, rfl⟩, rfl⟩ := hm
      obtain ⟨n0, t0, i0⟩ := int_open h0
      obtain ⟨n1, t1, i1⟩ := int_open h1
      obtain ⟨n2, t2, i2⟩ := int_open h2
      obtain ⟨n3, t3, i3⟩ := int_open h3
      obtain ⟨n4, t4, i4⟩ := int_open h4
      obtain ⟨n5, t5, i5⟩ := int_open h5
      obtain ⟨n6, t6, i6⟩ := int_open h6
      obtain ⟨l, t7, i7, j7⟩ := opd_open h7
      obtain ⟨r, t8, i8, j8⟩ := opd_open h8
      obtain ⟨s, t9⟩ := bool_open h9
      obtain ⟨c0, c1, c2, c3, c4, c5, c6, c7, c8, c9, c10, c11, rfl⟩ := twelve_of hl
      simp only [List.drop_zero, List.take_succ_cons, List.take_zero, List.drop_succ_cons, List.cons.injEq, and_true] at t0 t1 t2 t3 t4 t5 t6 t7 t8 t9
      refine ⟨⟨n0, n1, n2, n3, n4, n5, n6, l, r, s⟩, ?_, ⟨i0, i1, i2, i3, i4, i5, i6, i7, j7, i8, j8⟩⟩
      rw [t0, t1, t2, t3, t4, t5, t6, t7.1, t7.2, t8.1, t8.2, t9]
      rfl
    · cases h
theorem fld {T : TypeId} {fs : Array Field} {fuel : Nat} {cs : List Value} {x : DataW H × List MemPlace} (hu : Tryd.prog.underlying T = some (.struct fs)) (h : DataW.trod enc Tryd.prog w base sp held fuel T cs = some x) :
    ∃ n, fuel = n + 1 ∧ cs.length = Tryd.prog.cellsOf T ∧ ∀ (i t o c : Nat), fs[i]?.map (fun f => (f.type, f.offset)) = some (t, o) → Tryd.prog.cellsOf t = c → ∃ y, DataW.trod enc Tryd.prog w base sp held n t ((cs.drop o).take c) = some y := by
  obtain ⟨xs, n, rfl, rfl, hl, hx, hf⟩ := DataW.trod_struct hu h
  refine ⟨n, rfl, hl, fun i t o c hi0 hc => ?_⟩
  obtain ⟨f, hi, he⟩ := Option.map_eq_some_iff.1 hi0
  injection he with e1 e2
  subst e1; subst e2; subst hc
  have hlt : i < xs.length := by rw [hx]; exact (Array.getElem?_eq_some_iff.1 hi).1
  exact ⟨xs[i], (hf i f hi).trans (List.getElem?_eq_getElem hlt)⟩
theorem shape_open {t e : TypeId} {fuel : Nat} {cs : List Value} {x : DataW H × List MemPlace} (ht : Tryd.prog.underlying t = some (.slice e)) (h : DataW.trod enc Tryd.prog w base sp held fuel t cs = some x) : ∃ p n c, cs = [.slice p n c] := by
  rcases DataW.trod_slice ht h with ⟨rfl, rfl⟩ | ⟨a, len, cap, elems, rest, n, rfl, rfl, rfl, _⟩
  · exact ⟨_, _, _, rfl⟩
  · exact ⟨_, _, _, rfl⟩
theorem slc_open {t e : TypeId} {size fuel : Nat} {cs : List Value} {x : DataW H × List MemPlace} (ht : Tryd.prog.underlying t = some (.slice e)) (hc : Tryd.prog.cellsOf e = size) (hs : 0 < size)
    (h : DataW.trod enc Tryd.prog w base sp held fuel t cs = some x) :
    ∃ p len cap, cs = [.slice p len cap] ∧ (len = 0 ∨ ∃ b o n, p = some ⟨b, o, none⟩ ∧ ∀ i, i < len → ∃ cs' y, w.rangeAt b (o + i * size) cs' ∧ DataW.trod enc Tryd.prog w base sp held n e cs' = some y) := by
  rcases DataW.trod_slice ht h with ⟨rfl, rfl⟩ | ⟨a, len, cap, elems, rest, n, rfl, rfl, rfl, _, _, _, hlen, hel, _, _⟩
  · exact ⟨none, 0, 0, rfl, .inl rfl⟩
  · refine ⟨some a, len, cap, rfl, ?_⟩
    by_cases h0 : len = 0
    · exact .inl h0
    · have hcells : ∀ i, i < len → ∃ cs', w.cells? base (a.add (i * size)) size = some cs' ∧ DataW.trod enc Tryd.prog w base sp held n e cs' = elems[i]? := fun i hi => by
        have h1 := hel i hi
        rw [hc] at h1
        have hsome : elems[i]? = some (elems[i]'(by omega)) := List.getElem?_eq_getElem (by omega)
        rw [hsome] at h1
        cases hq : w.cells? base (a.add (i * size)) size with
        | none => rw [hq] at h1; simp at h1
        | some cs' => rw [hq] at h1; exact ⟨cs', rfl, by rw [hsome]; simpa using h1⟩
      obtain ⟨c0, hc0, _⟩ := hcells 0 (by omega)
      obtain ⟨_, hl0, hat0⟩ := World.cells?_some hc0
      obtain ⟨b, off, s⟩ := a
      have hsp : s = none := by
        have h2 := hat0 0 hs
        have h3 : c0[0]? = some (c0[0]'(by omega)) := List.getElem?_eq_getElem (by omega)
        rw [h3] at h2
        cases s with
        | none => rfl
        | some s => simp [World.cell?, Addr.add] at h2; split at h2 <;> simp at h2
      subst hsp
      refine .inr ⟨b, off, n, rfl, fun i hi => ?_⟩
      obtain ⟨cs', hcs, htr⟩ := hcells i hi
      obtain ⟨_, hl, hat⟩ := World.cells?_some hcs
      refine ⟨cs', elems[i]'(by omega), fun j v hj => ?_, by rw [htr]; exact List.getElem?_eq_getElem (by omega)⟩
      have hjl : j < size := by rw [← hl]; exact (List.getElem?_eq_some_iff.1 hj).1
      have h4 := hat j hjl
      rw [hj] at h4
      rw [← h4]
      rw [Addr.add_mid, Addr.add_mid]
theorem cells34' : Tryd.prog.cellsOf 34 = 14 := by kernel_rfl
theorem cells22' : Tryd.prog.cellsOf 22 = 1 := by kernel_rfl
theorem cells23' : Tryd.prog.cellsOf 23 = 1 := by kernel_rfl
theorem cells24' : Tryd.prog.cellsOf 24 = 1 := by kernel_rfl
theorem cells26' : Tryd.prog.cellsOf 26 = 10 := by kernel_rfl
theorem ed_open {fuel : Nat} {cs : List Value} {x : DataW H × List MemPlace} (h : DataW.trod enc Tryd.prog w base sp held fuel 34 cs = some x) : ∃ e : Ed, cs = e.cs.toList := by
  obtain ⟨n, rfl, hl, hf⟩ := fld Tryd.underlying34 h
  rw [cells34'] at hl
  obtain ⟨y0, t0⟩ := hf 0 3 0 _ rfl cells3
  obtain ⟨a, k0, _⟩ := int_open t0
  obtain ⟨y1, t1⟩ := hf 1 3 1 _ rfl cells3
  obtain ⟨b, k1, _⟩ := int_open t1
  obtain ⟨y2, t2⟩ := hf 2 32 2 _ rfl cells32
  obtain ⟨c, k2, _⟩ := acn_open t2
  refine ⟨⟨a, b, c⟩, ?_⟩
  have e : cs.drop 0 = cs.drop 0 := rfl
  conv at e => rhs; rw [chunk k0 (show _ = 1 from rfl), chunk k1 (show _ = 2 from rfl), chunk k2 (show _ = 14 from rfl), List.drop_eq_nil_of_le (show cs.length ≤ 14 by omega)]
  exact e
theorem edges_open {fuel : Nat} {cs : List Value} {x : DataW H × List MemPlace} (h : DataW.trod enc Tryd.prog w base sp held fuel 22 cs = some x) :
    ∃ (p : Option Addr) (l : List Ed) (c : Nat), cs = [.slice p l.length c] ∧ (l = [] ∨ ∃ b o, p = some ⟨b, o, none⟩ ∧ ∀ k e, l[k]? = some e → w.rangeAt b (o + k * 14) e.cs.toList) := by
  obtain ⟨p, len, cap, rfl, h2⟩ := slc_open Tryd.underlying22 cells34' (by decide) h
  rcases h2 with rfl | ⟨b, o, n, rfl, hx⟩
  · exact ⟨p, [], cap, rfl, .inl rfl⟩
  · have hx' : ∀ i, i < len → ∃ e : Ed, w.rangeAt b (o + i * 14) e.cs.toList := fun i hi => by
      obtain ⟨cs', y, h1, h2⟩ := hx i hi
      obtain ⟨e, rfl⟩ := ed_open h2
      exact ⟨e, h1⟩
    obtain ⟨f, hf⟩ := choose_lt ed0 hx'
    refine ⟨some ⟨b, o, none⟩, (List.range len).map f, cap, by simp, .inr ⟨b, o, rfl, fun k e hk => ?_⟩⟩
    simp only [List.getElem?_map, Option.map_eq_some_iff] at hk
    obtain ⟨j, hj, rfl⟩ := hk
    obtain ⟨hlt, he⟩ := List.getElem?_eq_some_iff.1 hj
    simp only [List.length_range] at hlt
    simp only [List.getElem_range] at he
    subst he
    exact hf k hlt
/-- A graph as it is handed in. -/
theorem g_open {fuel : Nat} {cs : List Value} {x : DataW H × List MemPlace} (h : DataW.trod enc Tryd.prog w base sp held fuel 26 cs = some x) :
    ∃ g : Gh, cs = g.cs.toList ∧ (g.es = [] ∨ ∃ b o, g.ep = some ⟨b, o, none⟩ ∧ ∀ k e, g.es[k]? = some e → w.rangeAt b (o + k * 14) e.cs.toList) := by
  obtain ⟨n, rfl, hl, hf⟩ := fld Tryd.underlying26 h
  rw [cells26'] at hl
  obtain ⟨y0, t0⟩ := hf 0 3 0 _ rfl cells3
  obtain ⟨a0, k0, _⟩ := int_open t0
  obtain ⟨y1, t1⟩ := hf 1 3 1 _ rfl cells3
  obtain ⟨a1, k1, _⟩ := int_open t1
  obtain ⟨y2, t2⟩ := hf 2 3 2 _ rfl cells3
  obtain ⟨a2, k2, _⟩ := int_open t2
  obtain ⟨y3, t3⟩ := hf 3 3 3 _ rfl cells3
  obtain ⟨a3, k3, _⟩ := int_open t3
  obtain ⟨y4, t4⟩ := hf 4 22 4 _ rfl cells22'
  obtain ⟨ep, es, ec, k4, h4⟩ := edges_open t4
  obtain ⟨y5, t5⟩ := hf 5 23 5 _ rfl cells23'
  obtain ⟨hp, hn, hc, k5⟩ := shape_open Tryd.underlying23 t5
  obtain ⟨y6, t6⟩ := hf 6 3 6 _ rfl cells3
  obtain ⟨a6, k6, _⟩ := int_open t6
  obtain ⟨y7, t7⟩ := hf 7 3 7 _ rfl cells3
  obtain ⟨a7, k7, _⟩ := int_open t7
  obtain ⟨y8, t8⟩ := hf 8 3 8 _ rfl cells3
  obtain ⟨a8, k8, _⟩ := int_open t8
  obtain ⟨y9, t9⟩ := hf 9 24 9 _ rfl cells24'
  obtain ⟨fp, fn, fc, k9⟩ := shape_open Tryd.underlying24 t9
  refine ⟨⟨a0, a1, a2, a3, ep, es, ec, hp, hn, hc, a6, a7, a8, fp, fn, fc⟩, ?_, h4⟩
  have e : cs.drop 0 = cs.drop 0 := rfl
  conv at e => rhs; rw [chunk k0 (show _ = 1 from rfl), chunk k1 (show _ = 2 from rfl), chunk k2 (show _ = 3 from rfl), chunk k3 (show _ = 4 from rfl), chunk k4 (show _ = 5 from rfl), chunk k5 (show _ = 6 from rfl), chunk k6 (show _ = 7 from rfl), chunk k7 (show _ = 8 from rfl), chunk k8 (show _ = 9 from rfl), chunk k9 (show _ = 10 from rfl), List.drop_eq_nil_of_le (show cs.length ≤ 10 by omega)]
  exact e
end
theorem laidOut : laidOutB Tryd.prog = true := by kernel_rfl
/-- A law's end: 'true', no variable named, the arguments read as they did. -/
theorem law_end {H : Type} {enc : TypeId × Value → H} {P : Program} {f : Func} {s : ChangeSpec} {apart fresh handsOn : Bool} {W W' : World} {args : Array Value} {ds : List (DataW H)} {before : List MemPlace} {t : TypeId}
    (hW : DataW.Whole enc P f.params.toList s.vars apart W args.toList ds [] before)
    (hr : f.resultTypes = #[t]) (ht : P.underlying t = some .bool)
    (hres : (s.fn H (ds ++ [])).results = [.lit (.bool true)])
    (hargs : DataW.TrodAll enc P W' 0 (fun b => decide (b < W.heap.size)) true f.params.toList args.toList (s.fn H (ds ++ [])).args before)
    (hvars : DataW.TrodVars enc P W' (fun b => decide (b < W.heap.size)) s.vars (s.fn H (ds ++ [])).vars [])
    (hb : Below W.heap.size W W') : s.post enc P f apart fresh handsOn false W args (.bool true) W' := by
  refine ⟨ds, [], before, [], before, [], hW, ?_, hargs, hvars, hb.frame _, fun h => by cases h⟩
  rw [hr, hres]
  exact trodAll_mk1 (shut_bool ht true)
end Go.Proofs.YtnkimfbdcghgpaaDoor
