/-
  DERIVED. How an action that is handed in reads; the start that fits; a law's end.
-/
import Derived.Test.YtkieiclionkllaaDoorFb
namespace Go.Proofs.YtkieiclionkllaaDoor
open Go.ChangeShapes Go.WideShapes Go.ChangeAt Go.RowKit
open Go.ChangeMaps (open_string shut_string)
open Ac

theorem wf_int {n : Int} (h : (Lit.int .i64 n).wf = true) : isInt n := by
  have e1 : IntKind.i64.min = -9223372036854775808 := rfl
  have e2 : IntKind.i64.max = 9223372036854775807 := rfl
  simp [Lit.wf, e1, e2] at h
  exact ⟨by omega, by omega⟩
section
variable {H : Type} {enc : TypeId × Value → H} {w : World} {base : Nat} {sp : Nat → Bool} {held : Bool}
theorem int_open {fuel : Nat} {cs : List Value} {x : DataW H × List MemPlace} (h : DataW.trod enc Tryd.prog w base sp held fuel 3 cs = some x) : ∃ n, cs = [.int .i64 n] ∧ isInt n := by
  obtain ⟨n, h1, _, h3⟩ := DataW.trod_int Tryd.underlying3 h
  exact ⟨n, h1, wf_int h3⟩
theorem bool_open {fuel : Nat} {cs : List Value} {x : DataW H × List MemPlace} (h : DataW.trod enc Tryd.prog w base sp held fuel 4 cs = some x) : ∃ b, cs = [.bool b] := by
  obtain ⟨b, h1, _⟩ := DataW.trod_bool Tryd.underlying4 h
  exact ⟨b, h1⟩
theorem two_of {α : Type} {l : List α} (h : l.length = 2) : ∃ a b, l = [a, b] := by
  match l, h with
  | [a, b], _ => exact ⟨a, b, rfl⟩
theorem cons_of {α : Type} {l : List α} (n : Nat) (h : l.length = n + 1) : ∃ a r, l = a :: r ∧ r.length = n := by
  cases l with
  | nil => simp at h
  | cons a r => exact ⟨a, r, rfl, by simpa using h⟩
theorem twelve_of {α : Type} {l : List α} (h : l.length = 12) : ∃ a b c d e f g i j k m n, l = [a, b, c, d, e, f, g, i, j, k, m, n] := by
  obtain ⟨a, l0, e0, h0⟩ := cons_of (l := l) 11 h
  obtain ⟨b, l1, e1, h1⟩ := cons_of (l := l0) 10 h0
  obtain ⟨c, l2, e2, h2⟩ := cons_of (l := l1) 9 h1
  obtain ⟨d, l3, e3, h3⟩ := cons_of (l := l2) 8 h2
  obtain ⟨e, l4, e4, h4⟩ := cons_of (l := l3) 7 h3
  obtain ⟨f, l5, e5, h5⟩ := cons_of (l := l4) 6 h4
  obtain ⟨g, l6, e6, h6⟩ := cons_of (l := l5) 5 h5
  obtain ⟨i, l7, e7, h7⟩ := cons_of (l := l6) 4 h6
  obtain ⟨j, l8, e8, h8⟩ := cons_of (l := l7) 3 h7
  obtain ⟨k, l9, e9, h9⟩ := cons_of (l := l8) 2 h8
  obtain ⟨m, l10, e10, h10⟩ := cons_of (l := l9) 1 h9
  obtain ⟨n, l11, e11, h11⟩ := cons_of (l := l10) 0 h10
  have ez := List.length_eq_zero_iff.1 h11
  exact ⟨a, b, c, d, e, f, g, i, j, k, m, n, by rw [e0, e1, e2, e3, e4, e5, e6, e7, e8, e9, e10, e11, ez]⟩
theorem cells23 : Tryd.prog.cellsOf 23 = 2 := by kernel_rfl
theorem cells25 : Tryd.prog.cellsOf 25 = 12 := by kernel_rfl
theorem cells4 : Tryd.prog.cellsOf 4 = 1 := by kernel_rfl
theorem opd_open {fuel : Nat} {cs : List Value} {x : DataW H × List MemPlace} (h : DataW.trod enc Tryd.prog w base sp held fuel 23 cs = some x) : ∃ o : Opd, cs = [.int .i64 o.v, .int .i64 o.n] ∧ isInt o.v ∧ isInt o.n := by
  cases fuel with
  | zero => simp [DataW.trod] at h
  | succ fuel =>
    simp only [DataW.trod, Tryd.underlying23, cells23] at h
    split at h
    · rename_i hl
      obtain ⟨xs, hm, hx⟩ := Option.map_eq_some_iff.1 h
      simp only [List.mapM_cons, List.mapM_nil, Option.bind_eq_bind, Option.bind_eq_some_iff, Option.pure_def, Option.some.injEq, cells3] at hm
      obtain ⟨x0, h0, _, ⟨x1, h1, _, rfl, rfl⟩, rfl⟩ := hm
      obtain ⟨v, t0, i0⟩ := int_open h0
      obtain ⟨n, t1, i1⟩ := int_open h1
      obtain ⟨a, b, rfl⟩ := two_of hl
      simp only [List.drop_zero, List.take_succ_cons, List.take_zero, List.drop_succ_cons, List.cons.injEq, and_true] at t0 t1
      exact ⟨⟨v, n⟩, by rw [t0, t1], i0, i1⟩
    · cases h
theorem acn_open {fuel : Nat} {cs : List Value} {x : DataW H × List MemPlace} (h : DataW.trod enc Tryd.prog w base sp held fuel 25 cs = some x) : ∃ a : Acn, cs = a.cs.toList ∧ a.ok := by
  cases fuel with
  | zero => simp [DataW.trod] at h
  | succ fuel =>
    simp only [DataW.trod, Tryd.underlying25, cells25] at h
    split at h
    · rename_i hl
      obtain ⟨xs, hm, hx⟩ := Option.map_eq_some_iff.1 h
      simp only [List.mapM_cons, List.mapM_nil, Option.bind_eq_bind, Option.bind_eq_some_iff, Option.pure_def, Option.some.injEq, cells3, cells23, cells4] at hm
      obtain ⟨x0, h0, _, ⟨x1, h1, _, ⟨x2, h2, _, ⟨x3, h3, _, ⟨x4, h4, _, ⟨x5, h5, _, ⟨x6, h6, _, ⟨x7, h7, _, ⟨x8, h8, _, ⟨x9, h9, _, rfl, rfl⟩, rfl⟩, rfl⟩, rfl⟩, rfl⟩, rfl⟩, rfl⟩, rfl⟩, rfl⟩, rfl⟩ := hm
      obtain ⟨n0, t0, i0⟩ := int_open h0
      obtain ⟨n1, t1, i1⟩ := int_open h1
      obtain ⟨n2, t2, i2⟩ := int_open h2
      obtain ⟨n3, t3, i3⟩ := int_open h3
      obtain ⟨n4, t4, i4⟩ := int_open h4
      obtain ⟨n5, t5, i5⟩ := int_open h5
      obtain ⟨n6, t6, i6⟩ := int_open h6
      obtain ⟨l, t7, i7, j7⟩ := opd_open h7
      obtain ⟨r, t8, i8, j8⟩ := opd_open h8
      obtain ⟨s, t9⟩ := bool_open h9
      obtain ⟨c0, c1, c2, c3, c4, c5, c6, c7, c8, c9, c10, c11, rfl⟩ := twelve_of hl
      simp only [List.drop_zero, List.take_succ_cons, List.take_zero, List.drop_succ_cons, List.cons.injEq, and_true] at t0 t1 t2 t3 t4 t5 t6 t7 t8 t9
      refine ⟨⟨n0, n1, n2, n3, n4, n5, n6, l, r, s⟩, ?_, ⟨i0, i1, i2, i3, i4, i5, i6, i7, j7, i8, j8⟩⟩
      rw [t0, t1, t2, t3, t4, t5, t6, t7.1, t7.2, t8.1, t8.2, t9]
      rfl
    · cases h
end
theorem laidOut : laidOutB Tryd.prog = true := by kernel_rfl
theorem door_met (os : Os) (args : Array Value) : laidMetH Tryd.prog laid10 ((World.doorLaid Tryd.prog 108 os).forCall (fun _ _ => 0) ⟨#[], args, []⟩).memory :=
  laidMetH_of_parts3 (fuel := 8) (laidMet_of_run' 8 (by kernel_rfl) (by kernel_rfl)) (by kernel_rfl) (by kernel_rfl)

/-- A law's end: 'true', no variable named, the arguments read as they did. -/
theorem law_end {H : Type} {enc : TypeId × Value → H} {P : Program} {f : Func} {s : ChangeSpec} {apart fresh handsOn : Bool} {W W' : World} {args : Array Value} {ds : List (DataW H)} {before : List MemPlace} {t : TypeId}
    (hW : DataW.Whole enc P f.params.toList s.vars apart W args.toList ds [] before)
    (hr : f.resultTypes = #[t]) (ht : P.underlying t = some .bool)
    (hres : (s.fn H (ds ++ [])).results = [.lit (.bool true)])
    (hargs : DataW.TrodAll enc P W' 0 (fun b => decide (b < W.heap.size)) true f.params.toList args.toList (s.fn H (ds ++ [])).args before)
    (hvars : DataW.TrodVars enc P W' (fun b => decide (b < W.heap.size)) s.vars (s.fn H (ds ++ [])).vars [])
    (hb : Below W.heap.size W W') : s.post enc P f apart fresh handsOn false W args (.bool true) W' := by
  refine ⟨ds, [], before, [], before, [], hW, ?_, hargs, hvars, hb.frame _, fun h => by cases h⟩
  rw [hr, hres]
  exact trodAll_mk1 (shut_bool ht true)
end Go.Proofs.YtkieiclionkllaaDoor
