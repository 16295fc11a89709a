/-
  From the row's 'laid' to what the tables hold; how the arguments read; a law's end. The law StatePlays: its beginning.
-/
import Derived.Test.YtebmhadpkncgfaaDoorM11
import Derived.ProofKit
import Derived.LaidMore
import Derived.OpenShut
import Derived.Stop.Joined
import Derived.Stop.LaidErr
import Derived.Lib.LaidTab
import Derived.Laws.Cover2
import Derived.Test.YtebmhadpkncgfaaDoorTie
import Derived.Test.YtebmhadpkncgfaaDoorCards
import Derived.SevenTiedAt
set_option maxHeartbeats 40000000
set_option maxRecDepth 100000
namespace Go.Proofs.YtebmhadpkncgfaaDoor
open Go.ChangeShapes Go.WideShapes Go.ChangeAt Go.RowKit
open Go.ChangeMaps (open_string shut_string)
open Aw.Ac (Acn Opd)
namespace Cd
theorem own : ownKnob Tryd.prog.godebug = none := by kernel_rfl
theorem gForms : Tryd.prog.globalNamed "umbral/action.forms" = some 0 := by kernel_rfl
theorem gSpans : Tryd.prog.globalNamed "umbral/action.spans" = some 1 := by kernel_rfl
theorem tForms : (Tryd.prog.globals[0]?).map (·.type) = some 114 := by kernel_rfl
theorem tSpans : (Tryd.prog.globals[1]?).map (·.type) = some 131 := by kernel_rfl
theorem cells9a : Tryd.prog.cellsOf 9 = 1 := by kernel_rfl
theorem cellsPart : Tryd.prog.cellsOf 112 = 1 := by kernel_rfl
theorem cellsRow : Tryd.prog.cellsOf 113 = 5 := by kernel_rfl
theorem cellsForms : Tryd.prog.cellsOf 114 = 65 := by kernel_rfl
theorem cellsSpan : Tryd.prog.cellsOf 130 = 3 := by kernel_rfl
theorem cellsSpans : Tryd.prog.cellsOf 131 = 27 := by kernel_rfl
def bt (l : List UInt8) : ByteArray := ⟨l.toArray⟩
def laid2 : List (String × DataW Unit) := [("umbral/action.forms", Rows.laid_umbral_action_forms), ("umbral/action.spans", Rows.laid_umbral_action_spans)]
section
variable {H : Type} {enc : TypeId × Value → H} {P : Program} {w : World} {base : Nat} {sp : Nat → Bool} {held : Bool}
/-- What an array reads as: its items, one by one. -/
theorem trod_arr {fuel t e n c : Nat} {cs : List Value} {ds : List (DataW H)} {p : List MemPlace} (ht : P.underlying t = some (.array n e)) (hc : P.cellsOf e = c) (hct : P.cellsOf t = n * c)
    (h : DataW.trod enc P w base sp held fuel t cs = some (.agg ds, p)) : ds.length = n ∧ cs.length = n * c ∧ ∃ f, ∀ i d, ds[i]? = some d → ∃ q, DataW.trod enc P w base sp held f e ((cs.drop (i * c)).take c) = some (d, q) := by
  cases fuel with
  | zero => simp [DataW.trod] at h
  | succ fuel =>
    simp only [DataW.trod, ht, hc, hct] at h
    split at h
    · rename_i hl
      obtain ⟨xs, hm, hx⟩ := Option.map_eq_some_iff.1 h
      have hxs : xs.map (·.1) = ds := by
        have := congrArg Prod.fst hx
        simpa using this
      have hxl : xs.length = n := by simpa using Lib.mapM_length hm
      refine ⟨by rw [← hxs]; simpa using hxl, hl, fuel, fun i d hd => ?_⟩
      have hi : i < n := by
        have := (List.getElem?_eq_some_iff.1 hd).1
        rw [← hxs] at this
        simpa [hxl] using this
      obtain ⟨b, hb, hf⟩ := Lib.mapM_at hm i i (by simp [hi])
      have : (xs.map (·.1))[i]? = some b.1 := by simp [hb]
      rw [hxs, hd] at this
      injection this with this
      exact ⟨b.2, by rw [hf, this]⟩
    · cases h
/-- A text out of a row. -/
theorem trod_str {fuel t : Nat} {cs : List Value} {l : List UInt8} {p : List MemPlace} (ht : P.underlying t = some .string) (h : DataW.trod enc P w base sp held fuel t cs = some (.lit (.string l), p)) : cs = [.string (bt l)] := by
  obtain ⟨s, hs, hx, _⟩ := DataW.trod_string ht h
  have : l = s.data.toList := by
    have := congrArg Prod.fst hx
    simpa using this
  rw [hs, this]
  show [Value.string s] = [Value.string ⟨s.data.toList.toArray⟩]
  rw [Lib.mk_data]
theorem trod_num {fuel t : Nat} {k : IntKind} {cs : List Value} {n : Int} {p : List MemPlace} (ht : P.underlying t = some (.int k)) (h : DataW.trod enc P w base sp held fuel t cs = some (.lit (.int k n), p)) : cs = [.int k n] := by
  obtain ⟨m, hs, hx, _⟩ := DataW.trod_int ht h
  have : n = m := by
    have := congrArg Prod.fst hx
    simpa using this
  rw [hs, this]
theorem part_cell {cs : List Value} {i c j : Nat} {l : List Value} {v : Value} (h : (cs.drop (i * c)).take c = l) (hj : l[j]? = some v) : cs[i * c + j]? = some v := by
  rw [← h] at hj
  have hjc : j < c := by
    have := (List.getElem?_eq_some_iff.1 hj).1
    rw [List.length_take] at this; omega
  rw [List.getElem?_take_of_lt hjc, List.getElem?_drop] at hj
  exact hj
end
theorem three_of {α : Type} {l : List α} (h : l.length = 3) : ∃ a b c, l = [a, b, c] := by
  match l, h with
  | [a, b, c], _ => exact ⟨a, b, c, rfl⟩
/-- A span's three cells. -/
theorem trod_span {H : Type} {enc : TypeId × Value → H} {w : World} {base : Nat} {sp : Nat → Bool} {held : Bool} {fuel : Nat} {cs : List Value} {l : List UInt8} {n m : Int} {p : List MemPlace}
    (h : DataW.trod enc Tryd.prog w base sp held fuel 130 cs = some (.agg [.lit (.string l), .lit (.int .i64 n), .lit (.int .i64 m)], p)) : cs = [.string (bt l), .int .i64 n, .int .i64 m] := by
  cases fuel with
  | zero => simp [DataW.trod] at h
  | succ fuel =>
    simp only [DataW.trod, Tryd.underlying130, cellsSpan] at h
    split at h
    · rename_i hl
      obtain ⟨xs, hm, hx⟩ := Option.map_eq_some_iff.1 h
      simp only [List.mapM_cons, List.mapM_nil, Option.bind_eq_bind, Option.bind_eq_some_iff, Option.pure_def, Option.some.injEq, cells9a, cells3] at hm
      obtain ⟨x0, h0, _, ⟨x1, h1, _, ⟨x2, h2, _, rfl, rfl⟩, rfl⟩, rfl⟩ := hm
      simp only [List.map_cons, List.map_nil, Prod.mk.injEq, DataW.agg.injEq, List.cons.injEq, and_true] at hx
      obtain ⟨⟨e0, e1, e2⟩, _⟩ := hx
      obtain ⟨x0a, x0b⟩ := x0
      obtain ⟨x1a, x1b⟩ := x1
      obtain ⟨x2a, x2b⟩ := x2
      simp only at e0 e1 e2
      subst e0 e1 e2
      have t0 := trod_str Tryd.underlying9 h0
      have t1 := trod_num Tryd.underlying3 h1
      have t2 := trod_num Tryd.underlying3 h2
      obtain ⟨a, b, c, rfl⟩ := three_of hl
      simp only [List.drop_zero, List.take_succ_cons, List.take_zero, List.drop_succ_cons, List.cons.injEq, and_true] at t0 t1 t2
      rw [t0, t1, t2]
    · cases h
theorem cell_lt {w : World} {a : Addr} {v : Value} (h : w.cell? a = some v) : a.block < w.heap.size := by
  rcases Nat.lt_or_ge a.block w.heap.size with hlt | hge
  · exact hlt
  · unfold World.cell? at h; rw [Array.getElem?_eq_none hge] at h; simp at h
theorem var_cell {W : World} {n : String} {g : Nat} {cs : Array Value} (hg : Tryd.prog.globalNamed n = some g) (hv : W.var? Tryd.prog n = some cs) {k : Nat} {v : Value} (h : cs.toList[k]? = some v) : W.cell? ⟨g, k, none⟩ = some v := by
  rw [World.var?_cell hg hv k, ← Array.getElem?_toList, h]
theorem var_of {n : String} {d : DataW Unit} {r : List (String × DataW Unit)} {W : World} {g t : Nat} (h : laidMet Tryd.prog ((n, d) :: r) W) (hg : Tryd.prog.globalNamed n = some g) (ht : (Tryd.prog.globals[g]?).map (·.type) = some t) :
    ∃ (cs : Array Value) (enc : TypeId × Value → Unit) (base : Nat) (sp : Nat → Bool) (held : Bool) (fuel : Nat) (p : List MemPlace), W.var? Tryd.prog n = some cs ∧ DataW.trod enc Tryd.prog W base sp held fuel t cs.toList = some (d, p) := by
  obtain ⟨ps, ⟨g0, t0, cs0, f0, p0, q0, hg0, ht0, hv0, hd0, _, _⟩, _⟩ := h
  obtain rfl := Option.some.inj (hg.symm.trans hg0)
  obtain rfl := Option.some.inj (ht.symm.trans ht0)
  exact ⟨cs0, _, _, _, _, f0, p0, hv0, hd0⟩
theorem forms_cell {W : World} {r : List (String × DataW Unit)} (h : laidMet Tryd.prog (("umbral/action.forms", Rows.laid_umbral_action_forms) :: r) W) (k j : Nat) (ps : List (DataW Unit)) (n : Int)
    (hk : (match Rows.laid_umbral_action_forms (H := Unit) with | .agg ds => ds[k]? | _ => none) = some (.agg ps)) (hj : ps[j]? = some (.lit (.int .u8 n))) : W.cell? ⟨0, k * 5 + j, none⟩ = some (.int .u8 n) := by
  obtain ⟨cs, enc, base, sp, held, fuel, p, hv, hr⟩ := var_of h gForms tForms
  obtain ⟨_, _, f, hp⟩ := trod_arr Tryd.underlying114 cellsRow cellsForms hr
  obtain ⟨q, hq⟩ := hp k _ hk
  obtain ⟨_, _, f2, hp2⟩ := trod_arr Tryd.underlying113 cellsPart cellsRow hq
  obtain ⟨q2, hq2⟩ := hp2 j _ hj
  have h1 := part_cell (j := 0) (trod_num Tryd.underlying112 hq2) rfl
  rw [Nat.mul_one, Nat.add_zero] at h1
  exact var_cell gForms hv (part_cell rfl h1)
theorem spans_cell {W : World} {r : List (String × DataW Unit)} (h : laidMet Tryd.prog (("umbral/action.spans", Rows.laid_umbral_action_spans) :: r) W) (k : Nat) (l : List UInt8) (n m : Int)
    (hk : (match Rows.laid_umbral_action_spans (H := Unit) with | .agg ds => ds[k]? | _ => none) = some (.agg [.lit (.string l), .lit (.int .i64 n), .lit (.int .i64 m)])) :
    W.cell? ⟨1, k * 3 + 1, none⟩ = some (.int .i64 n) ∧ W.cell? ⟨1, k * 3 + 2, none⟩ = some (.int .i64 m) := by
  obtain ⟨cs, enc, base, sp, held, fuel, p, hv, hr⟩ := var_of h gSpans tSpans
  obtain ⟨_, _, f, hp⟩ := trod_arr Tryd.underlying131 cellsSpan cellsSpans hr
  obtain ⟨q, hq⟩ := hp k _ hk
  have h1 := trod_span hq
  exact ⟨var_cell gSpans hv (part_cell (j := 1) h1 rfl), var_cell gSpans hv (part_cell (j := 2) h1 rfl)⟩
open Aw.Ac (formOf loOf hiOf)
/-- The parts of each kind, as they are laid. -/
theorem forms_at (k : Nat) (hk : k < 13) : (match Rows.laid_umbral_action_forms (H := Unit) with | .agg ds => ds[k]? | _ => none) = some (.agg ((List.range 5).map fun j => .lit (.int .u8 (((formOf k).getD j 0 : Nat) : Int)))) := by
  match k, hk with
  | 0, _ => rfl
  | 1, _ => rfl
  | 2, _ => rfl
  | 3, _ => rfl
  | 4, _ => rfl
  | 5, _ => rfl
  | 6, _ => rfl
  | 7, _ => rfl
  | 8, _ => rfl
  | 9, _ => rfl
  | 10, _ => rfl
  | 11, _ => rfl
  | 12, _ => rfl
def sgL : Nat → List UInt8
  | 0 => []
  | 1 => [112]
  | 2 => [112]
  | 3 => [112]
  | 4 => [112]
  | 5 => [105]
  | 6 => [102]
  | 7 => [115]
  | _ => [64]
theorem spans_at (p : Nat) (hp : p < 9) : ∃ l, (match Rows.laid_umbral_action_spans (H := Unit) with | .agg ds => ds[p]? | _ => none) = some (.agg [.lit (.string l), .lit (.int .i64 (loOf p)), .lit (.int .i64 (hiOf p))]) := by
  match p, hp with
  | 0, _ => exact ⟨_, rfl⟩
  | 1, _ => exact ⟨_, rfl⟩
  | 2, _ => exact ⟨_, rfl⟩
  | 3, _ => exact ⟨_, rfl⟩
  | 4, _ => exact ⟨_, rfl⟩
  | 5, _ => exact ⟨_, rfl⟩
  | 6, _ => exact ⟨_, rfl⟩
  | 7, _ => exact ⟨_, rfl⟩
  | 8, _ => exact ⟨_, rfl⟩
theorem var_lt {W : World} {n : String} {g : Nat} {cs : Array Value} (hg : Tryd.prog.globalNamed n = some g) (hv : W.var? Tryd.prog n = some cs) : g < W.heap.size := by
  unfold World.var? at hv
  rw [hg] at hv
  simp only [Option.bind_some] at hv
  rcases Nat.lt_or_ge g W.heap.size with h | h
  · exact h
  · rw [Array.getElem?_eq_none h] at hv; cases hv
theorem gl_of_laid {W : World} (h0 : laidMetH Tryd.prog laid2 W) : Aw.Gl W := by
  rw [MakeChecks.laidMetH_plain _ _ _ (by kernel_rfl)] at h0
  have h1 := h0
  have h2 := h1.tail
  have h3 := h2
  obtain ⟨ps, ⟨g0, t0, cs0, f0, p0, q0, hg0, ht0, hv0, _, _, _⟩, _⟩ := h3
  refine ⟨fun k hk j hj => ?_, fun p p2 => ?_, fun p p2 => ?_, var_lt gSpans hv0⟩
  · refine forms_cell h1 k j _ _ (forms_at k hk) ?_
    simp [List.getElem?_range hj]
  · obtain ⟨l, hl⟩ := spans_at p p2
    exact (spans_cell h2 p _ _ _ hl).1
  · obtain ⟨l, hl⟩ := spans_at p p2
    exact (spans_cell h2 p _ _ _ hl).2
end Cd
section
variable {H : Type} {enc : TypeId × Value → H} {w : World} {base : Nat} {spare : Nat → Bool} {held : Bool}
theorem cells41 : Tryd.prog.cellsOf 41 = 2 := by kernel_rfl
theorem cells43c : Tryd.prog.cellsOf 43 = 12 := by kernel_rfl
theorem cells45 : Tryd.prog.cellsOf 45 = 13 := by kernel_rfl
theorem bool_open {fuel : Nat} {cs : List Value} {x : DataW H × List MemPlace} (h : DataW.trod enc Tryd.prog w base spare held fuel 4 cs = some x) : ∃ b, cs = [.bool b] := by
  obtain ⟨b, h1, _⟩ := DataW.trod_bool Tryd.underlying4 h
  exact ⟨b, h1⟩
theorem opd_open {fuel : Nat} {cs : List Value} {x : DataW H × List MemPlace} (h : DataW.trod enc Tryd.prog w base spare held fuel 41 cs = some x) : ∃ o : Opd, cs = [.int .i64 o.v, .int .i64 o.n] ∧ okI o.n := by
  obtain ⟨n, rfl, hl, hf⟩ := fld Tryd.underlying41 h
  rw [cells41] at hl
  obtain ⟨y0, t0⟩ := hf 0 3 0 _ rfl cells3
  obtain ⟨a, k0, _⟩ := int_open t0
  obtain ⟨y1, t1⟩ := hf 1 3 1 _ rfl cells3
  obtain ⟨b, k1, i1⟩ := int_open t1
  have e : cs.drop 0 = cs.drop 0 := rfl
  conv at e => rhs; rw [chunk k0 (show _ = 1 from rfl), chunk k1 (show _ = 2 from rfl), List.drop_eq_nil_of_le (show cs.length ≤ 2 by omega)]
  exact ⟨⟨a, b⟩, e, i1⟩
theorem acn_open {fuel : Nat} {cs : List Value} {x : DataW H × List MemPlace} (h : DataW.trod enc Tryd.prog w base spare held fuel 43 cs = some x) : ∃ a : Acn, cs = a.cs.toList ∧ okI a.l.n := by
  obtain ⟨n, rfl, hl, hf⟩ := fld Tryd.underlying43 h
  rw [cells43c] at hl
  obtain ⟨y0, t0⟩ := hf 0 3 0 _ rfl cells3
  obtain ⟨n0, k0, _⟩ := int_open t0
  obtain ⟨y1, t1⟩ := hf 1 3 1 _ rfl cells3
  obtain ⟨n1, k1, _⟩ := int_open t1
  obtain ⟨y2, t2⟩ := hf 2 3 2 _ rfl cells3
  obtain ⟨n2, k2, _⟩ := int_open t2
  obtain ⟨y3, t3⟩ := hf 3 3 3 _ rfl cells3
  obtain ⟨n3, k3, _⟩ := int_open t3
  obtain ⟨y4, t4⟩ := hf 4 3 4 _ rfl cells3
  obtain ⟨n4, k4, _⟩ := int_open t4
  obtain ⟨y5, t5⟩ := hf 5 3 5 _ rfl cells3
  obtain ⟨n5, k5, _⟩ := int_open t5
  obtain ⟨y6, t6⟩ := hf 6 3 6 _ rfl cells3
  obtain ⟨n6, k6, _⟩ := int_open t6
  obtain ⟨y7, t7⟩ := hf 7 41 7 _ rfl cells41
  obtain ⟨l, k7, i7⟩ := opd_open t7
  obtain ⟨y8, t8⟩ := hf 8 41 9 _ rfl cells41
  obtain ⟨r, k8, _⟩ := opd_open t8
  obtain ⟨y9, t9⟩ := hf 9 4 11 _ rfl cells4
  obtain ⟨b, k9⟩ := bool_open t9
  have e : cs.drop 0 = cs.drop 0 := rfl
  conv at e => rhs; rw [chunk k0 (show _ = 1 from rfl), chunk k1 (show _ = 2 from rfl), chunk k2 (show _ = 3 from rfl), chunk k3 (show _ = 4 from rfl), chunk k4 (show _ = 5 from rfl), chunk k5 (show _ = 6 from rfl), chunk k6 (show _ = 7 from rfl), chunk k7 (show _ = 9 from rfl), chunk k8 (show _ = 11 from rfl), chunk k9 (show _ = 12 from rfl), List.drop_eq_nil_of_le (show cs.length ≤ 12 by omega)]
  exact ⟨⟨n0, n1, n2, n3, n4, n5, n6, l, r, b⟩, e, i7⟩
theorem opr_open {fuel : Nat} {cs : List Value} {x : DataW H × List MemPlace} (h : DataW.trod enc Tryd.prog w base spare held fuel 45 cs = some x) : ∃ o : OpR, cs = o.cells ∧ o.lies w := by
  obtain ⟨n, rfl, hl, hf⟩ := fld Tryd.underlying45 h
  rw [cells45] at hl
  obtain ⟨y0, t0⟩ := hf 0 43 0 _ rfl cells43c
  obtain ⟨a, k0, i0⟩ := acn_open t0
  obtain ⟨y1, t1⟩ := hf 1 3 12 _ rfl cells3
  obtain ⟨i, k1, i1⟩ := int_open t1
  have e : cs.drop 0 = cs.drop 0 := rfl
  conv at e => rhs; rw [chunk k0 (show _ = 12 from rfl), chunk k1 (show _ = 13 from rfl), List.drop_eq_nil_of_le (show cs.length ≤ 13 by omega)]
  exact ⟨⟨a, i⟩, e, i1, i0⟩
theorem ops_open {fuel : Nat} {cs : List Value} {x : DataW H × List MemPlace} (h : DataW.trod enc Tryd.prog w base spare held fuel 23 cs = some x) : ∃ (p : Option Addr) (l : List OpR) (cap : Nat), cs = [.slice p l.length cap] ∧ LayR 13 OpR.cells OpR.lies w p l :=
  sl_open (⟨⟨0, 0, 0, 0, 0, 0, 0, ⟨0, 0⟩, ⟨0, 0⟩, false⟩, 0⟩ : OpR) Tryd.underlying23 cells45 (by decide) (fun n cs y _ h => opr_open h) h
theorem u8_open {fuel : Nat} {cs : List Value} {x : DataW H × List MemPlace} (h : DataW.trod enc Tryd.prog w base spare held fuel 5 cs = some x) : ∃ n : Int, cs = [.int .u8 n] ∧ 0 ≤ n ∧ n ≤ 255 := by
  obtain ⟨n, h1, _, h3⟩ := DataW.trod_int Tryd.underlying5 h
  have e1 : IntKind.u8.min = 0 := rfl
  have e2 : IntKind.u8.max = 255 := rfl
  simp [Lit.wf, e1, e2] at h3
  exact ⟨n, h1, by omega, by omega⟩
theorem cells25 : Tryd.prog.cellsOf 25 = 2 := by kernel_rfl
theorem sizes_open {fuel : Nat} {cs : List Value} {x : DataW H × List MemPlace} (h : DataW.trod enc Tryd.prog w base spare held fuel 25 cs = some x) : ∃ a b : Int, cs = [.int .u8 a, .int .u8 b] ∧ (0 ≤ a ∧ a ≤ 255) ∧ 0 ≤ b ∧ b ≤ 255 := by
  obtain ⟨n, rfl, hl, hf⟩ := fld Tryd.underlying25 h
  rw [cells25] at hl
  obtain ⟨y0, t0⟩ := hf 0 5 0 _ rfl cells5
  obtain ⟨a, k0, i0⟩ := u8_open t0
  obtain ⟨y1, t1⟩ := hf 1 5 1 _ rfl cells5
  obtain ⟨b, k1, i1⟩ := u8_open t1
  have e : cs.drop 0 = cs.drop 0 := rfl
  conv at e => rhs; rw [chunk k0 (show _ = 1 from rfl), chunk k1 (show _ = 2 from rfl), List.drop_eq_nil_of_le (show cs.length ≤ 2 by omega)]
  exact ⟨a, b, e, i0, i1⟩
end
theorem laidOut : laidOutB Tryd.prog = true := by kernel_rfl
theorem law_end {H : Type} {enc : TypeId × Value → H} {P : Program} {f : Func} {s : ChangeSpec} {apart fresh handsOn : Bool} {W W' : World} {args : Array Value} {ds : List (DataW H)} {before : List MemPlace} {t : TypeId}
    (hW : DataW.Whole enc P f.params.toList s.vars apart W args.toList ds [] before)
    (hr : f.resultTypes = #[t]) (ht : P.underlying t = some .bool)
    (hres : (s.fn H (ds ++ [])).results = [.lit (.bool true)])
    (hargs : DataW.TrodAll enc P W' 0 (fun b => decide (b < W.heap.size)) true f.params.toList args.toList (s.fn H (ds ++ [])).args before)
    (hvars : DataW.TrodVars enc P W' (fun b => decide (b < W.heap.size)) s.vars (s.fn H (ds ++ [])).vars [])
    (hb : RowKit.Below W.heap.size W W') : s.post enc P f apart fresh handsOn false W args (.bool true) W' := by
  refine ⟨ds, [], before, [], before, [], hW, ?_, hargs, hvars, hb.frame _, fun h => by cases h⟩
  rw [hr, hres]
  exact trodAll_mk1 (shut_bool ht true)
end Go.Proofs.YtebmhadpkncgfaaDoor
namespace Go.Proofs.YtebmhadpkncgfaaDoor
open Go.RowKit Go.Maps Go.Sort
open Aw.Ac (Acn Opd)
open Sr
/-- The play's graph. -/
def plG (V I : Nat) (fp : Option Addr) (nF fc : Nat) : GR := ⟨1, 0, 0, 0, .slice none 0 0, .slice none 0 0, V, I, 3, fp, nF, fc⟩
theorem plays_law (fp op : Option Addr) (nF fc oc : Nat) (l : List OpR) (x y : Int) (w : World) (hG : Aw.Gl w) (hops : LayR 13 OpR.cells OpR.lies w op l) (hx : 0 ≤ x ∧ x ≤ 255) (hy : 0 ≤ y ∧ y ≤ 255) (hlv : ∀ wz, RowKit.Below w.heap.size w wz → Calls Tryd.prog 4 #[] wz (RetV wz (.bool true))) :
    Calls Tryd.prog 3 #[.slice fp nF fc, .slice op l.length oc, .agg #[.int .u8 x, .int .u8 y]] w (RetV w (.bool true)) := by
  obtain ⟨w1, hw1⟩ : ∃ w1, w.alloc (.cells #[.int .u8 x, .int .u8 y] 25) = w1 := ⟨_, rfl⟩
  have HW := hdn hw1
  have hb1 : RowKit.Below w.heap.size w w1 := by rw [← hw1]; exact alloc_below w _
  have HB1 := hdn hb1
  have hk1 : Bk w1 w.heap.size 25 #[.int .u8 x, .int .u8 y] := by rw [← hw1]; exact (MapKept.heap_alloc w _).1
  have c0 : w1.cell? ⟨w.heap.size, 0, none⟩ = some (.int .u8 x) := hk1.cell 0
  have c1 : w1.cell? ⟨w.heap.size, 1, none⟩ = some (.int .u8 y) := hk1.cell 1
  have HLV := hdn hlv
  have HOPS := hdn hops
  have HGL := hdn hG
  have hnF0 : (0 : Int) ≤ (nF : Int) := Int.natCast_nonneg _
  have hnO0 : (0 : Int) ≤ (l.length : Int) := Int.natCast_nonneg _
  clear hw1 hb1 hk1 hlv hops hG
  by_cases hF : nF ≤ 8
  · by_cases hO : l.length ≤ 60
    · have d1 : decide ((8 : Int) < (nF : Int)) = false := decide_eq_false (by omega)
      have d2 : decide ((60 : Int) < (l.length : Int)) = false := decide_eq_false (by omega)
      go_enter Tryd.func3, Tryd.ntmps3
      go_upto_region 1 with fail
      rw [HW.out]
      obtain ⟨V, hV, hV8⟩ : ∃ V : Nat, x % 9 = (V : Int) ∧ V ≤ 8 := ⟨(x % 9).toNat, by omega, by omega⟩
      obtain ⟨I, hI, hI4⟩ : ∃ I : Nat, y % 5 = (I : Int) ∧ I ≤ 4 := ⟨(y % 5).toNat, by omega, by omega⟩
      go_quiet (fail)
      clear c0 c1
      rename_i nq _
      have HB2 : Hid (RowKit.Below w.heap.size w (w1.drewN nq)) := hdn (below_drewN_ HB1.out _)
      generalize w1.drewN nq = w2 at HB2 ⊢
      have HZ2 : Hid (Bk (w2.alloc (.cells #[.int .i64 0, .int .i64 0, .int .i64 0, .int .i64 0, .slice none 0 0, .slice none 0 0, .int .i64 0, .int .i64 0, .int .i64 0, .slice none 0 0] 30)) w2.heap.size 30 #[.int .i64 0, .int .i64 0, .int .i64 0, .int .i64 0, .slice none 0 0, .slice none 0 0, .int .i64 0, .int .i64 0, .int .i64 0, .slice none 0 0]) := hdn (MapKept.heap_alloc w2 _).1
      have H1G : Hid ((plG V I fp nF fc).cs.all (·.oneCell') = true) := hdn (by simp [plG, GR.cs, Value.oneCell'])
      have HGO : Hid (Gok (plG V I fp nF fc)) := hdn ⟨show V ≤ 24 by omega, show I ≤ 24 by omega, show nF ≤ 2000000 by omega⟩
      have HBG := hdn (fun wz => begin_any (plG V I fp nF fc) wz HGO.out)
      have HBG7 := hdn (fun wz => begin7_any (plG V I fp nF fc) wz HGO.out)
      go_upto_region 5 with ((with_reducible show wpList _ _ _ (Oper.mk none (Op.store 30 _ _) _ _ _ _ :: _) _ _); refine wpList_store_all rfl 30 _ _ rfl w2.heap.size 30 _ (plG V I fp nF fc).cs rfl rfl HZ2.out size30 rfl H1G.out ?_; intro w3 h3 g3)
      have HK3 : Hid (Bk w3 w2.heap.size 30 (plG V I fp nF fc).cs) := h3
      have HB3 : Hid (RowKit.Below w2.heap.size w2 w3) := hdn ((alloc_below w2 _).grown g3.out (by simp) (fun j hj => by injection hj with hj; omega))
      clear h3 g3 HZ2 H1G
      go_upto_region 6 with (first
        | ((with_reducible show wpList _ _ _ (Oper.mk (some 37) (Op.load 30 _) _ _ _ _ :: _) _ _); refine wpList_load_bk rfl 30 _ rfl w2.heap.size 30 (plG V I fp nF fc).cs rfl _ HK3.out Tryd.underlying30 rfl size30 ?_)
        | (go_at_call 5; refine (HBG.out w3).mono ?_; rintro e w4 ⟨vp, ip, rfl, hv4, hi4, hb4⟩; have HV4 := hdn hv4; have HI4 := hdn hi4; have HB4 := hdn hb4; have HZ4 : Hid (Bk (w4.alloc (.cells #[.int .i64 0, .slice none 0 0, .slice none 0 0, .slice none 0 0] 33)) w4.heap.size 33 (stA 0 none 0 0 none 0 0 none 0 0)) := hdn (MapKept.heap_alloc w4 _).1; clear hv4 hi4 hb4)
        | ((with_reducible show wpList _ _ _ (Oper.mk none (Op.store 33 _ _) _ _ _ _ :: _) _ _); refine wpList_store_all rfl 33 _ _ rfl w4.heap.size 33 _ (stA (plG V I fp nF fc).st vp (plG V I fp nF fc).V (plG V I fp nF fc).V ip (plG V I fp nF fc).I (plG V I fp nF fc).I none 0 0) rfl rfl HZ4.out size33 rfl (stA_one _ _ _ _ _ _ _ _ _ _) ?_; intro w5 h5 g5))
      have hfar : w.heap.size ≤ w2.heap.size ∧ w.heap.size ≤ w4.heap.size ∧ w2.heap.size ≠ w4.heap.size := ⟨HB2.out.size, Nat.le_trans HB2.out.size (Nat.le_trans HB3.out.size HB4.out.size), by have := HK3.out.lt; have := HB4.out.size; omega⟩
      have HFA := hdn hfar
      have HGF : Hid (0 ≤ (plG V I fp nF fc).S ∧ (plG V I fp nF fc).F ≤ 8 ∧ 0 ≤ (plG V I fp nF fc).st ∧ (plG V I fp nF fc).st < (plG V I fp nF fc).pts) := hdn ⟨show (0 : Int) ≤ 3 by decide, hF, show (0 : Int) ≤ 0 by decide, show (0 : Int) < 1 by decide⟩
      have HB5 : Hid (RowKit.Below w4.heap.size w4 w5) := hdn ((alloc_below w4 _).grown g5.out (by simp) (fun j hj => by injection hj with hj; omega))
      have H5 := hdn h5.out
      clear hfar h5 g5 HZ4
      generalize plG V I fp nF fc = g at *
      have HI0 : Hid (PlI w w5 g w2.heap.size w4.heap.size (begS g vp ip) 0) := hdn ⟨(HK3.out.below HB4.out HK3.out.lt).below HB5.out (Nat.lt_of_lt_of_le HK3.out.lt HB4.out.size), by rw [begS_A]; exact H5.out, begS_lies (HV4.out.below HB5.out) (HI4.out.below HB5.out), begS_rt ⟨HGF.out.2.2.1, HGF.out.2.2.2⟩, by simp [begS], HB2.out.trans ((HB3.out.trans ((HB4.out.trans (HB5.out.mono HB4.out.size)).mono HB3.out.size)).mono HB2.out.size), HFA.out⟩
      generalize w2.heap.size = G at HI0 ⊢
      generalize w4.heap.size = Sb at HI0 ⊢
      have hse : ∃ s, s = begS g vp ip := ⟨_, rfl⟩
      obtain ⟨s, hs⟩ := hse
      rw [← hs] at HI0
      have HSM : Hid (∀ vq iq wz, RowKit.Below w5.heap.size w5 wz → IR wz vq (zeros g.V) → IR wz iq (zeros g.I) → Calls Tryd.prog 6 #[.agg s.A, .agg (stA g.st vq g.V g.V iq g.I g.I none 0 0)] wz (RetV wz (.bool true))) := hdn (fun vq iq wz hz h1 h2 => by
        rw [← begS_A]
        refine same6_any s (begS g vq iq) ⟨by rw [hs]; rfl, by rw [hs]; rfl, by rw [hs]; rfl, by rw [hs]; rfl⟩ wz (HI0.out.below hz).lies (begS_lies h1 h2) ?_ ?_ ?_ ?_
        · have := HI0.out.rt.vl; have := HGO.out.V; omega
        · have := HI0.out.rt.il; have := HGO.out.I; omega
        · exact HI0.out.rt.n
        · intro r hr; rw [HI0.out.rt.len hr]; exact HGO.out.F)
      have HS : Hid (∀ w', RowKit.Below w5.heap.size w5 w' → (w'.cell? ⟨G, 0, none⟩ = some (.int .i64 g.pts) ∧ w'.cell? ⟨G, 1, none⟩ = some (.int .i64 g.st) ∧ w'.cell? ⟨G, 2, none⟩ = some (.int .i64 g.en) ∧ w'.cell? ⟨G, 3, none⟩ = some (.int .i64 g.ea) ∧ w'.cell? ⟨G, 4, none⟩ = some g.ed ∧ w'.cell? ⟨G, 5, none⟩ = some g.hd ∧ w'.cell? ⟨G, 6, none⟩ = some (.int .i64 g.V) ∧ w'.cell? ⟨G, 7, none⟩ = some (.int .i64 g.I) ∧ w'.cell? ⟨G, 8, none⟩ = some (.int .i64 g.S) ∧ w'.cell? ⟨G, 9, none⟩ = some (.slice g.fp g.F g.fc)) ∧ (w'.cell? ⟨Sb, 0, none⟩ = some (.int .i64 s.pt) ∧ w'.cell? ⟨Sb, 1, none⟩ = some (.slice s.vp s.vs.length s.vc) ∧ w'.cell? ⟨Sb, 2, none⟩ = some (.slice s.ip s.is.length s.ic) ∧ w'.cell? ⟨Sb, 3, none⟩ = some (.slice s.cp s.rs.length s.cc))) := hdn (fun w' hz => (HI0.out.below hz).facts)
      have K0 : RowKit.Below w5.heap.size w5 w5 := Below.refl _ _
      have K1 : RowKit.Below w5.heap.size w5 w5.drew := below_drew K0
      clear hs
      simp only [Act.put]
      go_wp2_with fail
      go_region_held3 (fun w' => (w'.cell? ⟨G, 0, none⟩ = some (.int .i64 g.pts) ∧ w'.cell? ⟨G, 1, none⟩ = some (.int .i64 g.st) ∧ w'.cell? ⟨G, 2, none⟩ = some (.int .i64 g.en) ∧ w'.cell? ⟨G, 3, none⟩ = some (.int .i64 g.ea) ∧ w'.cell? ⟨G, 4, none⟩ = some g.ed ∧ w'.cell? ⟨G, 5, none⟩ = some g.hd ∧ w'.cell? ⟨G, 6, none⟩ = some (.int .i64 g.V) ∧ w'.cell? ⟨G, 7, none⟩ = some (.int .i64 g.I) ∧ w'.cell? ⟨G, 8, none⟩ = some (.int .i64 g.S) ∧ w'.cell? ⟨G, 9, none⟩ = some (.slice g.fp g.F g.fc)) ∧ (w'.cell? ⟨Sb, 0, none⟩ = some (.int .i64 s.pt) ∧ w'.cell? ⟨Sb, 1, none⟩ = some (.slice s.vp s.vs.length s.vc) ∧ w'.cell? ⟨Sb, 2, none⟩ = some (.slice s.ip s.is.length s.ic) ∧ w'.cell? ⟨Sb, 3, none⟩ = some (.slice s.cp s.rs.length s.cc)))
        (first | with_reducible exact HS.out _ K1 | with_reducible exact HS.out _ K0 | with_reducible exact HS.out _ K7 | with_reducible exact HS.out _ K6 | fail) (first
        | (go_at_call 6; refine (HSM.out vq iq w6 K6 HV6.out HI6.out).mono ?_; rintro e w7 ⟨rfl, hb7⟩; have K7 := K6.trans (hb7.mono K6.size); clear hb7)
        | (go_at_call 7; refine (HBG7.out w5.drew).mono ?_; rintro e w6 ⟨vq, iq, rfl, hv6, hi6, hb6⟩; have HV6 := hdn hv6; have HI6 := hdn hi6; have K6 := K1.trans (hb6.mono K1.size); clear hv6 hi6 hb6)
        | fail)
      --LOOP
      go_wp2_with fail
      have HI7 : Hid (PlI w w7 g G Sb s 0) := hdn (HI0.out.below K7)
      clear HS K0 K1 K6 K7 HV6 HI6 HSM HB2 HB3 HB4 HB5 HI0 H5 HV4 HI4 HK3
      go_loopw [11] (fun i wr => ∃ (k : Nat) (s : SV), i = .int .i64 k ∧ k ≤ l.length ∧ Hid (PlI w wr g G Sb s k)) (fun i _ => l.length - (intOf i).toNat)
      case atStart => exact ⟨0, s, rfl, Nat.zero_le _, HI7⟩
      case round =>
      clear HI7
      obtain ⟨k, s, rfl, hk, HI⟩ := hrel
      by_cases hkl : k < l.length
      · obtain ⟨r, hr⟩ : ∃ r, l[k]? = some r := ⟨_, List.getElem?_eq_getElem hkl⟩
        obtain ⟨ob, oo, hop, hit, hli⟩ := (HOPS.out.below HI.out.low (fun _ h => h)).at_ hr
        have hk0 : (0 : Int) ≤ (k : Int) := Int.natCast_nonneg _
        have hk1 : (k : Int) < (l.length : Int) := by omega
        have hdb := do_both g s r.a r.i wr HGO.out HGF.out.1 (HGL.out.below HI.out.low HGL.out.big) HI.out.rt HI.out.lies (by have := HI.out.few; omega) hli.1 hli.2
        obtain ⟨vs, is, cs, e0, e1, e2, h8, h9, hnx⟩ := hdb
        have H8 := hdn h8
        have H9 := hdn h9
        have HNX := hdn hnx
        have HIT : Hid (wr.rangeAt ob (oo + k * 13) r.cells) := hdn hit
        have HS : Hid (∀ w', RowKit.Below wr.heap.size wr w' → (w'.cell? ⟨G, 0, none⟩ = some (.int .i64 g.pts) ∧ w'.cell? ⟨G, 1, none⟩ = some (.int .i64 g.st) ∧ w'.cell? ⟨G, 2, none⟩ = some (.int .i64 g.en) ∧ w'.cell? ⟨G, 3, none⟩ = some (.int .i64 g.ea) ∧ w'.cell? ⟨G, 4, none⟩ = some g.ed ∧ w'.cell? ⟨G, 5, none⟩ = some g.hd ∧ w'.cell? ⟨G, 6, none⟩ = some (.int .i64 g.V) ∧ w'.cell? ⟨G, 7, none⟩ = some (.int .i64 g.I) ∧ w'.cell? ⟨G, 8, none⟩ = some (.int .i64 g.S) ∧ w'.cell? ⟨G, 9, none⟩ = some (.slice g.fp g.F g.fc)) ∧ (w'.cell? ⟨Sb, 0, none⟩ = some (.int .i64 s.pt) ∧ w'.cell? ⟨Sb, 1, none⟩ = some (.slice s.vp s.vs.length s.vc) ∧ w'.cell? ⟨Sb, 2, none⟩ = some (.slice s.ip s.is.length s.ic) ∧ w'.cell? ⟨Sb, 3, none⟩ = some (.slice s.cp s.rs.length s.cc)) ∧ (w'.cell? ⟨ob, oo + k * 13, none⟩ = some (.int .i64 r.a.kind) ∧ w'.cell? ⟨ob, oo + k * 13 + 1, none⟩ = some (.int .i64 r.a.x) ∧ w'.cell? ⟨ob, oo + k * 13 + 2, none⟩ = some (.int .i64 r.a.y) ∧ w'.cell? ⟨ob, oo + k * 13 + 3, none⟩ = some (.int .i64 r.a.f) ∧ w'.cell? ⟨ob, oo + k * 13 + 4, none⟩ = some (.int .i64 r.a.t) ∧ w'.cell? ⟨ob, oo + k * 13 + 5, none⟩ = some (.int .i64 r.a.pl) ∧ w'.cell? ⟨ob, oo + k * 13 + 6, none⟩ = some (.int .i64 r.a.op) ∧ w'.cell? ⟨ob, oo + k * 13 + 7, none⟩ = some (.int .i64 r.a.l.v) ∧ w'.cell? ⟨ob, oo + k * 13 + 8, none⟩ = some (.int .i64 r.a.l.n) ∧ w'.cell? ⟨ob, oo + k * 13 + 9, none⟩ = some (.int .i64 r.a.r.v) ∧ w'.cell? ⟨ob, oo + k * 13 + 10, none⟩ = some (.int .i64 r.a.r.n) ∧ w'.cell? ⟨ob, oo + k * 13 + 11, none⟩ = some (.bool r.a.sense) ∧ w'.cell? ⟨ob, oo + k * 13 + 12, none⟩ = some (.int .i64 r.i))) := hdn (fun w' hz => by
          have q := (HI.out.below hz).facts
          have q2 := rangeAt_below HIT.out hz
          exact ⟨q.1, q.2, q2 0 _ rfl, q2 1 _ rfl, q2 2 _ rfl, q2 3 _ rfl, q2 4 _ rfl, q2 5 _ rfl, q2 6 _ rfl, q2 7 _ rfl, q2 8 _ rfl, q2 9 _ rfl, q2 10 _ rfl, q2 11 _ rfl, q2 12 _ rfl⟩)
        have K0 : RowKit.Below wr.heap.size wr wr := Below.refl _ _
        have K1 : RowKit.Below wr.heap.size wr wr.drew := below_drew K0
        subst hop
        clear h8 h9 hnx hit hli hr
        go_upto_region 11 with fail
        go_cut [12, 13] from 50 to 65 (fun c d wq => ∃ (A E : Nat) (t : SV), c = .pointer (some ⟨A, 0, none⟩) ∧ d = .pointer (some ⟨E, 0, none⟩) ∧ Hid (Bk wq A 33 t.A) ∧ Hid (Bk wq E 37 (evA e0 e1 e2)) ∧ Hid (t.pt = s.pt ∧ t.vs = vs ∧ t.is = is ∧ t.cs = cs) ∧ Hid (∀ w'', Gr wq w'' (fun k => k < wr.heap.size) → t.lies w'') ∧ Hid (RowKit.Below wr.heap.size wr wq) ∧ Hid (wr.heap.size ≤ A ∧ wr.heap.size ≤ E))
        case first =>
          go_region_held3 (fun w' => (w'.cell? ⟨G, 0, none⟩ = some (.int .i64 g.pts) ∧ w'.cell? ⟨G, 1, none⟩ = some (.int .i64 g.st) ∧ w'.cell? ⟨G, 2, none⟩ = some (.int .i64 g.en) ∧ w'.cell? ⟨G, 3, none⟩ = some (.int .i64 g.ea) ∧ w'.cell? ⟨G, 4, none⟩ = some g.ed ∧ w'.cell? ⟨G, 5, none⟩ = some g.hd ∧ w'.cell? ⟨G, 6, none⟩ = some (.int .i64 g.V) ∧ w'.cell? ⟨G, 7, none⟩ = some (.int .i64 g.I) ∧ w'.cell? ⟨G, 8, none⟩ = some (.int .i64 g.S) ∧ w'.cell? ⟨G, 9, none⟩ = some (.slice g.fp g.F g.fc)) ∧ (w'.cell? ⟨Sb, 0, none⟩ = some (.int .i64 s.pt) ∧ w'.cell? ⟨Sb, 1, none⟩ = some (.slice s.vp s.vs.length s.vc) ∧ w'.cell? ⟨Sb, 2, none⟩ = some (.slice s.ip s.is.length s.ic) ∧ w'.cell? ⟨Sb, 3, none⟩ = some (.slice s.cp s.rs.length s.cc)) ∧ (w'.cell? ⟨ob, oo + k * 13, none⟩ = some (.int .i64 r.a.kind) ∧ w'.cell? ⟨ob, oo + k * 13 + 1, none⟩ = some (.int .i64 r.a.x) ∧ w'.cell? ⟨ob, oo + k * 13 + 2, none⟩ = some (.int .i64 r.a.y) ∧ w'.cell? ⟨ob, oo + k * 13 + 3, none⟩ = some (.int .i64 r.a.f) ∧ w'.cell? ⟨ob, oo + k * 13 + 4, none⟩ = some (.int .i64 r.a.t) ∧ w'.cell? ⟨ob, oo + k * 13 + 5, none⟩ = some (.int .i64 r.a.pl) ∧ w'.cell? ⟨ob, oo + k * 13 + 6, none⟩ = some (.int .i64 r.a.op) ∧ w'.cell? ⟨ob, oo + k * 13 + 7, none⟩ = some (.int .i64 r.a.l.v) ∧ w'.cell? ⟨ob, oo + k * 13 + 8, none⟩ = some (.int .i64 r.a.l.n) ∧ w'.cell? ⟨ob, oo + k * 13 + 9, none⟩ = some (.int .i64 r.a.r.v) ∧ w'.cell? ⟨ob, oo + k * 13 + 10, none⟩ = some (.int .i64 r.a.r.n) ∧ w'.cell? ⟨ob, oo + k * 13 + 11, none⟩ = some (.bool r.a.sense) ∧ w'.cell? ⟨ob, oo + k * 13 + 12, none⟩ = some (.int .i64 r.i)))
            (first | with_reducible exact HS.out _ K1 | with_reducible exact HS.out _ K0 | with_reducible exact HS.out _ K4 | (refine HS.out _ ?_; (repeat' (first | (with_reducible exact K4) | (with_reducible exact K1) | (with_reducible exact K0) | (with_reducible apply below_drew) | (with_reducible apply Below.al) | (with_reducible apply Below.set1) | (with_reducible exact Nat.le_refl _) | (show _ ≤ _; simp; done) | (have := K4.size; (try (have := HYA.out.lt)); (try (have := HYE.out.lt)); (first | omega | (simp <;> omega))) | (have := K1.size; (try (have := HYA.out.lt)); (try (have := HYE.out.lt)); (first | omega | (simp <;> omega)))))) | fail) (first
            | (go_at_call 8; refine (H8.out _ (by (repeat' (first | (with_reducible exact K4) | (with_reducible exact K1) | (with_reducible exact K0) | (with_reducible apply below_drew) | (with_reducible apply Below.al) | (with_reducible apply Below.set1) | (with_reducible exact Nat.le_refl _) | (show _ ≤ _; simp; done) | (have := K4.size; (try (have := HYA.out.lt)); (try (have := HYE.out.lt)); (first | omega | (simp <;> omega))) | (have := K1.size; (try (have := HYA.out.lt)); (try (have := HYE.out.lt)); (first | omega | (simp <;> omega))))))).mono ?_; rintro e w4 ⟨t, rfl, HP4, HL4, hb4⟩; have hb4 := hb4.out; have K4 : RowKit.Below wr.heap.size wr w4 := by { refine RowKit.Below.trans ?_ (hb4.mono ?_); (repeat' (first | (with_reducible exact K4) | (with_reducible exact K1) | (with_reducible exact K0) | (with_reducible apply below_drew) | (with_reducible apply Below.al) | (with_reducible apply Below.set1) | (with_reducible exact Nat.le_refl _) | (show _ ≤ _; simp; done) | (have := K4.size; (try (have := HYA.out.lt)); (try (have := HYE.out.lt)); (first | omega | (simp <;> omega))) | (have := K1.size; (try (have := HYA.out.lt)); (try (have := HYE.out.lt)); (first | omega | (simp <;> omega))))) }; (first | (have HYA : Hid (Bk w4 wr.heap.size 33 stZ) := hdn (Bk.via hb4 ?hzz); case hzz => (repeat' (first | (with_reducible apply Bk.dr) | (with_reducible refine Bk.new' ?_; (simp; done)) | (with_reducible apply Bk.al)))) | (have HYA : Hid (Bk w4 (wr.heap.size + 1) 33 stZ) := hdn (Bk.via hb4 ?hzz); case hzz => (repeat' (first | (with_reducible apply Bk.dr) | (with_reducible refine Bk.new' ?_; (simp; done)) | (with_reducible apply Bk.al)))) | (skip)); (first | (have HYE : Hid (Bk w4 wr.heap.size 37 evZ) := hdn (Bk.via hb4 ?hzz); case hzz => (repeat' (first | (with_reducible apply Bk.dr) | (with_reducible refine Bk.new' ?_; (simp; done)) | (with_reducible apply Bk.al)))) | (have HYE : Hid (Bk w4 (wr.heap.size + 1) 37 evZ) := hdn (Bk.via hb4 ?hzz); case hzz => (repeat' (first | (with_reducible apply Bk.dr) | (with_reducible refine Bk.new' ?_; (simp; done)) | (with_reducible apply Bk.al)))) | (skip)); (try (have hZq := Z4.of' HYA.out; obtain ⟨z0, z1, z2, z3, f0, f1, f2, f3⟩ := hZq)); (try (have hYq := Y3.of HYE.out; obtain ⟨y0, y1, y2, x0, x1, x2⟩ := hYq)); (try (have hZq := Z4.ofA HYA.out; obtain ⟨zz0, zz1, zz2, zz3, ff0, ff1, ff2, ff3⟩ := hZq)); (try (have hYq := Y3.ofA HYE.out; obtain ⟨yy0, yy1, yy2, xx0, xx1, xx2⟩ := hYq)); (try (have hA4 := Nat.ne_of_lt HYA.out.lt; have hA5 := hA4.symm)); (try (have hE4 := Nat.ne_of_lt HYE.out.lt; have hE5 := hE4.symm)); (try (have hAE := Bk.ne3337 HYA.out HYE.out; have hEA := hAE.symm)); clear hb4)
            | fail)
          all_goals (go_wp2_with fail; go_meet; refine ⟨_, _, t, rfl, rfl, hdn ?_, hdn ?_, HP4, hdn ?_, hdn ?_, hdn ?_⟩)
          all_goals first
            | (show Bk _ _ 33 #[.int .i64 t.pt, .slice t.vp t.vs.length t.vc, .slice t.ip t.is.length t.ic, .slice t.cp t.rs.length t.cc]; (repeat' (first | (with_reducible exact HYA.out) | (with_reducible apply Bk.dr) | (with_reducible apply Bk.s4o _ (by (try (have := HZA.out.lt)); (try (have := HZE.out.lt)); (try (have := HYA.out.lt)); (try (have := HYE.out.lt)); (first | omega | (simp; done) | (simp; omega)))) | (with_reducible apply Bk.s3o _ (by (try (have := HZA.out.lt)); (try (have := HZE.out.lt)); (try (have := HYA.out.lt)); (try (have := HYE.out.lt)); (first | omega | (simp; done) | (simp; omega)))) | (with_reducible apply Bk.s4) | (with_reducible refine Bk.new' ?_; (simp; done)) | (with_reducible apply Bk.al))); done)
            | (show Bk _ _ 37 #[.int .i64 e0, .int .i64 e1, .int .i64 e2]; (repeat' (first | (with_reducible exact HYE.out) | (with_reducible apply Bk.dr) | (with_reducible apply Bk.s4o _ (by (try (have := HZA.out.lt)); (try (have := HZE.out.lt)); (try (have := HYA.out.lt)); (try (have := HYE.out.lt)); (first | omega | (simp; done) | (simp; omega)))) | (with_reducible apply Bk.s3o _ (by (try (have := HZA.out.lt)); (try (have := HZE.out.lt)); (try (have := HYA.out.lt)); (try (have := HYE.out.lt)); (first | omega | (simp; done) | (simp; omega)))) | (with_reducible apply Bk.s3e) | (with_reducible refine Bk.new' ?_; (simp; done)) | (with_reducible apply Bk.al))); done)
            | (intro w'' hg; refine HL4.out w'' (Gr.trans ?_ (hg.mono (fun k _ hk => Nat.lt_of_lt_of_le hk ?_))); (· (repeat' (first | (with_reducible exact Gr.refl _ _) | (with_reducible apply Gr.drew) | (with_reducible apply Gr.alloc) | (with_reducible refine Gr.set1 ?_ ?hs; case hs => (show _ < _; (try (have := HZA.out.lt)); (try (have := HZE.out.lt)); (first | omega | (simp; done) | (simp; omega)))) | (with_reducible refine Gr.set1n ?_ ?hs; case hs => (show _ ≤ _; (first | omega | (simp; done) | (simp; omega))))))); (· first | exact Nat.le_refl _ | (simp; done) | (simp; omega)))
            | (show RowKit.Below _ _ _; (repeat' (first | (with_reducible exact K4) | (with_reducible exact K1) | (with_reducible exact K0) | (with_reducible apply below_drew) | (with_reducible apply Below.al) | (with_reducible apply Below.set1) | (with_reducible exact Nat.le_refl _) | (show _ ≤ _; simp; done) | (have := K4.size; (try (have := HYA.out.lt)); (try (have := HYE.out.lt)); (first | omega | (simp <;> omega))) | (have := K1.size; (try (have := HYA.out.lt)); (try (have := HYE.out.lt)); (first | omega | (simp <;> omega))))); done)
            | (have := K4.size; constructor <;> (first | exact Nat.le_refl _ | omega | (simp; done) | (simp; omega)))
        case rest =>
        obtain ⟨A, E, t1, rfl, rfl, HZA, HZE, HT1, HLA, HBc, HFA1⟩ := hcut
        obtain ⟨wx, hwx⟩ : ∃ v, v = wc := ⟨_, rfl⟩
        subst hwx
        have H9c : Hid (∀ wz, RowKit.Below wx.heap.size wx wz → Calls Tryd.prog 9 #[.agg g.cs, .agg s.A, .agg r.a.cs, .int .i64 r.i] wz (DoL wz s.pt vs is cs e0 e1 e2)) := hdn (fun wz hz => H9.out _ (HBc.out.trans (hz.mono HBc.out.size)))
        have HS2 : Hid (∀ w', RowKit.Below wx.heap.size wx w' → (w'.cell? ⟨G, 0, none⟩ = some (.int .i64 g.pts) ∧ w'.cell? ⟨G, 1, none⟩ = some (.int .i64 g.st) ∧ w'.cell? ⟨G, 2, none⟩ = some (.int .i64 g.en) ∧ w'.cell? ⟨G, 3, none⟩ = some (.int .i64 g.ea) ∧ w'.cell? ⟨G, 4, none⟩ = some g.ed ∧ w'.cell? ⟨G, 5, none⟩ = some g.hd ∧ w'.cell? ⟨G, 6, none⟩ = some (.int .i64 g.V) ∧ w'.cell? ⟨G, 7, none⟩ = some (.int .i64 g.I) ∧ w'.cell? ⟨G, 8, none⟩ = some (.int .i64 g.S) ∧ w'.cell? ⟨G, 9, none⟩ = some (.slice g.fp g.F g.fc)) ∧ (w'.cell? ⟨Sb, 0, none⟩ = some (.int .i64 s.pt) ∧ w'.cell? ⟨Sb, 1, none⟩ = some (.slice s.vp s.vs.length s.vc) ∧ w'.cell? ⟨Sb, 2, none⟩ = some (.slice s.ip s.is.length s.ic) ∧ w'.cell? ⟨Sb, 3, none⟩ = some (.slice s.cp s.rs.length s.cc)) ∧ (w'.cell? ⟨ob, oo + k * 13, none⟩ = some (.int .i64 r.a.kind) ∧ w'.cell? ⟨ob, oo + k * 13 + 1, none⟩ = some (.int .i64 r.a.x) ∧ w'.cell? ⟨ob, oo + k * 13 + 2, none⟩ = some (.int .i64 r.a.y) ∧ w'.cell? ⟨ob, oo + k * 13 + 3, none⟩ = some (.int .i64 r.a.f) ∧ w'.cell? ⟨ob, oo + k * 13 + 4, none⟩ = some (.int .i64 r.a.t) ∧ w'.cell? ⟨ob, oo + k * 13 + 5, none⟩ = some (.int .i64 r.a.pl) ∧ w'.cell? ⟨ob, oo + k * 13 + 6, none⟩ = some (.int .i64 r.a.op) ∧ w'.cell? ⟨ob, oo + k * 13 + 7, none⟩ = some (.int .i64 r.a.l.v) ∧ w'.cell? ⟨ob, oo + k * 13 + 8, none⟩ = some (.int .i64 r.a.l.n) ∧ w'.cell? ⟨ob, oo + k * 13 + 9, none⟩ = some (.int .i64 r.a.r.v) ∧ w'.cell? ⟨ob, oo + k * 13 + 10, none⟩ = some (.int .i64 r.a.r.n) ∧ w'.cell? ⟨ob, oo + k * 13 + 11, none⟩ = some (.bool r.a.sense) ∧ w'.cell? ⟨ob, oo + k * 13 + 12, none⟩ = some (.int .i64 r.i))) := hdn (fun w' hz => HS.out w' (HBc.out.trans (hz.mono HBc.out.size)))
        clear HS H8 H9 K0 K1
        have HS := hdn HS2.out
        clear HS2
        have K0 : RowKit.Below wx.heap.size wx wx := Below.refl _ _
        have K1 : RowKit.Below wx.heap.size wx wx.drew := below_drew K0
        go_upto_region 12 with fail
        go_cut [14, 15] from 66 to 81 (fun c d wq => ∃ (A E : Nat) (t : SV), c = .pointer (some ⟨A, 0, none⟩) ∧ d = .pointer (some ⟨E, 0, none⟩) ∧ Hid (Bk wq A 33 t.A) ∧ Hid (Bk wq E 37 (evA e0 e1 e2)) ∧ Hid (t.pt = s.pt ∧ t.vs = vs ∧ t.is = is ∧ t.cs = cs) ∧ Hid (∀ w'', Gr wq w'' (fun k => k < wx.heap.size) → t.lies w'') ∧ Hid (RowKit.Below wx.heap.size wx wq) ∧ Hid (wx.heap.size ≤ A ∧ wx.heap.size ≤ E))
        case first =>
          go_region_held3 (fun w' => (w'.cell? ⟨G, 0, none⟩ = some (.int .i64 g.pts) ∧ w'.cell? ⟨G, 1, none⟩ = some (.int .i64 g.st) ∧ w'.cell? ⟨G, 2, none⟩ = some (.int .i64 g.en) ∧ w'.cell? ⟨G, 3, none⟩ = some (.int .i64 g.ea) ∧ w'.cell? ⟨G, 4, none⟩ = some g.ed ∧ w'.cell? ⟨G, 5, none⟩ = some g.hd ∧ w'.cell? ⟨G, 6, none⟩ = some (.int .i64 g.V) ∧ w'.cell? ⟨G, 7, none⟩ = some (.int .i64 g.I) ∧ w'.cell? ⟨G, 8, none⟩ = some (.int .i64 g.S) ∧ w'.cell? ⟨G, 9, none⟩ = some (.slice g.fp g.F g.fc)) ∧ (w'.cell? ⟨Sb, 0, none⟩ = some (.int .i64 s.pt) ∧ w'.cell? ⟨Sb, 1, none⟩ = some (.slice s.vp s.vs.length s.vc) ∧ w'.cell? ⟨Sb, 2, none⟩ = some (.slice s.ip s.is.length s.ic) ∧ w'.cell? ⟨Sb, 3, none⟩ = some (.slice s.cp s.rs.length s.cc)) ∧ (w'.cell? ⟨ob, oo + k * 13, none⟩ = some (.int .i64 r.a.kind) ∧ w'.cell? ⟨ob, oo + k * 13 + 1, none⟩ = some (.int .i64 r.a.x) ∧ w'.cell? ⟨ob, oo + k * 13 + 2, none⟩ = some (.int .i64 r.a.y) ∧ w'.cell? ⟨ob, oo + k * 13 + 3, none⟩ = some (.int .i64 r.a.f) ∧ w'.cell? ⟨ob, oo + k * 13 + 4, none⟩ = some (.int .i64 r.a.t) ∧ w'.cell? ⟨ob, oo + k * 13 + 5, none⟩ = some (.int .i64 r.a.pl) ∧ w'.cell? ⟨ob, oo + k * 13 + 6, none⟩ = some (.int .i64 r.a.op) ∧ w'.cell? ⟨ob, oo + k * 13 + 7, none⟩ = some (.int .i64 r.a.l.v) ∧ w'.cell? ⟨ob, oo + k * 13 + 8, none⟩ = some (.int .i64 r.a.l.n) ∧ w'.cell? ⟨ob, oo + k * 13 + 9, none⟩ = some (.int .i64 r.a.r.v) ∧ w'.cell? ⟨ob, oo + k * 13 + 10, none⟩ = some (.int .i64 r.a.r.n) ∧ w'.cell? ⟨ob, oo + k * 13 + 11, none⟩ = some (.bool r.a.sense) ∧ w'.cell? ⟨ob, oo + k * 13 + 12, none⟩ = some (.int .i64 r.i)))
            (first | with_reducible exact HS.out _ K1 | with_reducible exact HS.out _ K0 | with_reducible exact HS.out _ K4 | (refine HS.out _ ?_; (repeat' (first | (with_reducible exact K4) | (with_reducible exact K1) | (with_reducible exact K0) | (with_reducible apply below_drew) | (with_reducible apply Below.al) | (with_reducible apply Below.set1) | (with_reducible exact Nat.le_refl _) | (show _ ≤ _; simp; done) | (have := K4.size; (try (have := HYA.out.lt)); (try (have := HYE.out.lt)); (first | omega | (simp <;> omega))) | (have := K1.size; (try (have := HYA.out.lt)); (try (have := HYE.out.lt)); (first | omega | (simp <;> omega)))))) | fail) (first
            | (go_at_call 9; refine (H9c.out _ (by (repeat' (first | (with_reducible exact K4) | (with_reducible exact K1) | (with_reducible exact K0) | (with_reducible apply below_drew) | (with_reducible apply Below.al) | (with_reducible apply Below.set1) | (with_reducible exact Nat.le_refl _) | (show _ ≤ _; simp; done) | (have := K4.size; (try (have := HYA.out.lt)); (try (have := HYE.out.lt)); (first | omega | (simp <;> omega))) | (have := K1.size; (try (have := HYA.out.lt)); (try (have := HYE.out.lt)); (first | omega | (simp <;> omega))))))).mono ?_; rintro e w4 ⟨t, rfl, HP4, HL4, hb4⟩; have hb4 := hb4.out; have K4 : RowKit.Below wx.heap.size wx w4 := by { refine RowKit.Below.trans ?_ (hb4.mono ?_); (repeat' (first | (with_reducible exact K4) | (with_reducible exact K1) | (with_reducible exact K0) | (with_reducible apply below_drew) | (with_reducible apply Below.al) | (with_reducible apply Below.set1) | (with_reducible exact Nat.le_refl _) | (show _ ≤ _; simp; done) | (have := K4.size; (try (have := HYA.out.lt)); (try (have := HYE.out.lt)); (first | omega | (simp <;> omega))) | (have := K1.size; (try (have := HYA.out.lt)); (try (have := HYE.out.lt)); (first | omega | (simp <;> omega))))) }; (first | (have HYA : Hid (Bk w4 wx.heap.size 33 stZ) := hdn (Bk.via hb4 ?hzz); case hzz => (repeat' (first | (with_reducible apply Bk.dr) | (with_reducible refine Bk.new' ?_; (simp; done)) | (with_reducible apply Bk.al)))) | (have HYA : Hid (Bk w4 (wx.heap.size + 1) 33 stZ) := hdn (Bk.via hb4 ?hzz); case hzz => (repeat' (first | (with_reducible apply Bk.dr) | (with_reducible refine Bk.new' ?_; (simp; done)) | (with_reducible apply Bk.al)))) | (skip)); (first | (have HYE : Hid (Bk w4 wx.heap.size 37 evZ) := hdn (Bk.via hb4 ?hzz); case hzz => (repeat' (first | (with_reducible apply Bk.dr) | (with_reducible refine Bk.new' ?_; (simp; done)) | (with_reducible apply Bk.al)))) | (have HYE : Hid (Bk w4 (wx.heap.size + 1) 37 evZ) := hdn (Bk.via hb4 ?hzz); case hzz => (repeat' (first | (with_reducible apply Bk.dr) | (with_reducible refine Bk.new' ?_; (simp; done)) | (with_reducible apply Bk.al)))) | (skip)); (try (have hZq := Z4.of' HYA.out; obtain ⟨z0, z1, z2, z3, f0, f1, f2, f3⟩ := hZq)); (try (have hYq := Y3.of HYE.out; obtain ⟨y0, y1, y2, x0, x1, x2⟩ := hYq)); (try (have hZq := Z4.ofA HYA.out; obtain ⟨zz0, zz1, zz2, zz3, ff0, ff1, ff2, ff3⟩ := hZq)); (try (have hYq := Y3.ofA HYE.out; obtain ⟨yy0, yy1, yy2, xx0, xx1, xx2⟩ := hYq)); (try (have hA4 := Nat.ne_of_lt HYA.out.lt; have hA5 := hA4.symm)); (try (have hE4 := Nat.ne_of_lt HYE.out.lt; have hE5 := hE4.symm)); (try (have hAE := Bk.ne3337 HYA.out HYE.out; have hEA := hAE.symm)); clear hb4)
            | fail)
          all_goals (go_wp2_with fail; go_meet; refine ⟨_, _, t, rfl, rfl, hdn ?_, hdn ?_, HP4, hdn ?_, hdn ?_, hdn ?_⟩)
          all_goals first
            | (show Bk _ _ 33 #[.int .i64 t.pt, .slice t.vp t.vs.length t.vc, .slice t.ip t.is.length t.ic, .slice t.cp t.rs.length t.cc]; (repeat' (first | (with_reducible exact HYA.out) | (with_reducible apply Bk.dr) | (with_reducible apply Bk.s4o _ (by (try (have := HZA.out.lt)); (try (have := HZE.out.lt)); (try (have := HYA.out.lt)); (try (have := HYE.out.lt)); (first | omega | (simp; done) | (simp; omega)))) | (with_reducible apply Bk.s3o _ (by (try (have := HZA.out.lt)); (try (have := HZE.out.lt)); (try (have := HYA.out.lt)); (try (have := HYE.out.lt)); (first | omega | (simp; done) | (simp; omega)))) | (with_reducible apply Bk.s4) | (with_reducible refine Bk.new' ?_; (simp; done)) | (with_reducible apply Bk.al))); done)
            | (show Bk _ _ 37 #[.int .i64 e0, .int .i64 e1, .int .i64 e2]; (repeat' (first | (with_reducible exact HYE.out) | (with_reducible apply Bk.dr) | (with_reducible apply Bk.s4o _ (by (try (have := HZA.out.lt)); (try (have := HZE.out.lt)); (try (have := HYA.out.lt)); (try (have := HYE.out.lt)); (first | omega | (simp; done) | (simp; omega)))) | (with_reducible apply Bk.s3o _ (by (try (have := HZA.out.lt)); (try (have := HZE.out.lt)); (try (have := HYA.out.lt)); (try (have := HYE.out.lt)); (first | omega | (simp; done) | (simp; omega)))) | (with_reducible apply Bk.s3e) | (with_reducible refine Bk.new' ?_; (simp; done)) | (with_reducible apply Bk.al))); done)
            | (intro w'' hg; refine HL4.out w'' (Gr.trans ?_ (hg.mono (fun k _ hk => Nat.lt_of_lt_of_le hk ?_))); (· (repeat' (first | (with_reducible exact Gr.refl _ _) | (with_reducible apply Gr.drew) | (with_reducible apply Gr.alloc) | (with_reducible refine Gr.set1 ?_ ?hs; case hs => (show _ < _; (try (have := HZA.out.lt)); (try (have := HZE.out.lt)); (first | omega | (simp; done) | (simp; omega)))) | (with_reducible refine Gr.set1n ?_ ?hs; case hs => (show _ ≤ _; (first | omega | (simp; done) | (simp; omega))))))); (· first | exact Nat.le_refl _ | (simp; done) | (simp; omega)))
            | (show RowKit.Below _ _ _; (repeat' (first | (with_reducible exact K4) | (with_reducible exact K1) | (with_reducible exact K0) | (with_reducible apply below_drew) | (with_reducible apply Below.al) | (with_reducible apply Below.set1) | (with_reducible exact Nat.le_refl _) | (show _ ≤ _; simp; done) | (have := K4.size; (try (have := HYA.out.lt)); (try (have := HYE.out.lt)); (first | omega | (simp <;> omega))) | (have := K1.size; (try (have := HYA.out.lt)); (try (have := HYE.out.lt)); (first | omega | (simp <;> omega))))); done)
            | (have := K4.size; constructor <;> (first | exact Nat.le_refl _ | omega | (simp; done) | (simp; omega)))
        case rest =>
        obtain ⟨B, F, t2, rfl, rfl, HYA, HYE, HT2, HLB, HBy, HFA2⟩ := hcut
        obtain ⟨wy, hwy⟩ : ∃ v, v = wc := ⟨_, rfl⟩
        subst hwy
        have HBw : Hid (RowKit.Below wr.heap.size wr wy) := hdn (HBc.out.trans (HBy.out.mono HBc.out.size))
        have HI2 : Hid (PlI w wy g G Sb s k) := hdn (HI.out.below HBw.out)
        have HR2 : Hid (Rt g t2 ∧ t2.rs.length ≤ s.rs.length + 1) := hdn (HNX.out t2 HT2.out)
        have HSL : Hid (Sal t2 t1) := hdn ⟨HT2.out.1.trans HT1.out.1.symm, HT2.out.2.1.trans HT1.out.2.1.symm, HT2.out.2.2.1.trans HT1.out.2.2.1.symm, HT2.out.2.2.2.trans HT1.out.2.2.2.symm⟩
        have HL1 : Hid (∀ wz, RowKit.Below wy.heap.size wy wz → t1.lies wz) := hdn (fun wz hz => HLA.out wz (Gr.of_below (HBy.out.trans (hz.mono HBy.out.size))))
        have HL2 : Hid (∀ wz, RowKit.Below wy.heap.size wy wz → t2.lies wz) := hdn (fun wz hz => HLB.out wz (Gr.of_below hz))
        have HNS : Hid (t2.vs.length ≤ 2000000 ∧ t2.is.length ≤ 2000000 ∧ t2.rs.length ≤ 1000 ∧ ∀ r ∈ t2.rs, r.c.to.length ≤ 2000000) := hdn ⟨by have := HR2.out.1.vl; have := HGO.out.V; omega, by have := HR2.out.1.il; have := HGO.out.I; omega, by have := HR2.out.2; have := HI2.out.few; omega, fun r hr => by rw [HR2.out.1.len hr]; exact HGO.out.F⟩
        have HSM : Hid (∀ wz, RowKit.Below wy.heap.size wy wz → Calls Tryd.prog 6 #[.agg t2.A, .agg t1.A] wz (RetV wz (.bool true))) := hdn (fun wz hz => same6_any t2 t1 HSL.out wz (HL2.out wz hz) (HL1.out wz hz) HNS.out.1 HNS.out.2.1 (Nat.le_trans HNS.out.2.2.1 (by omega)) HNS.out.2.2.2)
        have HSN : Hid (∀ wz, RowKit.Below wy.heap.size wy wz → Calls Tryd.prog 16 #[.agg t2.A, .agg t1.A] wz (RetV wz (.bool true))) := hdn (fun wz hz => same16_any t2 t1 HSL.out wz (HL2.out wz hz) (HL1.out wz hz) HNS.out.1 HNS.out.2.1 (Nat.le_trans HNS.out.2.2.1 (by omega)) HNS.out.2.2.2)
        have HHA : Hid (∀ wz, RowKit.Below wy.heap.size wy wz → Calls Tryd.prog 10 #[.agg s.A, .agg r.a.cs, .int .i64 r.i] wz (RetV wz (.bool (holdsB s r.a r.i)))) := hdn (fun wz hz => holds_any s r.a r.i wz (HI2.out.lies.below hz))
        have HHB : Hid (∀ wz, RowKit.Below wy.heap.size wy wz → Calls Tryd.prog 11 #[.agg s.A, .agg r.a.cs, .int .i64 r.i] wz (RetV wz (.bool (holdsB s r.a r.i)))) := hdn (fun wz hz => holds11_any s r.a r.i wz (HI2.out.lies.below hz))
        have HRR : Hid (∀ wz, RowKit.Below wy.heap.size wy wz → Calls Tryd.prog 12 #[.agg g.cs, .agg t2.A] wz (RetV wz (.bool true))) := hdn (fun wz hz => right12_any g t2 wz HGO.out HR2.out.1 (HL2.out wz hz))
        have HK14 : Hid (∀ wz, RowKit.Below wy.heap.size wy wz → Calls Tryd.prog 14 #[.agg g.cs, .agg t2.A] wz (LkP wz t2)) := hdn (fun wz hz => leaks_any g t2 wz HGO.out HR2.out.1 (HL2.out wz hz))
        have HK15 : Hid (∀ wz, RowKit.Below wy.heap.size wy wz → Calls Tryd.prog 15 #[.agg t2.A] wz (LkQ wz t2)) := hdn (fun wz hz => leaks15_any g t2 wz HR2.out.1 HGO.out (HL2.out wz hz) (Nat.le_trans HGF.out.2.1 (by omega)) HNS.out.2.2.1)
        have HZA2 : Hid (Bk wy A 33 t1.A) := hdn (HZA.out.below HBy.out HZA.out.lt)
        have HZE2 : Hid (Bk wy E 37 (evA e0 e1 e2)) := hdn (HZE.out.below HBy.out HZE.out.lt)
        have HS13 : Hid (∀ w', RowKit.Below wy.heap.size wy w' → (w'.cell? ⟨F, 0, none⟩ = some (.int .i64 e0) ∧ w'.cell? ⟨F, 1, none⟩ = some (.int .i64 e1) ∧ w'.cell? ⟨F, 2, none⟩ = some (.int .i64 e2)) ∧ (w'.cell? ⟨E, 0, none⟩ = some (.int .i64 e0) ∧ w'.cell? ⟨E, 1, none⟩ = some (.int .i64 e1) ∧ w'.cell? ⟨E, 2, none⟩ = some (.int .i64 e2)) ∧ (w'.cell? ⟨A, 0, none⟩ = some (.int .i64 t1.pt) ∧ w'.cell? ⟨A, 1, none⟩ = some (.slice t1.vp t1.vs.length t1.vc) ∧ w'.cell? ⟨A, 2, none⟩ = some (.slice t1.ip t1.is.length t1.ic) ∧ w'.cell? ⟨A, 3, none⟩ = some (.slice t1.cp t1.rs.length t1.cc)) ∧ (w'.cell? ⟨B, 0, none⟩ = some (.int .i64 t2.pt) ∧ w'.cell? ⟨B, 1, none⟩ = some (.slice t2.vp t2.vs.length t2.vc) ∧ w'.cell? ⟨B, 2, none⟩ = some (.slice t2.ip t2.is.length t2.ic) ∧ w'.cell? ⟨B, 3, none⟩ = some (.slice t2.cp t2.rs.length t2.cc)) ∧ (w'.cell? ⟨Sb, 0, none⟩ = some (.int .i64 s.pt) ∧ w'.cell? ⟨Sb, 1, none⟩ = some (.slice s.vp s.vs.length s.vc) ∧ w'.cell? ⟨Sb, 2, none⟩ = some (.slice s.ip s.is.length s.ic) ∧ w'.cell? ⟨Sb, 3, none⟩ = some (.slice s.cp s.rs.length s.cc)) ∧ (w'.cell? ⟨ob, oo + k * 13, none⟩ = some (.int .i64 r.a.kind) ∧ w'.cell? ⟨ob, oo + k * 13 + 1, none⟩ = some (.int .i64 r.a.x) ∧ w'.cell? ⟨ob, oo + k * 13 + 2, none⟩ = some (.int .i64 r.a.y) ∧ w'.cell? ⟨ob, oo + k * 13 + 3, none⟩ = some (.int .i64 r.a.f) ∧ w'.cell? ⟨ob, oo + k * 13 + 4, none⟩ = some (.int .i64 r.a.t) ∧ w'.cell? ⟨ob, oo + k * 13 + 5, none⟩ = some (.int .i64 r.a.pl) ∧ w'.cell? ⟨ob, oo + k * 13 + 6, none⟩ = some (.int .i64 r.a.op) ∧ w'.cell? ⟨ob, oo + k * 13 + 7, none⟩ = some (.int .i64 r.a.l.v) ∧ w'.cell? ⟨ob, oo + k * 13 + 8, none⟩ = some (.int .i64 r.a.l.n) ∧ w'.cell? ⟨ob, oo + k * 13 + 9, none⟩ = some (.int .i64 r.a.r.v) ∧ w'.cell? ⟨ob, oo + k * 13 + 10, none⟩ = some (.int .i64 r.a.r.n) ∧ w'.cell? ⟨ob, oo + k * 13 + 11, none⟩ = some (.bool r.a.sense) ∧ w'.cell? ⟨ob, oo + k * 13 + 12, none⟩ = some (.int .i64 r.i))) := hdn (fun w' hz => by
          have q := HS.out w' (HBy.out.trans (hz.mono HBy.out.size))
          have q2 := HZA2.out.below hz HZA2.out.lt
          have q3 := HZE2.out.below hz HZE2.out.lt
          have q4 := HYA.out.below hz HYA.out.lt
          have q5 := HYE.out.below hz HYE.out.lt
          exact ⟨⟨q5.cell 0, q5.cell 1, q5.cell 2⟩, ⟨q3.cell 0, q3.cell 1, q3.cell 2⟩, Z33.of q2, Z33.of q4, q.2.1, q.2.2⟩)
        have HS15 : Hid (∀ w', RowKit.Below wy.heap.size wy w' → (w'.cell? ⟨G, 0, none⟩ = some (.int .i64 g.pts) ∧ w'.cell? ⟨G, 1, none⟩ = some (.int .i64 g.st) ∧ w'.cell? ⟨G, 2, none⟩ = some (.int .i64 g.en) ∧ w'.cell? ⟨G, 3, none⟩ = some (.int .i64 g.ea) ∧ w'.cell? ⟨G, 4, none⟩ = some g.ed ∧ w'.cell? ⟨G, 5, none⟩ = some g.hd ∧ w'.cell? ⟨G, 6, none⟩ = some (.int .i64 g.V) ∧ w'.cell? ⟨G, 7, none⟩ = some (.int .i64 g.I) ∧ w'.cell? ⟨G, 8, none⟩ = some (.int .i64 g.S) ∧ w'.cell? ⟨G, 9, none⟩ = some (.slice g.fp g.F g.fc)) ∧ (w'.cell? ⟨A, 0, none⟩ = some (.int .i64 t1.pt) ∧ w'.cell? ⟨A, 1, none⟩ = some (.slice t1.vp t1.vs.length t1.vc) ∧ w'.cell? ⟨A, 2, none⟩ = some (.slice t1.ip t1.is.length t1.ic) ∧ w'.cell? ⟨A, 3, none⟩ = some (.slice t1.cp t1.rs.length t1.cc)) ∧ (w'.cell? ⟨B, 0, none⟩ = some (.int .i64 t2.pt) ∧ w'.cell? ⟨B, 1, none⟩ = some (.slice t2.vp t2.vs.length t2.vc) ∧ w'.cell? ⟨B, 2, none⟩ = some (.slice t2.ip t2.is.length t2.ic) ∧ w'.cell? ⟨B, 3, none⟩ = some (.slice t2.cp t2.rs.length t2.cc))) := hdn (fun w' hz => by
          have q := HS.out w' (HBy.out.trans (hz.mono HBy.out.size))
          have q2 := HZA2.out.below hz HZA2.out.lt
          have q4 := HYA.out.below hz HYA.out.lt
          exact ⟨q.1, Z33.of q2, Z33.of q4⟩)
        have HSB : Hid (Sb < wx.heap.size) := hdn (Nat.lt_of_lt_of_le HI.out.st.lt HBc.out.size)
        clear HS K0 K1 H9c HZA HZE HI HLA HIT HNX HBc
        have K0 : RowKit.Below wy.heap.size wy wy := Below.refl _ _
        have K1 : RowKit.Below wy.heap.size wy wy.drew := below_drew K0
        go_upto_region 13 with fail
        go_cut [117] from 82 to 117 (fun c wz => c = .bool false ∧ Hid (RowKit.Below wy.heap.size wy wz))
        case first =>
          go_region_held3 (fun w' => (w'.cell? ⟨F, 0, none⟩ = some (.int .i64 e0) ∧ w'.cell? ⟨F, 1, none⟩ = some (.int .i64 e1) ∧ w'.cell? ⟨F, 2, none⟩ = some (.int .i64 e2)) ∧ (w'.cell? ⟨E, 0, none⟩ = some (.int .i64 e0) ∧ w'.cell? ⟨E, 1, none⟩ = some (.int .i64 e1) ∧ w'.cell? ⟨E, 2, none⟩ = some (.int .i64 e2)) ∧ (w'.cell? ⟨A, 0, none⟩ = some (.int .i64 t1.pt) ∧ w'.cell? ⟨A, 1, none⟩ = some (.slice t1.vp t1.vs.length t1.vc) ∧ w'.cell? ⟨A, 2, none⟩ = some (.slice t1.ip t1.is.length t1.ic) ∧ w'.cell? ⟨A, 3, none⟩ = some (.slice t1.cp t1.rs.length t1.cc)) ∧ (w'.cell? ⟨B, 0, none⟩ = some (.int .i64 t2.pt) ∧ w'.cell? ⟨B, 1, none⟩ = some (.slice t2.vp t2.vs.length t2.vc) ∧ w'.cell? ⟨B, 2, none⟩ = some (.slice t2.ip t2.is.length t2.ic) ∧ w'.cell? ⟨B, 3, none⟩ = some (.slice t2.cp t2.rs.length t2.cc)) ∧ (w'.cell? ⟨Sb, 0, none⟩ = some (.int .i64 s.pt) ∧ w'.cell? ⟨Sb, 1, none⟩ = some (.slice s.vp s.vs.length s.vc) ∧ w'.cell? ⟨Sb, 2, none⟩ = some (.slice s.ip s.is.length s.ic) ∧ w'.cell? ⟨Sb, 3, none⟩ = some (.slice s.cp s.rs.length s.cc)) ∧ (w'.cell? ⟨ob, oo + k * 13, none⟩ = some (.int .i64 r.a.kind) ∧ w'.cell? ⟨ob, oo + k * 13 + 1, none⟩ = some (.int .i64 r.a.x) ∧ w'.cell? ⟨ob, oo + k * 13 + 2, none⟩ = some (.int .i64 r.a.y) ∧ w'.cell? ⟨ob, oo + k * 13 + 3, none⟩ = some (.int .i64 r.a.f) ∧ w'.cell? ⟨ob, oo + k * 13 + 4, none⟩ = some (.int .i64 r.a.t) ∧ w'.cell? ⟨ob, oo + k * 13 + 5, none⟩ = some (.int .i64 r.a.pl) ∧ w'.cell? ⟨ob, oo + k * 13 + 6, none⟩ = some (.int .i64 r.a.op) ∧ w'.cell? ⟨ob, oo + k * 13 + 7, none⟩ = some (.int .i64 r.a.l.v) ∧ w'.cell? ⟨ob, oo + k * 13 + 8, none⟩ = some (.int .i64 r.a.l.n) ∧ w'.cell? ⟨ob, oo + k * 13 + 9, none⟩ = some (.int .i64 r.a.r.v) ∧ w'.cell? ⟨ob, oo + k * 13 + 10, none⟩ = some (.int .i64 r.a.r.n) ∧ w'.cell? ⟨ob, oo + k * 13 + 11, none⟩ = some (.bool r.a.sense) ∧ w'.cell? ⟨ob, oo + k * 13 + 12, none⟩ = some (.int .i64 r.i)))
            (first | with_reducible exact HS13.out _ K1 | with_reducible exact HS13.out _ K6 | with_reducible exact HS13.out _ K10 | with_reducible exact HS13.out _ K11 | with_reducible exact HS13.out _ K0 | fail) (first
            | (go_at_call 6; refine (HSM.out _ K1).mono ?_; rintro e w6 ⟨rfl, hb6⟩; have K6 := K1.trans (hb6.mono K1.size); clear hb6)
            | (go_at_call 10; refine (HHA.out _ K6).mono ?_; rintro e w10 ⟨rfl, hb10⟩; have K10 := K6.trans (hb10.mono K6.size); clear hb10)
            | (go_at_call 11; refine (HHB.out _ K10).mono ?_; rintro e w11 ⟨rfl, hb11⟩; have K11 := K10.trans (hb11.mono K10.size); clear hb11)
            | fail)
          all_goals (go_wp2_with fail; go_meet; exact ⟨rfl, hdn K11⟩)
        case rest =>
        obtain ⟨rfl, HBz⟩ := hcut
        obtain ⟨wz, hwz⟩ : ∃ v, v = wc := ⟨_, rfl⟩
        subst hwz
        clear K0 K1 HSM HHA HHB HS13
        have K0 : RowKit.Below wy.heap.size wy wz := HBz.out
        have K1 : RowKit.Below wy.heap.size wy wz.drew := below_drew K0
        clear HBz
        go_upto_region 15 with fail
        go_cut [136] from 118 to 136 (fun c wz => c = .bool false ∧ Hid (RowKit.Below wy.heap.size wy wz))
        case first =>
          go_region_held3 (fun w' => (w'.cell? ⟨G, 0, none⟩ = some (.int .i64 g.pts) ∧ w'.cell? ⟨G, 1, none⟩ = some (.int .i64 g.st) ∧ w'.cell? ⟨G, 2, none⟩ = some (.int .i64 g.en) ∧ w'.cell? ⟨G, 3, none⟩ = some (.int .i64 g.ea) ∧ w'.cell? ⟨G, 4, none⟩ = some g.ed ∧ w'.cell? ⟨G, 5, none⟩ = some g.hd ∧ w'.cell? ⟨G, 6, none⟩ = some (.int .i64 g.V) ∧ w'.cell? ⟨G, 7, none⟩ = some (.int .i64 g.I) ∧ w'.cell? ⟨G, 8, none⟩ = some (.int .i64 g.S) ∧ w'.cell? ⟨G, 9, none⟩ = some (.slice g.fp g.F g.fc)) ∧ (w'.cell? ⟨A, 0, none⟩ = some (.int .i64 t1.pt) ∧ w'.cell? ⟨A, 1, none⟩ = some (.slice t1.vp t1.vs.length t1.vc) ∧ w'.cell? ⟨A, 2, none⟩ = some (.slice t1.ip t1.is.length t1.ic) ∧ w'.cell? ⟨A, 3, none⟩ = some (.slice t1.cp t1.rs.length t1.cc)) ∧ (w'.cell? ⟨B, 0, none⟩ = some (.int .i64 t2.pt) ∧ w'.cell? ⟨B, 1, none⟩ = some (.slice t2.vp t2.vs.length t2.vc) ∧ w'.cell? ⟨B, 2, none⟩ = some (.slice t2.ip t2.is.length t2.ic) ∧ w'.cell? ⟨B, 3, none⟩ = some (.slice t2.cp t2.rs.length t2.cc)))
            (first | with_reducible exact HS15.out _ K1 | with_reducible exact HS15.out _ K12 | with_reducible exact HS15.out _ K14 | with_reducible exact HS15.out _ K15 | with_reducible exact HS15.out _ K13 | with_reducible exact HS15.out _ K16 | with_reducible exact HS15.out _ K0 | fail) (first
            | (go_at_call 12; refine (HRR.out _ K1).mono ?_; rintro e w12 ⟨rfl, hb12⟩; have K12 := K1.trans (hb12.mono K1.size); clear hb12)
            | (go_at_call 14; refine (HK14.out _ K12).mono ?_; rintro e w14 ⟨M, p14, c14, hMl, hM, rfl, hp, hb14⟩; have K14 := K12.trans (hb14.mono K12.size); have HM := hdn hM; have hex : ∃ L, leakL (frOf t2) (fun i => M.getD (i + 1) false) t2.rs.length = L := ⟨_, rfl⟩; obtain ⟨L, hL⟩ := hex; have hLN : L.length ≤ 2000000 := (by rw [← hL]; unfold leakL; rw [List.length_map]; exact Nat.le_trans (List.length_filter_le _ _) (by rw [List.length_range]; exact Nat.le_trans HNS.out.2.2.1 (by omega))); have HLN := hdn hLN; rw [hL] at hp ⊢; have HL14 := hdn hL; have HP14 := hdn hp; clear hM hp hb14 hL hLN hMl)
            | (go_at_call 15; refine (HK15.out _ K14).mono ?_; rintro e w15 ⟨S, q15, d15, hS, rfl, hq, hb15⟩; have hls := (leak_same HM.out hS t2.rs.length).symm.trans HL14.out; rw [hls] at hq ⊢; have HP15 := hdn (HP14.out.below hb15); have HQ15 := hdn hq; have K15 := K14.trans (hb15.mono K14.size); clear hS hq hb15 hls)
            | (go_at_call 13; refine (ints13_any p14 q15 L c14 d15 w15 HP15.out HQ15.out HLN.out).mono ?_; rintro e w13 ⟨rfl, hb13⟩; have K13 := K15.trans (hb13.mono K15.size); clear hb13)
            | (go_at_call 16; refine (HSN.out _ K13).mono ?_; rintro e w16 ⟨rfl, hb16⟩; have K16 := K13.trans (hb16.mono K13.size); clear hb16)
            | fail)
          all_goals (go_wp2_with fail; go_meet; exact ⟨rfl, hdn K16⟩)
        case rest =>
        obtain ⟨rfl, HBz⟩ := hcut
        obtain ⟨wv, hwv⟩ : ∃ v, v = wc := ⟨_, rfl⟩
        subst hwv
        have HST : Hid (Bk wv Sb 33 s.A) := hdn (HI2.out.st.below HBz.out HI2.out.st.lt)
        have HYB : Hid (Bk wv B 33 t2.A) := hdn (HYA.out.below HBz.out HYA.out.lt)
        have HBG2 : Hid (Bk wv G 30 g.cs) := hdn (HI2.out.gr.below HBz.out HI2.out.gr.lt)
        have HT1A : Hid (t2.A.all (·.oneCell') = true) := hdn (by simp [SV.A, Value.oneCell'])
        clear K0 K1 HSN HRR HK14 HK15 HS15 HL1 HZA2 HZE2 HYA HYE
        go_wp2_with (first
          | ((with_reducible show wpList _ _ _ (Oper.mk _ (Op.load 33 _) _ _ _ _ :: _) _ _); refine wpList_load_bk rfl 33 _ rfl B 33 t2.A rfl _ HYB.out Tryd.underlying33 rfl size33 ?_)
          | ((with_reducible show wpList _ _ _ (Oper.mk none (Op.store 33 _ _) _ _ _ _ :: _) _ _); refine wpList_store_all rfl 33 _ _ rfl Sb 33 _ t2.A rfl rfl HST.out size33 rfl HT1A.out ?_; intro w17 h17 g17))
        have HNW : Hid (PlI w w17 g G Sb t2 (k + 1)) := hdn ⟨(g17.out.block G HBG2.out.lt (fun e => HI2.out.far.2.2 (by injection e))).trans HBG2.out, h17.out, HLB.out w17 ((Gr.of_below HBz.out).grown g17.out (fun i hi e => by injection e with e; subst e; exact HSB.out)), HR2.out.1, by have := HR2.out.2; have := HI2.out.few; omega, (HI2.out.low.trans (HBz.out.mono HI2.out.low.size)).grown g17.out (Nat.le_trans HI2.out.low.size HBz.out.size) (fun j hj => by injection hj with hj; subst hj; exact HI2.out.far.2.1), HI2.out.far⟩
        clear h17 g17
        go_roundw
        case rel => exact ⟨k + 1, t2, by go_num, by omega, HNW⟩
        case measure => simp [intOf]; omega
      · have HLO := hdn HI.out.low
        go_wp2_with fail
        refine (HLV.out _ HLO.out).mono ?_
        rintro e w18 ⟨rfl, hb18⟩
        have HB18 : Hid (RowKit.Below w.heap.size w w18) := hdn ((HLO.out).trans (hb18.mono (HLO.out).size))
        clear hb18
        go_wp2_with fail
        go_ret
        exact ⟨rfl, HB18.out⟩
    · have d1 : decide ((8 : Int) < (nF : Int)) = false := decide_eq_false (by omega)
      have d2 : decide ((60 : Int) < (l.length : Int)) = true := decide_eq_true (by omega)
      go_enter Tryd.func3, Tryd.ntmps3
      go_upto_region 1 with fail
      rw [HW.out]
      go_quiet (fail)
      clear c0 c1
      rename_i nq _
      have HB2 : Hid (RowKit.Below w.heap.size w (w1.drewN nq)) := hdn (below_drewN_ HB1.out _)
      generalize w1.drewN nq = w2 at HB2 ⊢
      go_wp2_with fail
      refine (HLV.out _ HB2.out).mono ?_
      rintro e w18 ⟨rfl, hb18⟩
      have HB18 : Hid (RowKit.Below w.heap.size w w18) := hdn ((HB2.out).trans (hb18.mono (HB2.out).size))
      clear hb18
      go_wp2_with fail
      go_ret
      exact ⟨rfl, HB18.out⟩
  · have d1 : decide ((8 : Int) < (nF : Int)) = true := decide_eq_true (by omega)
    go_enter Tryd.func3, Tryd.ntmps3
    go_upto_region 1 with fail
    rw [HW.out]
    go_quiet (fail)
    clear c0 c1
    rename_i nq _
    have HB2 : Hid (RowKit.Below w.heap.size w (w1.drewN nq)) := hdn (below_drewN_ HB1.out _)
    generalize w1.drewN nq = w2 at HB2 ⊢
    go_wp2_with fail
    refine (HLV.out _ HB2.out).mono ?_
    rintro e w18 ⟨rfl, hb18⟩
    have HB18 : Hid (RowKit.Below w.heap.size w w18) := hdn ((HB2.out).trans (hb18.mono (HB2.out).size))
    clear hb18
    go_wp2_with fail
    go_ret
    exact ⟨rfl, HB18.out⟩
end Go.Proofs.YtebmhadpkncgfaaDoor
