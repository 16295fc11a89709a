/-
  DERIVED. The tables as the row lays them.
-/
import Derived.Test.YtnkimfbdcghgpaaDoorFa
namespace Go.Proofs.YtnkimfbdcghgpaaDoor
open Go.ChangeShapes Go.WideShapes Go.ChangeAt Go.RowKit
open Go.ChangeMaps (open_string shut_string)
open Ac

/-- A table of texts, item by item. -/
theorem strs_cell {W : World} {n : String} {r : List (String × DataW Unit)} {g t m : Nat} {ds : List (DataW Unit)} (h : laidMet Tryd.prog ((n, .agg ds) :: r) W) (hg : Tryd.prog.globalNamed n = some g) (ht : (Tryd.prog.globals[g]?).map (·.type) = some t)
    (ha : Tryd.prog.underlying t = some (.array m 9)) (hc : Tryd.prog.cellsOf t = m * 1) (k : Nat) (l : List UInt8) (hd : ds[k]? = some (.lit (.string l))) : W.cell? ⟨g, k, none⟩ = some (.string (bt l)) := by
  obtain ⟨cs, enc, base, sp, held, fuel, p, hv, hr⟩ := var_of h hg ht
  obtain ⟨_, _, f, hp⟩ := trod_arr ha cells9 hc hr
  obtain ⟨q, hq⟩ := hp k _ hd
  have h1 := part_cell (j := 0) (trod_str Tryd.underlying9 hq) rfl
  rw [Nat.mul_one, Nat.add_zero] at h1
  exact var_cell hg hv h1
theorem forms_cell {W : World} {r : List (String × DataW Unit)} (h : laidMet Tryd.prog (("umbral/action.forms", Rows.laid_umbral_action_forms) :: r) W) (k j : Nat) (ps : List (DataW Unit)) (n : Int)
    (hk : (match Rows.laid_umbral_action_forms (H := Unit) with | .agg ds => ds[k]? | _ => none) = some (.agg ps)) (hj : ps[j]? = some (.lit (.int .u8 n))) : W.cell? ⟨0, k * 5 + j, none⟩ = some (.int .u8 n) := by
  obtain ⟨cs, enc, base, sp, held, fuel, p, hv, hr⟩ := var_of h gForms tForms
  obtain ⟨_, _, f, hp⟩ := trod_arr Tryd.underlying73 cells35 cells36 hr
  obtain ⟨q, hq⟩ := hp k _ hk
  obtain ⟨_, _, f2, hp2⟩ := trod_arr Tryd.underlying72 cells34 cells35 hq
  obtain ⟨q2, hq2⟩ := hp2 j _ hj
  have h1 := part_cell (j := 0) (trod_num Tryd.underlying71 hq2) rfl
  rw [Nat.mul_one, Nat.add_zero] at h1
  exact var_cell gForms hv (part_cell rfl h1)
theorem spans_cell {W : World} {r : List (String × DataW Unit)} (h : laidMet Tryd.prog (("umbral/action.spans", Rows.laid_umbral_action_spans) :: r) W) (k : Nat) (l : List UInt8) (n m : Int)
    (hk : (match Rows.laid_umbral_action_spans (H := Unit) with | .agg ds => ds[k]? | _ => none) = some (.agg [.lit (.string l), .lit (.int .i64 n), .lit (.int .i64 m)])) :
    W.cell? ⟨2, k * 3, none⟩ = some (.string (bt l)) ∧ W.cell? ⟨2, k * 3 + 1, none⟩ = some (.int .i64 n) ∧ W.cell? ⟨2, k * 3 + 2, none⟩ = some (.int .i64 m) := by
  obtain ⟨cs, enc, base, sp, held, fuel, p, hv, hr⟩ := var_of h gSpans tSpans
  obtain ⟨_, _, f, hp⟩ := trod_arr Tryd.underlying87 cells60 cells61 hr
  obtain ⟨q, hq⟩ := hp k _ hk
  have h1 := trod_span hq
  exact ⟨var_cell gSpans hv (part_cell (j := 0) h1 rfl), var_cell gSpans hv (part_cell (j := 1) h1 rfl), var_cell gSpans hv (part_cell (j := 2) h1 rfl)⟩
/-- The parts of each kind, as they are laid. -/
theorem forms_at (k : Nat) (hk : k < 13) : (match Rows.laid_umbral_action_forms (H := Unit) with | .agg ds => ds[k]? | _ => none) = some (.agg ((formOf k).map fun (p : Nat) => .lit (.int .u8 (p : Int)))) := by
  match k, hk with
  | 0, _ => rfl
  | 1, _ => rfl
  | 2, _ => rfl
  | 3, _ => rfl
  | 4, _ => rfl
  | 5, _ => rfl
  | 6, _ => rfl
  | 7, _ => rfl
  | 8, _ => rfl
  | 9, _ => rfl
  | 10, _ => rfl
  | 11, _ => rfl
  | 12, _ => rfl
def sgL (p : Nat) : List UInt8 := if p = 0 then [] else [sgOf p]
theorem spans_at (p : Nat) (hp : p < 9) : (match Rows.laid_umbral_action_spans (H := Unit) with | .agg ds => ds[p]? | _ => none) = some (.agg [.lit (.string (sgL p)), .lit (.int .i64 (loOf p)), .lit (.int .i64 (hiOf p))]) := by
  match p, hp with
  | 0, _ => rfl
  | 1, _ => rfl
  | 2, _ => rfl
  | 3, _ => rfl
  | 4, _ => rfl
  | 5, _ => rfl
  | 6, _ => rfl
  | 7, _ => rfl
  | 8, _ => rfl
theorem gDb : Tryd.prog.globalNamed "math/bits.deBruijn64tab" = some 7 := by kernel_rfl
theorem var_lt {W : World} {n : String} {g : Nat} {cs : Array Value} (hg : Tryd.prog.globalNamed n = some g) (hv : W.var? Tryd.prog n = some cs) : g < W.heap.size := by
  unfold World.var? at hv
  rw [hg] at hv
  simp only [Option.bind_some] at hv
  rcases Nat.lt_or_ge g W.heap.size with h | h
  · exact h
  · rw [Array.getElem?_eq_none h] at hv; cases hv
theorem gl_of_laid {W : World} (h0 : laidMetH Tryd.prog laid8 W) : Gl W := by
  rw [MakeChecks.laidMetH_plain _ _ _ (by kernel_rfl)] at h0
  have h1 := h0.tail
  have h2 : laidMet Tryd.prog (("internal/strconv.uint64pow10", Rows.laid_internal_strconv_uint64pow10) :: _) W := h1.tail
  have h3 := h2.tail
  have h5 := h3
  have h6 := h5.tail
  have h7 := h6.tail
  have h8 := h7.tail
  have h9 := h8.tail
  have hpow : Lib.TabIs Tryd.prog W "internal/strconv.uint64pow10" .u64 Lib.pow10Tab := Lib.tabIs_of_head gPow tPow Tryd.underlying102 Tryd.underlying95 cells79 cells94 h2
  obtain ⟨ps, ⟨g0, t0, cs0, f0, p0, q0, hg0, ht0, hv0, _, _, _⟩, _⟩ := h1
  refine ⟨fun k hk j hj => ?_, fun k hk => ?_, fun p p1 p2 => ?_, fun p p2 => ?_, fun p p2 => ?_, fun k hk => ?_, fun k hk => ?_, hpow, var_lt gDb hv0⟩
  · refine forms_cell h5 k j _ _ (forms_at k hk) ?_
    have hl := form_len k hk
    simp [List.getElem?_eq_getElem (show j < (formOf k).length by omega)]
  · refine strs_cell h7 gWords tWords Tryd.underlying76 cells43 k _ ?_
    match k, hk with
    | 0, _ => rfl
    | 1, _ => rfl
    | 2, _ => rfl
    | 3, _ => rfl
    | 4, _ => rfl
    | 5, _ => rfl
    | 6, _ => rfl
    | 7, _ => rfl
    | 8, _ => rfl
    | 9, _ => rfl
    | 10, _ => rfl
    | 11, _ => rfl
    | 12, _ => rfl
  · have h := (spans_cell h6 p _ _ _ (spans_at p p2)).1
    have e : sgL p = [sgOf p] := by unfold sgL; rw [if_neg (by omega)]
    rwa [e] at h
  · exact (spans_cell h6 p _ _ _ (spans_at p p2)).2.1
  · exact (spans_cell h6 p _ _ _ (spans_at p p2)).2.2
  · refine strs_cell h8 gSums tSums Tryd.underlying92 cells62 k _ ?_
    match k, hk with
    | 0, _ => rfl
    | 1, _ => rfl
    | 2, _ => rfl
  · refine strs_cell h9 gOrders tOrders Tryd.underlying93 cells63 k _ ?_
    match k, hk with
    | 0, _ => rfl
    | 1, _ => rfl
end Go.Proofs.YtnkimfbdcghgpaaDoor
