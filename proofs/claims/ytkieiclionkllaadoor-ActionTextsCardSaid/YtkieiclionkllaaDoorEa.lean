/-
  DERIVED. The walk of kindOf.
-/
import Derived.Test.YtkieiclionkllaaDoorDd
import Derived.Laws.ResultCell
import Derived.Laws.Rows
namespace Go.Proofs.YtkieiclionkllaaDoor
open Go.RowKit Go.Sort
open Ac

theorem results_row_tmp {P : Program} {fn : Func} {p u : Tmp} {ty : TypeId} (h : fn.results = #[.cell p ty, .tmp u]) (tmps : Array Value) (w : World) (g : Nat) (t : TypeId) (cs : Array Value) (fr : Nat × Nat) (d : TypeDesc) (v : Value)
    (hp : tmps.getD p undef = .pointer (some ⟨g, 0, none⟩)) (hv : tmps.getD u undef = v) (hg : w.heap[g]? = some (.cells cs t fr))
    (hu : P.underlying ty = some d) (hd : (match d with | .struct _ | .array _ _ => true | _ => false) = true) (hi : (P.info? ty).map (·.size) = some cs.size) :
    (results fn tmps).run P w = .ok (.tuple #[.agg cs, v]) w := by
  have hp' : tmps[p]?.getD undef = .pointer (some ⟨g, 0, none⟩) := by simpa using hp
  have hv' : tmps[u]?.getD undef = v := by simpa using hv
  simp [results, h, hp', hv', asAddr, run_loadVar_row w g t ty cs fr d hg hu hd hi]
/-- The words, by value. -/
def wcs : Array Value := #[.string (bt (wordOf 0)), .string (bt (wordOf 1)), .string (bt (wordOf 2)), .string (bt (wordOf 3)), .string (bt (wordOf 4)), .string (bt (wordOf 5)), .string (bt (wordOf 6)), .string (bt (wordOf 7)), .string (bt (wordOf 8)), .string (bt (wordOf 9)), .string (bt (wordOf 10)), .string (bt (wordOf 11)), .string (bt (wordOf 12))]
theorem wcs_at (j : Nat) (hj : j < 13) : wcs[j]? = some (.string (bt (wordOf j))) := by
  match j, hj with
  | 0, _ => rfl
  | 1, _ => rfl
  | 2, _ => rfl
  | 3, _ => rfl
  | 4, _ => rfl
  | 5, _ => rfl
  | 6, _ => rfl
  | 7, _ => rfl
  | 8, _ => rfl
  | 9, _ => rfl
  | 10, _ => rfl
  | 11, _ => rfl
  | 12, _ => rfl
theorem word_row {w : World} (hG : Gl w) : w.rangeAt 1 0 wcs.toList := by
  intro j v hv
  have hj : j < 13 := (List.getElem?_eq_some_iff.1 hv).1
  rw [Nat.zero_add, hG.words j hj, ← wcs_at j hj]
  simpa using hv
theorem size43 : (Tryd.prog.info? 43).map (·.size) = some 13 := by kernel_rfl
def kdR (o : Option Nat) : Value := .tuple #[.int .i64 ((o.getD 0 : Nat) : Int), .bool o.isSome]
theorem ret_val {a b : Value} (h : a = b) : Ending.returned a = .returned b := by rw [h]
set_option maxHeartbeats 1600000 in
set_option maxRecDepth 100000 in
theorem kindOf_any (l : List UInt8) (w : World) (hG : Gl w) : Calls Tryd.prog 26 #[.string (bt l)] w fun e w' => e = .returned (kdR (kindOf l)) ∧ w = w' := by
  have HFR := Lib.hid (word_row hG)
  clear hG
  go_enter Tryd.func26, Tryd.ntmps26
  go_wp2_with (first
    | ((with_reducible show wpList _ _ _ (Oper.mk _ (Op.load 43 _) _ _ _ _ :: _) _ _); refine wpList_load_arr rfl 43 _ rfl 1 0 rfl wcs _ HFR.out Tryd.underlying43 rfl size43 ?_))
  go_loop [7] (fun i => ∃ j : Nat, j ≤ 13 ∧ i = .int .i64 j ∧ Hid (kindGo l (13 - j) j = kindOf l)) (fun i => 13 - (intOf i).toNat)
  case atStart => exact ⟨0, by omega, rfl, Lib.hid rfl⟩
  case round =>
    obtain ⟨j, hj, rfl, HK⟩ := hrel
    by_cases hlt : j < 13
    · have hi := run_index43 (w := w) wcs j _ hlt (wcs_at j hlt)
      have hj1 : (j : Int) < 13 := by omega
      have hq : ((bt (wordOf j)).toList == (bt l).toList) = decide (wordOf j = l) := by
        rw [Lib.toList_data (bt l), bt_list]; exact bt_beq _ _
      have HG : Hid (kindGo l (13 - j) j = if wordOf j = l then some j else kindGo l (13 - (j + 1)) (j + 1)) := Lib.hid (by
        rw [show 13 - j = (13 - (j + 1)) + 1 by omega]; rfl)
      by_cases he : wordOf j = l
      · have HR : Hid (kindOf l = some j) := Lib.hid (by rw [← HK.out, HG.out, if_pos he])
        rw [decide_eq_true he] at hq
        clear he HG
        generalize bt (wordOf j) = tj at *
        generalize bt l = t at *
        go_wp2_with fail
        go_ret2
        exact ⟨ret_val (by rw [HR.out]; rfl), rfl⟩
      · have HR : Hid (kindGo l (13 - (j + 1)) (j + 1) = kindOf l) := Lib.hid (by rw [← HK.out, HG.out, if_neg he])
        rw [decide_eq_false he] at hq
        clear he HG
        generalize bt (wordOf j) = tj at *
        generalize bt l = t at *
        go_wp2_with fail
        go_round
        case rel => exact ⟨j + 1, by omega, by go_num, HR⟩
        case measure => simp [intOf]; omega
    · obtain rfl : j = 13 := by omega
      have HR : Hid (kindOf l = none) := Lib.hid (by rw [← HK.out]; rfl)
      go_wp2_with fail
      go_ret2
      exact ⟨ret_val (by rw [HR.out]; rfl), rfl⟩
end Go.Proofs.YtkieiclionkllaaDoor
