/-
  Whatever text is read by the program's parser: the tree may be, the document's printer prints it, and where that text is no longer than a source may be, it is read as the same tree. For every input; the six tables of the package hold what the program text lays (a pruned copy of it).
-/
import Derived.Test.YtdlchhimkelinaaGreatDoorK17
import Derived.ProofKit
import Derived.LaidMore
import Derived.OpenShut
import Derived.Stop.Joined
import Derived.Lib.LaidTab
import Derived.Laws.Cover2
import Derived.Test.YtdlchhimkelinaaGreatDoorTie
import Derived.Test.YtdlchhimkelinaaGreatDoorCards
import Derived.SevenTiedAt
set_option maxHeartbeats 6400000
set_option maxRecDepth 100000
namespace Go.Proofs.YtdlchhimkelinaaGreatDoor
open Go.ChangeShapes Go.WideShapes Go.ChangeAt Go.RowKit
open Go.ChangeMaps (open_string shut_string)
theorem own : ownKnob Tryz.prog.godebug = none := by kernel_rfl
theorem gKeys : Tryz.prog.globalNamed "umbral/lex.keys" = some 2 := by kernel_rfl
theorem gPairs : Tryz.prog.globalNamed "umbral/lex.pairs" = some 1 := by kernel_rfl
theorem tKeys : (Tryz.prog.globals[2]?).map (·.type) = some 189 := by kernel_rfl
theorem tPairs : (Tryz.prog.globals[1]?).map (·.type) = some 179 := by kernel_rfl
theorem cells9 : Tryz.prog.cellsOf 9 = 1 := by kernel_rfl
theorem cells189 : Tryz.prog.cellsOf 189 = 10 := by kernel_rfl
theorem cells179 : Tryz.prog.cellsOf 179 = 4 := by kernel_rfl
def laid6 : List (String × DataW Unit) := [("math/bits.deBruijn32tab", Rows.laid_math_bits_deBruijn32tab), ("math/bits.deBruijn64tab", Rows.laid_math_bits_deBruijn64tab), ("internal/strconv.uint64pow10", Rows.laid_internal_strconv_uint64pow10), ("umbral/lex.pairs", Rows.laid_umbral_lex_pairs), ("umbral/lex.keys", Rows.laid_umbral_lex_keys), ("umbral/print.relations", Rows.laid_umbral_print_relations)]
theorem ba_of {s : ByteArray} {l : List UInt8} (h : s.data.toList = l) : s = ⟨l.toArray⟩ := by rw [← h, Lib.mk_data]
/-- An array of strings that reads as a table holds the table's strings, cell for cell. -/
theorem cells_of_strs {H : Type} {enc : TypeId × Value → H} {P : Program} {w : World} {base : Nat} {sp : Nat → Bool} {held : Bool} {fuel : Nat} {t e : TypeId} {n : Nat} {cs : List Value} {ls : List (List UInt8)} {p : List MemPlace}
  (ht : P.underlying t = some (.array n e)) (he : P.underlying e = some .string) (hce : P.cellsOf e = 1) (hct : P.cellsOf t = n)
  (h : DataW.trod enc P w base sp held fuel t cs = some (.agg (ls.map fun l => .lit (.string l)), p)) : cs = ls.map fun l => Value.string ⟨l.toArray⟩ := by
 cases fuel with
 | zero => simp [DataW.trod] at h
 | succ fuel =>
  simp only [DataW.trod, ht, hce, hct, Nat.mul_one] at h
  split at h
  ·rename_i hl
   obtain ⟨xs, hm, hx⟩ := Option.map_eq_some_iff.1 h
   have hxs : xs.map (·.1) = ls.map fun l => (DataW.lit (.string l) : DataW H) := by
    have := congrArg Prod.fst hx
    simpa using this
   have hxl : xs.length = n := by simpa using Lib.mapM_length hm
   have hzl : ls.length = n := by
    have := congrArg List.length hxs
    simp at this
    omega
   apply List.ext_getElem?
   intro i
   by_cases hi : i < n
   ·obtain ⟨b, hb, hf⟩ := Lib.mapM_at hm i i (by simp [hi])
    obtain ⟨s, hc, hy, _⟩ := DataW.trod_string he hf
    have h1 : cs[i]? = some (.string s) := by
     have := congrArg (·[0]?) hc
     simpa [List.getElem?_take, List.getElem?_drop] using this
    have h2 : (xs.map (·.1))[i]? = some (DataW.lit (.string s.data.toList) : DataW H) := by simp [hb, hy]
    rw [hxs] at h2
    simp only [List.getElem?_map, Option.map_eq_some_iff, DataW.lit.injEq, Lit.string.injEq] at h2
    obtain ⟨z', hz', hzz⟩ := h2
    simp [h1, hz', ba_of hzz.symm]
   ·rw [List.getElem?_eq_none (by omega), List.getElem?_eq_none (by simp; omega)]
  ·cases h
theorem cell_lt {w : World} {a : Addr} {v : Value} (h : w.cell? a = some v) : a.block < w.heap.size := by
 rcases Nat.lt_or_ge a.block w.heap.size with hlt | hge
 ·exact hlt
 ·unfold World.cell? at h; rw [Array.getElem?_eq_none hge] at h; simp at h
theorem gl_of_laid {W : World} (h : laidMetH Tryz.prog laid6 W) : Gl W := by
 rw [MakeChecks.laidMetH_plain _ _ _ (by kernel_rfl)] at h
 obtain ⟨ps, ⟨_, _, _, _, _, _, _, _, _, _, ⟨_, _, _, _, _, _, _, _, _, _, ⟨_, _, _, _, _, _, _, _, _, _, ⟨g0, t0, cs0, f0, p0, q0, hg0, ht0, hv0, hd0, ⟨g1, t1, cs1, f1, p1, q1, hg1, ht1, hv1, hd1, _, _⟩, _⟩, _⟩, _⟩, _⟩, _, _⟩ := h
 obtain rfl := Option.some.inj (gPairs.symm.trans hg0)
 obtain rfl := Option.some.inj (gKeys.symm.trans hg1)
 obtain rfl := Option.some.inj (tPairs.symm.trans ht0)
 obtain rfl := Option.some.inj (tKeys.symm.trans ht1)
 have e0 := cells_of_strs (ls := Tx.pw) Tryz.underlying179 Tryz.underlying9 cells9 cells179 hd0
 have e1 := cells_of_strs (ls := Tx.kw) Tryz.underlying189 Tryz.underlying9 cells9 cells189 hd1
 have hp : ∀ k, k < 4 → W.cell? ⟨1, k, none⟩ = some (.string (Tx.prAt k)) := by
  intro k hk
  have := World.var?_cell hg0 hv0 k
  rw [this, ← Array.getElem?_toList, e0]
  match k, hk with
  | 0, _ => rfl
  | 1, _ => rfl
  | 2, _ => rfl
  | 3, _ => rfl
 have hq : ∀ k, k < 10 → W.cell? ⟨2, k, none⟩ = some (.string (Tx.keyAt k)) := by
  intro k hk
  have := World.var?_cell hg1 hv1 k
  rw [this, ← Array.getElem?_toList, e1]
  match k, hk with
  | 0, _ => rfl
  | 1, _ => rfl
  | 2, _ => rfl
  | 3, _ => rfl
  | 4, _ => rfl
  | 5, _ => rfl
  | 6, _ => rfl
  | 7, _ => rfl
  | 8, _ => rfl
  | 9, _ => rfl
 exact ⟨hq, hp, cell_lt (hq 0 (by decide))⟩
theorem door_met (os : Os) (args : Array Value) : laidMetH Tryz.prog laid6 ((World.doorLaid Tryz.prog 39 os).forCall (fun _ _ => 0) ⟨#[], args, []⟩).memory :=
 laidMetH_of_parts3 (fuel := 8) (laidMet_of_run' 8 (by kernel_rfl) (by kernel_rfl)) (by kernel_rfl) (by kernel_rfl)
/-- A law's end: 'true', no variable named, the arguments read as they did. -/
theorem law_end {H : Type} {enc : TypeId × Value → H} {P : Program} {f : Func} {s : ChangeSpec} {apart fresh handsOn : Bool} {W W' : World} {args : Array Value} {ds : List (DataW H)} {before : List MemPlace} {t : TypeId}
  (hW : DataW.Whole enc P f.params.toList s.vars apart W args.toList ds [] before)
  (hr : f.resultTypes = #[t]) (ht : P.underlying t = some .bool)
  (hres : (s.fn H (ds ++ [])).results = [.lit (.bool true)])
  (hargs : DataW.TrodAll enc P W' 0 (fun b => decide (b < W.heap.size)) true f.params.toList args.toList (s.fn H (ds ++ [])).args before)
  (hvars : DataW.TrodVars enc P W' (fun b => decide (b < W.heap.size)) s.vars (s.fn H (ds ++ [])).vars [])
  (hb : Below W.heap.size W W') : s.post enc P f apart fresh handsOn false W args (.bool true) W' := by
 refine ⟨ds, [], before, [], before, [], hW, ?_, hargs, hvars, hb.frame _, fun h => by cases h⟩
 rw [hr, hres]
 exact trodAll_mk1 (shut_bool ht true)
end Go.Proofs.YtdlchhimkelinaaGreatDoor
namespace Go.Proofs.YtdlchhimkelinaaGreatDoor
open Go Go.ChangeShapes Go.WideShapes Go.ChangeAt Go.RowKit
open Go.ChangeMaps (open_string shut_string)
end Go.Proofs.YtdlchhimkelinaaGreatDoor
