/-
  DERIVED. From the row's 'laid' to what the tables hold.
-/
import Derived.Test.YtnkimfbdcghgpaaDoorCd
import Derived.ProofKit
import Derived.LaidMore
import Derived.OpenShut
import Derived.Stop.Joined
import Derived.Stop.LaidErr
import Derived.Lib.LaidTab
import Derived.Laws.Cover2
import Derived.Test.YtnkimfbdcghgpaaDoorTie
import Derived.Test.YtnkimfbdcghgpaaDoorCards
import Derived.SevenTiedAt
namespace Go.Proofs.YtnkimfbdcghgpaaDoor
open Go.ChangeShapes Go.WideShapes Go.ChangeAt Go.RowKit
open Go.ChangeMaps (open_string shut_string)

theorem own : ownKnob Tryd.prog.godebug = none := by kernel_rfl
theorem gForms : Tryd.prog.globalNamed "umbral/action.forms" = some 0 := by kernel_rfl
theorem gWords : Tryd.prog.globalNamed "umbral/action.words" = some 1 := by kernel_rfl
theorem gSpans : Tryd.prog.globalNamed "umbral/action.spans" = some 2 := by kernel_rfl
theorem gSums : Tryd.prog.globalNamed "umbral/action.sums" = some 3 := by kernel_rfl
theorem gOrders : Tryd.prog.globalNamed "umbral/action.orders" = some 4 := by kernel_rfl
theorem tForms : (Tryd.prog.globals[0]?).map (·.type) = some 73 := by kernel_rfl
theorem tWords : (Tryd.prog.globals[1]?).map (·.type) = some 76 := by kernel_rfl
theorem tSpans : (Tryd.prog.globals[2]?).map (·.type) = some 87 := by kernel_rfl
theorem tSums : (Tryd.prog.globals[3]?).map (·.type) = some 92 := by kernel_rfl
theorem tOrders : (Tryd.prog.globals[4]?).map (·.type) = some 93 := by kernel_rfl
theorem tPow : (Tryd.prog.globals[5]?).map (·.type) = some 102 := by kernel_rfl
theorem cells9 : Tryd.prog.cellsOf 9 = 1 := by kernel_rfl
theorem cells3 : Tryd.prog.cellsOf 3 = 1 := by kernel_rfl
theorem cells34 : Tryd.prog.cellsOf 71 = 1 := by kernel_rfl
theorem cells35 : Tryd.prog.cellsOf 72 = 5 := by kernel_rfl
theorem cells36 : Tryd.prog.cellsOf 73 = 65 := by kernel_rfl
theorem cells43 : Tryd.prog.cellsOf 76 = 13 := by kernel_rfl
theorem cells60 : Tryd.prog.cellsOf 86 = 3 := by kernel_rfl
theorem cells61 : Tryd.prog.cellsOf 87 = 27 := by kernel_rfl
theorem cells62 : Tryd.prog.cellsOf 92 = 3 := by kernel_rfl
theorem cells63 : Tryd.prog.cellsOf 93 = 2 := by kernel_rfl
theorem cells79 : Tryd.prog.cellsOf 95 = 1 := by kernel_rfl
theorem cells94 : Tryd.prog.cellsOf 102 = 20 := by kernel_rfl

def laid8 : List (String × DataW Unit) := [("math/bits.deBruijn32tab", Rows.laid_math_bits_deBruijn32tab), ("math/bits.deBruijn64tab", Rows.laid_math_bits_deBruijn64tab), ("internal/strconv.uint64pow10", Rows.laid_internal_strconv_uint64pow10), ("umbral/action.forms", Rows.laid_umbral_action_forms), ("umbral/action.spans", Rows.laid_umbral_action_spans), ("umbral/action.words", Rows.laid_umbral_action_words), ("umbral/action.sums", Rows.laid_umbral_action_sums), ("umbral/action.orders", Rows.laid_umbral_action_orders)]

section
variable {H : Type} {enc : TypeId × Value → H} {P : Program} {w : World} {base : Nat} {sp : Nat → Bool} {held : Bool}
/-- What an array reads as: its items, one by one. -/
theorem trod_arr {fuel t e n c : Nat} {cs : List Value} {ds : List (DataW H)} {p : List MemPlace} (ht : P.underlying t = some (.array n e)) (hc : P.cellsOf e = c) (hct : P.cellsOf t = n * c)
    (h : DataW.trod enc P w base sp held fuel t cs = some (.agg ds, p)) : ds.length = n ∧ cs.length = n * c ∧ ∃ f, ∀ i d, ds[i]? = some d → ∃ q, DataW.trod enc P w base sp held f e ((cs.drop (i * c)).take c) = some (d, q) := by
  cases fuel with
  | zero => simp [DataW.trod] at h
  | succ fuel =>
    simp only [DataW.trod, ht, hc, hct] at h
    split at h
    · rename_i hl
      obtain ⟨xs, hm, hx⟩ := Option.map_eq_some_iff.1 h
      have hxs : xs.map (·.1) = ds := by
        have := congrArg Prod.fst hx
        simpa using this
      have hxl : xs.length = n := by simpa using Lib.mapM_length hm
      refine ⟨by rw [← hxs]; simpa using hxl, hl, fuel, fun i d hd => ?_⟩
      have hi : i < n := by
        have := (List.getElem?_eq_some_iff.1 hd).1
        rw [← hxs] at this
        simpa [hxl] using this
      obtain ⟨b, hb, hf⟩ := Lib.mapM_at hm i i (by simp [hi])
      have : (xs.map (·.1))[i]? = some b.1 := by simp [hb]
      rw [hxs, hd] at this
      injection this with this
      exact ⟨b.2, by rw [hf, this]⟩
    · cases h
/-- A text out of a row. -/
theorem trod_str {fuel t : Nat} {cs : List Value} {l : List UInt8} {p : List MemPlace} (ht : P.underlying t = some .string) (h : DataW.trod enc P w base sp held fuel t cs = some (.lit (.string l), p)) : cs = [.string (bt l)] := by
  obtain ⟨s, hs, hx, _⟩ := DataW.trod_string ht h
  have : l = s.data.toList := by
    have := congrArg Prod.fst hx
    simpa using this
  rw [hs, this]
  show [Value.string s] = [Value.string ⟨s.data.toList.toArray⟩]
  rw [Lib.mk_data]
theorem trod_num {fuel t : Nat} {k : IntKind} {cs : List Value} {n : Int} {p : List MemPlace} (ht : P.underlying t = some (.int k)) (h : DataW.trod enc P w base sp held fuel t cs = some (.lit (.int k n), p)) : cs = [.int k n] := by
  obtain ⟨m, hs, hx, _⟩ := DataW.trod_int ht h
  have : n = m := by
    have := congrArg Prod.fst hx
    simpa using this
  rw [hs, this]
theorem part_cell {cs : List Value} {i c j : Nat} {l : List Value} {v : Value} (h : (cs.drop (i * c)).take c = l) (hj : l[j]? = some v) : cs[i * c + j]? = some v := by
  rw [← h] at hj
  have hjc : j < c := by
    have := (List.getElem?_eq_some_iff.1 hj).1
    rw [List.length_take] at this; omega
  rw [List.getElem?_take_of_lt hjc, List.getElem?_drop] at hj
  exact hj
end
theorem three_of {α : Type} {l : List α} (h : l.length = 3) : ∃ a b c, l = [a, b, c] := by
  match l, h with
  | [a, b, c], _ => exact ⟨a, b, c, rfl⟩
/-- A span's three cells. -/
theorem trod_span {H : Type} {enc : TypeId × Value → H} {w : World} {base : Nat} {sp : Nat → Bool} {held : Bool} {fuel : Nat} {cs : List Value} {l : List UInt8} {n m : Int} {p : List MemPlace}
    (h : DataW.trod enc Tryd.prog w base sp held fuel 86 cs = some (.agg [.lit (.string l), .lit (.int .i64 n), .lit (.int .i64 m)], p)) : cs = [.string (bt l), .int .i64 n, .int .i64 m] := by
  cases fuel with
  | zero => simp [DataW.trod] at h
  | succ fuel =>
    simp only [DataW.trod, Tryd.underlying86, cells60] at h
    split at h
    · rename_i hl
      obtain ⟨xs, hm, hx⟩ := Option.map_eq_some_iff.1 h
      simp only [List.mapM_cons, List.mapM_nil, Option.bind_eq_bind, Option.bind_eq_some_iff, Option.pure_def, Option.some.injEq, cells9, cells3] at hm
      obtain ⟨x0, h0, _, ⟨x1, h1, _, ⟨x2, h2, _, rfl, rfl⟩, rfl⟩, rfl⟩ := hm
      simp only [List.map_cons, List.map_nil, Prod.mk.injEq, DataW.agg.injEq, List.cons.injEq, and_true] at hx
      obtain ⟨⟨e0, e1, e2⟩, _⟩ := hx
      obtain ⟨x0a, x0b⟩ := x0
      obtain ⟨x1a, x1b⟩ := x1
      obtain ⟨x2a, x2b⟩ := x2
      simp only at e0 e1 e2
      subst e0 e1 e2
      have t0 := trod_str Tryd.underlying9 h0
      have t1 := trod_num Tryd.underlying3 h1
      have t2 := trod_num Tryd.underlying3 h2
      obtain ⟨a, b, c, rfl⟩ := three_of hl
      simp only [List.drop_zero, List.take_succ_cons, List.take_zero, List.drop_succ_cons, List.cons.injEq, and_true] at t0 t1 t2
      rw [t0, t1, t2]
    · cases h
theorem cell_lt {w : World} {a : Addr} {v : Value} (h : w.cell? a = some v) : a.block < w.heap.size := by
  rcases Nat.lt_or_ge a.block w.heap.size with hlt | hge
  · exact hlt
  · unfold World.cell? at h; rw [Array.getElem?_eq_none hge] at h; simp at h

theorem var_cell {W : World} {n : String} {g : Nat} {cs : Array Value} (hg : Tryd.prog.globalNamed n = some g) (hv : W.var? Tryd.prog n = some cs) {k : Nat} {v : Value} (h : cs.toList[k]? = some v) : W.cell? ⟨g, k, none⟩ = some v := by
  rw [World.var?_cell hg hv k, ← Array.getElem?_toList, h]
theorem var_of {n : String} {d : DataW Unit} {r : List (String × DataW Unit)} {W : World} {g t : Nat} (h : laidMet Tryd.prog ((n, d) :: r) W) (hg : Tryd.prog.globalNamed n = some g) (ht : (Tryd.prog.globals[g]?).map (·.type) = some t) :
    ∃ (cs : Array Value) (enc : TypeId × Value → Unit) (base : Nat) (sp : Nat → Bool) (held : Bool) (fuel : Nat) (p : List MemPlace), W.var? Tryd.prog n = some cs ∧ DataW.trod enc Tryd.prog W base sp held fuel t cs.toList = some (d, p) := by
  obtain ⟨ps, ⟨g0, t0, cs0, f0, p0, q0, hg0, ht0, hv0, hd0, _, _⟩, _⟩ := h
  obtain rfl := Option.some.inj (hg.symm.trans hg0)
  obtain rfl := Option.some.inj (ht.symm.trans ht0)
  exact ⟨cs0, _, _, _, _, f0, p0, hv0, hd0⟩
end Go.Proofs.YtnkimfbdcghgpaaDoor
