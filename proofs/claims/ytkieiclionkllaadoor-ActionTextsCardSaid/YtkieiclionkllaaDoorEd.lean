/-
  DERIVED. The law's lives: the page's example.
-/
import Derived.Test.YtkieiclionkllaaDoorEc
namespace Go.Proofs.YtkieiclionkllaaDoor
open Go.RowKit Go.Sort
open Ac

namespace Ac
/-- The page's example. -/
def exA : Acn := ⟨3, 1, 2, 0, 0, 7, 0, ⟨0, 0⟩, ⟨0, 0⟩, false⟩
def exT : List UInt8 := [108, 111, 97, 100, 32, 112, 49, 32, 112, 50, 32, 102, 48, 32, 64, 55]
theorem ex_right : rights exA = true := by decide
theorem ex_text : text exA = exT := by
  have h0 : Lib.itoa 0 = [48] := by show Lib.itoa ((0 : Nat) : Int) = _; rw [itoa_of (by decide), Lib.decDigits_one (by decide)]; rfl
  have h1 : Lib.itoa 1 = [49] := by rw [itoa_of (by decide), Lib.decDigits_one (by decide)]; rfl
  have h2 : Lib.itoa 2 = [50] := by rw [itoa_of (by decide), Lib.decDigits_one (by decide)]; rfl
  have h7 : Lib.itoa 7 = [55] := by rw [itoa_of (by decide), Lib.decDigits_one (by decide)]; rfl
  unfold text
  rw [if_pos ex_right]
  simp [exA, wordOf, formOf, txts, txt, numT, numOf, sgOf, h0, h1, h2, h7, exT]
theorem ex_parse : parse exT = some exA := by rw [← ex_text]; exact back exA ex_right
theorem ex_ok : exA.ok := by constructor <;> exact isInt_small (by decide) (by decide)
end Ac
theorem ex_eql {w : World} : (binOp .eql 25 (.agg exA.cs) (.agg #[.int .i64 3, .int .i64 1, .int .i64 2, .int .i64 0, .int .i64 0, .int .i64 7, .int .i64 0, .int .i64 0, .int .i64 0, .int .i64 0, .int .i64 0, .bool false])).run Tryd.prog w = .ok (.bool true) w := by
  have := eql_acn (w := w) exA exA
  rwa [decide_eq_true rfl] at this
attribute [local go_sem ↓] ex_eql
set_option maxHeartbeats 1600000 in
set_option maxRecDepth 100000 in
theorem lives_any (w : World) (hG : Gl w) : Calls Tryd.prog 15 #[] w fun e w' => e = .returned (.bool true) ∧ Below w.heap.size w w' := by
  have CP : Hid (Calls Tryd.prog 16 #[.string ⟨#[108, 111, 97, 100, 32, 112, 49, 32, 112, 50, 32, 102, 48, 32, 64, 55]⟩] w fun e w' => e = .returned (.tuple #[.agg exA.cs, .int .i64 0]) ∧ Below w.heap.size w w') := Lib.hid (by
    refine (parse_any exT (by decide) w hG).mono fun e w' hh => ⟨?_, hh.2⟩
    have := hh.1
    unfold PaPost at this
    rw [ex_parse] at this
    exact this)
  have CT : Hid (∀ w, Gl w → Calls Tryd.prog 7 #[.agg exA.cs] w fun e w' => e = .returned (.string ⟨#[108, 111, 97, 100, 32, 112, 49, 32, 112, 50, 32, 102, 48, 32, 64, 55]⟩) ∧ Below w.heap.size w w') := Lib.hid (fun w hg => by
    refine (text_any exA ex_ok w hg).mono fun e w' hh => ⟨?_, hh.2⟩
    rw [hh.1, ex_text]; rfl)
  have HS : Hid (11 ≤ w.heap.size) := Lib.hid hG.big
  have HG := Lib.hid hG
  clear hG
  go_enter Tryd.func15, Tryd.ntmps15
  go_upto_region 2 with (first
    | (go_at_call 16; refine CP.out.mono ?_; rintro e w1 ⟨rfl, hb⟩; have HB1 := Lib.hid hb; clear hb)
    | ((with_reducible show wpList _ _ _ (Oper.mk _ (Op.store 25 _ _) _ _ _ _ :: _) _ _); refine wpList_store_new rfl 25 _ _ rfl _ exA.cs rfl rfl size25 rfl (cs_one _) ?_))
  have HB2 : Hid (Below w.heap.size w (w1.alloc (.cells exA.cs 25))) := Lib.hid (HB1.out.alloc HB1.out.size _)
  have HK2 : Hid (Bk (w1.alloc (.cells exA.cs 25)) w1.heap.size 25 exA.cs) := Lib.hid (heap_alloc_new _ _)
  generalize w1.alloc (.cells exA.cs 25) = w2 at HB2 HK2 ⊢
  go_wp2_with (first
    | ((with_reducible show wpList _ _ _ (Oper.mk (some 10) (Op.load 25 _) _ _ _ _ :: _) _ _); refine wpList_load_arr_g 25 _ rfl rfl w1.heap.size 0 rfl exA.cs _ HK2.out.range Tryd.underlying25 rfl size25 ?_)
    | ((with_reducible show wpList _ _ _ (Oper.mk (some 15) (Op.load 25 _) _ _ _ _ :: _) _ _); refine wpList_load_arr_g 25 _ rfl rfl w1.heap.size 0 rfl exA.cs _ HK2.out.range Tryd.underlying25 rfl size25 ?_)
    | (go_at_call 7; refine (CT.out _ (HG.out.below HB2.out HS.out)).mono ?_; rintro e w3 ⟨rfl, hb⟩; have HB3 := Lib.hid hb; clear hb))
  go_ret
  exact ⟨rfl, HB2.out.trans (HB3.out.mono HB2.out.size)⟩
end Go.Proofs.YtkieiclionkllaaDoor
