/-
  DERIVED. The walks of Itoa's use, operandText, a part's text.
-/
import Derived.Test.YtnkimfbdcghgpaaDoorBd
import Derived.Test.YtnkimfbdcghgpaaDoorSh
import Derived.Lib.SmallJoins
import Derived.Lib.AppendIntMem
namespace Go.Proofs.YtnkimfbdcghgpaaDoor
open Go.RowKit Go.Sort
open Ac

theorem ret_text {a b : ByteArray} (h : a = b) : Ending.returned (.string a) = .returned (.string b) := by rw [h]
theorem itoa_any (n : Int) (h0 : -9223372036854775808 ≤ n) (h1 : n ≤ 9223372036854775807) (w : World) (hG : Gl w) :
    Calls Tryd.prog 24 #[.int .i64 n] w fun e w' => e = .returned (.string (bt (Lib.itoa n))) ∧ Below w.heap.size w w' :=
  (Tryd.strconv_Itoa n h0 h1 w hG.pow).mono fun _ w' h => ⟨h.1, by obtain ⟨k, os, rfl⟩ := h.2; exact Lib.below_grow _ w (Nat.le_refl _) k os⟩
theorem itoa_size (n : Int) (h0 : -9223372036854775808 ≤ n) (h1 : n ≤ 9223372036854775807) : (bt (Lib.itoa n)).size ≤ 21 := Lib.itoa_length_le n h0 h1
namespace Ac
/-- An int. -/
def isInt (n : Int) : Prop := -9223372036854775808 ≤ n ∧ n ≤ 9223372036854775807
end Ac
set_option maxHeartbeats 800000 in
theorem operandText_any (o : Opd) (hv : isInt o.v) (hn : isInt o.n) (w : World) (hG : Gl w) :
    Calls Tryd.prog 44 #[.agg #[.int .i64 o.v, .int .i64 o.n]] w fun e w' => e = .returned (.string (bt (opT o))) ∧ Below w.heap.size w w' := by
  obtain ⟨v, n⟩ := o
  obtain ⟨wA, hwA⟩ : ∃ wA : World, wA = w.alloc (.cells #[.int .i64 v, .int .i64 n] 30) := ⟨_, rfl⟩
  have HBA : Hid (Below w.heap.size w wA) := Lib.hid (by rw [hwA]; exact (Below.refl _ _).alloc (Nat.le_refl _) _)
  have HK : Hid (Bk wA w.heap.size 30 #[.int .i64 v, .int .i64 n]) := Lib.hid (by rw [hwA]; exact heap_alloc_new _ _)
  have HG : Hid (Gl wA) := Lib.hid (hG.below HBA.out (by have := hG.big; omega))
  have CV := Lib.hid (itoa_any v hv.1 hv.2 wA HG.out)
  have CN := Lib.hid (itoa_any n hn.1 hn.2 wA HG.out)
  have hs := itoa_size v hv.1 hv.2
  have HT : Hid (bt (opT ⟨v, n⟩) = if v < 0 then bt (Lib.itoa n) else bt (105 :: Lib.itoa v)) := Lib.hid (by unfold opT; split <;> rfl)
  have HJ : Hid (bt (105 :: Lib.itoa v) = ⟨#[105]⟩ ++ bt (Lib.itoa v)) := Lib.hid (bt_app [105] _).symm
  rw [HT.out]
  clear HT hG hv hn
  by_cases hlt : v < 0
  · rw [if_pos hlt]
    clear hs HJ CV
    generalize bt (Lib.itoa n) = tn at *
    go_enter Tryd.func44, Tryd.ntmps44
    go_upto_region 1 with fail
    rw [← hwA]
    clear hwA
    have c0 : wA.cell? ⟨w.heap.size, 0, none⟩ = some (.int .i64 v) := HK.out.cell 0
    have c1 : wA.cell? ⟨w.heap.size, 1, none⟩ = some (.int .i64 n) := HK.out.cell 1
    go_wp2_with (go_at_call 24; refine CN.out.mono ?_; rintro e w2 ⟨rfl, hb⟩; have HB2 := Lib.hid hb; clear hb)
    go_ret
    exact ⟨rfl, HBA.out.trans (HB2.out.mono HBA.out.size)⟩
  · rw [if_neg hlt, HJ.out]
    clear HJ CN
    generalize bt (Lib.itoa v) = tv at *
    go_enter Tryd.func44, Tryd.ntmps44
    go_upto_region 1 with fail
    rw [← hwA]
    clear hwA
    have c0 : wA.cell? ⟨w.heap.size, 0, none⟩ = some (.int .i64 v) := HK.out.cell 0
    go_wp2_with (go_at_call 24; refine CV.out.mono ?_; rintro e w2 ⟨rfl, hb⟩; have HB2 := Lib.hid hb; clear hb)
    go_ret
    exact ⟨rfl, HBA.out.trans (HB2.out.mono HBA.out.size)⟩
namespace Ac
/-- A part is as its text wants it. -/
def partOk (p : Nat) (a : Acn) : Prop :=
  match p with
  | 0 => True
  | 9 => isInt a.l.v ∧ isInt a.l.n
  | 10 => isInt a.r.v ∧ isInt a.r.n
  | 11 => 0 ≤ a.op ∧ a.op ≤ 2 ∧ isInt a.r.v ∧ isInt a.r.n
  | 12 => 0 ≤ a.op ∧ a.op ≤ 1
  | 13 => True
  | p => isInt (numOf p a)
end Ac
theorem opT_size {o : Opd} (hv : isInt o.v) (hn : isInt o.n) : (opT o).length ≤ 22 := by
  unfold opT
  have h1 := itoa_size o.v hv.1 hv.2
  have h2 := itoa_size o.n hn.1 hn.2
  rw [bt_size] at h1 h2
  split
  · omega
  · simp; omega
/-- A part's text, in memory where an action lies boxed. -/
def TxPost (w : World) (p : Nat) (a : Acn) (e : Ending) (w' : World) : Prop := e = .returned (.string (bt (txt p a))) ∧ Below w.heap.size w w'
set_option maxHeartbeats 800000 in
theorem text_left (a : Acn) (h : partOk 9 a) (w : World) (hG : Gl w) : Calls Tryd.prog 35 #[.int .u8 ((9 : Nat) : Int), .agg a.cs] w fun e w' => TxPost w 9 a e w' := by
  obtain ⟨wA, hwA⟩ : ∃ wA : World, wA = w.alloc (.cells a.cs 32) := ⟨_, rfl⟩
  have HBA : Hid (Below w.heap.size w wA) := Lib.hid (by rw [hwA]; exact (Below.refl _ _).alloc (Nat.le_refl _) _)
  have HK : Hid (Bk wA w.heap.size 32 a.cs) := Lib.hid (by rw [hwA]; exact heap_alloc_new _ _)
  have HG : Hid (Gl wA) := Lib.hid (hG.below HBA.out (by have := hG.big; omega))
  have CO := Lib.hid (operandText_any a.l h.1 h.2 wA HG.out)
  have hs : (bt (opT a.l)).size ≤ 22 := opT_size h.1 h.2
  have HT : Hid (bt (txt 9 a) = ⟨#[32]⟩ ++ bt (opT a.l)) := Lib.hid (bt_app [32] _).symm
  clear hG h
  generalize bt (opT a.l) = tv at *
  go_enter Tryd.func35, Tryd.ntmps35
  go_upto_region 1 with fail
  rw [← hwA]
  clear hwA
  have c0 : wA.cell? ⟨w.heap.size, 7, none⟩ = some (.int .i64 a.l.v) := HK.out.cell 7
  have c1 : wA.cell? ⟨w.heap.size, 8, none⟩ = some (.int .i64 a.l.n) := HK.out.cell 8
  go_wp2_with (go_at_call 44; refine CO.out.mono ?_; rintro e w2 ⟨rfl, hb⟩; have HB2 := Lib.hid hb; clear hb)
  go_ret
  exact ⟨ret_text HT.out.symm, HBA.out.trans (HB2.out.mono HBA.out.size)⟩
set_option maxHeartbeats 800000 in
theorem text_right (a : Acn) (h : partOk 10 a) (w : World) (hG : Gl w) : Calls Tryd.prog 35 #[.int .u8 ((10 : Nat) : Int), .agg a.cs] w fun e w' => TxPost w 10 a e w' := by
  obtain ⟨wA, hwA⟩ : ∃ wA : World, wA = w.alloc (.cells a.cs 32) := ⟨_, rfl⟩
  have HBA : Hid (Below w.heap.size w wA) := Lib.hid (by rw [hwA]; exact (Below.refl _ _).alloc (Nat.le_refl _) _)
  have HK : Hid (Bk wA w.heap.size 32 a.cs) := Lib.hid (by rw [hwA]; exact heap_alloc_new _ _)
  have HG : Hid (Gl wA) := Lib.hid (hG.below HBA.out (by have := hG.big; omega))
  have CO := Lib.hid (operandText_any a.r h.1 h.2 wA HG.out)
  have hs : (bt (opT a.r)).size ≤ 22 := opT_size h.1 h.2
  have HT : Hid (bt (txt 10 a) = ⟨#[32]⟩ ++ bt (opT a.r)) := Lib.hid (bt_app [32] _).symm
  clear hG h
  generalize bt (opT a.r) = tv at *
  go_enter Tryd.func35, Tryd.ntmps35
  go_upto_region 1 with fail
  rw [← hwA]
  clear hwA
  have c0 : wA.cell? ⟨w.heap.size, 9, none⟩ = some (.int .i64 a.r.v) := HK.out.cell 9
  have c1 : wA.cell? ⟨w.heap.size, 10, none⟩ = some (.int .i64 a.r.n) := HK.out.cell 10
  go_wp2_with (go_at_call 44; refine CO.out.mono ?_; rintro e w2 ⟨rfl, hb⟩; have HB2 := Lib.hid hb; clear hb)
  go_ret
  exact ⟨ret_text HT.out.symm, HBA.out.trans (HB2.out.mono HBA.out.size)⟩
set_option maxHeartbeats 800000 in
theorem text_none (a : Acn) (w : World) : Calls Tryd.prog 35 #[.int .u8 ((0 : Nat) : Int), .agg a.cs] w fun e w' => TxPost w 0 a e w' := by
  have HT : Hid (⟨#[]⟩ = bt (txt 0 a)) := Lib.hid rfl
  go_enter Tryd.func35, Tryd.ntmps35
  go_wp2_with fail
  go_ret
  exact ⟨ret_text HT.out, (Below.refl _ _).alloc (Nat.le_refl _) _⟩
set_option maxHeartbeats 800000 in
theorem text_sense (a : Acn) (w : World) : Calls Tryd.prog 35 #[.int .u8 ((13 : Nat) : Int), .agg a.cs] w fun e w' => TxPost w 13 a e w' := by
  obtain ⟨wA, hwA⟩ : ∃ wA : World, wA = w.alloc (.cells a.cs 32) := ⟨_, rfl⟩
  have HBA : Hid (Below w.heap.size w wA) := Lib.hid (by rw [hwA]; exact (Below.refl _ _).alloc (Nat.le_refl _) _)
  have HK : Hid (Bk wA w.heap.size 32 a.cs) := Lib.hid (by rw [hwA]; exact heap_alloc_new _ _)
  have c0 : wA.cell? ⟨w.heap.size, 11, none⟩ = some (.bool a.sense) := HK.out.cell 11
  cases hs : a.sense
  · have HT : Hid (bt (txt 13 a) = ⟨#[32, 110, 111]⟩) := Lib.hid (by unfold txt; rw [hs]; rfl)
    rw [hs] at c0
    clear hs
    go_enter Tryd.func35, Tryd.ntmps35
    go_upto_region 1 with fail
    rw [← hwA]
    clear hwA
    go_wp2_with fail
    go_ret
    exact ⟨ret_text HT.out.symm, HBA.out⟩
  · have HT : Hid (bt (txt 13 a) = ⟨#[32, 121, 101, 115]⟩) := Lib.hid (by unfold txt; rw [hs]; rfl)
    rw [hs] at c0
    clear hs
    go_enter Tryd.func35, Tryd.ntmps35
    go_upto_region 1 with fail
    rw [← hwA]
    clear hwA
    go_wp2_with fail
    go_ret
    exact ⟨ret_text HT.out.symm, HBA.out⟩
set_option maxHeartbeats 800000 in
theorem text_order (a : Acn) (h : partOk 12 a) (w : World) (hG : Gl w) : Calls Tryd.prog 35 #[.int .u8 ((12 : Nat) : Int), .agg a.cs] w fun e w' => TxPost w 12 a e w' := by
  obtain ⟨wA, hwA⟩ : ∃ wA : World, wA = w.alloc (.cells a.cs 32) := ⟨_, rfl⟩
  have HBA : Hid (Below w.heap.size w wA) := Lib.hid (by rw [hwA]; exact (Below.refl _ _).alloc (Nat.le_refl _) _)
  have HK : Hid (Bk wA w.heap.size 32 a.cs) := Lib.hid (by rw [hwA]; exact heap_alloc_new _ _)
  have HG : Hid (Gl wA) := Lib.hid (hG.below HBA.out (by have := hG.big; omega))
  have c0 : wA.cell? ⟨w.heap.size, 6, none⟩ = some (.int .i64 a.op) := HK.out.cell 6
  have hop : a.op = 0 ∨ a.op = 1 := by have := h.1; have := h.2; omega
  clear h hG
  rcases hop with hs | hs
  · have HT : Hid (bt (txt 12 a) = ⟨#[32]⟩ ++ ⟨#[61, 61]⟩) := Lib.hid (by unfold txt; rw [hs]; exact (bt_app [32] [61, 61]).symm)
    rw [hs] at c0
    have c4 : wA.cell? ⟨4, 0, none⟩ = some (.string ⟨#[61, 61]⟩) := HG.out.ords 0 (by omega)
    clear hs
    go_enter Tryd.func35, Tryd.ntmps35
    go_upto_region 1 with fail
    rw [← hwA]
    clear hwA
    go_wp2_with fail
    go_ret
    exact ⟨ret_text HT.out.symm, HBA.out⟩
  · have HT : Hid (bt (txt 12 a) = ⟨#[32]⟩ ++ ⟨#[60]⟩) := Lib.hid (by unfold txt; rw [hs]; exact (bt_app [32] [60]).symm)
    rw [hs] at c0
    have c4 : wA.cell? ⟨4, 1, none⟩ = some (.string ⟨#[60]⟩) := HG.out.ords 1 (by omega)
    clear hs
    go_enter Tryd.func35, Tryd.ntmps35
    go_upto_region 1 with fail
    rw [← hwA]
    clear hwA
    go_wp2_with fail
    go_ret
    exact ⟨ret_text HT.out.symm, HBA.out⟩
end Go.Proofs.YtnkimfbdcghgpaaDoor
