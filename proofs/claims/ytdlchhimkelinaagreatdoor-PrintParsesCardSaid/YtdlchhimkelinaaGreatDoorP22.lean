/-
  The printer at the page's procedure. least at the page's procedure. The page's example: print.Program, Right, Stmts, lives. The page's example: print.Stmts, lives.
-/
import Derived.Test.YtdlchhimkelinaaGreatDoorP21
import Derived.Test.YtdlchhimkelinaaGreatDoorP02
import Derived.Test.YtdlchhimkelinaaGreatDoorP01
import Derived.Test.YtdlchhimkelinaaGreatDoorP05
set_option maxHeartbeats 6400000
set_option maxRecDepth 100000
namespace Go.Proofs.YtdlchhimkelinaaGreatDoor
open Go.RowKit Go.Sort
theorem Pb.below {B b : Nat} {l : List UInt8} {op : Int} {w w' : World} (h : Pb B b l op w) (hb : Below w.heap.size w w') : Pb B b l op w' := by
 have go : ∀ a, PbA B b l op a w → PbA B b l op a w' := by
  rintro a ⟨hB, v, hk, ho, hn⟩
  have hlt : b < w.heap.size := (Array.getElem?_eq_some_iff.1 hk).1
  refine ⟨hB, v, (hb.block b hlt).trans hk, ho.kept (grownBy_of hb none) ?_, hn⟩
  cases hv : v.ownBlock with
  | none => exact .inl rfl
  | some k => exact .inr (by intro e; cases e)
 exact h.elim (fun x => .inl (go _ x)) (fun x => .inr (go _ x))
theorem Pb.drew {B b : Nat} {l : List UInt8} {op : Int} {w : World} (h : Pb B b l op w) (n : Nat) : Pb B b l op (w.drewN n) := h.below (below_drewN_ (Below.refl _ _) n)
def tVp : ByteArray := ⟨#[118, 111, 105, 100, 32, 112, 40, 41, 32]⟩
theorem tVp_eq : (⟨#[118, 111, 105, 100, 32]⟩ : ByteArray) ++ nP ++ ⟨#[40]⟩ ++ ⟨#[41, 32]⟩ = tVp := by rfl
/-- void p() {, x = null;, } -/
def tProg : List UInt8 := [118, 111, 105, 100, 32, 112, 40, 41, 32, 123, 10, 32, 32, 120, 32, 61, 32, 110, 117, 108, 108, 59, 10, 125, 10]
theorem procT_sx (B b q L : Nat) (w : World) (h : Pb B b [] 0 w) (hBw : B ≤ w.heap.size) (hL : L < B) (hq0 : q < B) (hr : w.rangeAt L 0 sx.cells) (hq : w.rangeAt q 0 (pcs L)) :
  Calls Tryz.prog 47 #[.pointer (some ⟨b, 0, none⟩), .pointer (some ⟨q, 0, none⟩)] w fun e w' => e = .returned (.tuple #[]) ∧ Pb B b tProg 0 w' ∧ Below B w w' := by
 have HQ : Hid (∀ w', Below B w w' → w'.cell? ⟨q, 0, none⟩ = some (.string nP) ∧ w'.cell? ⟨q, 3, none⟩ = some (.slice none 0 0) ∧ w'.cell? ⟨q, 4, none⟩ = some (.slice none 0 0) ∧ w'.cell? ⟨q, 5, none⟩ = some (.slice (some ⟨L, 0, none⟩) 1 1)) := hdn (fun w' hb => by
  have g : ∀ j v, (pcs L)[j]? = some v → w'.cell? ⟨q, j, none⟩ = some v := fun j v hv => by
   have := hq j v hv
   rw [Nat.zero_add] at this
   exact (hb.cell (p := ⟨q, j, none⟩) hq0).trans this
  exact ⟨g 0 _ rfl, g 3 _ rfl, g 4 _ rfl, g 5 _ rfl⟩)
 have HR : Hid (∀ w', Below B w w' → w'.rangeAt L 0 sx.cells) := hdn (fun w' hb j v hv => (hb.cell (p := ⟨L, 0 + j, none⟩) hL).trans (hr j v hv))
 have HP := hdn h
 have HBW := hdn hBw
 obtain ⟨q0, q3, _, _⟩ := HQ.out w (Below.refl _ _)
 have CC : Hid (∀ n f, Calls Tryz.prog 86 #[.slice none 0 0, f] (w.drewN n) fun e w' => e = .returned (.string ByteArray.empty) ∧ Below w.heap.size (w.drewN n) w') := hdn (fun n f => commas_nil none 0 f (w.drewN n))
 have CB : Hid (∀ w', Below w.heap.size w w' → Calls Tryz.prog 83 #[.pointer (some ⟨b, 0, none⟩), .string tVp] w' fun e w'' => e = .returned (.tuple #[]) ∧ Pb B b ([] ++ Pn.pad 0 ++ (tVp.data.toList ++ [123]) ++ [10]) 1 w'' ∧ Below B w' w'') :=
  hdn (fun w' hb => begin_any B b [] 0 tVp w' (HP.out.below hb) (by decide) (by decide) (by decide) (Nat.le_trans HBW.out hb.size))
 clear h hq hr hBw
 go_enter Tryz.func47, Tryz.ntmps47
 go_wp2_with fail
 go_region_with (first | (go_at_call 86; refine (CC.out _ _).mono ?_; rintro e w1 ⟨rfl, hb⟩; have HB1 := hdn ((below_drewN_ (Below.refl w.heap.size w) 1).trans hb); have r0 := (HQ.out w1 (HB1.out.mono HBW.out)).1; clear hb) | (rw [tVp_eq]; go_at_call 83; refine (CB.out _ HB1.out).mono ?_; rintro e w2 ⟨rfl, h2, hb⟩; have HP2 := hdn h2; have HB2 := hdn ((HB1.out.mono HBW.out).trans hb); clear h2 hb))
 all_goals
  have CE : Hid (∀ w', Below B w w' → Pb B b ([] ++ Pn.pad 0 ++ (tVp.data.toList ++ [123]) ++ [10]) 1 w' → Calls Tryz.prog 34 #[.slice (some ⟨L, 0, none⟩) 1 1, .func (.func 35) #[.pointer (some ⟨b, 0, none⟩)] #[]] w' fun e w'' => e = .returned (.tuple #[]) ∧ Pb B b ([] ++ Pn.pad 0 ++ (tVp.data.toList ++ [123]) ++ [10] ++ Pn.pad 1 ++ tSx ++ [10]) 1 w'' ∧ Below B w' w'') :=
   hdn (fun w' hb h' => eachSt_sx B b _ 1 L 0 1 w' h' (by decide) (by decide) (Nat.le_trans HBW.out hb.size) (HR.out w' hb))
  have CF : Hid (∀ w', Below B w w' → Pb B b ([] ++ Pn.pad 0 ++ (tVp.data.toList ++ [123]) ++ [10] ++ Pn.pad 1 ++ tSx ++ [10]) 1 w' → Calls Tryz.prog 84 #[.pointer (some ⟨b, 0, none⟩)] w' fun e w'' => e = .returned (.tuple #[]) ∧ Pb B b tProg 0 w'' ∧ Below B w' w'') :=
   hdn (fun w' hb h' => end_any B b _ 0 w' h' (by decide) (by decide) (Nat.le_trans HBW.out hb.size))
  obtain ⟨_, _, r4, r5⟩ := HQ.out w2 HB2.out
  go_wp2_with (first | (go_at_call 44; refine (eachDc_nil _ _ _ _).mono ?_; rintro e w3 ⟨rfl, rfl⟩) | (go_at_call 34; refine (CE.out _ HB2.out HP2.out).mono ?_; rintro e w4 ⟨rfl, h4, hb⟩; have HP4 := hdn h4; have HB4 := hdn (HB2.out.trans hb); clear h4 hb) | (go_at_call 84; refine (CF.out _ HB4.out HP4.out).mono ?_; rintro e w5 ⟨rfl, h5, hb⟩; have HP5 := hdn h5; have HB5 := hdn (HB4.out.trans hb); clear h5 hb))
  go_end0
  exact ⟨rfl, HP5.out, HB5.out⟩
theorem eachPc_sx (B b q L : Nat) (w : World) (h : Pb B b [] 0 w) (hBw : B ≤ w.heap.size) (hL : L < B) (hq0 : q < B) (hr : w.rangeAt L 0 sx.cells) (hq : w.rangeAt q 0 (pcs L)) :
  Calls Tryz.prog 46 #[.slice (some ⟨q, 0, none⟩) 1 1, .func (.func 47) #[.pointer (some ⟨b, 0, none⟩)] #[]] w fun e w' => e = .returned (.tuple #[]) ∧ Pb B b tProg 0 w' ∧ Below B w w' := by
 have HC := hdn (procT_sx B b q L w h hBw hL hq0 hr hq)
 clear h hr hq
 have hcl := enters47
 go_enter Tryz.func46, Tryz.ntmps46
 go_wp2_with fail
 go_loopw [7] (fun i wr => (i = .int .i64 0 ∧ wr = w) ∨ (i = .int .i64 1 ∧ Hid (Pb B b tProg 0 wr) ∧ Hid (Below B w wr))) (fun i _ => 1 - (intOf i).toNat)
 case atStart => exact .inl ⟨rfl, rfl⟩
 case round =>
  rcases hrel with ⟨rfl, rfl⟩ | ⟨rfl, HP1, HB1⟩
  ·go_wp2_with fail
   refine HC.out.mono ?_; rintro e w1 ⟨rfl, h1, hb⟩
   have HP1 := hdn h1; have HB1 := hdn hb
   clear h1 hb
   go_wp2_with fail
   go_roundw
   case rel => exact .inr ⟨rfl, HP1, HB1⟩
   case measure => simp [intOf]
  ·go_wp2_with fail
   go_end0
   exact ⟨rfl, HP1.out, HB1.out⟩
theorem program_sx (B b q L : Nat) (w : World) (h : Pb B b [] 0 w) (hBw : B ≤ w.heap.size) (hL : L < B) (hq0 : q < B) (hr : w.rangeAt L 0 sx.cells) (hq : w.rangeAt q 0 (pcs L)) :
  Calls Tryz.prog 17 #[.pointer (some ⟨b, 0, none⟩), .agg #[.slice none 0 0, .slice none 0 0, .slice (some ⟨q, 0, none⟩) 1 1]] w fun e w' => e = .returned (.tuple #[]) ∧ Pb B b tProg 0 w' ∧ Below B w w' := by
 obtain ⟨wA, hwA⟩ : ∃ wA : World, wA = w.alloc (.cells #[.slice none 0 0, .slice none 0 0, .slice (some ⟨q, 0, none⟩) 1 1] 26) := ⟨_, rfl⟩
 have HBA : Hid (Below w.heap.size w wA) := hdn (by rw [hwA]; exact (Below.refl _ _).alloc (Nat.le_refl _) _)
 have HKA : Hid (Bk wA w.heap.size 26 #[.slice none 0 0, .slice none 0 0, .slice (some ⟨q, 0, none⟩) 1 1]) := hdn (by rw [hwA]; exact heap_alloc_new _ _)
 have c0 : wA.cell? ⟨w.heap.size, 0, none⟩ = some (.slice none 0 0) := HKA.out.cell 0
 have c1 : wA.cell? ⟨w.heap.size, 1, none⟩ = some (.slice none 0 0) := HKA.out.cell 1
 have c2 : wA.cell? ⟨w.heap.size, 2, none⟩ = some (.slice (some ⟨q, 0, none⟩) 1 1) := HKA.out.cell 2
 have CE := eachPc_sx B b q L wA (h.below HBA.out) (Nat.le_trans hBw HBA.out.size) hL hq0 (rangeAt_below hr HBA.out) (rangeAt_below hq HBA.out)
 have HB0 := hdn (HBA.out.mono hBw)
 clear h hr hq
 go_enter Tryz.func17, Tryz.ntmps17
 go_upto_region 1 with fail
 rw [← hwA]
 clear hwA
 obtain ⟨A, hA⟩ : ∃ A, A = w.heap.size := ⟨_, rfl⟩
 rw [← hA] at c0 c1 c2 ⊢
 clear hA
 go_wp2_with (first | (go_at_call 42; refine (eachSr_nil _ _ _ _).mono ?_; rintro e w3 ⟨rfl, rfl⟩) | (go_at_call 44; refine (eachDc_nil _ _ _ _).mono ?_; rintro e w3 ⟨rfl, rfl⟩) | (go_at_call 46; refine CE.mono ?_; rintro e w4 ⟨rfl, h4, hb⟩; have HP4 := hdn h4; have HB4 := hdn (HB0.out.trans hb); clear h4 hb))
 go_end0
 exact ⟨rfl, HP4.out, HB4.out⟩
end Go.Proofs.YtdlchhimkelinaaGreatDoor
namespace Go.Proofs.YtdlchhimkelinaaGreatDoor
open Go.RowKit Go.Sort
def tPB : ByteArray := ⟨tProg.toArray⟩
theorem nx0 : Tx.nx tPB (held tPB 0) = ⟨⟨3, 0, ⟨#[118, 111, 105, 100]⟩, 0⟩, 4, 0⟩ := by kernel_rfl
theorem cn0 (w : World) (hg : Gl w) : Calls Tryz.prog 48 #[.string tPB, .int .i64 0] w fun e w' => e = .returned (.tuple #[.agg #[.int .i64 3, .int .i64 0, .string ⟨#[118, 111, 105, 100]⟩, .int .i64 0], .int .i64 4, .int .i64 0]) ∧ Below w.heap.size w w' := by
 have := next_any tPB 0 w (by decide) hg
 rw [nx0] at this
 exact this
theorem nx1 : Tx.nx tPB (held tPB 4) = ⟨⟨1, 5, ⟨#[112]⟩, 0⟩, 6, 0⟩ := by kernel_rfl
theorem cn1 (w : World) (hg : Gl w) : Calls Tryz.prog 48 #[.string tPB, .int .i64 4] w fun e w' => e = .returned (.tuple #[.agg #[.int .i64 1, .int .i64 5, .string ⟨#[112]⟩, .int .i64 0], .int .i64 6, .int .i64 0]) ∧ Below w.heap.size w w' := by
 have := next_any tPB 4 w (by decide) hg
 rw [nx1] at this
 exact this
theorem nx2 : Tx.nx tPB (held tPB 6) = ⟨⟨4, 6, ⟨#[40]⟩, 0⟩, 7, 0⟩ := by kernel_rfl
theorem cn2 (w : World) (hg : Gl w) : Calls Tryz.prog 48 #[.string tPB, .int .i64 6] w fun e w' => e = .returned (.tuple #[.agg #[.int .i64 4, .int .i64 6, .string ⟨#[40]⟩, .int .i64 0], .int .i64 7, .int .i64 0]) ∧ Below w.heap.size w w' := by
 have := next_any tPB 6 w (by decide) hg
 rw [nx2] at this
 exact this
theorem nx3 : Tx.nx tPB (held tPB 7) = ⟨⟨4, 7, ⟨#[41]⟩, 0⟩, 8, 0⟩ := by kernel_rfl
theorem cn3 (w : World) (hg : Gl w) : Calls Tryz.prog 48 #[.string tPB, .int .i64 7] w fun e w' => e = .returned (.tuple #[.agg #[.int .i64 4, .int .i64 7, .string ⟨#[41]⟩, .int .i64 0], .int .i64 8, .int .i64 0]) ∧ Below w.heap.size w w' := by
 have := next_any tPB 7 w (by decide) hg
 rw [nx3] at this
 exact this
theorem nx4 : Tx.nx tPB (held tPB 8) = ⟨⟨4, 9, ⟨#[123]⟩, 0⟩, 10, 0⟩ := by kernel_rfl
theorem cn4 (w : World) (hg : Gl w) : Calls Tryz.prog 48 #[.string tPB, .int .i64 8] w fun e w' => e = .returned (.tuple #[.agg #[.int .i64 4, .int .i64 9, .string ⟨#[123]⟩, .int .i64 0], .int .i64 10, .int .i64 0]) ∧ Below w.heap.size w w' := by
 have := next_any tPB 8 w (by decide) hg
 rw [nx4] at this
 exact this
theorem nx5 : Tx.nx tPB (held tPB 10) = ⟨⟨1, 13, ⟨#[120]⟩, 0⟩, 14, 0⟩ := by kernel_rfl
theorem cn5 (w : World) (hg : Gl w) : Calls Tryz.prog 48 #[.string tPB, .int .i64 10] w fun e w' => e = .returned (.tuple #[.agg #[.int .i64 1, .int .i64 13, .string ⟨#[120]⟩, .int .i64 0], .int .i64 14, .int .i64 0]) ∧ Below w.heap.size w w' := by
 have := next_any tPB 10 w (by decide) hg
 rw [nx5] at this
 exact this
theorem nx6 : Tx.nx tPB (held tPB 14) = ⟨⟨4, 15, ⟨#[61]⟩, 0⟩, 16, 0⟩ := by kernel_rfl
theorem cn6 (w : World) (hg : Gl w) : Calls Tryz.prog 48 #[.string tPB, .int .i64 14] w fun e w' => e = .returned (.tuple #[.agg #[.int .i64 4, .int .i64 15, .string ⟨#[61]⟩, .int .i64 0], .int .i64 16, .int .i64 0]) ∧ Below w.heap.size w w' := by
 have := next_any tPB 14 w (by decide) hg
 rw [nx6] at this
 exact this
theorem nx7 : Tx.nx tPB (held tPB 16) = ⟨⟨3, 17, ⟨#[110, 117, 108, 108]⟩, 0⟩, 21, 0⟩ := by kernel_rfl
theorem cn7 (w : World) (hg : Gl w) : Calls Tryz.prog 48 #[.string tPB, .int .i64 16] w fun e w' => e = .returned (.tuple #[.agg #[.int .i64 3, .int .i64 17, .string ⟨#[110, 117, 108, 108]⟩, .int .i64 0], .int .i64 21, .int .i64 0]) ∧ Below w.heap.size w w' := by
 have := next_any tPB 16 w (by decide) hg
 rw [nx7] at this
 exact this
theorem nx8 : Tx.nx tPB (held tPB 21) = ⟨⟨4, 21, ⟨#[59]⟩, 0⟩, 22, 0⟩ := by kernel_rfl
theorem cn8 (w : World) (hg : Gl w) : Calls Tryz.prog 48 #[.string tPB, .int .i64 21] w fun e w' => e = .returned (.tuple #[.agg #[.int .i64 4, .int .i64 21, .string ⟨#[59]⟩, .int .i64 0], .int .i64 22, .int .i64 0]) ∧ Below w.heap.size w w' := by
 have := next_any tPB 21 w (by decide) hg
 rw [nx8] at this
 exact this
theorem nx9 : Tx.nx tPB (held tPB 22) = ⟨⟨4, 23, ⟨#[125]⟩, 0⟩, 24, 0⟩ := by kernel_rfl
theorem cn9 (w : World) (hg : Gl w) : Calls Tryz.prog 48 #[.string tPB, .int .i64 22] w fun e w' => e = .returned (.tuple #[.agg #[.int .i64 4, .int .i64 23, .string ⟨#[125]⟩, .int .i64 0], .int .i64 24, .int .i64 0]) ∧ Below w.heap.size w w' := by
 have := next_any tPB 22 w (by decide) hg
 rw [nx9] at this
 exact this
theorem nx10 : Tx.nx tPB (held tPB 24) = ⟨⟨0, 25, ⟨#[]⟩, 0⟩, 25, 0⟩ := by kernel_rfl
theorem cn10 (w : World) (hg : Gl w) : Calls Tryz.prog 48 #[.string tPB, .int .i64 24] w fun e w' => e = .returned (.tuple #[.agg #[.int .i64 0, .int .i64 25, .string ⟨#[]⟩, .int .i64 0], .int .i64 25, .int .i64 0]) ∧ Below w.heap.size w w' := by
 have := next_any tPB 24 w (by decide) hg
 rw [nx10] at this
 exact this
theorem least_sx (w : World) (hg : Gl w) : Calls Tryz.prog 19 #[.string tPB] w fun e w' => e = .returned (.int .i64 17) ∧ Below w.heap.size w w' := by
 have HG := hdn hg
 clear hg
 obtain ⟨T, hT⟩ : ∃ T, T = tPB := ⟨_, rfl⟩
 have HT := hdn hT
 rw [← hT]
 clear hT
 go_enter Tryz.func19, Tryz.ntmps19
 go_wp2_with fail
 go_loopw [3, 4, 5] (fun s d a wr => Hid (Below w.heap.size w wr) ∧ ((s = .int .i64 0 ∧ d = .bool false ∧ a = .int .i64 0) ∨ (s = .int .i64 4 ∧ d = .bool true ∧ a = .int .i64 4) ∨ (s = .int .i64 6 ∧ d = .bool true ∧ a = .int .i64 6) ∨ (s = .int .i64 7 ∧ d = .bool false ∧ a = .int .i64 7) ∨ (s = .int .i64 8 ∧ d = .bool false ∧ a = .int .i64 8) ∨ (s = .int .i64 9 ∧ d = .bool false ∧ a = .int .i64 10) ∨ (s = .int .i64 10 ∧ d = .bool true ∧ a = .int .i64 14) ∨ (s = .int .i64 11 ∧ d = .bool false ∧ a = .int .i64 16) ∨ (s = .int .i64 15 ∧ d = .bool true ∧ a = .int .i64 21) ∨ (s = .int .i64 16 ∧ d = .bool false ∧ a = .int .i64 22) ∨ (s = .int .i64 17 ∧ d = .bool false ∧ a = .int .i64 24))) (fun _ _ a _ => 25 - (intOf a).toNat)
 case atStart => exact ⟨hdn (Below.refl _ _), .inl ⟨rfl, rfl, rfl⟩⟩
 case round =>
  obtain ⟨HB, hrel⟩ := hrel
  have HGW := hdn (HG.out.below HB.out HG.out.two)
  rcases hrel with ⟨rfl, rfl, rfl⟩ | ⟨rfl, rfl, rfl⟩ | ⟨rfl, rfl, rfl⟩ | ⟨rfl, rfl, rfl⟩ | ⟨rfl, rfl, rfl⟩ | ⟨rfl, rfl, rfl⟩ | ⟨rfl, rfl, rfl⟩ | ⟨rfl, rfl, rfl⟩ | ⟨rfl, rfl, rfl⟩ | ⟨rfl, rfl, rfl⟩ | ⟨rfl, rfl, rfl⟩
  ·have CN := cn0 wr HGW.out
   rw [← HT.out] at CN
   go_wp2_with (go_at_call 48; refine CN.mono ?_; rintro en w1 ⟨rfl, hb⟩; have HB1 := hdn (HB.out.trans (hb.mono HB.out.size)); have HB2 := hdn (HB1.out.alloc HB1.out.size (.cells #[.int .i64 3, .int .i64 0, .string ⟨#[118, 111, 105, 100]⟩, .int .i64 0] 106)); clear hb)
   go_roundw
   case rel => exact ⟨HB2, (.inr (.inl ⟨rfl, rfl, rfl⟩))⟩
   case measure => simp [intOf]
  ·have CN := cn1 wr HGW.out
   rw [← HT.out] at CN
   go_wp2_with (go_at_call 48; refine CN.mono ?_; rintro en w1 ⟨rfl, hb⟩; have HB1 := hdn (HB.out.trans (hb.mono HB.out.size)); have HB2 := hdn (HB1.out.alloc HB1.out.size (.cells #[.int .i64 1, .int .i64 5, .string ⟨#[112]⟩, .int .i64 0] 106)); clear hb)
   go_roundw
   case rel => exact ⟨HB2, (.inr (.inr (.inl ⟨rfl, rfl, rfl⟩)))⟩
   case measure => simp [intOf]
  ·have CN := cn2 wr HGW.out
   rw [← HT.out] at CN
   go_wp2_with (go_at_call 48; refine CN.mono ?_; rintro en w1 ⟨rfl, hb⟩; have HB1 := hdn (HB.out.trans (hb.mono HB.out.size)); have HB2 := hdn (HB1.out.alloc HB1.out.size (.cells #[.int .i64 4, .int .i64 6, .string ⟨#[40]⟩, .int .i64 0] 106)); clear hb)
   go_roundw
   case rel => exact ⟨HB2, (.inr (.inr (.inr (.inl ⟨rfl, rfl, rfl⟩))))⟩
   case measure => simp [intOf]
  ·have CN := cn3 wr HGW.out
   rw [← HT.out] at CN
   go_wp2_with (go_at_call 48; refine CN.mono ?_; rintro en w1 ⟨rfl, hb⟩; have HB1 := hdn (HB.out.trans (hb.mono HB.out.size)); have HB2 := hdn (HB1.out.alloc HB1.out.size (.cells #[.int .i64 4, .int .i64 7, .string ⟨#[41]⟩, .int .i64 0] 106)); clear hb)
   go_roundw
   case rel => exact ⟨HB2, (.inr (.inr (.inr (.inr (.inl ⟨rfl, rfl, rfl⟩)))))⟩
   case measure => simp [intOf]
  ·have CN := cn4 wr HGW.out
   rw [← HT.out] at CN
   go_wp2_with (go_at_call 48; refine CN.mono ?_; rintro en w1 ⟨rfl, hb⟩; have HB1 := hdn (HB.out.trans (hb.mono HB.out.size)); have HB2 := hdn (HB1.out.alloc HB1.out.size (.cells #[.int .i64 4, .int .i64 9, .string ⟨#[123]⟩, .int .i64 0] 106)); clear hb)
   go_roundw
   case rel => exact ⟨HB2, (.inr (.inr (.inr (.inr (.inr (.inl ⟨rfl, rfl, rfl⟩))))))⟩
   case measure => simp [intOf]
  ·have CN := cn5 wr HGW.out
   rw [← HT.out] at CN
   go_wp2_with (go_at_call 48; refine CN.mono ?_; rintro en w1 ⟨rfl, hb⟩; have HB1 := hdn (HB.out.trans (hb.mono HB.out.size)); have HB2 := hdn (HB1.out.alloc HB1.out.size (.cells #[.int .i64 1, .int .i64 13, .string ⟨#[120]⟩, .int .i64 0] 106)); clear hb)
   go_roundw
   case rel => exact ⟨HB2, (.inr (.inr (.inr (.inr (.inr (.inr (.inl ⟨rfl, rfl, rfl⟩)))))))⟩
   case measure => simp [intOf]
  ·have CN := cn6 wr HGW.out
   rw [← HT.out] at CN
   go_wp2_with (go_at_call 48; refine CN.mono ?_; rintro en w1 ⟨rfl, hb⟩; have HB1 := hdn (HB.out.trans (hb.mono HB.out.size)); have HB2 := hdn (HB1.out.alloc HB1.out.size (.cells #[.int .i64 4, .int .i64 15, .string ⟨#[61]⟩, .int .i64 0] 106)); clear hb)
   go_roundw
   case rel => exact ⟨HB2, (.inr (.inr (.inr (.inr (.inr (.inr (.inr (.inl ⟨rfl, rfl, rfl⟩))))))))⟩
   case measure => simp [intOf]
  ·have CN := cn7 wr HGW.out
   rw [← HT.out] at CN
   go_wp2_with (go_at_call 48; refine CN.mono ?_; rintro en w1 ⟨rfl, hb⟩; have HB1 := hdn (HB.out.trans (hb.mono HB.out.size)); have HB2 := hdn (HB1.out.alloc HB1.out.size (.cells #[.int .i64 3, .int .i64 17, .string ⟨#[110, 117, 108, 108]⟩, .int .i64 0] 106)); clear hb)
   go_roundw
   case rel => exact ⟨HB2, (.inr (.inr (.inr (.inr (.inr (.inr (.inr (.inr (.inl ⟨rfl, rfl, rfl⟩)))))))))⟩
   case measure => simp [intOf]
  ·have CN := cn8 wr HGW.out
   rw [← HT.out] at CN
   go_wp2_with (go_at_call 48; refine CN.mono ?_; rintro en w1 ⟨rfl, hb⟩; have HB1 := hdn (HB.out.trans (hb.mono HB.out.size)); have HB2 := hdn (HB1.out.alloc HB1.out.size (.cells #[.int .i64 4, .int .i64 21, .string ⟨#[59]⟩, .int .i64 0] 106)); clear hb)
   go_roundw
   case rel => exact ⟨HB2, (.inr (.inr (.inr (.inr (.inr (.inr (.inr (.inr (.inr (.inl ⟨rfl, rfl, rfl⟩))))))))))⟩
   case measure => simp [intOf]
  ·have CN := cn9 wr HGW.out
   rw [← HT.out] at CN
   go_wp2_with (go_at_call 48; refine CN.mono ?_; rintro en w1 ⟨rfl, hb⟩; have HB1 := hdn (HB.out.trans (hb.mono HB.out.size)); have HB2 := hdn (HB1.out.alloc HB1.out.size (.cells #[.int .i64 4, .int .i64 23, .string ⟨#[125]⟩, .int .i64 0] 106)); clear hb)
   go_roundw
   case rel => exact ⟨HB2, (.inr (.inr (.inr (.inr (.inr (.inr (.inr (.inr (.inr (.inr ⟨rfl, rfl, rfl⟩))))))))))⟩
   case measure => simp [intOf]
  ·have CN := cn10 wr HGW.out
   rw [← HT.out] at CN
   go_wp2_with (go_at_call 48; refine CN.mono ?_; rintro en w1 ⟨rfl, hb⟩; have HB1 := hdn (HB.out.trans (hb.mono HB.out.size)); have HB2 := hdn (HB1.out.alloc HB1.out.size (.cells #[.int .i64 0, .int .i64 25, .string ⟨#[]⟩, .int .i64 0] 106)); clear hb)
   go_ret
   exact ⟨rfl, HB2.out⟩
end Go.Proofs.YtdlchhimkelinaaGreatDoor
namespace Go.Proofs.YtdlchhimkelinaaGreatDoor
open Go.RowKit Go.Sort
theorem Pb.new (w : World) : Pb w.heap.size w.heap.size [] 0 (w.alloc (.cells #[.pointer none, .slice none 0 0, .int .i64 0] 61)) :=
 .inl ⟨Nat.le_refl _, .slice none 0 0, heap_alloc_new _ _, ⟨rfl, .inl ⟨rfl, rfl⟩⟩, by intro e; cases e⟩
theorem printP_sx (q L : Nat) (w : World) (hg : Gl w) (hL : L < w.heap.size) (hq0 : q < w.heap.size) (hr : w.rangeAt L 0 sx.cells) (hq : w.rangeAt q 0 (pcs L)) :
  Calls Tryz.prog 8 #[.agg #[.slice none 0 0, .slice none 0 0, .slice (some ⟨q, 0, none⟩) 1 1]] w fun e w' => e = .returned (.tuple #[.string tPB, .int .i64 0]) ∧ Below w.heap.size w w' := by
 have HG := hdn hg; have HR := hdn hr; have HQ := hdn hq; have HL := hdn hL; have HQ0 := hdn hq0
 clear hg hr hq hL hq0
 obtain ⟨wA, hwA⟩ : ∃ wA : World, wA = w.alloc (.cells #[.slice none 0 0, .slice none 0 0, .slice (some ⟨q, 0, none⟩) 1 1] 26) := ⟨_, rfl⟩
 have HBA : Hid (Below w.heap.size w wA) := hdn (by rw [hwA]; exact (Below.refl _ _).alloc (Nat.le_refl _) _)
 have HKA : Hid (Bk wA w.heap.size 26 #[.slice none 0 0, .slice none 0 0, .slice (some ⟨q, 0, none⟩) 1 1]) := hdn (by rw [hwA]; exact heap_alloc_new _ _)
 have c0 : wA.cell? ⟨w.heap.size, 0, none⟩ = some (.slice none 0 0) := HKA.out.cell 0
 have c1 : wA.cell? ⟨w.heap.size, 1, none⟩ = some (.slice none 0 0) := HKA.out.cell 1
 have c2 : wA.cell? ⟨w.heap.size, 2, none⟩ = some (.slice (some ⟨q, 0, none⟩) 1 1) := HKA.out.cell 2
 have CH := hasForm_sx q L wA (HG.out.below HBA.out HG.out.two) (Nat.lt_of_lt_of_le HL.out HBA.out.size) (rangeAt_below HR.out HBA.out) (rangeAt_below HQ.out HBA.out)
 have HKC := HKA.out.lt
 go_enter Tryz.func8, Tryz.ntmps8
 go_upto_region 1 with fail
 rw [← hwA]
 clear hwA
 obtain ⟨A, hA⟩ : ∃ A, A = w.heap.size := ⟨_, rfl⟩
 rw [← hA] at c0 c1 c2 HKA HKC ⊢
 clear hA
 go_upto_region 3 with (go_at_call 16; refine CH.mono ?_; rintro e w1 ⟨rfl, hb⟩; have HB1 := hdn hb; clear hb)
 clear c0 c1 c2 CH
 obtain ⟨wB, hwB⟩ : ∃ wB : World, wB = w1.alloc (.cells #[.pointer none, .slice none 0 0, .int .i64 0] 61) := ⟨_, rfl⟩
 have HP0 : Hid (Pb w1.heap.size w1.heap.size [] 0 wB) := hdn (by rw [hwB]; exact Pb.new w1)
 have HBB : Hid (Below w1.heap.size w1 wB) := hdn (by rw [hwB]; exact (Below.refl _ _).alloc (Nat.le_refl _) _)
 have HBW : Hid (Below w.heap.size w w1) := hdn (HBA.out.trans (HB1.out.mono HBA.out.size))
 have HBX : Hid (Below w.heap.size w wB) := hdn (HBW.out.trans (HBB.out.mono HBW.out.size))
 have HK1 := hdn ((HKA.out.below HB1.out HKA.out.lt).below HBB.out (HKA.out.below HB1.out HKA.out.lt).lt)
 go_upto_region 4 with fail
 rw [← hwB]
 clear hwB
 obtain ⟨b, hb0⟩ : ∃ b, b = w1.heap.size := ⟨_, rfl⟩
 have c0 : wB.cell? ⟨A, 0, none⟩ = some (.slice none 0 0) := HK1.out.cell 0
 have c1 : wB.cell? ⟨A, 1, none⟩ = some (.slice none 0 0) := HK1.out.cell 1
 have c2 : wB.cell? ⟨A, 2, none⟩ = some (.slice (some ⟨q, 0, none⟩) 1 1) := HK1.out.cell 2
 have CP := program_sx w1.heap.size w1.heap.size q L wB HP0.out HBB.out.size (Nat.lt_of_lt_of_le HL.out HBW.out.size) (Nat.lt_of_lt_of_le HQ0.out HBW.out.size) (rangeAt_below HR.out HBX.out) (rangeAt_below HQ.out HBX.out)
 have HSZ := hdn HBW.out.size
 have HG1 := hdn (HG.out.below HBX.out HG.out.two)
 have HS : Hid (∀ w', Pb w1.heap.size w1.heap.size tProg 0 w' → Calls Tryz.prog 18 #[.pointer (some ⟨w1.heap.size, 0, none⟩)] w' fun e w'' => e = .returned (.string tPB) ∧ Below w1.heap.size w' w'') := hdn (fun w' h => string_any _ _ tProg 0 w' h (by decide))
 rw [← hb0] at CP HS HSZ ⊢
 have HB0 := hdn hb0
 clear hb0
 have HGB : Hid (∀ w', Below w.heap.size wB w' → Gl w') := hdn (fun w' h => HG1.out.below h HG.out.two)
 go_wp2_with (first | (go_at_call 17; refine CP.mono ?_; rintro e w2 ⟨rfl, h2, hb⟩; have HP2 := hdn h2; have HB2 := hdn (Below.mono hb HSZ.out); clear h2 hb) | (go_at_call 18; refine (HS.out _ HP2.out).mono ?_; rintro e w3 ⟨rfl, hb⟩; have HB3 := hdn (HB2.out.trans (hb.mono HSZ.out)); clear hb) | (go_at_call 19; refine (least_sx _ (HGB.out _ HB3.out)).mono ?_; rintro e w4 ⟨rfl, hb⟩; have HB4 := hdn (HB3.out.trans (hb.mono (Nat.le_trans HBX.out.size HB3.out.size))); clear hb))
 refine bodyPost_ret (results_tmp2 rfl _ _ _) rfl ?_
 exact ⟨rfl, HBX.out.trans HB4.out⟩
theorem rightP_sx (q L : Nat) (w : World) (hg : Gl w) (hL : L < w.heap.size) (hq0 : q < w.heap.size) (hr : w.rangeAt L 0 sx.cells) (hq : w.rangeAt q 0 (pcs L)) :
  Calls Tryz.prog 9 #[.agg #[.slice none 0 0, .slice none 0 0, .slice (some ⟨q, 0, none⟩) 1 1]] w fun e w' => e = .returned (.bool true) ∧ Below w.heap.size w w' := by
 obtain ⟨wA, hwA⟩ : ∃ wA : World, wA = w.alloc (.cells #[.slice none 0 0, .slice none 0 0, .slice (some ⟨q, 0, none⟩) 1 1] 26) := ⟨_, rfl⟩
 have HBA : Hid (Below w.heap.size w wA) := hdn (by rw [hwA]; exact (Below.refl _ _).alloc (Nat.le_refl _) _)
 have HKA : Hid (Bk wA w.heap.size 26 #[.slice none 0 0, .slice none 0 0, .slice (some ⟨q, 0, none⟩) 1 1]) := hdn (by rw [hwA]; exact heap_alloc_new _ _)
 have c0 : wA.cell? ⟨w.heap.size, 0, none⟩ = some (.slice none 0 0) := HKA.out.cell 0
 have c1 : wA.cell? ⟨w.heap.size, 1, none⟩ = some (.slice none 0 0) := HKA.out.cell 1
 have c2 : wA.cell? ⟨w.heap.size, 2, none⟩ = some (.slice (some ⟨q, 0, none⟩) 1 1) := HKA.out.cell 2
 have CP := printP_sx q L wA (hg.below HBA.out hg.two) (Nat.lt_of_lt_of_le hL HBA.out.size) (Nat.lt_of_lt_of_le hq0 HBA.out.size) (rangeAt_below hr HBA.out) (rangeAt_below hq HBA.out)
 clear hg hr hq hL hq0
 go_enter Tryz.func9, Tryz.ntmps9
 go_upto_region 1 with fail
 rw [← hwA]
 clear hwA
 obtain ⟨A, hA⟩ : ∃ A, A = w.heap.size := ⟨_, rfl⟩
 rw [← hA] at c0 c1 c2 ⊢
 clear hA
 go_wp2_with (go_at_call 8; refine CP.mono ?_; rintro e w1 ⟨rfl, hb⟩; have HB1 := hdn (HBA.out.trans (hb.mono HBA.out.size)); clear hb)
 go_ret
 exact ⟨rfl, HB1.out⟩
end Go.Proofs.YtdlchhimkelinaaGreatDoor
namespace Go.Proofs.YtdlchhimkelinaaGreatDoor
open Go.RowKit Go.Sort
def tLine : ByteArray := ⟨#[120, 32, 61, 32, 110, 117, 108, 108, 59, 10]⟩
theorem pcs_built (L : Nat) : Tryz.prog.built 40 [(0, .string nP), (5, .slice (some ⟨L, 0, none⟩) 1 1)] = some (pcs L).toArray := by kernel_rfl
theorem sx_built : Tryz.prog.built 54 [(0, .int .i64 1), (2, .agg #[.string nX, .int .i64 0, .slice none 0 0])] = some sx.cells.toArray := by kernel_rfl
/-- A struct literal of two parts. -/
theorem wpList_build2 {P : Program} {ops : Array Oper} {rest : List Oper} {op : Oper} {a : Act} {w : World} {Q : Exit → Act → World → Prop} (hg : op.guard = none) (t : TypeId) (i j : Nat) (x y : Operand) (u v : Value) (ho : op.op = .build t #[(i, x), (j, y)])
  (hx : a.eval x = u) (hy : a.eval y = v) (cells : Array Value) (hf : P.built t [(i, u), (j, v)] = some cells)
  (h : wpList P ops Q rest (a.put op.dst (.agg cells)) w) : wpList P ops Q (op :: rest) a w :=
 wpList_plain hg fun K hK => by
  unfold Oper.wp execOp
  have hr := run_build (P := P) w t #[(i, u), (j, v)] cells (by simpa using hf)
  simp only [ho, Sem.run_bind, List.map_toArray, List.map_cons, List.map_nil, hx, hy, hr, Result.andThen_ok]
  exact hK _ _ (by simpa using h)
theorem stmts_sx (L : Nat) (w : World) (hg : Gl w) (hL : L < w.heap.size) (hr : w.rangeAt L 0 sx.cells) :
  Calls Tryz.prog 15 #[.slice (some ⟨L, 0, none⟩) 1 1] w fun e w' => e = .returned (.tuple #[.string tLine, .int .i64 0]) ∧ Below w.heap.size w w' := by
 obtain ⟨i1, z1, q1, q2, q3⟩ := infoParts info40
 have HI := hdn q1; have HI2 := hdn q2; have HI3 := hdn q3
 have HG := hdn hg; have HR := hdn hr; have HL := hdn hL
 obtain ⟨cs, hcs⟩ : ∃ cs, cs = (pcs L).toArray := ⟨_, rfl⟩
 have HBL : Hid (Tryz.prog.built 40 [(0, .string nP), (5, .slice (some ⟨L, 0, none⟩) 1 1)] = some cs) := hdn (by rw [hcs]; exact pcs_built L)
 have HZ : Hid (6 = cs.size) := hdn (by rw [hcs]; rfl)
 obtain ⟨wA, hwA⟩ : ∃ wA : World, wA = w.alloc (.cells cs 40) := ⟨_, rfl⟩
 have HBA : Hid (Below w.heap.size w wA) := hdn (by rw [hwA]; exact (Below.refl _ _).alloc (Nat.le_refl _) _)
 have HKA : Hid (Bk wA w.heap.size 40 cs) := hdn (by rw [hwA]; exact heap_alloc_new _ _)
 have HW := hdn hwA
 have CR := rightP_sx w.heap.size L wA (hg.below HBA.out hg.two) (Nat.lt_of_lt_of_le hL HBA.out.size) HKA.out.lt (rangeAt_below hr HBA.out) (by have := HKA.out.range; rw [hcs] at this; exact this)
 clear hg hr hL hcs hwA q1 q2 q3
 go_enter Tryz.func15, Tryz.ntmps15
 go_upto_region 3 with (first | ((with_reducible show wpList _ _ _ (Oper.mk (some 6) _ _ _ _ _ :: _) _ _); refine wpList_build2 rfl 40 0 5 _ (.tmp 5) (.string nP) (.slice (some ⟨L, 0, none⟩) 1 1) rfl rfl rfl cs HBL.out ?_) | ((with_reducible show wpList _ _ _ (Oper.mk (some 7) _ _ _ _ _ :: _) _ _); refine wpList_one rfl 24 40 (.tmp 6) rfl cs rfl Tryz.underlying24 i1 z1 6 HI.out HI2.out HI3.out (by omega) (by omega) HZ.out ?_; rw [← HW.out]) | (go_at_call 9; refine CR.mono ?_; rintro e w1 ⟨rfl, hb⟩; have HB1 := hdn (HBA.out.trans (hb.mono HBA.out.size)); clear hb))
 clear CR
 obtain ⟨wB, hwB⟩ : ∃ wB : World, wB = w1.alloc (.cells #[.pointer none, .slice none 0 0, .int .i64 0] 61) := ⟨_, rfl⟩
 have HP0 : Hid (Pb w1.heap.size w1.heap.size [] ((0 : Nat) : Int) wB) := hdn (by rw [hwB]; exact Pb.new w1)
 have HBB : Hid (Below w1.heap.size w1 wB) := hdn (by rw [hwB]; exact (Below.refl _ _).alloc (Nat.le_refl _) _)
 have HBX : Hid (Below w.heap.size w wB) := hdn (HB1.out.trans (HBB.out.mono HB1.out.size))
 go_upto_region 4 with fail
 rw [← hwB]
 clear hwB
 obtain ⟨b, hb0⟩ : ∃ b, b = w1.heap.size := ⟨_, rfl⟩
 have CE := eachSt_sx w1.heap.size w1.heap.size [] 0 L 0 1 wB HP0.out (by decide) (by decide) HBB.out.size (rangeAt_below HR.out HBX.out)
 have HSZ := hdn HB1.out.size
 have HS : Hid (∀ w', Pb w1.heap.size w1.heap.size ([] ++ Pn.pad 0 ++ tSx ++ [10]) ((0 : Nat) : Int) w' → Calls Tryz.prog 18 #[.pointer (some ⟨w1.heap.size, 0, none⟩)] w' fun e w'' => e = .returned (.string tLine) ∧ Below w1.heap.size w' w'') := hdn (fun w' h => string_any _ _ _ _ w' h (by decide))
 rw [← hb0] at CE HS HSZ ⊢
 clear hb0
 go_wp2_with (first | (go_at_call 34; refine CE.mono ?_; rintro e w2 ⟨rfl, h2, hb⟩; have HP2 := hdn h2; have HB2 := hdn (Below.mono hb HSZ.out); clear h2 hb) | (go_at_call 18; refine (HS.out _ HP2.out).mono ?_; rintro e w3 ⟨rfl, hb⟩; have HB3 := hdn (HB2.out.trans (hb.mono HSZ.out)); clear hb))
 refine bodyPost_ret (results_tmp2 rfl _ _ _) rfl ?_
 exact ⟨rfl, HBX.out.trans HB3.out⟩
/-- The page's example. -/
theorem lives_any (w : World) (hg : Gl w) : Calls Tryz.prog 7 #[] w fun e w' => e = .returned (.bool true) ∧ Below w.heap.size w w' := by
 obtain ⟨i1, z1, q1, q2, q3⟩ := infoParts info54
 have HI := hdn q1; have HI2 := hdn q2; have HI3 := hdn q3
 obtain ⟨cs, hcs⟩ : ∃ cs, cs = sx.cells.toArray := ⟨_, rfl⟩
 have HBL : Hid (Tryz.prog.built 54 [(0, .int .i64 1), (2, .agg #[.string nX, .int .i64 0, .slice none 0 0])] = some cs) := hdn (by rw [hcs]; exact sx_built)
 have HZ : Hid (48 = cs.size) := hdn (by rw [hcs]; rfl)
 obtain ⟨wA, hwA⟩ : ∃ wA : World, wA = w.alloc (.cells cs 54) := ⟨_, rfl⟩
 have HBA : Hid (Below w.heap.size w wA) := hdn (by rw [hwA]; exact (Below.refl _ _).alloc (Nat.le_refl _) _)
 have HKA : Hid (Bk wA w.heap.size 54 cs) := hdn (by rw [hwA]; exact heap_alloc_new _ _)
 have HW := hdn hwA
 have CR := stmts_sx w.heap.size wA (hg.below HBA.out hg.two) HKA.out.lt (by have := HKA.out.range; rw [hcs] at this; exact this)
 clear hg hcs hwA q1 q2 q3
 have HT : Hid ((tLine.toList == (⟨#[120, 32, 61, 32, 110, 117, 108, 108, 59, 10]⟩ : ByteArray).toList) = true) := hdn (by rw [beq_iff_eq]; rfl)
 go_enter Tryz.func7, Tryz.ntmps7
 go_wp2_with (first | ((with_reducible show wpList _ _ _ (Oper.mk (some 5) _ _ _ _ _ :: _) _ _); refine wpList_build2 rfl 54 0 2 _ (.tmp 4) (.int .i64 1) (.agg #[.string nX, .int .i64 0, .slice none 0 0]) rfl rfl rfl cs HBL.out ?_) | ((with_reducible show wpList _ _ _ (Oper.mk (some 6) _ _ _ _ _ :: _) _ _); refine wpList_one rfl 38 54 (.tmp 5) rfl cs rfl Tryz.underlying38 i1 z1 48 HI.out HI2.out HI3.out (by omega) (by omega) HZ.out ?_; rw [← HW.out]) | (go_at_call 15; refine CR.mono ?_; rintro e w1 ⟨rfl, hb⟩; have HB1 := hdn (HBA.out.trans (hb.mono HBA.out.size)); clear hb))
 go_ret
 exact ⟨by first | rfl | (simp [tLine]), HB1.out⟩
end Go.Proofs.YtdlchhimkelinaaGreatDoor
