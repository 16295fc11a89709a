/-
  The printer at the page's procedure. The printer's lines, and that they leave all other blocks as they are. The printer: lines, declarations, structs.
-/
import Derived.Test.YtdlchhimkelinaaGreatDoorK08
import Derived.Test.YtdlchhimkelinaaGreatDoorK03
set_option maxHeartbeats 6400000
set_option maxRecDepth 100000
namespace Go.Proofs.YtdlchhimkelinaaGreatDoor
open Go.RowKit Go.Sort
theorem Pb.below {B b : Nat} {l : List UInt8} {op : Int} {w w' : World} (h : Pb B b l op w) (hb : Below w.heap.size w w') : Pb B b l op w' := by
 have go : ∀ a, PbA B b l op a w → PbA B b l op a w' := by
  rintro a ⟨hB, v, hk, ho, hn⟩
  have hlt : b < w.heap.size := (Array.getElem?_eq_some_iff.1 hk).1
  refine ⟨hB, v, (hb.block b hlt).trans hk, ho.kept (grownBy_of hb none) ?_, hn⟩
  cases hv : v.ownBlock with
  | none => exact .inl rfl
  | some k => exact .inr (by intro e; cases e)
 exact h.elim (fun x => .inl (go _ x)) (fun x => .inr (go _ x))
theorem Pb.drew {B b : Nat} {l : List UInt8} {op : Int} {w : World} (h : Pb B b l op w) (n : Nat) : Pb B b l op (w.drewN n) := h.below (below_drewN_ (Below.refl _ _) n)
def tVp : ByteArray := ⟨#[118, 111, 105, 100, 32, 112, 40, 41, 32]⟩
theorem tVp_eq : (⟨#[118, 111, 105, 100, 32]⟩ : ByteArray) ++ nP ++ ⟨#[40]⟩ ++ ⟨#[41, 32]⟩ = tVp := by rfl
/-- void p() {, x = null;, } -/
def tProg : List UInt8 := [118, 111, 105, 100, 32, 112, 40, 41, 32, 123, 10, 32, 32, 120, 32, 61, 32, 110, 117, 108, 108, 59, 10, 125, 10]
theorem procT_sx (B b q L : Nat) (w : World) (h : Pb B b [] 0 w) (hBw : B ≤ w.heap.size) (hL : L < B) (hq0 : q < B) (hr : w.rangeAt L 0 sx.cells) (hq : w.rangeAt q 0 (pcs L)) :
  Calls Tryz.prog 47 #[.pointer (some ⟨b, 0, none⟩), .pointer (some ⟨q, 0, none⟩)] w fun e w' => e = .returned (.tuple #[]) ∧ Pb B b tProg 0 w' ∧ Below B w w' := by
 have HQ : Hid (∀ w', Below B w w' → w'.cell? ⟨q, 0, none⟩ = some (.string nP) ∧ w'.cell? ⟨q, 3, none⟩ = some (.slice none 0 0) ∧ w'.cell? ⟨q, 4, none⟩ = some (.slice none 0 0) ∧ w'.cell? ⟨q, 5, none⟩ = some (.slice (some ⟨L, 0, none⟩) 1 1)) := hdn (fun w' hb => by
  have g : ∀ j v, (pcs L)[j]? = some v → w'.cell? ⟨q, j, none⟩ = some v := fun j v hv => by
   have := hq j v hv
   rw [Nat.zero_add] at this
   exact (hb.cell (p := ⟨q, j, none⟩) hq0).trans this
  exact ⟨g 0 _ rfl, g 3 _ rfl, g 4 _ rfl, g 5 _ rfl⟩)
 have HR : Hid (∀ w', Below B w w' → w'.rangeAt L 0 sx.cells) := hdn (fun w' hb j v hv => (hb.cell (p := ⟨L, 0 + j, none⟩) hL).trans (hr j v hv))
 have HP := hdn h
 have HBW := hdn hBw
 obtain ⟨q0, q3, _, _⟩ := HQ.out w (Below.refl _ _)
 have CC : Hid (∀ n f, Calls Tryz.prog 86 #[.slice none 0 0, f] (w.drewN n) fun e w' => e = .returned (.string ByteArray.empty) ∧ Below w.heap.size (w.drewN n) w') := hdn (fun n f => commas_nil none 0 f (w.drewN n))
 have CB : Hid (∀ w', Below w.heap.size w w' → Calls Tryz.prog 83 #[.pointer (some ⟨b, 0, none⟩), .string tVp] w' fun e w'' => e = .returned (.tuple #[]) ∧ Pb B b ([] ++ Pn.pad 0 ++ (tVp.data.toList ++ [123]) ++ [10]) 1 w'' ∧ Below B w' w'') :=
  hdn (fun w' hb => begin_any B b [] 0 tVp w' (HP.out.below hb) (by decide) (by decide) (by decide) (Nat.le_trans HBW.out hb.size))
 clear h hq hr hBw
 go_enter Tryz.func47, Tryz.ntmps47
 go_wp2_with fail
 go_region_with (first | (go_at_call 86; refine (CC.out _ _).mono ?_; rintro e w1 ⟨rfl, hb⟩; have HB1 := hdn ((below_drewN_ (Below.refl w.heap.size w) 1).trans hb); have r0 := (HQ.out w1 (HB1.out.mono HBW.out)).1; clear hb) | (rw [tVp_eq]; go_at_call 83; refine (CB.out _ HB1.out).mono ?_; rintro e w2 ⟨rfl, h2, hb⟩; have HP2 := hdn h2; have HB2 := hdn ((HB1.out.mono HBW.out).trans hb); clear h2 hb))
 all_goals
  have CE : Hid (∀ w', Below B w w' → Pb B b ([] ++ Pn.pad 0 ++ (tVp.data.toList ++ [123]) ++ [10]) 1 w' → Calls Tryz.prog 34 #[.slice (some ⟨L, 0, none⟩) 1 1, .func (.func 35) #[.pointer (some ⟨b, 0, none⟩)] #[]] w' fun e w'' => e = .returned (.tuple #[]) ∧ Pb B b ([] ++ Pn.pad 0 ++ (tVp.data.toList ++ [123]) ++ [10] ++ Pn.pad 1 ++ tSx ++ [10]) 1 w'' ∧ Below B w' w'') :=
   hdn (fun w' hb h' => eachSt_sx B b _ 1 L 0 1 w' h' (by decide) (by decide) (Nat.le_trans HBW.out hb.size) (HR.out w' hb))
  have CF : Hid (∀ w', Below B w w' → Pb B b ([] ++ Pn.pad 0 ++ (tVp.data.toList ++ [123]) ++ [10] ++ Pn.pad 1 ++ tSx ++ [10]) 1 w' → Calls Tryz.prog 84 #[.pointer (some ⟨b, 0, none⟩)] w' fun e w'' => e = .returned (.tuple #[]) ∧ Pb B b tProg 0 w'' ∧ Below B w' w'') :=
   hdn (fun w' hb h' => end_any B b _ 0 w' h' (by decide) (by decide) (Nat.le_trans HBW.out hb.size))
  obtain ⟨_, _, r4, r5⟩ := HQ.out w2 HB2.out
  go_wp2_with (first | (go_at_call 44; refine (eachDc_nil _ _ _ _).mono ?_; rintro e w3 ⟨rfl, rfl⟩) | (go_at_call 34; refine (CE.out _ HB2.out HP2.out).mono ?_; rintro e w4 ⟨rfl, h4, hb⟩; have HP4 := hdn h4; have HB4 := hdn (HB2.out.trans hb); clear h4 hb) | (go_at_call 84; refine (CF.out _ HB4.out HP4.out).mono ?_; rintro e w5 ⟨rfl, h5, hb⟩; have HP5 := hdn h5; have HB5 := hdn (HB4.out.trans hb); clear h5 hb))
  go_end0
  exact ⟨rfl, HP5.out, HB5.out⟩
theorem eachPc_sx (B b q L : Nat) (w : World) (h : Pb B b [] 0 w) (hBw : B ≤ w.heap.size) (hL : L < B) (hq0 : q < B) (hr : w.rangeAt L 0 sx.cells) (hq : w.rangeAt q 0 (pcs L)) :
  Calls Tryz.prog 46 #[.slice (some ⟨q, 0, none⟩) 1 1, .func (.func 47) #[.pointer (some ⟨b, 0, none⟩)] #[]] w fun e w' => e = .returned (.tuple #[]) ∧ Pb B b tProg 0 w' ∧ Below B w w' := by
 have HC := hdn (procT_sx B b q L w h hBw hL hq0 hr hq)
 clear h hr hq
 have hcl := enters47
 go_enter Tryz.func46, Tryz.ntmps46
 go_wp2_with fail
 go_loopw [7] (fun i wr => (i = .int .i64 0 ∧ wr = w) ∨ (i = .int .i64 1 ∧ Hid (Pb B b tProg 0 wr) ∧ Hid (Below B w wr))) (fun i _ => 1 - (intOf i).toNat)
 case atStart => exact .inl ⟨rfl, rfl⟩
 case round =>
  rcases hrel with ⟨rfl, rfl⟩ | ⟨rfl, HP1, HB1⟩
  ·go_wp2_with fail
   refine HC.out.mono ?_; rintro e w1 ⟨rfl, h1, hb⟩
   have HP1 := hdn h1; have HB1 := hdn hb
   clear h1 hb
   go_wp2_with fail
   go_roundw
   case rel => exact .inr ⟨rfl, HP1, HB1⟩
   case measure => simp [intOf]
  ·go_wp2_with fail
   go_end0
   exact ⟨rfl, HP1.out, HB1.out⟩
theorem program_sx (B b q L : Nat) (w : World) (h : Pb B b [] 0 w) (hBw : B ≤ w.heap.size) (hL : L < B) (hq0 : q < B) (hr : w.rangeAt L 0 sx.cells) (hq : w.rangeAt q 0 (pcs L)) :
  Calls Tryz.prog 17 #[.pointer (some ⟨b, 0, none⟩), .agg #[.slice none 0 0, .slice none 0 0, .slice (some ⟨q, 0, none⟩) 1 1]] w fun e w' => e = .returned (.tuple #[]) ∧ Pb B b tProg 0 w' ∧ Below B w w' := by
 obtain ⟨wA, hwA⟩ : ∃ wA : World, wA = w.alloc (.cells #[.slice none 0 0, .slice none 0 0, .slice (some ⟨q, 0, none⟩) 1 1] 26) := ⟨_, rfl⟩
 have HBA : Hid (Below w.heap.size w wA) := hdn (by rw [hwA]; exact (Below.refl _ _).alloc (Nat.le_refl _) _)
 have HKA : Hid (Bk wA w.heap.size 26 #[.slice none 0 0, .slice none 0 0, .slice (some ⟨q, 0, none⟩) 1 1]) := hdn (by rw [hwA]; exact heap_alloc_new _ _)
 have c0 : wA.cell? ⟨w.heap.size, 0, none⟩ = some (.slice none 0 0) := HKA.out.cell 0
 have c1 : wA.cell? ⟨w.heap.size, 1, none⟩ = some (.slice none 0 0) := HKA.out.cell 1
 have c2 : wA.cell? ⟨w.heap.size, 2, none⟩ = some (.slice (some ⟨q, 0, none⟩) 1 1) := HKA.out.cell 2
 have CE := eachPc_sx B b q L wA (h.below HBA.out) (Nat.le_trans hBw HBA.out.size) hL hq0 (rangeAt_below hr HBA.out) (rangeAt_below hq HBA.out)
 have HB0 := hdn (HBA.out.mono hBw)
 clear h hr hq
 go_enter Tryz.func17, Tryz.ntmps17
 go_upto_region 1 with fail
 rw [← hwA]
 clear hwA
 obtain ⟨A, hA⟩ : ∃ A, A = w.heap.size := ⟨_, rfl⟩
 rw [← hA] at c0 c1 c2 ⊢
 clear hA
 go_wp2_with (first | (go_at_call 42; refine (eachSr_nil _ _ _ _).mono ?_; rintro e w3 ⟨rfl, rfl⟩) | (go_at_call 44; refine (eachDc_nil _ _ _ _).mono ?_; rintro e w3 ⟨rfl, rfl⟩) | (go_at_call 46; refine CE.mono ?_; rintro e w4 ⟨rfl, h4, hb⟩; have HP4 := hdn h4; have HB4 := hdn (HB0.out.trans hb); clear h4 hb))
 go_end0
 exact ⟨rfl, HP4.out, HB4.out⟩
end Go.Proofs.YtdlchhimkelinaaGreatDoor
namespace Go.Proofs.YtdlchhimkelinaaGreatDoor
open Go.RowKit Go.Sort
/-- All blocks but b, and but rows of bytes, are as they were. -/
def Keep (b : Nat) (w w' : World) : Prop := ∀ k t cs, k ≠ b → t ≠ 5 → Bk w k t cs → Bk w' k t cs
theorem Keep.refl (b : Nat) (w : World) : Keep b w w := fun _ _ _ _ _ h => h
theorem Keep.trans {b : Nat} {w w' w'' : World} (h : Keep b w w') (k : Keep b w' w'') : Keep b w w'' := fun _ _ _ h1 h2 h3 => k _ _ _ h1 h2 (h _ _ _ h1 h2 h3)
theorem Keep.below {b : Nat} {w w' : World} (h : Below w.heap.size w w') : Keep b w w' := fun _ _ _ _ _ hk => hk.below h hk.lt
theorem Keep.set {b : Nat} (w : World) (i : Nat) (v : Value) : Keep b w (w.setCell ⟨b, i, none⟩ v) := fun _ _ _ h1 _ hk => hk.far h1 v
theorem Keep.alloc {b : Nat} (w : World) (o : Obj) : Keep b w (w.alloc o) := Keep.below ((Below.refl _ _).alloc (Nat.le_refl _) _)
theorem Keep.grown {b B n : Nat} {w w' : World} {v : Value} {xs : List Value} (ho : w.ownsRow B 5 1 v n xs) (hg : w.grownBy w' v.ownBlock) : Keep b w w' := by
 intro k t cs _ ht hk
 have hne : k ≠ v.ownBlock.getD (k + 1) := by
  intro e
  rcases ho.2 with ⟨hv, _⟩ | ⟨g, cap, cur, hv, _, hgb, _⟩
  ·rw [hv] at e; simp [Value.ownBlock] at e
  ·rw [hv] at e
   have e2 : k = g := e
   subst e2
   unfold Bk at hk
   rw [hgb] at hk
   injection hk with hk; injection hk with _ hk _
   exact ht hk.symm
 unfold Bk at hk ⊢
 rw [← hk]
 refine hg.block k (Array.getElem?_eq_some_iff.1 hk).1 ?_
 intro e
 rw [← e] at hne
 exact hne rfl
theorem copyCheck_k (B b : Nat) (l : List UInt8) (op : Int) (w : World) (h : Pb B b l op w) :
  Calls Tryz.prog 147 #[.pointer (some ⟨b, 0, none⟩)] w fun e w' => e = .returned (.tuple #[]) ∧ PbA B b l op (.pointer (some ⟨b, 0, none⟩)) w' ∧ Below B w w' ∧ Keep b w w' := by
 rcases h with h | h
 ·obtain ⟨c0, _, hs, hf⟩ := h.cell
  refine (copyCheck_fresh b w c0 hs (hf 0)).mono ?_
  rintro e w' ⟨rfl, rfl⟩
  obtain ⟨hB, v, hb, ho, hn⟩ := h
  exact ⟨rfl, ⟨hB, v, by simp [World.setCell, Array.getElem?_modify, hb], own_set ho hn _ _, hn⟩, (Below.refl B w).setCell (p := ⟨b, 0, none⟩) hB _, Keep.set w 0 _⟩
 ·refine (copyCheck_used b w h.cell.1).mono ?_
  rintro e w' ⟨rfl, rfl⟩
  exact ⟨rfl, h, Below.refl B _, Keep.refl _ _⟩
/-- WriteString. -/
theorem writeStr_k (B b : Nat) (l : List UInt8) (op : Int) (s : ByteArray) (w : World) (h : Pb B b l op w) (hlen : l.length + s.size ≤ 140737488355328) (hBw : B ≤ w.heap.size) :
  Calls Tryz.prog 110 #[.pointer (some ⟨b, 0, none⟩), .string s] w fun e w' => e = .returned (.tuple #[.int .i64 s.size, .nilIface]) ∧ Pb B b (l ++ s.data.toList) op w' ∧ Below B w w' ∧ Keep b w w' := by
 obtain ⟨i0, hi, hz0, hz1, hz2⟩ := info_parts infoByte
 go_enter Tryz.func110, Tryz.ntmps110
 go_wp2_with (go_at_call 147; refine (copyCheck_k B b l op _ h).mono ?_)
 rintro e w1 ⟨rfl, h1, hb1, hk1⟩
 obtain ⟨c0, c2, _, hf⟩ := h1.cell
 obtain ⟨hB, v, hbk, hown, hne⟩ := h1
 have c1 : w1.cell? ⟨b, 1, none⟩ = some v := cell_of_row _ _ 1 _ _ _ hbk
 go_wp2_with (at_builtin; refine Lib.wpList_append_own_string _ rfl _ _ 57 9 rfl B 5 i0 Tryz.underlying57 Tryz.underlying9 hi hz0 hz1 hz2 _ _ _ rfl hown s rfl ?c3 ?c4 ?c5 ?_)
 case c3 => unfold maxLen; omega
 case c4 => omega
 case c5 => have := hb1.size; omega
 intro v' w2 hown' hgrow _
 have hlt : b < w1.heap.size := (Array.getElem?_eq_some_iff.1 hbk).1
 have hb2 : w2.heap[b]? = some (.cells #[.pointer (some ⟨b, 0, none⟩), v, .int .i64 op] 61 (0, 0)) := by
  rw [hgrow.block b hlt (fun e => hne e.symm)]
  exact hbk
 have d1 : w2.cell? ⟨b, 1, none⟩ = some v := cell_of_row _ _ 1 _ _ _ hb2
 have f1 : w2.frozen? ⟨b, 1, none⟩ = false := frozen_of_row w2 b 1 _ _ hb2
 obtain ⟨ao, n', cap, rfl⟩ : ∃ ao n' cap, v' = .slice ao n' cap := by
  rcases hown'.2 with ⟨hv, _⟩ | ⟨g, cap, cur, hv, _⟩
  ·exact ⟨_, _, _, hv⟩
  ·exact ⟨_, _, _, hv⟩
 go_wp2
 refine bodyPost_ret (results_tmp2 rfl _ _ _) rfl ?_
 refine ⟨rfl, .inr (PbA.put hB hb2 (l' := l ++ s.data.toList) ?_), ?_, hk1.trans ((Keep.grown hown hgrow).trans (Keep.set _ 1 _))⟩
 ·rw [Lib.byteCells_append, ← Lib.strCells_eq, List.length_append, show s.data.toList.length = s.size from rfl]; exact hown'
 ·exact (hb1.grown hgrow (by have := hb1.size; omega) (fun k hk => (hown.lt k hk).1)).setCell (p := ⟨b, 1, none⟩) hB _
/-- WriteByte. -/
theorem writeByte_k (B b : Nat) (l : List UInt8) (op : Int) (c : UInt8) (w : World) (h : Pb B b l op w) (hlen : l.length + 1 ≤ 140737488355328) (hBw : B ≤ w.heap.size) :
  Calls Tryz.prog 111 #[.pointer (some ⟨b, 0, none⟩), .int .u8 (c.toNat : Int)] w fun e w' => e = .returned .nilIface ∧ Pb B b (l ++ [c]) op w' ∧ Below B w w' ∧ Keep b w w' := by
 obtain ⟨i0, hi, hz0, hz1, hz2⟩ := info_parts infoByte
 obtain ⟨C, hC⟩ : ∃ C : Int, C = (c.toNat : Int) := ⟨_, rfl⟩
 have HC := hdn hC
 rw [← hC]
 clear hC
 go_enter Tryz.func111, Tryz.ntmps111
 go_wp2_with (go_at_call 147; refine (copyCheck_k B b l op _ h).mono ?_)
 rintro e w1 ⟨rfl, h1, hb1, hk1⟩
 obtain ⟨c0, c2, _, hf⟩ := h1.cell
 obtain ⟨hB, v, hbk, hown, hne⟩ := h1
 have c1 : w1.cell? ⟨b, 1, none⟩ = some v := cell_of_row _ _ 1 _ _ _ hbk
 go_wp2_with (at_builtin; refine wpList_append_own _ rfl _ _ 57 rfl B 5 i0 (.int .u8 0) 1 1 Tryz.underlying57 hi hz0 hz1 hz2 rfl (by decide) _ _ _ rfl (hown.alloc _) ⟨w1.heap.size, 0, none⟩ 1 1 [.int .u8 C] rfl rfl ?c1 ?c2 ?c3 ?c4 ?c5 ?_)
 case c1 =>
  intro j u hj
  match j, hj with
  | 0, hj => simp at hj; subst hj; simp [Addr.add]
 case c2 => intro u hu; simp at hu; subst hu; rfl
 case c3 => unfold maxLen; omega
 case c4 => omega
 case c5 => have := hb1.size; simp; omega
 intro v' w2 hown' hgrow _
 have hlt : b < w1.heap.size := (Array.getElem?_eq_some_iff.1 hbk).1
 have hb2 : w2.heap[b]? = some (.cells #[.pointer (some ⟨b, 0, none⟩), v, .int .i64 op] 61 (0, 0)) := by
  rw [hgrow.block b (by simp; omega) (fun e => hne e.symm), heap_alloc_old w1 _ hlt]
  exact hbk
 have d1 : w2.cell? ⟨b, 1, none⟩ = some v := cell_of_row _ _ 1 _ _ _ hb2
 have f1 : w2.frozen? ⟨b, 1, none⟩ = false := frozen_of_row w2 b 1 _ _ hb2
 obtain ⟨g, cap, rfl⟩ : ∃ g cap, v' = .slice (some ⟨g, 0, none⟩) (l.length + 1) cap := by
  rcases hown'.2 with ⟨_, h0⟩ | ⟨g, cap, cur, hv, _⟩
  ·omega
  ·exact ⟨g, cap, hv⟩
 go_wp2
 go_ret
 refine ⟨rfl, .inr (PbA.put hB hb2 (l' := l ++ [c]) ?_), ?_, hk1.trans ((Keep.alloc _ _).trans ((Keep.grown (hown.alloc _) hgrow).trans (Keep.set _ 1 _)))⟩
 ·rw [Lib.byteCells_append, List.length_append]; rw [HC.out] at hown'; exact hown'
 ·exact ((hb1.alloc (by have := hb1.size; omega) _).grown hgrow (by have := hb1.size; simp; omega) (fun k hk => (hown.lt k hk).1)).setCell (p := ⟨b, 1, none⟩) hB _
theorem line_k (B b : Nat) (l : List UInt8) (d : Nat) (s : ByteArray) (w : World) (h : Pb B b l (d : Int) w) (hd : d ≤ 100) (hl : l.length ≤ 100000000000) (hs : s.size ≤ 1000000000) (hBw : B ≤ w.heap.size) :
  Calls Tryz.prog 72 #[.pointer (some ⟨b, 0, none⟩), .string s] w fun e w' => e = .returned (.tuple #[]) ∧ Pb B b (l ++ Pn.pad d ++ s.data.toList ++ [10]) (d : Int) w' ∧ Below B w w' ∧ Keep b w w' := by
 have HP := hdn h
 have c2 := h.cell2.1
 have hd0 : (0 : Int) ≤ (d : Int) := Int.natCast_nonneg _
 clear h
 go_enter Tryz.func72, Tryz.ntmps72
 go_wp2_with fail
 clear c2
 go_loopw [8] (fun i wr => ∃ n : Nat, n ≤ d ∧ i = .int .i64 n ∧ Hid (Pb B b (l ++ Pn.pad n) (d : Int) wr) ∧ Hid (Below B w wr) ∧ Hid (Keep b w wr)) (fun i _ => d - (intOf i).toNat)
 case atStart => exact ⟨0, Nat.zero_le _, rfl, by rw [show Pn.pad 0 = [] from rfl, List.append_nil]; exact HP, hdn (Below.refl _ _), hdn (Keep.refl _ _)⟩
 case round =>
  obtain ⟨n, hn, rfl, HPN, HB, HQ⟩ := hrel
  have hp := pad_len n
  have hw := HB.out.size
  by_cases hnd : n < d
  ·have hn1 : (n : Int) < (d : Int) := by omega
   have CW := writeStr_k B b (l ++ Pn.pad n) d ⟨#[32, 32]⟩ wr HPN.out (by rw [List.length_append, hp, show (⟨#[32, 32]⟩ : ByteArray).size = 2 from rfl]; omega) (by omega)
   go_wp2_with (go_at_call 110; refine CW.mono ?_; rintro e w1 ⟨rfl, h1, hb, hq⟩; have HP1 := hdn h1; have HB1 := hdn (HB.out.trans hb); have HQ1 := hdn (HQ.out.trans hq); clear hq; clear h1 hb)
   go_roundw
   case rel => exact ⟨n + 1, by omega, by go_num, hdn (by have := HP1.out; rw [List.append_assoc] at this; exact this), HB1, HQ1⟩
   case measure => simp [intOf]; omega
  ·obtain rfl : n = d := by omega
   have CW := writeStr_k B b (l ++ Pn.pad n) n s wr HPN.out (by rw [List.length_append, hp]; omega) (by omega)
   have CB : Hid (∀ w', Pb B b (l ++ Pn.pad n ++ s.data.toList) (n : Int) w' → B ≤ w'.heap.size → Calls Tryz.prog 111 #[.pointer (some ⟨b, 0, none⟩), .int .u8 10] w' fun e w'' => e = .returned .nilIface ∧ Pb B b (l ++ Pn.pad n ++ s.data.toList ++ [10]) (n : Int) w'' ∧ Below B w' w'' ∧ Keep b w' w'') := hdn (fun w' h' hb => writeByte_k B b _ n 10 w' h' (by rw [List.length_append, List.length_append, hp, show s.data.toList.length = s.size from rfl]; omega) hb)
   go_wp2_with (first | (go_at_call 110; refine CW.mono ?_; rintro e w1 ⟨rfl, h1, hb, hq⟩; have HP1 := hdn h1; have HB1 := hdn (HB.out.trans hb); have HQ1 := hdn (HQ.out.trans hq); clear hq; have hw1 := HB1.out.size; clear h1 hb) | (go_at_call 111; refine (CB.out _ HP1.out (by omega)).mono ?_; rintro e w2 ⟨rfl, h2, hb, hq⟩; have HP2 := hdn h2; have HB2 := hdn (HB1.out.trans hb); have HQ2 := hdn (HQ1.out.trans hq); clear hq; clear h2 hb))
   go_end0
   exact ⟨rfl, HP2.out, HB2.out, HQ2.out⟩
theorem begin_k (B b : Nat) (l : List UInt8) (d : Nat) (s : ByteArray) (w : World) (h : Pb B b l (d : Int) w) (hd : d ≤ 99) (hl : l.length ≤ 100000000000) (hs : s.size ≤ 100000000) (hBw : B ≤ w.heap.size) :
  Calls Tryz.prog 83 #[.pointer (some ⟨b, 0, none⟩), .string s] w fun e w' => e = .returned (.tuple #[]) ∧ Pb B b (l ++ Pn.pad d ++ (s.data.toList ++ [123]) ++ [10]) ((d : Int) + 1) w' ∧ Below B w w' ∧ Keep b w w' := by
 have HS : Hid ((s ++ ⟨#[123]⟩ : ByteArray).data.toList = s.data.toList ++ [123]) := hdn (by simp)
 have CL := line_k B b l d (s ++ ⟨#[123]⟩) w h (by omega) hl (by rw [ByteArray.size_append, show (⟨#[123]⟩ : ByteArray).size = 1 from rfl]; omega) hBw
 rw [HS.out] at CL
 clear h
 have hd0 : (0 : Int) ≤ (d : Int) := Int.natCast_nonneg _
 go_enter Tryz.func83, Tryz.ntmps83
 go_wp2_with (go_at_call 72; refine CL.mono ?_; rintro e w1 ⟨rfl, h1, hb, hq⟩; have c2 := h1.cell2.1; have f2 := h1.cell2.2.1; have HP1 := hdn h1; have HB1 := hdn hb; have HQ1 := hdn hq; clear h1 hb hq)
 go_end0
 exact ⟨rfl, HP1.out.open_ _, HB1.out.setCell (p := ⟨b, 2, none⟩) HP1.out.cell2.2.2 _, HQ1.out.trans (Keep.set _ 2 _)⟩
theorem end_k (B b : Nat) (l : List UInt8) (d : Nat) (w : World) (h : Pb B b l ((d : Int) + 1) w) (hd : d ≤ 99) (hl : l.length ≤ 100000000000) (hBw : B ≤ w.heap.size) :
  Calls Tryz.prog 84 #[.pointer (some ⟨b, 0, none⟩)] w fun e w' => e = .returned (.tuple #[]) ∧ Pb B b (l ++ Pn.pad d ++ [125] ++ [10]) (d : Int) w' ∧ Below B w w' ∧ Keep b w w' := by
 have c2 := h.cell2.1; have f2 := h.cell2.2.1
 have hd0 : (0 : Int) ≤ (d : Int) := Int.natCast_nonneg _
 have h2 := h.open_ (d : Int)
 have HB := hdn ((Below.refl B w).setCell (p := ⟨b, 2, none⟩) h.cell2.2.2 (.int .i64 (d : Int)))
 have CL := hdn (line_k B b l d ⟨#[125]⟩ (w.setCell ⟨b, 2, none⟩ (.int .i64 (d : Int))) h2 (by omega) hl (by decide) (Nat.le_trans hBw HB.out.size))
 clear h h2
 have e1 : (d : Int) + 1 - 1 = (d : Int) := by omega
 go_enter Tryz.func84, Tryz.ntmps84
 go_wp2_with (go_at_call 72; refine CL.out.mono ?_; rintro e w1 ⟨rfl, h1, hb, hq⟩; have HP1 := hdn h1; have HB1 := hdn (HB.out.trans hb); have HQ1 := hdn ((Keep.set (b := b) w 2 (.int .i64 (d : Int))).trans hq); clear h1 hb hq)
 go_end0
 exact ⟨rfl, HP1.out, HB1.out, HQ1.out⟩
end Go.Proofs.YtdlchhimkelinaaGreatDoor
namespace Go.Proofs.YtdlchhimkelinaaGreatDoor
open Go.RowKit Go.Sort
/-- From where on blocks are the printer's, and what block b + 1 holds. -/
structure Bx where
 n : Nat
 cs : Array Value
/-- The printer in block b, behind a world w0 in which the tree lies: it has written T, d braces are open. -/
def PrS (w0 : World) (B : Bx) (b : Nat) (T : List UInt8) (d : Nat) (w : World) : Prop := Pb B.n b T (d : Int) w ∧ Below w0.heap.size w0 w ∧ w0.heap.size ≤ B.n ∧ B.n ≤ w.heap.size ∧ Bk w (b + 1) 26 B.cs
theorem PrS.below {w0 w w' : World} {B : Bx} {b d : Nat} {T : List UInt8} (h : PrS w0 B b T d w) (hb : Below w.heap.size w w') : PrS w0 B b T d w' :=
 ⟨h.1.below hb, h.2.1.trans (hb.mono h.2.1.size), h.2.2.1, Nat.le_trans h.2.2.2.1 hb.size, h.2.2.2.2.below hb h.2.2.2.2.lt⟩
theorem PrS.drew {w0 w : World} {B : Bx} {b d : Nat} {T : List UInt8} (h : PrS w0 B b T d w) (n : Nat) : PrS w0 B b T d (w.drewN n) := h.below (below_drewN_ (Below.refl _ _) n)
theorem PrS.put {w0 w w' : World} {B : Bx} {b d d' : Nat} {T T' : List UInt8} (h : PrS w0 B b T d w) (h1 : Pb B.n b T' (d' : Int) w') (hb : Below B.n w w') (hq : Keep b w w') : PrS w0 B b T' d' w' :=
 ⟨h1, h.2.1.trans (hb.mono h.2.2.1), h.2.2.1, Nat.le_trans h.2.2.2.1 hb.size, hq _ _ _ (by omega) (by decide) h.2.2.2.2⟩
theorem PrS.eq {w0 w : World} {B : Bx} {b d : Nat} {T T' : List UInt8} (h : PrS w0 B b T d w) (e : T = T') : PrS w0 B b T' d w := e ▸ h
theorem lineX {w0 : World} {B : Bx} {b d : Nat} {T : List UInt8} (s : ByteArray) (w : World) (h : PrS w0 B b T d w) (hd : d ≤ 60) (hl : T.length ≤ 100000000000) (hs : s.size ≤ 100000000) :
  Calls Tryz.prog 72 #[.pointer (some ⟨b, 0, none⟩), .string s] w fun e w' => e = .returned (.tuple #[]) ∧ PrS w0 B b (T ++ (Pn.pad d ++ (s.data.toList ++ [10]))) d w' :=
 (line_k B.n b T d s w h.1 (by omega) hl (by omega) h.2.2.2.1).mono fun e w' ⟨he, h1, hb, hq⟩ => ⟨he, (h.put h1 hb hq).eq (by simp only [List.append_assoc])⟩
theorem beginX {w0 : World} {B : Bx} {b d : Nat} {T : List UInt8} (s : ByteArray) (w : World) (h : PrS w0 B b T d w) (hd : d ≤ 60) (hl : T.length ≤ 100000000000) (hs : s.size ≤ 100000000) :
  Calls Tryz.prog 83 #[.pointer (some ⟨b, 0, none⟩), .string s] w fun e w' => e = .returned (.tuple #[]) ∧ PrS w0 B b (T ++ (Pn.pad d ++ (s.data.toList ++ [123, 10]))) (d + 1) w' :=
 (begin_k B.n b T d s w h.1 (by omega) hl (by omega) h.2.2.2.1).mono fun e w' ⟨he, h1, hb, hq⟩ => ⟨he, (h.put (d' := d + 1) (by rw [show ((d + 1 : Nat) : Int) = (d : Int) + 1 by omega]; exact h1) hb hq).eq (by simp only [List.append_assoc, List.cons_append, List.nil_append])⟩
theorem endX {w0 : World} {B : Bx} {b d : Nat} {T : List UInt8} (w : World) (h : PrS w0 B b T (d + 1) w) (hd : d ≤ 60) (hl : T.length ≤ 100000000000) :
  Calls Tryz.prog 84 #[.pointer (some ⟨b, 0, none⟩)] w fun e w' => e = .returned (.tuple #[]) ∧ PrS w0 B b (T ++ (Pn.pad d ++ [125, 10])) d w' :=
 (end_k B.n b T d w (by have := h.1; rwa [show ((d + 1 : Nat) : Int) = (d : Int) + 1 by omega] at this) (by omega) hl h.2.2.2.1).mono fun e w' ⟨he, h1, hb, hq⟩ => ⟨he, (h.put h1 hb hq).eq (by simp only [List.append_assoc, List.cons_append, List.nil_append])⟩
theorem declX_any (x : Dc) (q o : Nat) (w0 : World) (B : Bx) (b : Nat) (T : List UInt8) (d : Nat) (w : World) (hr : w0.rangeAt q o x.cells) (h : PrS w0 B b T d w) (ho : Pn.okDecl x = true) (hd : d ≤ 1) (hT : T.length ≤ 100000000000) :
  Calls Tryz.prog 45 #[.pointer (some ⟨b, 0, none⟩), .pointer (some ⟨q, o, none⟩)] w fun e w' => e = .returned (.tuple #[]) ∧ PrS w0 B b (T ++ (Pn.pad d ++ (Pn.declT x ++ [59, 10]))) d w' := by
 have CV := hdn (variableX_any x q o w ho (rangeAt_below hr h.2.1))
 have HL := decl_len ho
 have CL : Hid (∀ w', PrS w0 B b T d w' → Calls Tryz.prog 72 #[.pointer (some ⟨b, 0, none⟩), .string (bt (Pn.declT x) ++ ⟨#[59]⟩)] w' fun e w'' => e = .returned (.tuple #[]) ∧ PrS w0 B b (T ++ (Pn.pad d ++ (Pn.declT x ++ [59, 10]))) d w'') := hdn (fun w' h' => by
  refine (lineX _ w' h' (by omega) hT (by rw [ByteArray.size_append, bt_size, show (⟨#[59]⟩ : ByteArray).size = 1 from rfl]; omega)).mono fun e w'' ⟨he, h1⟩ => ⟨he, h1.eq ?_⟩
  simp [bt])
 have hs : (bt (Pn.declT x)).size ≤ 40 := by rw [bt_size]; exact HL
 have HP := hdn h
 clear hr h ho hT HL
 generalize bt (Pn.declT x) = tx at *
 go_enter Tryz.func45, Tryz.ntmps45
 go_wp2_with (first | (go_at_call 85; refine CV.out.mono ?_; rintro e w1 ⟨rfl, hb⟩; have HP1 := hdn (HP.out.below hb); clear hb) | (go_at_call 72; refine (CL.out _ HP1.out).mono ?_; rintro e w2 ⟨rfl, h2⟩; have HP2 := hdn h2; clear h2))
 go_end0
 exact ⟨rfl, HP2.out⟩
theorem enters45 : ∀ args w, (callFunc 45 args).run Tryz.prog w = .ok (.enter 45 args) w := enters Tryz.func45 (by kernel_rfl) rfl
theorem eachDc_any (l : List Dc) (p : Option Addr) (c : Nat) (w0 : World) (B : Bx) (b : Nat) (T : List UInt8) (d : Nat) (w : World) (hG : Gp w0) (h1 : Lay 3 Dc.cells triv w0 p l) (h : PrS w0 B b T d w) (ho : ∀ x ∈ l, Pn.okDecl x = true) (hd : d ≤ 1) (hT : T.length + (Pn.fieldsT d l []).length ≤ 100000000000) :
  Calls Tryz.prog 44 #[.slice p l.length c, .func (.func 45) #[.pointer (some ⟨b, 0, none⟩)] #[]] w fun e w' => e = .returned (.tuple #[]) ∧ PrS w0 B b (T ++ Pn.fieldsT d l []) d w' := by
 obtain ⟨hl, h1⟩ := h1
 have H1 := hdn h1; have HO := hdn ho; have HG := hdn hG; have HP0 := hdn h; have HT := hdn hT
 clear h1 ho hG h hT
 have hcl := enters45
 go_enter Tryz.func44, Tryz.ntmps44
 go_wp2_with fail
 go_loopw [7] (fun i wr => ∃ n : Nat, n ≤ l.length ∧ i = .int .i64 n ∧ Hid (PrS w0 B b (T ++ Pn.fieldsT d (l.take n) []) d wr)) (fun i _ => l.length - (intOf i).toNat)
 case atStart => exact ⟨0, Nat.zero_le _, rfl, hdn (by rw [List.take_zero, show Pn.fieldsT d [] [] = [] from rfl, List.append_nil]; exact HP0.out)⟩
 case round =>
  obtain ⟨n, hn, rfl, HP⟩ := hrel
  by_cases hnl : n < l.length
  ·obtain ⟨b1, o1, rfl, hx⟩ : ∃ b o, p = some ⟨b, o, none⟩ ∧ ∀ k x, l[k]? = some x → w0.rangeAt b (o + k * 3) (Dc.cells x) ∧ triv w0 x := by
    rcases H1.out with h | h
    ·rw [h] at hnl; simp at hnl
    ·exact h
   have hxn := hx n l[n] (List.getElem?_eq_getElem hnl)
   have hok := HO.out l[n] (List.getElem_mem hnl)
   have e := Pn.take_snoc l n hnl
   have hlen := Pn.fields_part d l n
   have HC : Hid (Calls Tryz.prog 45 #[.pointer (some ⟨b, 0, none⟩), .pointer (some ⟨b1, o1 + n * 3, none⟩)] wr fun en w' => en = .returned (.tuple #[]) ∧ PrS w0 B b (T ++ Pn.fieldsT d (l.take (n + 1)) []) d w') := hdn (by
    refine (declX_any l[n] b1 (o1 + n * 3) w0 B b _ d wr hxn.1 HP.out hok hd (by rw [List.length_append]; have := HT.out; omega)).mono fun en w' ⟨he, h1⟩ => ⟨he, h1.eq ?_⟩
    rw [e, Pn.fieldsT_snoc, List.append_assoc])
   clear hlen
   have hn0 : (0 : Int) ≤ (n : Int) := Int.natCast_nonneg _
   have hn1 : (n : Int) < (l.length : Int) := by omega
   clear hx hxn hok e
   go_wp2_with fail
   refine HC.out.mono ?_; rintro en w1 ⟨rfl, h1⟩
   have HP1 := hdn h1
   clear h1
   go_wp2_with fail
   go_roundw
   case rel => exact ⟨n + 1, by omega, by go_num, HP1⟩
   case measure => simp [intOf]; omega
  ·obtain rfl : n = l.length := by omega
   have HF : Hid (PrS w0 B b (T ++ Pn.fieldsT d l []) d wr) := hdn (by have := HP.out; rwa [List.take_length] at this)
   have hc1 : ¬ ((l.length : Int) < (l.length : Int)) := by omega
   go_wp2_with fail
   go_end0
   exact ⟨rfl, HF.out⟩
theorem structX_any (x : Sr) (q o : Nat) (w0 : World) (B : Bx) (b : Nat) (T : List UInt8) (w : World) (hG : Gp w0) (hr : w0.rangeAt q o x.cells) (hl : declsLie w0 x.fields) (h : PrS w0 B b T 0 w) (ho : Pn.okStruct x = true) (hT : T.length + (Pn.srT x).length ≤ 100000000000) :
  Calls Tryz.prog 43 #[.pointer (some ⟨b, 0, none⟩), .pointer (some ⟨q, o, none⟩)] w fun e w' => e = .returned (.tuple #[]) ∧ PrS w0 B b (T ++ Pn.srT x) 0 w' := by
 unfold Pn.okStruct at ho
 simp only [Bool.and_eq_true, List.all_eq_true] at ho
 have hs := (Pn.okN_nameB ho.1).1
 have HC : Hid (∀ w' T' d', PrS w0 B b T' d' w' → w'.cell? ⟨q, o + 2, none⟩ = some (.slice x.fields.p x.fields.l.length x.fields.cap)) := hdn (fun w' T' d' h' => cell_at (rangeAt_below hr h'.2.1) 2 _ rfl)
 have c0 : w.cell? ⟨q, o, none⟩ = some (.string x.name) := cell_at (rangeAt_below hr h.2.1) 0 _ rfl
 obtain ⟨T1, hT1⟩ : ∃ T1, T1 = T ++ (Pn.tStruct ++ 32 :: (Pn.txt x.name ++ [32, 123, 10])) := ⟨_, rfl⟩
 obtain ⟨T2, hT2⟩ : ∃ T2, T2 = T1 ++ Pn.fieldsT 1 x.fields.l [] := ⟨_, rfl⟩
 have hlen : T2.length + 2 = T.length + (Pn.srT x).length := by
  rw [hT2, hT1]; unfold Pn.srT
  simp only [List.length_append, List.length_cons, List.length_nil]; omega
 have hl2 : T2.length = T1.length + (Pn.fieldsT 1 x.fields.l []).length := by rw [hT2, List.length_append]
 have CB : Hid (Calls Tryz.prog 83 #[.pointer (some ⟨b, 0, none⟩), .string ((⟨#[115, 116, 114, 117, 99, 116, 32]⟩ : ByteArray) ++ x.name ++ ⟨#[32]⟩)] w fun e w' => e = .returned (.tuple #[]) ∧ PrS w0 B b T1 1 w') := hdn (by
  refine (beginX _ w h (by omega) (by omega) (by rw [ByteArray.size_append, ByteArray.size_append, show (⟨#[115, 116, 114, 117, 99, 116, 32]⟩ : ByteArray).size = 7 from rfl, show (⟨#[32]⟩ : ByteArray).size = 1 from rfl]; omega)).mono fun e w' ⟨he, h1⟩ => ⟨he, h1.eq ?_⟩
  rw [hT1]; simp [Pn.pad, Pn.tStruct, Pn.txt])
 have CE : Hid (∀ w', PrS w0 B b T1 1 w' → Calls Tryz.prog 44 #[.slice x.fields.p x.fields.l.length x.fields.cap, .func (.func 45) #[.pointer (some ⟨b, 0, none⟩)] #[]] w' fun e w'' => e = .returned (.tuple #[]) ∧ PrS w0 B b T2 1 w'') := hdn (fun w' h' => by
  rw [hT2]
  exact eachDc_any x.fields.l x.fields.p x.fields.cap w0 B b T1 1 w' hG (Lay.of_sl (R := triv) hl (by decide)) h' (fun y hy => by have := ho.2 y hy; unfold Pn.okField at this; simp only [Bool.and_eq_true] at this; exact this.1) (by decide) (by omega))
 have CF : Hid (∀ w', PrS w0 B b T2 1 w' → Calls Tryz.prog 84 #[.pointer (some ⟨b, 0, none⟩)] w' fun e w'' => e = .returned (.tuple #[]) ∧ PrS w0 B b (T ++ Pn.srT x) 0 w'') := hdn (fun w' h' => by
  refine (endX (d := 0) w' h' (by decide) (by omega)).mono fun e w'' ⟨he, h1⟩ => ⟨he, h1.eq ?_⟩
  rw [hT2, hT1]; unfold Pn.srT; simp [Pn.pad])
 clear hG hr hl h ho hT hT1 hT2 hlen hl2
 go_enter Tryz.func43, Tryz.ntmps43
 go_wp2_with (first | (go_at_call 83; refine CB.out.mono ?_; rintro e w1 ⟨rfl, h1⟩; have HP1 := hdn h1; have c2 := HC.out _ _ _ h1; clear h1) | (go_at_call 44; refine (CE.out _ HP1.out).mono ?_; rintro e w2 ⟨rfl, h2⟩; have HP2 := hdn h2; clear h2) | (go_at_call 84; refine (CF.out _ HP2.out).mono ?_; rintro e w3 ⟨rfl, h3⟩; have HP3 := hdn h3; clear h3))
 go_end0
 exact ⟨rfl, HP3.out⟩
theorem enters43 : ∀ args w, (callFunc 43 args).run Tryz.prog w = .ok (.enter 43 args) w := enters Tryz.func43 (by kernel_rfl) rfl
theorem eachSr_any (l : List Sr) (p : Option Addr) (c : Nat) (w0 : World) (B : Bx) (b : Nat) (T : List UInt8) (w : World) (hG : Gp w0) (h1 : Lay 3 Sr.cells (fun w (x : Sr) => declsLie w x.fields) w0 p l) (h : PrS w0 B b T 0 w) (ho : ∀ x ∈ l, Pn.okStruct x = true) (hT : T.length + (Pn.structsT l []).length ≤ 100000000000) :
  Calls Tryz.prog 42 #[.slice p l.length c, .func (.func 43) #[.pointer (some ⟨b, 0, none⟩)] #[]] w fun e w' => e = .returned (.tuple #[]) ∧ PrS w0 B b (T ++ Pn.structsT l []) 0 w' := by
 obtain ⟨hl, h1⟩ := h1
 have H1 := hdn h1; have HO := hdn ho; have HG := hdn hG; have HP0 := hdn h; have HT := hdn hT
 clear h1 ho hG h hT
 have hcl := enters43
 go_enter Tryz.func42, Tryz.ntmps42
 go_wp2_with fail
 go_loopw [7] (fun i wr => ∃ n : Nat, n ≤ l.length ∧ i = .int .i64 n ∧ Hid (PrS w0 B b (T ++ Pn.structsT (l.take n) []) 0 wr)) (fun i _ => l.length - (intOf i).toNat)
 case atStart => exact ⟨0, Nat.zero_le _, rfl, hdn (by rw [List.take_zero, show Pn.structsT [] [] = [] from rfl, List.append_nil]; exact HP0.out)⟩
 case round =>
  obtain ⟨n, hn, rfl, HP⟩ := hrel
  by_cases hnl : n < l.length
  ·obtain ⟨b1, o1, rfl, hx⟩ : ∃ b o, p = some ⟨b, o, none⟩ ∧ ∀ k x, l[k]? = some x → w0.rangeAt b (o + k * 3) (Sr.cells x) ∧ (fun w (x : Sr) => declsLie w x.fields) w0 x := by
    rcases H1.out with h | h
    ·rw [h] at hnl; simp at hnl
    ·exact h
   have hxn := hx n l[n] (List.getElem?_eq_getElem hnl)
   have hok := HO.out l[n] (List.getElem_mem hnl)
   have e := Pn.take_snoc l n hnl
   have hlen := Pn.structs_part l (n + 1)
   rw [e, Pn.structsT_snoc, List.length_append] at hlen
   have HC : Hid (Calls Tryz.prog 43 #[.pointer (some ⟨b, 0, none⟩), .pointer (some ⟨b1, o1 + n * 3, none⟩)] wr fun en w' => en = .returned (.tuple #[]) ∧ PrS w0 B b (T ++ Pn.structsT (l.take (n + 1)) []) 0 w') := hdn (by
    refine (structX_any l[n] b1 (o1 + n * 3) w0 B b _ wr HG.out hxn.1 hxn.2 HP.out hok (by rw [List.length_append]; have := HT.out; omega)).mono fun en w' ⟨he, h1⟩ => ⟨he, h1.eq ?_⟩
    rw [e, Pn.structsT_snoc, List.append_assoc])
   clear hlen
   have hn0 : (0 : Int) ≤ (n : Int) := Int.natCast_nonneg _
   have hn1 : (n : Int) < (l.length : Int) := by omega
   clear hx hxn hok e
   go_wp2_with fail
   refine HC.out.mono ?_; rintro en w1 ⟨rfl, h1⟩
   have HP1 := hdn h1
   clear h1
   go_wp2_with fail
   go_roundw
   case rel => exact ⟨n + 1, by omega, by go_num, HP1⟩
   case measure => simp [intOf]; omega
  ·obtain rfl : n = l.length := by omega
   have HF : Hid (PrS w0 B b (T ++ Pn.structsT l []) 0 wr) := hdn (by have := HP.out; rwa [List.take_length] at this)
   have hc1 : ¬ ((l.length : Int) < (l.length : Int)) := by omega
   go_wp2_with fail
   go_end0
   exact ⟨rfl, HF.out⟩
end Go.Proofs.YtdlchhimkelinaaGreatDoor
