/-
  DERIVED. The walk of 'asks': all that a table tells of a name is what the document says.
-/
import Derived.Test.YtjkgkigfmcegoaaRh
import Derived.Test.YtjkgkigfmcegoaaFd
namespace Go.Proofs.Ytjkgkigfmcegoaa
open Go.RowKit Go.Sort Go.Maps

structure AkInv (x : Pg) (M : Nat) (v : Value) (w wr : World) : Prop where
  tab : TabIs x wr M
  pg : pgLies wr x
  box : Bk wr w.heap.size 35 #[.slice x.structs.p x.structs.l.length x.structs.cap, .slice x.globals.p x.globals.l.length x.globals.cap, .slice x.procs.p x.procs.l.length x.procs.cap, v]
  below : Below w.heap.size w wr
theorem AkInv.keep {x : Pg} {M : Nat} {v : Value} {w wr w' : World} (h : AkInv x M v w wr) (hb : Below wr.heap.size wr w') : AkInv x M v w w' :=
  ⟨h.tab.keep hb, pgLies_below h.pg hb, h.box.below hb h.box.lt, h.below.trans (hb.mono h.below.size)⟩
theorem TabIs.cells {x : Pg} {w : World} {M : Nat} (h : TabIs x w M) : w.cell? ⟨M + 4, 0, none⟩ = some (.map (some M)) ∧ w.cell? ⟨M + 4, 1, none⟩ = some (.map (some (M + 1))) ∧ w.cell? ⟨M + 4, 5, none⟩ = some (.map (some (M + 3))) := by
  obtain ⟨e, v, _, _, h1, _⟩ := h.tab
  exact ⟨h1.cell 0, h1.cell 1, h1.cell 5⟩

set_option maxHeartbeats 3200000 in
set_option maxRecDepth 100000 in
theorem asks_any (x : Pg) (M : Nat) (v : Value) (n : ByteArray) (ow : Int) (w : World) (hv : v.oneCell' = true) (hx : pgLies w x) (hT : TabIs x w M) (hn : n.size ≤ maxLen) (ho : (Lit.int .i64 ow).wf = true) :
    Calls Try.prog 10 #[tptr M, .agg (tval x v), .string n, .int .i64 ow] w fun en w' => en = .returned (.bool true) ∧ Below w.heap.size w w' := by
  have HI : Hid (AkInv x M v w (w.alloc (.cells #[.slice x.structs.p x.structs.l.length x.structs.cap, .slice x.globals.p x.globals.l.length x.globals.cap, .slice x.procs.p x.procs.l.length x.procs.cap, v] 35))) := Lib.hid (by
    have hb : Below w.heap.size w (w.alloc (.cells #[.slice x.structs.p x.structs.l.length x.structs.cap, .slice x.globals.p x.globals.l.length x.globals.cap, .slice x.procs.p x.procs.l.length x.procs.cap, v] 35)) := (Below.refl _ _).alloc (Nat.le_refl _) _
    exact ⟨hT.keep hb, pgLies_below hx hb, heap_alloc_new _ _, hb⟩)
  have HN := Lib.hid hn
  have HO := Lib.hid ho
  have HV := Lib.hid hv
  clear hx hT hn ho hv
  unfold tptr
  cases hin : isIn (sNames x.structs.l) n
  · have HIN := Lib.hid hin
    have HSX : Hid (sIx (sNames x.structs.l) n = -1 ∧ numOf (sNames x.structs.l) n = 0) := Lib.hid ⟨by unfold sIx; rw [hin]; rfl, by unfold numOf; rw [hin]; rfl⟩
    clear hin
    go_enter Try.func10, Try.ntmps10
    go_wp2_with fail
    generalize w.alloc (.cells #[.slice x.structs.p x.structs.l.length x.structs.cap, .slice x.globals.p x.globals.l.length x.globals.cap, .slice x.procs.p x.procs.l.length x.procs.cap, v] 35) = w0 at HI ⊢
    have C13 := struct_any n (M + 4) M _ w0 HI.out.tab.cells.1 HI.out.tab.rs HN.out
    rw [HIN.out, HSX.out.2] at C13
    have HC := Lib.hid C13
    clear C13
    refine HC.out.mono ?_; rintro en w1 ⟨rfl, rfl⟩
    clear HC
    have C0 := refStruct_any x n w0 HI.out.pg
    unfold pval at C0
    rw [HSX.out.1] at C0
    have HC := Lib.hid C0
    clear C0
    have q0 : w0.cell? ⟨w.heap.size, 0, none⟩ = some (.slice x.structs.p x.structs.l.length x.structs.cap) := HI.out.box.cell 0
    have q1 : w0.cell? ⟨w.heap.size, 1, none⟩ = some (.slice x.globals.p x.globals.l.length x.globals.cap) := HI.out.box.cell 1
    have q2 : w0.cell? ⟨w.heap.size, 2, none⟩ = some (.slice x.procs.p x.procs.l.length x.procs.cap) := HI.out.box.cell 2
    go_wp2_with fail
    clear q0 q1 q2
    refine HC.out.mono ?_; rintro en w1 ⟨rfl, hb⟩
    have HI1 := Lib.hid (HI.out.keep hb)
    clear hb HC
    have C0 := type_any n (M + 4) M _ w1 HI1.out.tab.cells.1 HI1.out.tab.rs HN.out
    have HC := Lib.hid C0
    clear C0
    have q0 : w1.cell? ⟨w.heap.size, 0, none⟩ = some (.slice x.structs.p x.structs.l.length x.structs.cap) := HI1.out.box.cell 0
    have q1 : w1.cell? ⟨w.heap.size, 1, none⟩ = some (.slice x.globals.p x.globals.l.length x.globals.cap) := HI1.out.box.cell 1
    have q2 : w1.cell? ⟨w.heap.size, 2, none⟩ = some (.slice x.procs.p x.procs.l.length x.procs.cap) := HI1.out.box.cell 2
    go_wp2_with fail
    clear q0 q1 q2
    refine HC.out.mono ?_; rintro en w9 ⟨rfl, rfl⟩
    clear HC
    have C0 := refType_any x n w1 HI1.out.pg
    unfold pval at C0
    have HC := Lib.hid C0
    clear C0
    have q0 : w1.cell? ⟨w.heap.size, 0, none⟩ = some (.slice x.structs.p x.structs.l.length x.structs.cap) := HI1.out.box.cell 0
    have q1 : w1.cell? ⟨w.heap.size, 1, none⟩ = some (.slice x.globals.p x.globals.l.length x.globals.cap) := HI1.out.box.cell 1
    have q2 : w1.cell? ⟨w.heap.size, 2, none⟩ = some (.slice x.procs.p x.procs.l.length x.procs.cap) := HI1.out.box.cell 2
    go_wp2_with fail
    clear q0 q1 q2
    refine HC.out.mono ?_; rintro en w2 ⟨rfl, hb⟩
    have HI2 := Lib.hid (HI1.out.keep hb)
    clear hb HC
    have C0 := field_any ow n (M + 4) (M + 1) _ w2 HI2.out.tab.cells.2.1 HI2.out.tab.rf HO.out HN.out
    have HC := Lib.hid C0
    clear C0
    have q0 : w2.cell? ⟨w.heap.size, 0, none⟩ = some (.slice x.structs.p x.structs.l.length x.structs.cap) := HI2.out.box.cell 0
    have q1 : w2.cell? ⟨w.heap.size, 1, none⟩ = some (.slice x.globals.p x.globals.l.length x.globals.cap) := HI2.out.box.cell 1
    have q2 : w2.cell? ⟨w.heap.size, 2, none⟩ = some (.slice x.procs.p x.procs.l.length x.procs.cap) := HI2.out.box.cell 2
    go_wp2_with fail
    clear q0 q1 q2
    refine HC.out.mono ?_; rintro en w3 ⟨rfl, hb⟩
    have HI3 := Lib.hid (HI2.out.keep hb)
    clear hb HC
    have C0 := refField_any x v ow n w3 HI3.out.pg
    unfold tval at C0
    have HC := Lib.hid C0
    clear C0
    have q0 : w3.cell? ⟨w.heap.size, 0, none⟩ = some (.slice x.structs.p x.structs.l.length x.structs.cap) := HI3.out.box.cell 0
    have q1 : w3.cell? ⟨w.heap.size, 1, none⟩ = some (.slice x.globals.p x.globals.l.length x.globals.cap) := HI3.out.box.cell 1
    have q2 : w3.cell? ⟨w.heap.size, 2, none⟩ = some (.slice x.procs.p x.procs.l.length x.procs.cap) := HI3.out.box.cell 2
    go_wp2_with (first | ((with_reducible show wpList _ _ _ (Oper.mk (some 71) _ _ _ _ _ :: _) _ _); refine wpList_load_arr rfl 35 (.tmp 5) rfl w.heap.size 0 rfl #[.slice x.structs.p x.structs.l.length x.structs.cap, .slice x.globals.p x.globals.l.length x.globals.cap, .slice x.procs.p x.procs.l.length x.procs.cap, v] _ HI3.out.box.range Try.underlying35 rfl size35 ?_))
    clear q0 q1 q2
    refine HC.out.mono ?_; rintro en w4 ⟨rfl, hb⟩
    have HI4 := Lib.hid (HI3.out.keep hb)
    clear hb HC
    have C0 := global_any x n M w4 HI4.out.tab HN.out
    unfold tptr at C0
    have HC := Lib.hid C0
    clear C0
    have q0 : w4.cell? ⟨w.heap.size, 0, none⟩ = some (.slice x.structs.p x.structs.l.length x.structs.cap) := HI4.out.box.cell 0
    have q1 : w4.cell? ⟨w.heap.size, 1, none⟩ = some (.slice x.globals.p x.globals.l.length x.globals.cap) := HI4.out.box.cell 1
    have q2 : w4.cell? ⟨w.heap.size, 2, none⟩ = some (.slice x.procs.p x.procs.l.length x.procs.cap) := HI4.out.box.cell 2
    go_wp2_with fail
    clear q0 q1 q2
    refine HC.out.mono ?_; rintro en w5 ⟨rfl, hb⟩
    have HI5 := Lib.hid (HI4.out.keep hb)
    clear hb HC
    have C0 := refGlobal_any x v n w5 HI5.out.pg
    unfold tval at C0
    have HC := Lib.hid C0
    clear C0
    have q0 : w5.cell? ⟨w.heap.size, 0, none⟩ = some (.slice x.structs.p x.structs.l.length x.structs.cap) := HI5.out.box.cell 0
    have q1 : w5.cell? ⟨w.heap.size, 1, none⟩ = some (.slice x.globals.p x.globals.l.length x.globals.cap) := HI5.out.box.cell 1
    have q2 : w5.cell? ⟨w.heap.size, 2, none⟩ = some (.slice x.procs.p x.procs.l.length x.procs.cap) := HI5.out.box.cell 2
    go_wp2_with (first | ((with_reducible show wpList _ _ _ (Oper.mk (some 103) _ _ _ _ _ :: _) _ _); refine wpList_load_arr rfl 35 (.tmp 5) rfl w.heap.size 0 rfl #[.slice x.structs.p x.structs.l.length x.structs.cap, .slice x.globals.p x.globals.l.length x.globals.cap, .slice x.procs.p x.procs.l.length x.procs.cap, v] _ HI5.out.box.range Try.underlying35 rfl size35 ?_))
    clear q0 q1 q2
    refine HC.out.mono ?_; rintro en w6 ⟨rfl, hb⟩
    have HI6 := Lib.hid (HI5.out.keep hb)
    clear hb HC
    have C0 := proc_any n (M + 4) (M + 3) _ w6 HI6.out.tab.cells.2.2 HI6.out.tab.rp HN.out
    have HC := Lib.hid C0
    clear C0
    have q0 : w6.cell? ⟨w.heap.size, 0, none⟩ = some (.slice x.structs.p x.structs.l.length x.structs.cap) := HI6.out.box.cell 0
    have q1 : w6.cell? ⟨w.heap.size, 1, none⟩ = some (.slice x.globals.p x.globals.l.length x.globals.cap) := HI6.out.box.cell 1
    have q2 : w6.cell? ⟨w.heap.size, 2, none⟩ = some (.slice x.procs.p x.procs.l.length x.procs.cap) := HI6.out.box.cell 2
    go_wp2_with fail
    clear q0 q1 q2
    refine HC.out.mono ?_; rintro en w9 ⟨rfl, rfl⟩
    clear HC
    have C0 := refProc_any x n w6 HI6.out.pg
    unfold pval at C0
    have HC := Lib.hid C0
    clear C0
    have q0 : w6.cell? ⟨w.heap.size, 0, none⟩ = some (.slice x.structs.p x.structs.l.length x.structs.cap) := HI6.out.box.cell 0
    have q1 : w6.cell? ⟨w.heap.size, 1, none⟩ = some (.slice x.globals.p x.globals.l.length x.globals.cap) := HI6.out.box.cell 1
    have q2 : w6.cell? ⟨w.heap.size, 2, none⟩ = some (.slice x.procs.p x.procs.l.length x.procs.cap) := HI6.out.box.cell 2
    go_wp2_with fail
    clear q0 q1 q2
    refine HC.out.mono ?_; rintro en w7 ⟨rfl, hb⟩
    have HI7 := Lib.hid (HI6.out.keep hb)
    clear hb HC
    go_wp2_with fail
    go_ret
    exact ⟨rfl, HI7.out.below⟩
  · have HIN := Lib.hid hin
    have hnn : 0 ≤ numOf (sNames x.structs.l) n := by rw [numOf_in hin]; exact Int.natCast_nonneg _
    have HSX : Hid (sIx (sNames x.structs.l) n = numOf (sNames x.structs.l) n) := Lib.hid (sIx_in hin)
    clear hin
    go_enter Try.func10, Try.ntmps10
    go_wp2_with fail
    generalize w.alloc (.cells #[.slice x.structs.p x.structs.l.length x.structs.cap, .slice x.globals.p x.globals.l.length x.globals.cap, .slice x.procs.p x.procs.l.length x.procs.cap, v] 35) = w0 at HI ⊢
    have C13 := struct_any n (M + 4) M _ w0 HI.out.tab.cells.1 HI.out.tab.rs HN.out
    rw [HIN.out] at C13
    have HC := Lib.hid C13
    clear C13
    refine HC.out.mono ?_; rintro en w1 ⟨rfl, rfl⟩
    clear HC
    have C0 := refStruct_any x n w0 HI.out.pg
    unfold pval at C0
    rw [HSX.out] at C0
    have HC := Lib.hid C0
    clear C0
    have q0 : w0.cell? ⟨w.heap.size, 0, none⟩ = some (.slice x.structs.p x.structs.l.length x.structs.cap) := HI.out.box.cell 0
    have q1 : w0.cell? ⟨w.heap.size, 1, none⟩ = some (.slice x.globals.p x.globals.l.length x.globals.cap) := HI.out.box.cell 1
    have q2 : w0.cell? ⟨w.heap.size, 2, none⟩ = some (.slice x.procs.p x.procs.l.length x.procs.cap) := HI.out.box.cell 2
    go_wp2_with fail
    clear q0 q1 q2
    refine HC.out.mono ?_; rintro en w1 ⟨rfl, hb⟩
    have HI1 := Lib.hid (HI.out.keep hb)
    clear hb HC
    have C0 := type_any n (M + 4) M _ w1 HI1.out.tab.cells.1 HI1.out.tab.rs HN.out
    have HC := Lib.hid C0
    clear C0
    have q0 : w1.cell? ⟨w.heap.size, 0, none⟩ = some (.slice x.structs.p x.structs.l.length x.structs.cap) := HI1.out.box.cell 0
    have q1 : w1.cell? ⟨w.heap.size, 1, none⟩ = some (.slice x.globals.p x.globals.l.length x.globals.cap) := HI1.out.box.cell 1
    have q2 : w1.cell? ⟨w.heap.size, 2, none⟩ = some (.slice x.procs.p x.procs.l.length x.procs.cap) := HI1.out.box.cell 2
    go_wp2_with fail
    clear q0 q1 q2
    refine HC.out.mono ?_; rintro en w9 ⟨rfl, rfl⟩
    clear HC
    have C0 := refType_any x n w1 HI1.out.pg
    unfold pval at C0
    have HC := Lib.hid C0
    clear C0
    have q0 : w1.cell? ⟨w.heap.size, 0, none⟩ = some (.slice x.structs.p x.structs.l.length x.structs.cap) := HI1.out.box.cell 0
    have q1 : w1.cell? ⟨w.heap.size, 1, none⟩ = some (.slice x.globals.p x.globals.l.length x.globals.cap) := HI1.out.box.cell 1
    have q2 : w1.cell? ⟨w.heap.size, 2, none⟩ = some (.slice x.procs.p x.procs.l.length x.procs.cap) := HI1.out.box.cell 2
    go_wp2_with fail
    clear q0 q1 q2
    refine HC.out.mono ?_; rintro en w2 ⟨rfl, hb⟩
    have HI2 := Lib.hid (HI1.out.keep hb)
    clear hb HC
    have C0 := field_any ow n (M + 4) (M + 1) _ w2 HI2.out.tab.cells.2.1 HI2.out.tab.rf HO.out HN.out
    have HC := Lib.hid C0
    clear C0
    have q0 : w2.cell? ⟨w.heap.size, 0, none⟩ = some (.slice x.structs.p x.structs.l.length x.structs.cap) := HI2.out.box.cell 0
    have q1 : w2.cell? ⟨w.heap.size, 1, none⟩ = some (.slice x.globals.p x.globals.l.length x.globals.cap) := HI2.out.box.cell 1
    have q2 : w2.cell? ⟨w.heap.size, 2, none⟩ = some (.slice x.procs.p x.procs.l.length x.procs.cap) := HI2.out.box.cell 2
    go_wp2_with fail
    clear q0 q1 q2
    refine HC.out.mono ?_; rintro en w3 ⟨rfl, hb⟩
    have HI3 := Lib.hid (HI2.out.keep hb)
    clear hb HC
    have C0 := refField_any x v ow n w3 HI3.out.pg
    unfold tval at C0
    have HC := Lib.hid C0
    clear C0
    have q0 : w3.cell? ⟨w.heap.size, 0, none⟩ = some (.slice x.structs.p x.structs.l.length x.structs.cap) := HI3.out.box.cell 0
    have q1 : w3.cell? ⟨w.heap.size, 1, none⟩ = some (.slice x.globals.p x.globals.l.length x.globals.cap) := HI3.out.box.cell 1
    have q2 : w3.cell? ⟨w.heap.size, 2, none⟩ = some (.slice x.procs.p x.procs.l.length x.procs.cap) := HI3.out.box.cell 2
    go_wp2_with (first | ((with_reducible show wpList _ _ _ (Oper.mk (some 71) _ _ _ _ _ :: _) _ _); refine wpList_load_arr rfl 35 (.tmp 5) rfl w.heap.size 0 rfl #[.slice x.structs.p x.structs.l.length x.structs.cap, .slice x.globals.p x.globals.l.length x.globals.cap, .slice x.procs.p x.procs.l.length x.procs.cap, v] _ HI3.out.box.range Try.underlying35 rfl size35 ?_))
    clear q0 q1 q2
    refine HC.out.mono ?_; rintro en w4 ⟨rfl, hb⟩
    have HI4 := Lib.hid (HI3.out.keep hb)
    clear hb HC
    have C0 := global_any x n M w4 HI4.out.tab HN.out
    unfold tptr at C0
    have HC := Lib.hid C0
    clear C0
    have q0 : w4.cell? ⟨w.heap.size, 0, none⟩ = some (.slice x.structs.p x.structs.l.length x.structs.cap) := HI4.out.box.cell 0
    have q1 : w4.cell? ⟨w.heap.size, 1, none⟩ = some (.slice x.globals.p x.globals.l.length x.globals.cap) := HI4.out.box.cell 1
    have q2 : w4.cell? ⟨w.heap.size, 2, none⟩ = some (.slice x.procs.p x.procs.l.length x.procs.cap) := HI4.out.box.cell 2
    go_wp2_with fail
    clear q0 q1 q2
    refine HC.out.mono ?_; rintro en w5 ⟨rfl, hb⟩
    have HI5 := Lib.hid (HI4.out.keep hb)
    clear hb HC
    have C0 := refGlobal_any x v n w5 HI5.out.pg
    unfold tval at C0
    have HC := Lib.hid C0
    clear C0
    have q0 : w5.cell? ⟨w.heap.size, 0, none⟩ = some (.slice x.structs.p x.structs.l.length x.structs.cap) := HI5.out.box.cell 0
    have q1 : w5.cell? ⟨w.heap.size, 1, none⟩ = some (.slice x.globals.p x.globals.l.length x.globals.cap) := HI5.out.box.cell 1
    have q2 : w5.cell? ⟨w.heap.size, 2, none⟩ = some (.slice x.procs.p x.procs.l.length x.procs.cap) := HI5.out.box.cell 2
    go_wp2_with (first | ((with_reducible show wpList _ _ _ (Oper.mk (some 103) _ _ _ _ _ :: _) _ _); refine wpList_load_arr rfl 35 (.tmp 5) rfl w.heap.size 0 rfl #[.slice x.structs.p x.structs.l.length x.structs.cap, .slice x.globals.p x.globals.l.length x.globals.cap, .slice x.procs.p x.procs.l.length x.procs.cap, v] _ HI5.out.box.range Try.underlying35 rfl size35 ?_))
    clear q0 q1 q2
    refine HC.out.mono ?_; rintro en w6 ⟨rfl, hb⟩
    have HI6 := Lib.hid (HI5.out.keep hb)
    clear hb HC
    have C0 := proc_any n (M + 4) (M + 3) _ w6 HI6.out.tab.cells.2.2 HI6.out.tab.rp HN.out
    have HC := Lib.hid C0
    clear C0
    have q0 : w6.cell? ⟨w.heap.size, 0, none⟩ = some (.slice x.structs.p x.structs.l.length x.structs.cap) := HI6.out.box.cell 0
    have q1 : w6.cell? ⟨w.heap.size, 1, none⟩ = some (.slice x.globals.p x.globals.l.length x.globals.cap) := HI6.out.box.cell 1
    have q2 : w6.cell? ⟨w.heap.size, 2, none⟩ = some (.slice x.procs.p x.procs.l.length x.procs.cap) := HI6.out.box.cell 2
    go_wp2_with fail
    clear q0 q1 q2
    refine HC.out.mono ?_; rintro en w9 ⟨rfl, rfl⟩
    clear HC
    have C0 := refProc_any x n w6 HI6.out.pg
    unfold pval at C0
    have HC := Lib.hid C0
    clear C0
    have q0 : w6.cell? ⟨w.heap.size, 0, none⟩ = some (.slice x.structs.p x.structs.l.length x.structs.cap) := HI6.out.box.cell 0
    have q1 : w6.cell? ⟨w.heap.size, 1, none⟩ = some (.slice x.globals.p x.globals.l.length x.globals.cap) := HI6.out.box.cell 1
    have q2 : w6.cell? ⟨w.heap.size, 2, none⟩ = some (.slice x.procs.p x.procs.l.length x.procs.cap) := HI6.out.box.cell 2
    go_wp2_with fail
    clear q0 q1 q2
    refine HC.out.mono ?_; rintro en w7 ⟨rfl, hb⟩
    have HI7 := Lib.hid (HI6.out.keep hb)
    clear hb HC
    go_wp2_with fail
    go_ret
    exact ⟨rfl, HI7.out.below⟩
end Go.Proofs.Ytjkgkigfmcegoaa
