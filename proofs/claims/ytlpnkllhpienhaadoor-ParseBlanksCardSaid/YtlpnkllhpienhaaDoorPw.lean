/-
  DERIVED. The walks of the parser's smallest calls: stop, behind, take, may, must, name.
-/
import Derived.Test.YtlpnkllhpienhaaDoorPs
import Derived.WalkLawsBesides
import Derived.Deep.DeepCutAuto
namespace Go.Proofs.YtlpnkllhpienhaaDoor
open Go.RowKit Go.Sort

attribute [local go_sem] field79_0 field79_1 field79_2 field79_3

/-- What the parser panics with. -/
def faultAt (p err : Int) : Ending := .panicked [{ v := .iface 75 (.agg #[.int .i64 p, .int .i64 err]), recovered := false }]
set_option maxHeartbeats 800000 in
set_option maxRecDepth 100000 in
theorem stop_any (x : Tx.Sg) (err : Int) {pb sb cap : Nat} {l : List Tx.Sg} {i : Nat} {o b : Int} (w : World) (h : PS w pb sb cap l i o b) (hg : Good l) (hx : l[i]? = some x) :
    Calls Tryd.prog 24 #[.pointer (some ⟨pb, 0, none⟩), .int .i64 err] w fun e w' => e = faultAt x.pos err ∧ Below w.heap.size w w' := by
  have HA := Lib.hid (ahead_any x w h hg hx)
  clear h hg hx
  go_enter Tryd.func24, Tryd.ntmps24
  go_wp2_with fail
  refine (HA.out).mono ?_; rintro en w1 ⟨rfl, hb⟩
  have HB := Lib.hid hb
  clear hb
  go_wp2
  exact ⟨rfl, rfl, HB.out⟩

theorem Good.more {l : List Tx.Sg} (hg : Good l) {i : Nat} {x : Tx.Sg} (hx : l[i]? = some x) (hk : x.kind ≠ 0) : i + 1 < l.length := by
  have hi := (List.getElem?_eq_some_iff.1 hx).1
  have : ¬ i + 1 = l.length := fun e => hk ((hg.fin i x hx).2 e)
  omega
theorem Good.kind {l : List Tx.Sg} (hg : Good l) {i : Nat} {x : Tx.Sg} {s : ByteArray} (hx : l[i]? = some x) (ht : (x.text.toList == s.toList) = true) (hs : s.toList.length ≠ 0) : x.kind ≠ 0 := fun h0 => by
  have h1 := (hg.fin i x hx).1 h0
  have h2 := hg.none i x hx h1
  rw [h2, beq_iff_eq] at ht
  rw [← ht] at hs
  exact hs (by rw [Lib.toList_data]; rfl)
/-- The parser goes one sign further. -/
theorem PS.step {w : World} {pb sb cap : Nat} {l : List Tx.Sg} {i : Nat} {o b : Int} (h : PS w pb sb cap l i o b) (hi : i + 1 < l.length) : PS (w.setCell ⟨pb, 1, none⟩ (.int .i64 ((i + 1 : Nat) : Int))) pb sb cap l (i + 1) o b :=
  ⟨h.blk.set_ 1 _, fun k x hx j v hv => (World.cell?_setCell_other _ _ _ _ (by intro e; injection e with e; exact h.ne e.symm)).trans (h.row k x hx j v hv), h.ne, hi⟩
theorem PS.far {w w' : World} {pb sb cap g : Nat} {l : List Tx.Sg} {i : Nat} {o b : Int} (h : PS w pb sb cap l i o b) (hb : w.grownBy w' (some g)) (h1 : g ≠ pb) (h2 : g ≠ sb) : PS w' pb sb cap l i o b :=
  ⟨(hb.block pb h.pb_lt (by intro e; injection e with e; exact h1 e.symm)).trans h.blk, fun k x hx j v hv => hb.cell (h.row k x hx j v hv) (by intro e; injection e with e; exact h2 e.symm), h.ne, h.lt⟩
theorem PS.sb_lt {w : World} {pb sb cap : Nat} {l : List Tx.Sg} {i : Nat} {o b : Int} (h : PS w pb sb cap l i o b) : sb < w.heap.size := by
  have hi := h.lt
  have := World.block_lt_of_cell? w _ (h.row i l[i] (List.getElem?_eq_getElem hi) 0 _ rfl)
  exact this

theorem grownBy_tr {a b c : World} {r : Option Nat} (h : a.grownBy b r) (k : b.grownBy c r) : a.grownBy c r :=
  ⟨k.os.trans h.os, k.tape.trans h.tape, k.output.trans h.output, Nat.le_trans h.size k.size, fun i hi hne => (k.block i (Nat.lt_of_lt_of_le hi h.size) hne).trans (h.block i hi hne)⟩

set_option maxHeartbeats 1600000 in
set_option maxRecDepth 100000 in
theorem take_any (x : Tx.Sg) {pb sb cap : Nat} {l : List Tx.Sg} {i : Nat} {o b : Int} (w : World) (h : PS w pb sb cap l i o b) (hg : Good l) (hx : l[i]? = some x) (hk : x.kind ≠ 0) :
    Calls Tryd.prog 43 #[.pointer (some ⟨pb, 0, none⟩)] w fun e w' => e = .returned (.agg #[.int .i64 x.kind, .int .i64 x.pos, .string x.text, .int .i64 x.num]) ∧ PS w' pb sb cap l (i + 1) o b ∧ w.grownBy w' (some pb) := by
  have hl : l.length ≤ 6000000 := hg.len
  have hi : i + 1 < l.length := hg.more hx hk
  have hn : Below w.heap.size w (w.alloc (.cells #[.int .i64 0, .int .i64 0, .string ByteArray.empty, .int .i64 0] 79)) := (Below.refl _ _).alloc (Nat.le_refl _) _
  have hk0 : Bk (w.alloc (.cells #[.int .i64 0, .int .i64 0, .string ByteArray.empty, .int .i64 0] 79)) w.heap.size 79 #[.int .i64 0, .int .i64 0, .string ByteArray.empty, .int .i64 0] := heap_alloc_new _ _
  have HP0 := Lib.hid (h.below hn)
  have HA := Lib.hid (ahead_any x _ (h.below hn) hg hx)
  have HN := Lib.hid hn; have HK := Lib.hid hk0
  have HNE : Hid (w.heap.size ≠ pb ∧ w.heap.size ≠ sb) := Lib.hid ⟨fun e => by have := h.pb_lt; omega, fun e => by have := h.sb_lt; omega⟩
  have HZ : Hid ((w.alloc (.cells #[.int .i64 0, .int .i64 0, .string ByteArray.empty, .int .i64 0] 79)).heap.size = w.heap.size + 1) := Lib.hid (by simp)
  have HI := Lib.hid hi
  clear h hg hx hk hn hk0
  go_enter Tryd.func43, Tryd.ntmps43
  go_wp2_with fail
  refine (HA.out).mono ?_; rintro en w1 ⟨rfl, hb⟩
  generalize w.alloc (.cells #[.int .i64 0, .int .i64 0, .string ByteArray.empty, .int .i64 0] 79) = wA at HP0 HA HN HK HZ hb
  have HW1 : Hid (Below w.heap.size w w1) := Lib.hid (HN.out.trans (hb.mono HN.out.size))
  have HK1 := Lib.hid (HK.out.below hb (by rw [HZ.out]; omega))
  have HP1 := Lib.hid (HP0.out.below hb)
  clear hb
  go_upto_region 2 with fail
  have hm : Below w1.heap.size w1 (w1.alloc (.cells #[.int .i64 x.kind, .int .i64 x.pos, .string x.text, .int .i64 x.num] 79)) := (Below.refl _ _).alloc (Nat.le_refl _) _
  have HP2 := Lib.hid (HP1.out.below hm)
  have HKR := Lib.hid (HK1.out.below hm (Array.getElem?_eq_some_iff.1 HK1.out).1)
  have HKT : Hid (Bk (w1.alloc (.cells #[.int .i64 x.kind, .int .i64 x.pos, .string x.text, .int .i64 x.num] 79)) w1.heap.size 79 #[.int .i64 x.kind, .int .i64 x.pos, .string x.text, .int .i64 x.num]) := Lib.hid (heap_alloc_new _ _)
  have HW2 : Hid (Below w.heap.size w (w1.alloc (.cells #[.int .i64 x.kind, .int .i64 x.pos, .string x.text, .int .i64 x.num] 79))) := Lib.hid (HW1.out.trans (hm.mono HW1.out.size))
  have HTP : Hid (w1.heap.size ≠ pb ∧ w1.heap.size ≠ w.heap.size) := Lib.hid ⟨fun e => by have := HP1.out.pb_lt; omega, fun e => by have := (Array.getElem?_eq_some_iff.1 HK1.out).1; omega⟩
  clear hm
  obtain ⟨T, hT⟩ : ∃ T, T = w1.heap.size := ⟨_, rfl⟩
  rw [← hT] at HKT HTP ⊢
  clear hT
  generalize w1.alloc (.cells #[.int .i64 x.kind, .int .i64 x.pos, .string x.text, .int .i64 x.num] 79) = w2 at HP2 HKR HKT HW2 ⊢
  have p1 : w2.cell? ⟨pb, 1, none⟩ = some (.int .i64 i) := HP2.out.blk.cell 1
  have g1 := HP2.out.blk.frozen 1
  go_upto_region 3 with fail
  have hgb := grownBy_setC w2 ⟨pb, 1, none⟩ (.int .i64 ((i + 1 : Nat) : Int))
  have HP3 : Hid (PS (w2.setCell ⟨pb, 1, none⟩ (.int .i64 ((i : Int) + 1))) pb sb cap l (i + 1) o b) := Lib.hid (HP2.out.step HI.out)
  have HG3 : Hid (w.grownBy (w2.setCell ⟨pb, 1, none⟩ (.int .i64 ((i : Int) + 1))) (some pb)) := Lib.hid ⟨hgb.os.trans HW2.out.os, hgb.tape.trans HW2.out.tape, hgb.output.trans HW2.out.output, Nat.le_trans HW2.out.size hgb.size, fun k hk hne => (hgb.block k (Nat.lt_of_lt_of_le hk HW2.out.size) hne).trans (HW2.out.block k hk)⟩
  have HKR3 : Hid (Bk (w2.setCell ⟨pb, 1, none⟩ (.int .i64 ((i : Int) + 1))) w.heap.size 79 #[.int .i64 0, .int .i64 0, .string ByteArray.empty, .int .i64 0]) := Lib.hid (HKR.out.far (p := ⟨pb, 1, none⟩) HNE.out.1 _)
  have HKT3 : Hid (Bk (w2.setCell ⟨pb, 1, none⟩ (.int .i64 ((i : Int) + 1))) T 79 #[.int .i64 x.kind, .int .i64 x.pos, .string x.text, .int .i64 x.num]) := Lib.hid (HKT.out.far (p := ⟨pb, 1, none⟩) HTP.out.1 _)
  clear hgb p1 g1
  generalize w2.setCell ⟨pb, 1, none⟩ (.int .i64 ((i : Int) + 1)) = w3 at HP3 HG3 HKR3 HKT3 ⊢
  have t0 : w3.cell? ⟨T, 0, none⟩ = some (.int .i64 x.kind) := HKT3.out.cell 0
  have t1 : w3.cell? ⟨T, 1, none⟩ = some (.int .i64 x.pos) := HKT3.out.cell 1
  have t2 : w3.cell? ⟨T, 2, none⟩ = some (.string x.text) := HKT3.out.cell 2
  have t3 : w3.cell? ⟨T, 3, none⟩ = some (.int .i64 x.num) := HKT3.out.cell 3
  have r0 : w3.cell? ⟨w.heap.size, 0, none⟩ = some (.int .i64 0) := HKR3.out.cell 0
  have r1 : w3.cell? ⟨w.heap.size, 1, none⟩ = some (.int .i64 0) := HKR3.out.cell 1
  have r2 : w3.cell? ⟨w.heap.size, 2, none⟩ = some (.string ByteArray.empty) := HKR3.out.cell 2
  have r3 : w3.cell? ⟨w.heap.size, 3, none⟩ = some (.int .i64 0) := HKR3.out.cell 3
  have f0 := HKR3.out.frozen 0
  have f1 := HKR3.out.frozen 1
  have f2 := HKR3.out.frozen 2
  have f3 := HKR3.out.frozen 3
  go_wp2_with fail
  clear t0 t1 t2 t3 r0 r1 r2 r3 f0 f1 f2 f3
  have hB : Bk ((((w3.setCell ⟨w.heap.size, 0, none⟩ (.int .i64 x.kind)).setCell ⟨w.heap.size, 1, none⟩ (.int .i64 x.pos)).setCell ⟨w.heap.size, 2, none⟩ (.string x.text)).setCell ⟨w.heap.size, 3, none⟩ (.int .i64 x.num)) w.heap.size 79 #[.int .i64 x.kind, .int .i64 x.pos, .string x.text, .int .i64 x.num] := (((HKR3.out.set_ 0 _).set_ 1 _).set_ 2 _).set_ 3 _
  have hF : w3.grownBy ((((w3.setCell ⟨w.heap.size, 0, none⟩ (.int .i64 x.kind)).setCell ⟨w.heap.size, 1, none⟩ (.int .i64 x.pos)).setCell ⟨w.heap.size, 2, none⟩ (.string x.text)).setCell ⟨w.heap.size, 3, none⟩ (.int .i64 x.num)) (some w.heap.size) := grownBy_tr (grownBy_tr (grownBy_tr (grownBy_setC _ ⟨w.heap.size, 0, none⟩ _) (grownBy_setC _ ⟨w.heap.size, 1, none⟩ _)) (grownBy_setC _ ⟨w.heap.size, 2, none⟩ _)) (grownBy_setC _ ⟨w.heap.size, 3, none⟩ _)
  generalize (((w3.setCell ⟨w.heap.size, 0, none⟩ (.int .i64 x.kind)).setCell ⟨w.heap.size, 1, none⟩ (.int .i64 x.pos)).setCell ⟨w.heap.size, 2, none⟩ (.string x.text)).setCell ⟨w.heap.size, 3, none⟩ (.int .i64 x.num) = w4 at hB hF ⊢
  have e0 := hB.cell 0
  have e1 := hB.cell 1
  have e2 := hB.cell 2
  have e3 := hB.cell 3
  exact bodyPost_ret (v := .agg #[.int .i64 x.kind, .int .i64 x.pos, .string x.text, .int .i64 x.num]) (by simp [results, Tryd.results43, go_sem, e0, e1, e2, e3]) rfl ⟨rfl, HP3.out.far hF HNE.out.1 HNE.out.2, ⟨hF.os.trans HG3.out.os, hF.tape.trans HG3.out.tape, hF.output.trans HG3.out.output, Nat.le_trans HG3.out.size hF.size, fun k hk hne => (hF.block k (Nat.lt_of_lt_of_le hk HG3.out.size) (by intro e; injection e with e; omega)).trans (HG3.out.block k hk hne)⟩⟩

end Go.Proofs.YtlpnkllhpienhaaDoor
