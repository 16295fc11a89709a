/-
  The document's reader: its block; the sign that is next. The document's reader: is, take, stop, want, name. The document's reader: want, name. The document's reader: what a part of it ends in; terms. The document's reader: how it stands behind a part; the signs' functions in that form. The document'
-/
import Derived.Test.YtdlchhimkelinaaGreatDoorK11
import Derived.Test.YtdlchhimkelinaaGreatDoorK07
import Derived.Test.YtdlchhimkelinaaGreatDoorK03
import Derived.Test.YtdlchhimkelinaaGreatDoorK04
import Derived.Deep.LoopGhost
set_option maxHeartbeats 6400000
set_option maxRecDepth 100000
namespace Go.Proofs.YtdlchhimkelinaaGreatDoor
open Go.RowKit Go.Sort
/-- The reader in block rb over the signs l: k: the next one; o, b: what is open and begun; a, e: the error. -/
structure RS (w : World) (rb sb cap : Nat) (l : List Tx.Sg) (k : Nat) (o b a e : Int) : Prop where
 blk : Bk w rb 70 #[.slice (some ⟨sb, 0, none⟩) l.length cap, .int .i64 k, .int .i64 o, .int .i64 b, .int .i64 a, .int .i64 e]
 row : ∀ j x, l[j]? = some x → w.rangeAt sb (j * 4) [.int .i64 x.kind, .int .i64 x.pos, .string x.text, .int .i64 x.num]
 ne : sb ≠ rb
 pos : 0 < l.length
 len : l.length ≤ 70000
 kb : k ≤ 1000000
theorem RS.rb_lt {w : World} {rb sb cap : Nat} {l : List Tx.Sg} {k : Nat} {o b a e : Int} (h : RS w rb sb cap l k o b a e) : rb < w.heap.size := (Array.getElem?_eq_some_iff.1 h.blk).1
theorem RS.below {w w' : World} {rb sb cap : Nat} {l : List Tx.Sg} {k : Nat} {o b a e : Int} (h : RS w rb sb cap l k o b a e) (hb : Below w.heap.size w w') : RS w' rb sb cap l k o b a e :=
 ⟨h.blk.below hb h.rb_lt, fun j x hx => rangeAt_below (h.row j x hx) hb, h.ne, h.pos, h.len, h.kb⟩
theorem RS.sb_lt {w : World} {rb sb cap : Nat} {l : List Tx.Sg} {k : Nat} {o b a e : Int} (h : RS w rb sb cap l k o b a e) : sb < w.heap.size := by
 have h0 := h.row 0 (l[0]'h.pos) (List.getElem?_eq_getElem h.pos)
 have := cell_at h0 0 _ rfl
 exact World.block_lt_of_cell? w _ this
/-- The sign at a place, or the last one. -/
def rsg (l : List Tx.Sg) (k : Nat) : Tx.Sg := Pa.sg l (min k (l.length - 1))
theorem rsg_mem {l : List Tx.Sg} (k : Nat) (h : 0 < l.length) : l[min k (l.length - 1)]? = some (rsg l k) := by
 unfold rsg Pa.sg
 rw [List.getD_eq_getElem?_getD, List.getElem?_eq_getElem (by omega)]; rfl
theorem rsg_lt {l : List Tx.Sg} {k : Nat} (h : k < l.length) : rsg l k = Pa.sg l k := by unfold rsg; rw [Nat.min_eq_left (by omega)]
theorem sign_at {w : World} {sb j : Nat} {x : Tx.Sg} (h : w.rangeAt sb (j * 4) [.int .i64 x.kind, .int .i64 x.pos, .string x.text, .int .i64 x.num]) :
  w.cell? ⟨sb, j * 4, none⟩ = some (.int .i64 x.kind) ∧ w.cell? ⟨sb, j * 4 + 1, none⟩ = some (.int .i64 x.pos) ∧ w.cell? ⟨sb, j * 4 + 2, none⟩ = some (.string x.text) ∧ w.cell? ⟨sb, j * 4 + 3, none⟩ = some (.int .i64 x.num) :=
 ⟨by have := cell_at h 0 _ rfl; rwa [Nat.add_zero] at this, cell_at h 1 _ rfl, cell_at h 2 _ rfl, cell_at h 3 _ rfl⟩
theorem size72 : (Tryz.prog.info? 72).map (·.size) = some 4 := by kernel_rfl
theorem below_rp {w0 w w' : World} {g : Nat} (h : Below w0.heap.size w0 w) (hg : w.grownBy w' (some g)) (hB : w0.heap.size ≤ g) : Below w0.heap.size w0 w' :=
 ⟨hg.os.trans h.os, hg.tape.trans h.tape, hg.output.trans h.output, Nat.le_trans h.size hg.size, fun i hi => (hg.block i (Nat.lt_of_lt_of_le hi h.size) (by intro e; injection e with e; omega)).trans (h.block i hi)⟩
theorem sign_put {w : World} {A : Nat} {k p : Int} {t : ByteArray} {n : Int} {u0 u1 u2 u3 : Value} (h : Bk w A 72 #[u0, u1, u2, u3]) :
  Bk ((((w.setCell ⟨A, 0, none⟩ (.int .i64 k)).setCell ⟨A, 1, none⟩ (.int .i64 p)).setCell ⟨A, 2, none⟩ (.string t)).setCell ⟨A, 3, none⟩ (.int .i64 n)) A 72 #[.int .i64 k, .int .i64 p, .string t, .int .i64 n] ∧
  w.grownBy ((((w.setCell ⟨A, 0, none⟩ (.int .i64 k)).setCell ⟨A, 1, none⟩ (.int .i64 p)).setCell ⟨A, 2, none⟩ (.string t)).setCell ⟨A, 3, none⟩ (.int .i64 n)) (some A) :=
 ⟨(((h.set_ 0 _).set_ 1 _).set_ 2 _).set_ 3 _, grownBy_tr (grownBy_tr (grownBy_tr (grownBy_setC _ ⟨A, 0, none⟩ _) (grownBy_setC _ ⟨A, 1, none⟩ _)) (grownBy_setC _ ⟨A, 2, none⟩ _)) (grownBy_setC _ ⟨A, 3, none⟩ _)⟩
theorem now_any {rb sb cap : Nat} {l : List Tx.Sg} {k : Nat} {o b a e : Int} (w : World) (h : RS w rb sb cap l k o b a e) :
  Calls Tryz.prog 21 #[.pointer (some ⟨rb, 0, none⟩)] w fun en w' => en = .returned (.agg #[.int .i64 (rsg l k).kind, .int .i64 (rsg l k).pos, .string (rsg l k).text, .int .i64 (rsg l k).num]) ∧ Below w.heap.size w w' := by
 obtain ⟨wA, hwA⟩ : ∃ wA : World, wA = w.alloc (.cells #[.int .i64 0, .int .i64 0, .string ByteArray.empty, .int .i64 0] 72) := ⟨_, rfl⟩
 have HBA : Hid (Below w.heap.size w wA) := hdn (by rw [hwA]; exact (Below.refl _ _).alloc (Nat.le_refl _) _)
 have HKA : Hid (Bk wA w.heap.size 72 #[.int .i64 0, .int .i64 0, .string ByteArray.empty, .int .i64 0]) := hdn (by rw [hwA]; exact heap_alloc_new _ _)
 have h1 := h.below HBA.out
 have c0 : wA.drew.cell? ⟨rb, 0, none⟩ = some (.slice (some ⟨sb, 0, none⟩) l.length cap) := h1.blk.cell 0
 have c1 : wA.drew.cell? ⟨rb, 1, none⟩ = some (.int .i64 k) := h1.blk.cell 1
 obtain ⟨j, hj⟩ : ∃ j, j = min k (l.length - 1) := ⟨_, rfl⟩
 obtain ⟨s0, s1, s2, s3⟩ := sign_at (w := wA.drew) (h1.row _ _ (rsg_mem k h.pos))
 rw [← hj] at s0 s1 s2 s3
 have hl := h.len; have hp := h.pos; have hkb := h.kb
 have hmin : min (k : Int) ((l.length : Int) - 1) = (j : Int) := by omega
 have hj0 : (0 : Int) ≤ (j : Int) := Int.natCast_nonneg _
 have hj1 : (j : Int) < (l.length : Int) := by omega
 have hk0 : (0 : Int) ≤ (k : Int) := Int.natCast_nonneg _
 have hk1 : (k : Int) ≤ 1000000 := by omega
 have hl1 : (l.length : Int) ≤ 70000 := by omega
 have hl0 : (1 : Int) ≤ (l.length : Int) := by omega
 have hA0 : wA.drew.cell? ⟨w.heap.size, 0, none⟩ = some (.int .i64 0) := HKA.out.cell 0
 have hA1 : wA.drew.cell? ⟨w.heap.size, 1, none⟩ = some (.int .i64 0) := HKA.out.cell 1
 have hA2 : wA.drew.cell? ⟨w.heap.size, 2, none⟩ = some (.string ByteArray.empty) := HKA.out.cell 2
 have hA3 : wA.drew.cell? ⟨w.heap.size, 3, none⟩ = some (.int .i64 0) := HKA.out.cell 3
 have f0 : wA.drew.frozen? ⟨w.heap.size, 0, none⟩ = false := HKA.out.frozen 0
 have f1 : wA.drew.frozen? ⟨w.heap.size, 1, none⟩ = false := HKA.out.frozen 1
 have f2 : wA.drew.frozen? ⟨w.heap.size, 2, none⟩ = false := HKA.out.frozen 2
 have f3 : wA.drew.frozen? ⟨w.heap.size, 3, none⟩ = false := HKA.out.frozen 3
 have gA0 : wA.cell? ⟨w.heap.size, 0, none⟩ = some (.int .i64 0) := HKA.out.cell 0
 have g0 : wA.frozen? ⟨w.heap.size, 0, none⟩ = false := HKA.out.frozen 0
 have gA1 : wA.cell? ⟨w.heap.size, 1, none⟩ = some (.int .i64 0) := HKA.out.cell 1
 have g1 : wA.frozen? ⟨w.heap.size, 1, none⟩ = false := HKA.out.frozen 1
 have gA2 : wA.cell? ⟨w.heap.size, 2, none⟩ = some (.string ByteArray.empty) := HKA.out.cell 2
 have g2 : wA.frozen? ⟨w.heap.size, 2, none⟩ = false := HKA.out.frozen 2
 have gA3 : wA.cell? ⟨w.heap.size, 3, none⟩ = some (.int .i64 0) := HKA.out.cell 3
 have g3 : wA.frozen? ⟨w.heap.size, 3, none⟩ = false := HKA.out.frozen 3
 generalize rsg l k = x at *
 clear h h1 hj
 go_enter Tryz.func21, Tryz.ntmps21
 go_upto_region 1 with fail
 rw [show w.alloc (.cells #[.int .i64 0, .int .i64 0, .string ⟨#[]⟩, .int .i64 0] 72) = wA from hwA.symm]
 clear hwA
 obtain ⟨A, hA⟩ : ∃ A, A = w.heap.size := ⟨_, rfl⟩
 rw [← hA] at HKA hA0 hA1 hA2 hA3 f0 f1 f2 f3 gA0 gA1 gA2 gA3 g0 g1 g2 g3 ⊢
 have HA := hdn hA
 clear hA
 have hB := hdn (sign_put (k := x.kind) (p := x.pos) (t := x.text) (n := x.num) HKA.out)
 go_region
 generalize ((((wA.setCell ⟨A, 0, none⟩ (.int .i64 x.kind)).setCell ⟨A, 1, none⟩ (.int .i64 x.pos)).setCell ⟨A, 2, none⟩ (.string x.text)).setCell ⟨A, 3, none⟩ (.int .i64 x.num)) = wZ at hB ⊢
 go_wp2_with fail
 exact bodyPost_ret (results_cell_row Tryz.results21 _ _ A 72 #[.int .i64 x.kind, .int .i64 x.pos, .string x.text, .int .i64 x.num] (0, 0) _ rfl hB.out.1 Tryz.underlying72 rfl size72) rfl ⟨rfl, below_drew (below_rp HBA.out hB.out.2 (by rw [HA.out]; exact Nat.le_refl _))⟩
theorem later_any {rb sb cap : Nat} {l : List Tx.Sg} {k : Nat} {o b a e : Int} (w : World) (h : RS w rb sb cap l k o b a e) :
  Calls Tryz.prog 52 #[.pointer (some ⟨rb, 0, none⟩)] w fun en w' => en = .returned (.agg #[.int .i64 (rsg l (k + 1)).kind, .int .i64 (rsg l (k + 1)).pos, .string (rsg l (k + 1)).text, .int .i64 (rsg l (k + 1)).num]) ∧ Below w.heap.size w w' := by
 obtain ⟨wA, hwA⟩ : ∃ wA : World, wA = w.alloc (.cells #[.int .i64 0, .int .i64 0, .string ByteArray.empty, .int .i64 0] 72) := ⟨_, rfl⟩
 have HBA : Hid (Below w.heap.size w wA) := hdn (by rw [hwA]; exact (Below.refl _ _).alloc (Nat.le_refl _) _)
 have HKA : Hid (Bk wA w.heap.size 72 #[.int .i64 0, .int .i64 0, .string ByteArray.empty, .int .i64 0]) := hdn (by rw [hwA]; exact heap_alloc_new _ _)
 have h1 := h.below HBA.out
 have c0 : wA.drew.cell? ⟨rb, 0, none⟩ = some (.slice (some ⟨sb, 0, none⟩) l.length cap) := h1.blk.cell 0
 have c1 : wA.drew.cell? ⟨rb, 1, none⟩ = some (.int .i64 k) := h1.blk.cell 1
 obtain ⟨j, hj⟩ : ∃ j, j = min (k + 1) (l.length - 1) := ⟨_, rfl⟩
 obtain ⟨s0, s1, s2, s3⟩ := sign_at (w := wA.drew) (h1.row _ _ (rsg_mem (k + 1) h.pos))
 rw [← hj] at s0 s1 s2 s3
 have hl := h.len; have hp := h.pos; have hkb := h.kb
 have hmin : min ((k : Int) + 1) ((l.length : Int) - 1) = (j : Int) := by omega
 have hj0 : (0 : Int) ≤ (j : Int) := Int.natCast_nonneg _
 have hj1 : (j : Int) < (l.length : Int) := by omega
 have hk0 : (0 : Int) ≤ (k : Int) := Int.natCast_nonneg _
 have hk1 : (k : Int) ≤ 1000000 := by omega
 have hl1 : (l.length : Int) ≤ 70000 := by omega
 have hl0 : (1 : Int) ≤ (l.length : Int) := by omega
 have hA0 : wA.drew.cell? ⟨w.heap.size, 0, none⟩ = some (.int .i64 0) := HKA.out.cell 0
 have hA1 : wA.drew.cell? ⟨w.heap.size, 1, none⟩ = some (.int .i64 0) := HKA.out.cell 1
 have hA2 : wA.drew.cell? ⟨w.heap.size, 2, none⟩ = some (.string ByteArray.empty) := HKA.out.cell 2
 have hA3 : wA.drew.cell? ⟨w.heap.size, 3, none⟩ = some (.int .i64 0) := HKA.out.cell 3
 have f0 : wA.drew.frozen? ⟨w.heap.size, 0, none⟩ = false := HKA.out.frozen 0
 have f1 : wA.drew.frozen? ⟨w.heap.size, 1, none⟩ = false := HKA.out.frozen 1
 have f2 : wA.drew.frozen? ⟨w.heap.size, 2, none⟩ = false := HKA.out.frozen 2
 have f3 : wA.drew.frozen? ⟨w.heap.size, 3, none⟩ = false := HKA.out.frozen 3
 have gA0 : wA.cell? ⟨w.heap.size, 0, none⟩ = some (.int .i64 0) := HKA.out.cell 0
 have g0 : wA.frozen? ⟨w.heap.size, 0, none⟩ = false := HKA.out.frozen 0
 have gA1 : wA.cell? ⟨w.heap.size, 1, none⟩ = some (.int .i64 0) := HKA.out.cell 1
 have g1 : wA.frozen? ⟨w.heap.size, 1, none⟩ = false := HKA.out.frozen 1
 have gA2 : wA.cell? ⟨w.heap.size, 2, none⟩ = some (.string ByteArray.empty) := HKA.out.cell 2
 have g2 : wA.frozen? ⟨w.heap.size, 2, none⟩ = false := HKA.out.frozen 2
 have gA3 : wA.cell? ⟨w.heap.size, 3, none⟩ = some (.int .i64 0) := HKA.out.cell 3
 have g3 : wA.frozen? ⟨w.heap.size, 3, none⟩ = false := HKA.out.frozen 3
 generalize rsg l (k + 1) = x at *
 clear h h1 hj
 go_enter Tryz.func52, Tryz.ntmps52
 go_upto_region 1 with fail
 rw [show w.alloc (.cells #[.int .i64 0, .int .i64 0, .string ⟨#[]⟩, .int .i64 0] 72) = wA from hwA.symm]
 clear hwA
 obtain ⟨A, hA⟩ : ∃ A, A = w.heap.size := ⟨_, rfl⟩
 rw [← hA] at HKA hA0 hA1 hA2 hA3 f0 f1 f2 f3 gA0 gA1 gA2 gA3 g0 g1 g2 g3 ⊢
 have HA := hdn hA
 clear hA
 have hB := hdn (sign_put (k := x.kind) (p := x.pos) (t := x.text) (n := x.num) HKA.out)
 go_region
 generalize ((((wA.setCell ⟨A, 0, none⟩ (.int .i64 x.kind)).setCell ⟨A, 1, none⟩ (.int .i64 x.pos)).setCell ⟨A, 2, none⟩ (.string x.text)).setCell ⟨A, 3, none⟩ (.int .i64 x.num)) = wZ at hB ⊢
 go_wp2_with fail
 exact bodyPost_ret (results_cell_row Tryz.results52 _ _ A 72 #[.int .i64 x.kind, .int .i64 x.pos, .string x.text, .int .i64 x.num] (0, 0) _ rfl hB.out.1 Tryz.underlying72 rfl size72) rfl ⟨rfl, below_drew (below_rp HBA.out hB.out.2 (by rw [HA.out]; exact Nat.le_refl _))⟩
end Go.Proofs.YtdlchhimkelinaaGreatDoor
namespace Go.Proofs.YtdlchhimkelinaaGreatDoor
open Go.RowKit Go.Sort
/-- Is this text next (where nothing is wrong)? -/
def isNx (l : List Tx.Sg) (k : Nat) (s : ByteArray) : Bool := (rsg l k).text.toList == s.toList
theorem isNx_pr {l : List Tx.Sg} {k : Nat} (h : k < l.length) (s : ByteArray) : isNx l k s = Pr.is (Pa.ts l) k s := by
 unfold isNx Pr.is
 rw [rsg_lt h, ← Pa.sg_tk]; rfl
theorem rsg_kind {l : List Tx.Sg} (hk : Pa.Gk l) (k : Nat) (h : 0 < l.length) : Pa.KindOk (rsg l k).kind (rsg l k).text.data.toList := hk _ (List.mem_of_getElem? (rsg_mem k h))
theorem isNx_kind {l : List Tx.Sg} {k : Nat} {s : ByteArray} (hk : Pa.Gk l) (h : 0 < l.length) (hs : Pa.lit s.data.toList = true) (hi : isNx l k s = true) : (rsg l k).kind = 3 ∨ (rsg l k).kind = 4 := by
 unfold isNx at hi
 rw [beq_iff_eq, Lib.toList_data, Lib.toList_data] at hi
 exact Pa.kind_lit (rsg_kind hk k h) (by rw [hi]; exact hs)
theorem is_any {rb sb cap : Nat} {l : List Tx.Sg} {k : Nat} {o b a e : Int} (s : ByteArray) (w : World) (h : RS w rb sb cap l k o b a e) (hk : Pa.Gk l) (hs : Pa.lit s.data.toList = true) :
  Calls Tryz.prog 50 #[.pointer (some ⟨rb, 0, none⟩), .string s] w fun en w' => en = .returned (.bool (decide (e = 0) && isNx l k s)) ∧ Below w.heap.size w w' := by
 have CN := now_any w h
 have HKD : Hid (isNx l k s = true → (rsg l k).kind = 3 ∨ (rsg l k).kind = 4) := hdn (isNx_kind hk h.pos hs)
 obtain ⟨bo, hbo⟩ : ∃ bo, bo = isNx l k s := ⟨_, rfl⟩
 rw [← hbo] at HKD ⊢
 have HBO : Hid (((rsg l k).text.toList == s.toList) = bo) := hdn hbo.symm
 have HRS := hdn h
 clear hbo h
 generalize rsg l k = x at *
 go_enter Tryz.func50, Tryz.ntmps50
 go_upto_region 2 with (go_at_call 21; refine CN.mono ?_; rintro en w1 ⟨rfl, hb⟩; have HB1 := hdn hb; clear hb)
 have hm : Below w1.heap.size w1 (w1.alloc (.cells #[.int .i64 x.kind, .int .i64 x.pos, .string x.text, .int .i64 x.num] 72)) := (Below.refl _ _).alloc (Nat.le_refl _) _
 have HF : Hid (Bk (w1.alloc (.cells #[.int .i64 x.kind, .int .i64 x.pos, .string x.text, .int .i64 x.num] 72)) w1.heap.size 72 #[.int .i64 x.kind, .int .i64 x.pos, .string x.text, .int .i64 x.num]) := hdn (heap_alloc_new _ _)
 have HB2 := hdn (HB1.out.trans (hm.mono HB1.out.size))
 have HR2 := hdn (HRS.out.below HB2.out)
 generalize w1.alloc (.cells #[.int .i64 x.kind, .int .i64 x.pos, .string x.text, .int .i64 x.num] 72) = w2 at HF HB2 HR2 ⊢
 have c5 : w2.cell? ⟨rb, 5, none⟩ = some (.int .i64 e) := HR2.out.blk.cell 5
 have t0 : w2.cell? ⟨w1.heap.size, 0, none⟩ = some (.int .i64 x.kind) := HF.out.cell 0
 have t2 : w2.cell? ⟨w1.heap.size, 2, none⟩ = some (.string x.text) := HF.out.cell 2
 clear CN hm
 by_cases he : e = 0
 ·subst he
  have q1 := HBO.out
  cases bo with
  | false =>
   by_cases k3 : x.kind = 3
   ·go_wp2_with fail
    go_ret
    exact ⟨rfl, HB2.out⟩
   ·have k3' : (x.kind == 3) = false := by rw [beq_eq_false_iff_ne]; exact k3
    by_cases k4 : x.kind = 4
    ·go_wp2_with fail
     go_ret
     exact ⟨rfl, HB2.out⟩
    ·have k4' : (x.kind == 4) = false := by rw [beq_eq_false_iff_ne]; exact k4
     go_wp2_with fail
     go_ret
     exact ⟨rfl, HB2.out⟩
  | true =>
   rcases HKD.out rfl with k3 | k4
   ·go_wp2_with fail
    go_ret
    exact ⟨rfl, HB2.out⟩
   ·go_wp2_with fail
    go_ret
    exact ⟨rfl, HB2.out⟩
 ·have he' : (e == 0) = false := by rw [beq_eq_false_iff_ne]; exact he
  have hd : decide (e = 0) = false := decide_eq_false he
  have HDE := hdn hd
  clear he hd
  go_wp2_with fail
  go_ret
  exact ⟨ret_bool (by rw [HDE.out]; rfl), HB2.out⟩
theorem RS.go {w : World} {rb sb cap : Nat} {l : List Tx.Sg} {k : Nat} {o b a e : Int} (h : RS w rb sb cap l k o b a e) (hk : k < 1000000) : RS (w.setCell ⟨rb, 1, none⟩ (.int .i64 ((k : Int) + 1))) rb sb cap l (k + 1) o b a e :=
 ⟨by have := h.blk.set_ 1 (.int .i64 ((k : Int) + 1)); simpa using this, fun j x hx => range_grown (h.row j x hx) (grownBy_setC w ⟨rb, 1, none⟩ _) h.ne, h.ne, h.pos, h.len, by omega⟩
theorem take_yes {rb sb cap : Nat} {l : List Tx.Sg} {k : Nat} {o b a : Int} (s : ByteArray) (w : World) (h : RS w rb sb cap l k o b a 0) (hk : Pa.Gk l) (hs : Pa.lit s.data.toList = true) (hi : isNx l k s = true) (hk1 : k < 1000000) :
  Calls Tryz.prog 22 #[.pointer (some ⟨rb, 0, none⟩), .string s] w fun en w' => en = .returned (.bool true) ∧ RS w' rb sb cap l (k + 1) o b a 0 ∧ w.grownBy w' (some rb) := by
 have CI := is_any s w h hk hs
 rw [hi] at CI
 have HRS := hdn h
 have hk0 : (0 : Int) ≤ (k : Int) := Int.natCast_nonneg _
 have hk2 : (k : Int) < 1000000 := by omega
 clear h hi
 go_enter Tryz.func22, Tryz.ntmps22
 go_wp2_with (go_at_call 50; refine CI.mono ?_; rintro en w1 ⟨rfl, hb⟩; have HR1 := hdn (HRS.out.below hb); have HB1 := hdn hb; have c1 : w1.cell? ⟨rb, 1, none⟩ = some (.int .i64 k) := HR1.out.blk.cell 1; have f1 := HR1.out.blk.frozen 1; clear hb)
 go_ret
 exact ⟨rfl, HR1.out.go hk1, grownBy_above HB1.out (grownBy_setC w1 ⟨rb, 1, none⟩ _)⟩
theorem take_no {rb sb cap : Nat} {l : List Tx.Sg} {k : Nat} {o b a e : Int} (s : ByteArray) (w : World) (h : RS w rb sb cap l k o b a e) (hk : Pa.Gk l) (hs : Pa.lit s.data.toList = true) (hi : (decide (e = 0) && isNx l k s) = false) :
  Calls Tryz.prog 22 #[.pointer (some ⟨rb, 0, none⟩), .string s] w fun en w' => en = .returned (.bool false) ∧ Below w.heap.size w w' := by
 have CI := is_any s w h hk hs
 rw [hi] at CI
 clear h hi
 go_enter Tryz.func22, Tryz.ntmps22
 go_wp2_with (go_at_call 50; refine CI.mono ?_; rintro en w1 ⟨rfl, hb⟩; have HB1 := hdn hb; clear hb)
 go_ret
 exact ⟨rfl, HB1.out⟩
theorem RS.stop {w : World} {rb sb cap : Nat} {l : List Tx.Sg} {k : Nat} {o b a e : Int} (h : RS w rb sb cap l k o b a e) (p n : Int) : RS ((w.setCell ⟨rb, 4, none⟩ (.int .i64 p)).setCell ⟨rb, 5, none⟩ (.int .i64 n)) rb sb cap l k o b p n :=
 ⟨by have := (h.blk.set_ 4 (.int .i64 p)).set_ 5 (.int .i64 n); simpa using this,
 fun j x hx => range_grown (range_grown (h.row j x hx) (grownBy_setC w ⟨rb, 4, none⟩ _) h.ne) (grownBy_setC _ ⟨rb, 5, none⟩ _) h.ne, h.ne, h.pos, h.len, h.kb⟩
theorem stop_one {rb sb cap : Nat} {l : List Tx.Sg} {k : Nat} {o b a : Int} (p n : Int) (w : World) (h : RS w rb sb cap l k o b a 0) :
  Calls Tryz.prog 54 #[.pointer (some ⟨rb, 0, none⟩), .int .i64 p, .int .i64 n] w fun en w' => en = .returned (.tuple #[]) ∧ RS w' rb sb cap l k o b p n ∧ w.grownBy w' (some rb) := by
 have c5 : w.cell? ⟨rb, 5, none⟩ = some (.int .i64 0) := h.blk.cell 5
 have c4 : w.cell? ⟨rb, 4, none⟩ = some (.int .i64 a) := h.blk.cell 4
 have f4 := h.blk.frozen 4
 have f5 := h.blk.frozen 5
 have HRS := hdn h
 clear h
 go_enter Tryz.func54, Tryz.ntmps54
 go_wp2_with fail
 go_end0
 exact ⟨rfl, HRS.out.stop p n, grownBy_tr (grownBy_setC w ⟨rb, 4, none⟩ _) (grownBy_setC _ ⟨rb, 5, none⟩ _)⟩
theorem stop_err {rb sb cap : Nat} {l : List Tx.Sg} {k : Nat} {o b a e : Int} (p n : Int) (w : World) (h : RS w rb sb cap l k o b a e) (he : e ≠ 0) :
  Calls Tryz.prog 54 #[.pointer (some ⟨rb, 0, none⟩), .int .i64 p, .int .i64 n] w fun en w' => en = .returned (.tuple #[]) ∧ w = w' := by
 have c5 : w.cell? ⟨rb, 5, none⟩ = some (.int .i64 e) := h.blk.cell 5
 have he' : (e == 0) = false := by rw [beq_eq_false_iff_ne]; exact he
 clear h he
 go_enter Tryz.func54, Tryz.ntmps54
 go_wp2_with fail
 go_end0
 exact ⟨rfl, rfl⟩
end Go.Proofs.YtdlchhimkelinaaGreatDoor
namespace Go.Proofs.YtdlchhimkelinaaGreatDoor
open Go.RowKit Go.Sort
theorem field72_0 (k : Int) (b c d : Value) (w : World) : (Instr.field 72 (.agg #[.int .i64 k, b, c, d]) 0).run Tryz.prog w = .ok (.int .i64 k) w := by kernel_rfl
theorem field72_1 (k : Int) (a c d : Value) (w : World) : (Instr.field 72 (.agg #[a, .int .i64 k, c, d]) 1).run Tryz.prog w = .ok (.int .i64 k) w := by kernel_rfl
theorem field72_2 (s : ByteArray) (a b d : Value) (w : World) : (Instr.field 72 (.agg #[a, b, .string s, d]) 2).run Tryz.prog w = .ok (.string s) w := by kernel_rfl
theorem field72_3 (k : Int) (a b c : Value) (w : World) : (Instr.field 72 (.agg #[a, b, c, .int .i64 k]) 3).run Tryz.prog w = .ok (.int .i64 k) w := by kernel_rfl
attribute [local go_sem] field72_0 field72_1 field72_2 field72_3
section
variable {rb sb cap : Nat} {l : List Tx.Sg} {k : Nat} {o b a : Int}
theorem want_yes (s : ByteArray) (w : World) (h : RS w rb sb cap l k o b a 0) (hk : Pa.Gk l) (hs : Pa.lit s.data.toList = true) (hi : isNx l k s = true) (hk1 : k < 1000000) :
  Calls Tryz.prog 26 #[.pointer (some ⟨rb, 0, none⟩), .string s] w fun en w' => en = .returned (.tuple #[]) ∧ RS w' rb sb cap l (k + 1) o b a 0 ∧ w.grownBy w' (some rb) := by
 have CT := take_yes s w h hk hs hi hk1
 clear h hi
 go_enter Tryz.func26, Tryz.ntmps26
 go_wp2_with (go_at_call 22; refine CT.mono ?_; rintro en w1 ⟨rfl, h1, hg⟩; have HR1 := hdn h1; have HG1 := hdn hg; clear h1 hg)
 go_end0
 exact ⟨rfl, HR1.out, HG1.out⟩
theorem want_no (s : ByteArray) (w : World) (h : RS w rb sb cap l k o b a 0) (hk : Pa.Gk l) (hs : Pa.lit s.data.toList = true) (hi : isNx l k s = false) :
  Calls Tryz.prog 26 #[.pointer (some ⟨rb, 0, none⟩), .string s] w fun en w' => en = .returned (.tuple #[]) ∧ RS w' rb sb cap l k o b (rsg l k).pos 5 ∧ w.grownBy w' (some rb) := by
 have CT := take_no s w h hk hs (by rw [hi]; rfl)
 have HRS := hdn h
 have CN : Hid (∀ w', RS w' rb sb cap l k o b a 0 → Calls Tryz.prog 21 #[.pointer (some ⟨rb, 0, none⟩)] w' fun en w'' => en = .returned (.agg #[.int .i64 (rsg l k).kind, .int .i64 (rsg l k).pos, .string (rsg l k).text, .int .i64 (rsg l k).num]) ∧ Below w'.heap.size w' w'') := hdn (fun w' h' => now_any w' h')
 have CS : Hid (∀ w', RS w' rb sb cap l k o b a 0 → Calls Tryz.prog 54 #[.pointer (some ⟨rb, 0, none⟩), .int .i64 (rsg l k).pos, .int .i64 5] w' fun en w'' => en = .returned (.tuple #[]) ∧ RS w'' rb sb cap l k o b (rsg l k).pos 5 ∧ w'.grownBy w'' (some rb)) := hdn (fun w' h' => stop_one _ 5 w' h')
 generalize rsg l k = x at *
 clear h hi
 go_enter Tryz.func26, Tryz.ntmps26
 go_wp2_with (first | (go_at_call 22; refine CT.mono ?_; rintro en w1 ⟨rfl, hb⟩; have HR1 := hdn (HRS.out.below hb); have HB1 := hdn hb; clear hb) | (go_at_call 21; refine (CN.out _ HR1.out).mono ?_; rintro en w2 ⟨rfl, hb⟩; have HR2 := hdn (HR1.out.below hb); have HB2 := hdn (HB1.out.trans (hb.mono HB1.out.size)); clear hb) | (go_at_call 54; refine (CS.out _ HR2.out).mono ?_; rintro en w3 ⟨rfl, h3, hg⟩; have HR3 := hdn h3; have HG3 := hdn (grownBy_above HB2.out hg); clear h3 hg))
 go_end0
 exact ⟨rfl, HR3.out, HG3.out⟩
theorem want_err {e : Int} (s : ByteArray) (w : World) (h : RS w rb sb cap l k o b a e) (hk : Pa.Gk l) (hs : Pa.lit s.data.toList = true) (he : e ≠ 0) :
  Calls Tryz.prog 26 #[.pointer (some ⟨rb, 0, none⟩), .string s] w fun en w' => en = .returned (.tuple #[]) ∧ Below w.heap.size w w' := by
 have CT := take_no s w h hk hs (by rw [decide_eq_false he]; rfl)
 have HRS := hdn h
 have CN : Hid (∀ w', RS w' rb sb cap l k o b a e → Calls Tryz.prog 21 #[.pointer (some ⟨rb, 0, none⟩)] w' fun en w'' => en = .returned (.agg #[.int .i64 (rsg l k).kind, .int .i64 (rsg l k).pos, .string (rsg l k).text, .int .i64 (rsg l k).num]) ∧ Below w'.heap.size w' w'') := hdn (fun w' h' => now_any w' h')
 have CS : Hid (∀ w', RS w' rb sb cap l k o b a e → Calls Tryz.prog 54 #[.pointer (some ⟨rb, 0, none⟩), .int .i64 (rsg l k).pos, .int .i64 5] w' fun en w'' => en = .returned (.tuple #[]) ∧ w' = w'') := hdn (fun w' h' => stop_err _ 5 w' h' he)
 generalize rsg l k = x at *
 clear h he
 go_enter Tryz.func26, Tryz.ntmps26
 go_wp2_with (first | (go_at_call 22; refine CT.mono ?_; rintro en w1 ⟨rfl, hb⟩; have HR1 := hdn (HRS.out.below hb); have HB1 := hdn hb; clear hb) | (go_at_call 21; refine (CN.out _ HR1.out).mono ?_; rintro en w2 ⟨rfl, hb⟩; have HR2 := hdn (HR1.out.below hb); have HB2 := hdn (HB1.out.trans (hb.mono HB1.out.size)); clear hb) | (go_at_call 54; refine (CS.out _ HR2.out).mono ?_; rintro en w3 ⟨rfl, rfl⟩))
 go_end0
 exact ⟨rfl, HB2.out⟩
/-- What a name comes to. -/
def RName (w : World) (rb sb cap : Nat) (l : List Tx.Sg) (k : Nat) (o b a e : Int) (en : Ending) (w' : World) : Prop :=
 w.grownBy w' (some rb) ∧
 if e = 0 ∧ (rsg l k).kind = 1 then en = .returned (.tuple #[.string (rsg l k).text, .int .i64 (rsg l k).pos]) ∧ RS w' rb sb cap l (k + 1) o b a 0
 else en = .returned (.tuple #[.string ByteArray.empty, .int .i64 0]) ∧ ∃ a' e' : Int, e' ≠ 0 ∧ RS w' rb sb cap l k o b a' e'
theorem rname_any {e : Int} (w : World) (h : RS w rb sb cap l k o b a e) (hk1 : k < 1000000) :
  Calls Tryz.prog 51 #[.pointer (some ⟨rb, 0, none⟩)] w (RName w rb sb cap l k o b a e) := by
 have CN := now_any w h
 have HRS := hdn h
 have CS : Hid (∀ w', RS w' rb sb cap l k o b a 0 → Calls Tryz.prog 54 #[.pointer (some ⟨rb, 0, none⟩), .int .i64 (rsg l k).pos, .int .i64 5] w' fun en w'' => en = .returned (.tuple #[]) ∧ RS w'' rb sb cap l k o b (rsg l k).pos 5 ∧ w'.grownBy w'' (some rb)) := hdn (fun w' h' => stop_one _ 5 w' h')
 have CE : Hid (∀ w', e ≠ 0 → RS w' rb sb cap l k o b a e → Calls Tryz.prog 54 #[.pointer (some ⟨rb, 0, none⟩), .int .i64 (rsg l k).pos, .int .i64 5] w' fun en w'' => en = .returned (.tuple #[]) ∧ w' = w'') := hdn (fun w' he h' => stop_err _ 5 w' h' he)
 have hk0 : (0 : Int) ≤ (k : Int) := Int.natCast_nonneg _
 have hk2 : (k : Int) < 1000000 := by omega
 obtain ⟨Q, hQ⟩ : ∃ Q, Q = RName w rb sb cap l k o b a e := ⟨_, rfl⟩
 have HQ := hdn hQ
 rw [← hQ]
 clear hQ
 unfold RName at HQ
 generalize rsg l k = x at *
 clear h
 go_enter Tryz.func51, Tryz.ntmps51
 go_upto_region 2 with (go_at_call 21; refine CN.mono ?_; rintro en w1 ⟨rfl, hb⟩; have HB1 := hdn hb; clear hb)
 have hm : Below w1.heap.size w1 (w1.alloc (.cells #[.int .i64 x.kind, .int .i64 x.pos, .string x.text, .int .i64 x.num] 72)) := (Below.refl _ _).alloc (Nat.le_refl _) _
 have HF : Hid (Bk (w1.alloc (.cells #[.int .i64 x.kind, .int .i64 x.pos, .string x.text, .int .i64 x.num] 72)) w1.heap.size 72 #[.int .i64 x.kind, .int .i64 x.pos, .string x.text, .int .i64 x.num]) := hdn (heap_alloc_new _ _)
 have HB2 := hdn (HB1.out.trans (hm.mono HB1.out.size))
 have HR2 := hdn (HRS.out.below HB2.out)
 have HNE : Hid (w1.heap.size ≠ rb) := hdn (by have := HRS.out.rb_lt; have := HB1.out.size; omega)
 generalize w1.alloc (.cells #[.int .i64 x.kind, .int .i64 x.pos, .string x.text, .int .i64 x.num] 72) = w2 at HF HB2 HR2 ⊢
 generalize w1.heap.size = F at *
 have t0 : w2.cell? ⟨F, 0, none⟩ = some (.int .i64 x.kind) := HF.out.cell 0
 have t1 : w2.cell? ⟨F, 1, none⟩ = some (.int .i64 x.pos) := HF.out.cell 1
 clear CN hm
 by_cases k1 : x.kind = 1
 ·by_cases he : e = 0
  ·subst he
   have c5 : w2.cell? ⟨rb, 5, none⟩ = some (.int .i64 0) := HR2.out.blk.cell 5
   have c1 : w2.cell? ⟨rb, 1, none⟩ = some (.int .i64 k) := HR2.out.blk.cell 1
   have f1 := HR2.out.blk.frozen 1
   have HK1 := hdn k1
   have hg := grownBy_setC w2 ⟨rb, 1, none⟩ (.int .i64 ((k : Int) + 1))
   have HR3 := hdn (HR2.out.go hk1)
   have HF3 := hdn (HF.out.kept hg HNE.out)
   have HG3 := hdn (grownBy_above HB2.out hg)
   clear hg
   go_upto_region 7 with fail
   clear t0 t1 c5 c1 f1 k1
   generalize w2.setCell ⟨rb, 1, none⟩ (.int .i64 ((k : Int) + 1)) = w3 at HR3 HF3 HG3 ⊢
   have t2 : w3.cell? ⟨F, 2, none⟩ = some (.string x.text) := HF3.out.cell 2
   have t1 : w3.cell? ⟨F, 1, none⟩ = some (.int .i64 x.pos) := HF3.out.cell 1
   go_quiet (fail)
   have HR4 := hdn (HR3.out.below (below_drewN_ (Below.refl _ _) nq))
   have HG4 := hdn (grownBy_below HG3.out (below_drewN_ (Below.refl _ _) nq))
   generalize w3.drewN nq = w4 at HR4 HG4 ⊢
   go_wp2_with fail
   rw [HQ.out]
   refine ⟨HG4.out, ?_⟩
   rw [if_pos ⟨by first | rfl | trivial, HK1.out⟩]
   exact ⟨rfl, HR4.out⟩
  ·have c5 : w2.cell? ⟨rb, 5, none⟩ = some (.int .i64 e) := HR2.out.blk.cell 5
   have he' : (e != 0) = true := by rw [bne_iff_ne]; exact he
   have HE := hdn he
   clear he
   go_wp2_with fail
   rw [HQ.out]
   refine ⟨grownBy_of HB2.out _, ?_⟩
   rw [if_neg (fun hh => HE.out hh.1)]
   exact ⟨by first | rfl | trivial, a, e, HE.out, HR2.out⟩
 ·have k1' : (x.kind != 1) = true := by rw [bne_iff_ne]; exact k1
  have HK1 := hdn k1
  clear k1
  by_cases he : e = 0
  ·subst he
   go_upto_region 4 with (go_at_call 54; refine (CS.out _ HR2.out).mono ?_; rintro en w3 ⟨rfl, h3, hg⟩; have HR3 := hdn h3; have HG3 := hdn (grownBy_above HB2.out hg); clear h3 hg)
   have c5 : w3.cell? ⟨rb, 5, none⟩ = some (.int .i64 5) := HR3.out.blk.cell 5
   go_wp2_with fail
   rw [HQ.out]
   refine ⟨HG3.out, ?_⟩
   rw [if_neg (fun hh => HK1.out hh.2)]
   exact ⟨by first | rfl | trivial, _, 5, by decide, HR3.out⟩
  ·have HE := hdn he
   have c5 : w2.cell? ⟨rb, 5, none⟩ = some (.int .i64 e) := HR2.out.blk.cell 5
   have he' : (e != 0) = true := by rw [bne_iff_ne]; exact he
   clear he
   go_wp2_with (go_at_call 54; refine (CE.out _ HE.out HR2.out).mono ?_; rintro en w3 ⟨rfl, rfl⟩)
   rw [HQ.out]
   refine ⟨grownBy_of HB2.out _, ?_⟩
   rw [if_neg (fun hh => HE.out hh.1)]
   exact ⟨by first | rfl | trivial, a, e, HE.out, HR2.out⟩
end
end Go.Proofs.YtdlchhimkelinaaGreatDoor
namespace Go.Proofs.YtdlchhimkelinaaGreatDoor
open Go.RowKit Go.Sort
/-- The reader where something is wrong. -/
def RErr (w : World) (rb sb cap : Nat) (l : List Tx.Sg) (N : Nat) : Prop := ∃ (k : Nat) (o b a e : Int), e ≠ 0 ∧ k ≤ N ∧ RS w rb sb cap l k o b a e
/-- The reader where nothing is wrong. -/
def ROk (w : World) (rb sb cap : Nat) (l : List Tx.Sg) (u : Pr.St) : Prop := RS w rb sb cap l u.i u.o u.b 0 0 ∧ u.i < l.length
/-- What a part of the reader ends in. -/
def RO {α : Type} (K : World → Value → α → Prop) (G : Value → Prop) (w : World) (rb sb cap : Nat) (l : List Tx.Sg) (N : Nat) (r : Pr.Res α) (en : Ending) (w' : World) : Prop :=
 w.grownBy w' (some rb) ∧ ∃ v, en = .returned v ∧ match r with
 | .ok (x, u) => K w' v x ∧ ROk w' rb sb cap l u
 | .error _ => G v ∧ RErr w' rb sb cap l N
theorem RO.ok {α : Type} {K : World → Value → α → Prop} {G : Value → Prop} {w w' : World} {rb sb cap : Nat} {l : List Tx.Sg} {N : Nat} {r : Pr.Res α} {x : α} {u : Pr.St} {v : Value} (hr : r = .ok (x, u)) (hg : w.grownBy w' (some rb)) (hk : K w' v x) (h : ROk w' rb sb cap l u) : RO K G w rb sb cap l N r (.returned v) w' := by
 subst hr; exact ⟨hg, v, rfl, hk, h⟩
theorem RO.err {α : Type} {K : World → Value → α → Prop} {G : Value → Prop} {w w' : World} {rb sb cap : Nat} {l : List Tx.Sg} {N : Nat} {r : Pr.Res α} {n : Int × Nat} {v : Value} (hr : r = .error n) (hg : w.grownBy w' (some rb)) (hv : G v) (h : RErr w' rb sb cap l N) : RO K G w rb sb cap l N r (.returned v) w' := by
 subst hr; exact ⟨hg, v, rfl, hv, h⟩
theorem RErr.below {w w' : World} {rb sb cap : Nat} {l : List Tx.Sg} {N : Nat} (h : RErr w rb sb cap l N) (hb : Below w.heap.size w w') : RErr w' rb sb cap l N := by
 obtain ⟨k, o, b, a, e, he, hk, hr⟩ := h; exact ⟨k, o, b, a, e, he, hk, hr.below hb⟩
theorem ROk.below {w w' : World} {rb sb cap : Nat} {l : List Tx.Sg} {u : Pr.St} (h : ROk w rb sb cap l u) (hb : Below w.heap.size w w') : ROk w' rb sb cap l u := ⟨h.1.below hb, h.2⟩
theorem RS.far {w w' : World} {rb sb cap : Nat} {l : List Tx.Sg} {k : Nat} {o b a e : Int} {R : Nat} (h : RS w rb sb cap l k o b a e) (hg : w.grownBy w' (some R)) (h1 : R ≠ rb) (h2 : R ≠ sb) : RS w' rb sb cap l k o b a e :=
 ⟨h.blk.kept hg (fun e => h1 e.symm), fun j x hx => range_grown (h.row j x hx) hg (fun e => h2 e.symm), h.ne, h.pos, h.len, h.kb⟩
/-- What a term comes to. -/
def RTerm (w : World) (rb sb cap : Nat) (l : List Tx.Sg) (k : Nat) (o b a e : Int) (en : Ending) (w' : World) : Prop :=
 w.grownBy w' (some rb) ∧
 if e = 0 ∧ (rsg l k).kind = 2 then en = .returned (.agg #[.string ByteArray.empty, .int .i64 (rsg l k).num, .int .i64 (rsg l k).pos]) ∧ RS w' rb sb cap l (k + 1) o b a 0
 else if e = 0 ∧ (rsg l k).kind = 1 then en = .returned (.agg #[.string (rsg l k).text, .int .i64 0, .int .i64 (rsg l k).pos]) ∧ RS w' rb sb cap l (k + 1) o b a 0
 else en = .returned (.agg #[.string ByteArray.empty, .int .i64 0, .int .i64 0]) ∧ ∃ a' e' : Int, e' ≠ 0 ∧ RS w' rb sb cap l k o b a' e'
section
variable {rb sb cap : Nat} {l : List Tx.Sg} {k : Nat} {o b a : Int}
theorem rterm_any {e : Int} (w : World) (h : RS w rb sb cap l k o b a e) (hk1 : k < 1000000) :
  Calls Tryz.prog 159 #[.pointer (some ⟨rb, 0, none⟩)] w (RTerm w rb sb cap l k o b a e) := by
 obtain ⟨wA, hwA⟩ : ∃ wA : World, wA = w.alloc (.cells #[.string ByteArray.empty, .int .i64 0, .int .i64 0] 47) := ⟨_, rfl⟩
 have HBA : Hid (Below w.heap.size w wA) := hdn (by rw [hwA]; exact (Below.refl _ _).alloc (Nat.le_refl _) _)
 have HKA : Hid (Bk wA w.heap.size 47 #[.string ByteArray.empty, .int .i64 0, .int .i64 0]) := hdn (by rw [hwA]; exact heap_alloc_new _ _)
 have HRA := hdn (h.below HBA.out)
 have CN := now_any wA HRA.out
 have HNA : Hid (w.heap.size ≠ rb ∧ w.heap.size ≠ sb) := hdn ⟨by have := h.rb_lt; omega, by have := h.sb_lt; omega⟩
 have CM : Hid (∀ w', RS w' rb sb cap l k o b a e → Calls Tryz.prog 51 #[.pointer (some ⟨rb, 0, none⟩)] w' (RName w' rb sb cap l k o b a e)) := hdn (fun w' h' => rname_any w' h' hk1)
 have hk0 : (0 : Int) ≤ (k : Int) := Int.natCast_nonneg _
 have hk2 : (k : Int) < 1000000 := by omega
 obtain ⟨Q, hQ⟩ : ∃ Q, Q = RTerm w rb sb cap l k o b a e := ⟨_, rfl⟩
 have HQ := hdn hQ
 rw [← hQ]
 clear hQ h
 unfold RTerm at HQ
 unfold RName at CM
 generalize rsg l k = x at *
 go_enter Tryz.func159, Tryz.ntmps159
 go_upto_region 1 with fail
 rw [show w.alloc (.cells #[.string ⟨#[]⟩, .int .i64 0, .int .i64 0] 47) = wA from hwA.symm]
 clear hwA
 obtain ⟨A, hA⟩ : ∃ A, A = w.heap.size := ⟨_, rfl⟩
 have HA := hdn hA
 rw [← hA] at HKA HNA ⊢
 clear hA
 go_upto_region 2 with (go_at_call 21; refine CN.mono ?_; rintro en w1 ⟨rfl, hb⟩; have HB1 := hdn hb; clear hb)
 have hm : Below w1.heap.size w1 (w1.alloc (.cells #[.int .i64 x.kind, .int .i64 x.pos, .string x.text, .int .i64 x.num] 72)) := (Below.refl _ _).alloc (Nat.le_refl _) _
 have HF : Hid (Bk (w1.alloc (.cells #[.int .i64 x.kind, .int .i64 x.pos, .string x.text, .int .i64 x.num] 72)) w1.heap.size 72 #[.int .i64 x.kind, .int .i64 x.pos, .string x.text, .int .i64 x.num]) := hdn (heap_alloc_new _ _)
 have HB2 := hdn (HB1.out.trans (hm.mono HB1.out.size))
 have HR2 := hdn (HRA.out.below HB2.out)
 have HK2 := hdn (HKA.out.below HB2.out HKA.out.lt)
 have HNE : Hid (w1.heap.size ≠ rb ∧ w1.heap.size ≠ A) := hdn ⟨by have := HRA.out.rb_lt; have := HB1.out.size; omega, by have := HKA.out.lt; have := HB1.out.size; omega⟩
 have HG2 : Hid (w.grownBy (w1.alloc (.cells #[.int .i64 x.kind, .int .i64 x.pos, .string x.text, .int .i64 x.num] 72)) (some rb)) := hdn (grownBy_of (HBA.out.trans (HB2.out.mono HBA.out.size)) _)
 generalize w1.alloc (.cells #[.int .i64 x.kind, .int .i64 x.pos, .string x.text, .int .i64 x.num] 72) = w2 at HF HB2 HR2 HK2 HG2 ⊢
 generalize w1.heap.size = F at *
 have t0 : w2.cell? ⟨F, 0, none⟩ = some (.int .i64 x.kind) := HF.out.cell 0
 clear CN hm
 by_cases hc : e = 0 ∧ x.kind = 2
 ·obtain ⟨rfl, k2⟩ := hc
  have c5 : w2.cell? ⟨rb, 5, none⟩ = some (.int .i64 0) := HR2.out.blk.cell 5
  have c1 : w2.cell? ⟨rb, 1, none⟩ = some (.int .i64 k) := HR2.out.blk.cell 1
  have f1 := HR2.out.blk.frozen 1
  have HK2' := hdn k2
  have hg := grownBy_setC w2 ⟨rb, 1, none⟩ (.int .i64 ((k : Int) + 1))
  have HR3 := hdn (HR2.out.go hk1)
  have HF3 := hdn (HF.out.kept hg HNE.out.1)
  have HK3 := hdn (HK2.out.kept hg HNA.out.1)
  have HG3 := hdn (grownBy_tr HG2.out hg)
  clear hg
  go_upto_region 4 with fail
  clear t0 c5 c1 f1 k2
  generalize w2.setCell ⟨rb, 1, none⟩ (.int .i64 ((k : Int) + 1)) = w3 at HR3 HF3 HK3 HG3 ⊢
  have t3 : w3.cell? ⟨F, 3, none⟩ = some (.int .i64 x.num) := HF3.out.cell 3
  have t1 : w3.cell? ⟨F, 1, none⟩ = some (.int .i64 x.pos) := HF3.out.cell 1
  have r0 : w3.cell? ⟨A, 0, none⟩ = some (.string ByteArray.empty) := HK3.out.cell 0
  have r1 : w3.cell? ⟨A, 1, none⟩ = some (.int .i64 0) := HK3.out.cell 1
  have r2 : w3.cell? ⟨A, 2, none⟩ = some (.int .i64 0) := HK3.out.cell 2
  have f0 := HK3.out.frozen 0
  have f1 := HK3.out.frozen 1
  have f2 := HK3.out.frozen 2
  go_wp2_with fail
  clear t3 t1 r0 r1 r2 f0 f1 f2
  obtain ⟨hB, hF⟩ := term_result (n := ⟨#[]⟩) (k := x.num) (p := x.pos) HK3.out
  generalize ((w3.setCell ⟨A, 0, none⟩ (.string ⟨#[]⟩)).setCell ⟨A, 1, none⟩ (.int .i64 x.num)).setCell ⟨A, 2, none⟩ (.int .i64 x.pos) = w4 at hB hF ⊢
  have e0 := hB.cell 0
  have e1 := hB.cell 1
  have e2 := hB.cell 2
  refine bodyPost_ret (v := .agg #[.string ⟨#[]⟩, .int .i64 x.num, .int .i64 x.pos]) (by simp [results, Tryz.results159, go_sem, e0, e1, e2]) rfl ?_
  rw [HQ.out]
  refine ⟨grownBy_mine HG3.out (by rw [HA.out] at hF; exact hF), ?_⟩
  rw [if_pos ⟨by first | rfl | trivial, HK2'.out⟩]
  exact ⟨rfl, HR3.out.far hF HNA.out.1 HNA.out.2⟩
 ·have HC := hdn hc
  have hstep : Hid (e = 0 ∧ x.kind ≠ 2 ∨ e ≠ 0 ∧ x.kind = 2 ∨ e ≠ 0 ∧ x.kind ≠ 2) := hdn (by
   rcases Classical.em (e = 0) with h1 | h1
   ·exact .inl ⟨h1, fun h2 => hc ⟨h1, h2⟩⟩
   ·rcases Classical.em (x.kind = 2) with h2 | h2
    ·exact .inr (.inl ⟨h1, h2⟩)
    ·exact .inr (.inr ⟨h1, h2⟩))
  clear hc
  have c5 : w2.cell? ⟨rb, 5, none⟩ = some (.int .i64 e) := HR2.out.blk.cell 5
  have CM2 := hdn (CM.out _ HR2.out)
  clear CM
  have CM3 : Hid (Calls Tryz.prog 51 #[.pointer (some ⟨rb, 0, none⟩)] w2 fun en w3 => ∃ (n : ByteArray) (p : Int), en = .returned (.tuple #[.string n, .int .i64 p]) ∧ w2.grownBy w3 (some rb) ∧ ∀ w4, w3.grownBy w4 (some A) → Q (.returned (.agg #[.string n, .int .i64 0, .int .i64 p])) w4) := hdn (by
   refine CM2.out.mono ?_
   rintro en w3 ⟨hg, hh⟩
   have hq : ∀ w4, w3.grownBy w4 (some A) → w.grownBy w4 (some rb) := fun w4 h4 => grownBy_mine (grownBy_tr HG2.out hg) (by rw [HA.out] at h4; exact h4)
   by_cases h1 : e = 0 ∧ x.kind = 1
   ·rw [if_pos h1] at hh
    obtain ⟨he, hr⟩ := hh
    refine ⟨_, _, he, hg, fun w4 h4 => ?_⟩
    rw [HQ.out]
    refine ⟨hq w4 h4, ?_⟩
    rw [if_neg HC.out, if_pos h1]
    exact ⟨rfl, hr.far h4 HNA.out.1 HNA.out.2⟩
   ·rw [if_neg h1] at hh
    obtain ⟨he, a', e', hn, hr⟩ := hh
    refine ⟨_, _, he, hg, fun w4 h4 => ?_⟩
    rw [HQ.out]
    refine ⟨hq w4 h4, ?_⟩
    rw [if_neg HC.out, if_neg h1]
    exact ⟨rfl, a', e', hn, hr.far h4 HNA.out.1 HNA.out.2⟩)
  clear CM2
  by_cases k2 : x.kind = 2
  ·have e2' : (e == 0) = false := by
    rcases hstep.out with h | h | h
    ·exact absurd k2 h.2
    ·simpa using h.1
    ·exact absurd k2 h.2
   go_upto_region 5 with fail
   clear t0 c5 k2 e2'
   go_upto_region 6 with (go_at_call 51; refine CM3.out.mono ?_; rintro en w3 ⟨n, p, rfl, hg, hq⟩; have HK3 := hdn (HK2.out.kept hg HNA.out.1); have HQ3 := hdn hq; clear hg hq)
   have r0 : w3.cell? ⟨A, 0, none⟩ = some (.string ByteArray.empty) := HK3.out.cell 0
   have r1 : w3.cell? ⟨A, 1, none⟩ = some (.int .i64 0) := HK3.out.cell 1
   have r2 : w3.cell? ⟨A, 2, none⟩ = some (.int .i64 0) := HK3.out.cell 2
   have f0 := HK3.out.frozen 0
   have f1 := HK3.out.frozen 1
   have f2 := HK3.out.frozen 2
   go_wp2_with fail
   clear r0 r1 r2 f0 f1 f2
   obtain ⟨hB, hF⟩ := term_result (n := n) (k := 0) (p := p) HK3.out
   generalize ((w3.setCell ⟨A, 0, none⟩ (.string n)).setCell ⟨A, 1, none⟩ (.int .i64 0)).setCell ⟨A, 2, none⟩ (.int .i64 p) = w4 at hB hF ⊢
   have e0 := hB.cell 0
   have e1 := hB.cell 1
   have e2 := hB.cell 2
   exact bodyPost_ret (v := .agg #[.string n, .int .i64 0, .int .i64 p]) (by simp [results, Tryz.results159, go_sem, e0, e1, e2]) rfl (HQ3.out w4 hF)
  ·have k2' : (x.kind == 2) = false := by simpa using k2
   go_upto_region 5 with fail
   clear t0 c5 k2 k2'
   go_upto_region 6 with (go_at_call 51; refine CM3.out.mono ?_; rintro en w3 ⟨n, p, rfl, hg, hq⟩; have HK3 := hdn (HK2.out.kept hg HNA.out.1); have HQ3 := hdn hq; clear hg hq)
   have r0 : w3.cell? ⟨A, 0, none⟩ = some (.string ByteArray.empty) := HK3.out.cell 0
   have r1 : w3.cell? ⟨A, 1, none⟩ = some (.int .i64 0) := HK3.out.cell 1
   have r2 : w3.cell? ⟨A, 2, none⟩ = some (.int .i64 0) := HK3.out.cell 2
   have f0 := HK3.out.frozen 0
   have f1 := HK3.out.frozen 1
   have f2 := HK3.out.frozen 2
   go_wp2_with fail
   clear r0 r1 r2 f0 f1 f2
   obtain ⟨hB, hF⟩ := term_result (n := n) (k := 0) (p := p) HK3.out
   generalize ((w3.setCell ⟨A, 0, none⟩ (.string n)).setCell ⟨A, 1, none⟩ (.int .i64 0)).setCell ⟨A, 2, none⟩ (.int .i64 p) = w4 at hB hF ⊢
   have e0 := hB.cell 0
   have e1 := hB.cell 1
   have e2 := hB.cell 2
   exact bodyPost_ret (v := .agg #[.string n, .int .i64 0, .int .i64 p]) (by simp [results, Tryz.results159, go_sem, e0, e1, e2]) rfl (HQ3.out w4 hF)
end
end Go.Proofs.YtdlchhimkelinaaGreatDoor
namespace Go.Proofs.YtdlchhimkelinaaGreatDoor
open Go.RowKit Go.Sort
/-- What holds of the signs throughout. -/
structure RC (l : List Tx.Sg) (N : Nat) : Prop where
 kinds : Pa.Gk l
 good : Good l
 len : l.length ≤ N
 top : N ≤ 900000
/-- How the reader stands behind what came to r: where r leaves off, or at an error. -/
def RM {α : Type} (w : World) (rb sb cap : Nat) (l : List Tx.Sg) (o : Int) (N : Nat) (r : Pr.Res α) : Prop := match r with
 | .ok (_, u) => RS w rb sb cap l u.i u.o u.b 0 0 ∧ u.i < l.length ∧ u.o = o ∧ 0 ≤ u.b ∧ u.b ≤ 400
 | .error _ => ∃ (k : Nat) (b a e : Int), e ≠ 0 ∧ k ≤ N ∧ 0 ≤ b ∧ b ≤ 400 ∧ RS w rb sb cap l k o b a e
/-- What a part of the reader ends in. -/
def RP {β : Type} (K : World → Value → β → Prop) (w : World) (rb sb cap : Nat) (l : List Tx.Sg) (o : Int) (N : Nat) (r : Pr.Res β) (en : Ending) (w' : World) : Prop :=
 w.grownBy w' (some rb) ∧ ∃ v x, en = .returned v ∧ K w' v x ∧ (∀ y u, r = .ok (y, u) → x = y) ∧ RM w' rb sb cap l o N r
section
variable {α : Type} {rb sb cap : Nat} {l : List Tx.Sg} {o : Int} {N : Nat}
theorem RM.below {w w' : World} {r : Pr.Res α} (h : RM w rb sb cap l o N r) (hb : Below w.heap.size w w') : RM w' rb sb cap l o N r := by
 rcases r with n | ⟨x, u⟩
 ·obtain ⟨k, b, a, e, h1, h2, h3, h4, h5⟩ := h; exact ⟨k, b, a, e, h1, h2, h3, h4, h5.below hb⟩
 ·exact ⟨h.1.below hb, h.2⟩
theorem RM.far {w w' : World} {r : Pr.Res α} {R : Nat} (h : RM w rb sb cap l o N r) (hg : w.grownBy w' (some R)) (h1 : R ≠ rb) (h2 : R ≠ sb) : RM w' rb sb cap l o N r := by
 rcases r with n | ⟨x, u⟩
 ·obtain ⟨k, b, a, e, e1, e2, e3, e4, e5⟩ := h; exact ⟨k, b, a, e, e1, e2, e3, e4, e5.far hg h1 h2⟩
 ·exact ⟨h.1.far hg h1 h2, h.2⟩
theorem RM.rs {w : World} {r : Pr.Res α} (h : RM w rb sb cap l o N r) : ∃ (k : Nat) (b a e : Int), RS w rb sb cap l k o b a e := by
 rcases r with n | ⟨x, u⟩
 ·obtain ⟨k, b, a, e, e1, e2, e3, e4, e5⟩ := h; exact ⟨k, b, a, e, e5⟩
 ·obtain ⟨h1, h2, rfl, h3⟩ := h; exact ⟨_, _, _, _, h1⟩
theorem RM.rb_lt {w : World} {r : Pr.Res α} (h : RM w rb sb cap l o N r) : rb < w.heap.size := by obtain ⟨k, b, a, e, h⟩ := h.rs; exact h.rb_lt
theorem RM.sb_lt {w : World} {r : Pr.Res α} (h : RM w rb sb cap l o N r) : sb < w.heap.size := by obtain ⟨k, b, a, e, h⟩ := h.rs; exact h.sb_lt
/-- What it stands behind may be said otherwise. -/
theorem RM.as {β : Type} {w : World} {r : Pr.Res α} (h : RM w rb sb cap l o N r) (s : Pr.Res β) (hs : Pr.th r (fun _ u => .ok ((), u)) = Pr.th s (fun _ u => .ok ((), u)) ∨ ((∃ n, r = .error n) ∧ ∃ n, s = .error n)) : RM w rb sb cap l o N s := by
 rcases hs with hs | ⟨⟨n, rfl⟩, ⟨m, rfl⟩⟩
 ·rcases r with n | ⟨x, u⟩ <;> rcases s with m | ⟨y, v⟩
  ·exact h
  ·simp [Pr.th] at hs
  ·simp [Pr.th] at hs
  ·simp only [Pr.th, Except.ok.injEq, Prod.mk.injEq, true_and] at hs; subst hs; exact h
 ·exact h
theorem more_rsg (C : RC l N) {i : Nat} (h : i < l.length) (hk : (rsg l i).kind ≠ 0) : i + 1 < l.length := by
 have h0 := rsg_mem i (Nat.lt_of_le_of_lt (Nat.zero_le _) h)
 rw [Nat.min_eq_left (by omega)] at h0
 exact C.good.more h0 hk
/-- A name in a result. -/
def KName (_ : World) (v : Value) (x : Tx.Sg) : Prop := v = .tuple #[.string x.text, .int .i64 x.pos]
theorem name_m (C : RC l N) (w : World) (r0 : Pr.Res α) (h : RM w rb sb cap l o N r0) :
  Calls Tryz.prog 51 #[.pointer (some ⟨rb, 0, none⟩)] w (RP KName w rb sb cap l o N (Pr.th r0 fun _ u => Pa.name l u)) := by
 have hN := C.len; have hT := C.top
 rcases r0 with n | ⟨x, u⟩
 ·obtain ⟨k, b, a, e, he, hk, hb0, hb1, hs⟩ := h
  refine (rname_any w hs (by omega)).mono ?_
  rintro en w1 ⟨hg, hh⟩
  rw [if_neg (fun hc => he hc.1)] at hh
  obtain ⟨rfl, a', e', he', hs'⟩ := hh
  exact ⟨hg, _, ⟨0, 0, ByteArray.empty, 0⟩, rfl, rfl, (by intro y u hc; cases hc), k, b, a', e', he', hk, hb0, hb1, hs'⟩
 ·obtain ⟨hs, hi, rfl, hb0, hb1⟩ := h
  refine (rname_any w hs (by omega)).mono ?_
  rintro en w1 ⟨hg, hh⟩
  have hx := rsg_lt hi
  by_cases k1 : (rsg l u.i).kind = 1
  ·rw [if_pos ⟨rfl, k1⟩] at hh
   obtain ⟨rfl, hs'⟩ := hh
   have hn : Pr.th (.ok (x, u)) (fun _ u => Pa.name l u) = .ok (rsg l u.i, u.go) := by
    show Pa.name l u = _; unfold Pa.name; rw [← hx, if_pos k1]
   rw [hn]
   exact ⟨hg, _, rsg l u.i, rfl, rfl, (fun y v hc => by cases hc; rfl), hs', more_rsg C hi (by rw [k1]; decide), rfl, hb0, hb1⟩
  ·rw [if_neg (fun hc => k1 hc.2)] at hh
   obtain ⟨rfl, a', e', he', hs'⟩ := hh
   have hn : Pr.th (.ok (x, u)) (fun _ u => Pa.name l u) = .error (5, u.i) := by
    show Pa.name l u = _; unfold Pa.name; rw [← hx, if_neg k1]
   rw [hn]
   exact ⟨hg, _, ⟨0, 0, ByteArray.empty, 0⟩, rfl, rfl, (by intro y u hc; cases hc), u.i, u.b, a', e', he', by omega, hb0, hb1, hs'⟩
/-- A term in a result. -/
def QTm (_ : World) (v : Value) (x : Tm) : Prop := v = .agg x.cells.toArray
theorem term_m (C : RC l N) (w : World) (r0 : Pr.Res α) (h : RM w rb sb cap l o N r0) :
  Calls Tryz.prog 159 #[.pointer (some ⟨rb, 0, none⟩)] w (RP QTm w rb sb cap l o N (Pr.th r0 fun _ u => Pa.term l u)) := by
 have hN := C.len; have hT := C.top
 rcases r0 with n | ⟨x, u⟩
 ·obtain ⟨k, b, a, e, he, hk, hb0, hb1, hs⟩ := h
  refine (rterm_any w hs (by omega)).mono ?_
  rintro en w1 ⟨hg, hh⟩
  rw [if_neg (fun hc => he hc.1), if_neg (fun hc => he hc.1)] at hh
  obtain ⟨rfl, a', e', he', hs'⟩ := hh
  exact ⟨hg, _, ⟨ByteArray.empty, 0, 0⟩, rfl, rfl, (by intro y u hc; cases hc), k, b, a', e', he', hk, hb0, hb1, hs'⟩
 ·obtain ⟨hs, hi, rfl, hb0, hb1⟩ := h
  refine (rterm_any w hs (by omega)).mono ?_
  rintro en w1 ⟨hg, hh⟩
  have hx := rsg_lt hi
  by_cases k2 : (rsg l u.i).kind = 2
  ·rw [if_pos ⟨rfl, k2⟩] at hh
   obtain ⟨rfl, hs'⟩ := hh
   have hn : Pr.th (.ok (x, u)) (fun _ u => Pa.term l u) = .ok (⟨ByteArray.empty, (rsg l u.i).num, (rsg l u.i).pos⟩, u.go) := by
    show Pa.term l u = _; unfold Pa.term; rw [← hx, if_pos k2]
   rw [hn]
   exact ⟨hg, _, ⟨ByteArray.empty, (rsg l u.i).num, (rsg l u.i).pos⟩, rfl, rfl, (fun y v hc => by cases hc; rfl), hs', more_rsg C hi (by rw [k2]; decide), rfl, hb0, hb1⟩
  ·rw [if_neg (fun hc => k2 hc.2)] at hh
   by_cases k1 : (rsg l u.i).kind = 1
   ·rw [if_pos ⟨rfl, k1⟩] at hh
    obtain ⟨rfl, hs'⟩ := hh
    have hn : Pr.th (.ok (x, u)) (fun _ u => Pa.term l u) = .ok (⟨(rsg l u.i).text, 0, (rsg l u.i).pos⟩, u.go) := by
     show Pa.term l u = _; unfold Pa.term Pa.name; rw [← hx, if_neg k2, if_pos k1]; rfl
    rw [hn]
    exact ⟨hg, _, ⟨(rsg l u.i).text, 0, (rsg l u.i).pos⟩, rfl, rfl, (fun y v hc => by cases hc; rfl), hs', more_rsg C hi (by rw [k1]; decide), rfl, hb0, hb1⟩
   ·rw [if_neg (fun hc => k1 hc.2)] at hh
    obtain ⟨rfl, a', e', he', hs'⟩ := hh
    have hn : Pr.th (.ok (x, u)) (fun _ u => Pa.term l u) = .error (5, u.i) := by
     show Pa.term l u = _; unfold Pa.term Pa.name; rw [← hx, if_neg k2, if_neg k1]; rfl
    rw [hn]
    exact ⟨hg, _, ⟨ByteArray.empty, 0, 0⟩, rfl, rfl, (by intro y u hc; cases hc), u.i, u.b, a', e', he', by omega, hb0, hb1, hs'⟩
theorem want_m (C : RC l N) (s : ByteArray) (hs : Pa.lit s.data.toList = true) (w : World) (r0 : Pr.Res α) (h : RM w rb sb cap l o N r0) :
  Calls Tryz.prog 26 #[.pointer (some ⟨rb, 0, none⟩), .string s] w fun en w' => en = .returned (.tuple #[]) ∧ w.grownBy w' (some rb) ∧ RM w' rb sb cap l o N (Pr.th r0 fun _ u => Pr.must (Pa.ts l) s u) := by
 have hN := C.len; have hT := C.top
 rcases r0 with n | ⟨x, u⟩
 ·obtain ⟨k, b, a, e, he, hk, hb0, hb1, h5⟩ := h
  refine (want_err s w h5 C.kinds hs he).mono ?_
  rintro en w1 ⟨rfl, hb⟩
  exact ⟨rfl, grownBy_of hb _, k, b, a, e, he, hk, hb0, hb1, h5.below hb⟩
 ·obtain ⟨h5, hi, rfl, hb0, hb1⟩ := h
  rcases q : isNx l u.i s with _ | _
  ·refine (want_no s w h5 C.kinds hs q).mono ?_
   rintro en w1 ⟨rfl, h6, hg⟩
   have hn : Pr.th (.ok (x, u)) (fun _ u => Pr.must (Pa.ts l) s u) = .error (5, u.i) := by
    show Pr.must _ s u = _; unfold Pr.must; rw [← isNx_pr hi, q, if_neg (by decide)]
   rw [hn]
   exact ⟨rfl, hg, u.i, u.b, _, 5, by decide, by omega, hb0, hb1, h6⟩
  ·refine (want_yes s w h5 C.kinds hs q (by omega)).mono ?_
   rintro en w1 ⟨rfl, h6, hg⟩
   have hn : Pr.th (.ok (x, u)) (fun _ u => Pr.must (Pa.ts l) s u) = .ok (Pr.sg (Pa.ts l) u.i, u.go) := by
    show Pr.must _ s u = _; unfold Pr.must; rw [← isNx_pr hi, q, if_pos rfl]
   rw [hn]
   exact ⟨rfl, hg, h6, more_rsg C hi (by rcases isNx_kind C.kinds h5.pos hs q with hh | hh <;> rw [hh] <;> decide), rfl, hb0, hb1⟩
theorem take_m (C : RC l N) (s : ByteArray) (hs : Pa.lit s.data.toList = true) (w : World) (r0 : Pr.Res α) (h : RM w rb sb cap l o N r0) :
  Calls Tryz.prog 22 #[.pointer (some ⟨rb, 0, none⟩), .string s] w fun en w' => w.grownBy w' (some rb) ∧
   ((en = .returned (.bool true) ∧ ∃ x u, r0 = .ok (x, u) ∧ Pr.is (Pa.ts l) u.i s = true ∧ RM w' rb sb cap l o N (Except.ok (x, u.go) : Pr.Res α)) ∨
   (en = .returned (.bool false) ∧ (∀ x u, r0 = .ok (x, u) → Pr.is (Pa.ts l) u.i s = false) ∧ RM w' rb sb cap l o N r0)) := by
 have hN := C.len; have hT := C.top
 rcases r0 with n | ⟨x, u⟩
 ·obtain ⟨k, b, a, e, he, hk, hb0, hb1, h5⟩ := h
  refine (take_no s w h5 C.kinds hs (by rw [decide_eq_false he]; rfl)).mono ?_
  rintro en w1 ⟨rfl, hb⟩
  exact ⟨grownBy_of hb _, .inr ⟨rfl, (by intro y u hc; cases hc), k, b, a, e, he, hk, hb0, hb1, h5.below hb⟩⟩
 ·obtain ⟨h5, hi, rfl, hb0, hb1⟩ := h
  rcases q : isNx l u.i s with _ | _
  ·refine (take_no s w h5 C.kinds hs (by rw [q]; rfl)).mono ?_
   rintro en w1 ⟨rfl, hb⟩
   exact ⟨grownBy_of hb _, .inr ⟨rfl, (by intro y v hc; cases hc; rw [← isNx_pr hi, q]), h5.below hb, hi, rfl, hb0, hb1⟩⟩
  ·refine (take_yes s w h5 C.kinds hs q (by omega)).mono ?_
   rintro en w1 ⟨rfl, h6, hg⟩
   exact ⟨hg, .inl ⟨rfl, x, u, rfl, by rw [← isNx_pr hi, q], h6, more_rsg C hi (by rcases isNx_kind C.kinds h5.pos hs q with hh | hh <;> rw [hh] <;> decide), rfl, hb0, hb1⟩⟩
theorem is_m (C : RC l N) (s : ByteArray) (hs : Pa.lit s.data.toList = true) (w : World) (r0 : Pr.Res α) (h : RM w rb sb cap l o N r0) :
  Calls Tryz.prog 50 #[.pointer (some ⟨rb, 0, none⟩), .string s] w fun en w' => Below w.heap.size w w' ∧
   ((en = .returned (.bool true) ∧ ∃ x u, r0 = .ok (x, u) ∧ Pr.is (Pa.ts l) u.i s = true ∧ u.i + 1 < l.length) ∨
   (en = .returned (.bool false) ∧ (∀ x u, r0 = .ok (x, u) → Pr.is (Pa.ts l) u.i s = false))) := by
 rcases r0 with n | ⟨x, u⟩
 ·obtain ⟨k, b, a, e, he, hk, hb0, hb1, h5⟩ := h
  refine (is_any s w h5 C.kinds hs).mono ?_
  rintro en w1 ⟨rfl, hb⟩
  exact ⟨hb, .inr ⟨by rw [decide_eq_false he]; rfl, by intro y u hc; cases hc⟩⟩
 ·obtain ⟨h5, hi, rfl, hb0, hb1⟩ := h
  refine (is_any s w h5 C.kinds hs).mono ?_
  rintro en w1 ⟨rfl, hb⟩
  refine ⟨hb, ?_⟩
  rcases q : isNx l u.i s with _ | _
  ·exact .inr ⟨rfl, by intro y v hc; cases hc; rw [← isNx_pr hi, q]⟩
  ·exact .inl ⟨rfl, x, u, rfl, by rw [← isNx_pr hi, q], more_rsg C hi (by rcases isNx_kind C.kinds h5.pos hs q with hh | hh <;> rw [hh] <;> decide)⟩
theorem now_m (w : World) (r0 : Pr.Res α) (h : RM w rb sb cap l o N r0) :
  Calls Tryz.prog 21 #[.pointer (some ⟨rb, 0, none⟩)] w fun en w' => Below w.heap.size w w' ∧ ∃ x : Tx.Sg, en = .returned (.agg #[.int .i64 x.kind, .int .i64 x.pos, .string x.text, .int .i64 x.num]) ∧ ∀ y u, r0 = .ok (y, u) → x = Pa.sg l u.i := by
 rcases r0 with n | ⟨x, u⟩
 ·obtain ⟨k, b, a, e, he, hk, hb0, hb1, h5⟩ := h
  refine (now_any w h5).mono ?_
  rintro en w1 ⟨rfl, hb⟩
  exact ⟨hb, _, rfl, by intro y u hc; cases hc⟩
 ·obtain ⟨h5, hi, rfl, hb0, hb1⟩ := h
  refine (now_any w h5).mono ?_
  rintro en w1 ⟨rfl, hb⟩
  exact ⟨hb, _, rfl, by intro y v hc; cases hc; exact rsg_lt hi⟩
/-- An error is thrown, where none is. -/
theorem stop_m (C : RC l N) (p n : Int) (hn : n ≠ 0) (w : World) (r0 : Pr.Res α) (h : RM w rb sb cap l o N r0) :
  Calls Tryz.prog 54 #[.pointer (some ⟨rb, 0, none⟩), .int .i64 p, .int .i64 n] w fun en w' => en = .returned (.tuple #[]) ∧ w.grownBy w' (some rb) ∧ RM w' rb sb cap l o N (Except.error (n, 0) : Pr.Res α) := by
 have hN := C.len
 rcases r0 with m | ⟨x, u⟩
 ·obtain ⟨k, b, a, e, he, hk, hb0, hb1, h5⟩ := h
  refine (stop_err p n w h5 he).mono ?_
  rintro en w1 ⟨rfl, rfl⟩
  exact ⟨rfl, grownBy_of (Below.refl _ _) _, k, b, a, e, he, hk, hb0, hb1, h5⟩
 ·obtain ⟨h5, hi, rfl, hb0, hb1⟩ := h
  refine (stop_one p n w h5).mono ?_
  rintro en w1 ⟨rfl, h6, hg⟩
  exact ⟨rfl, hg, u.i, u.b, p, n, hn, by omega, hb0, hb1, h6⟩
end
end Go.Proofs.YtdlchhimkelinaaGreatDoor
namespace Go.Proofs.YtdlchhimkelinaaGreatDoor
open Go.RowKit Go.Sort
/-- A declaration in a result. -/
def QDc (_ : World) (v : Value) (x : Dc) : Prop := v = .agg #[.string x.type, .string x.name, .int .i64 x.pos]
theorem rdecl_result {w2 : World} {t n : ByteArray} {p : Int} {R : Nat} {a b c : Value} (hk : Bk w2 R 77 #[a, b, c]) :
  Bk (((w2.setCell ⟨R, 0, none⟩ (.string t)).setCell ⟨R, 1, none⟩ (.string n)).setCell ⟨R, 2, none⟩ (.int .i64 p)) R 77 #[.string t, .string n, .int .i64 p] ∧
  w2.grownBy (((w2.setCell ⟨R, 0, none⟩ (.string t)).setCell ⟨R, 1, none⟩ (.string n)).setCell ⟨R, 2, none⟩ (.int .i64 p)) (some R) :=
 ⟨((hk.set_ 0 _).set_ 1 _).set_ 2 _, grownBy_tr (grownBy_tr (grownBy_setC _ ⟨R, 0, none⟩ _) (grownBy_setC _ ⟨R, 1, none⟩ _)) (grownBy_setC _ ⟨R, 2, none⟩ _)⟩
section
variable {α : Type} {rb sb cap : Nat} {l : List Tx.Sg} {o : Int} {N : Nat}
theorem decl_m (C : RC l N) (w : World) (r0 : Pr.Res α) (h : RM w rb sb cap l o N r0) :
  Calls Tryz.prog 25 #[.pointer (some ⟨rb, 0, none⟩)] w (RP QDc w rb sb cap l o N (Pr.th r0 fun _ u => Pa.variable_ l u)) := by
 have HC := hdn C
 obtain ⟨r, hr⟩ : ∃ r, r = Pr.th r0 fun _ u => Pa.variable_ l u := ⟨_, rfl⟩
 rw [← hr]
 have HR := hdn hr
 have hn : Below w.heap.size w (w.alloc (.cells #[.string ByteArray.empty, .string ByteArray.empty, .int .i64 0] 77)) := (Below.refl _ _).alloc (Nat.le_refl _) _
 have HM := hdn (h.below hn)
 have HK : Hid (Bk (w.alloc (.cells #[.string ByteArray.empty, .string ByteArray.empty, .int .i64 0] 77)) w.heap.size 77 #[.string ByteArray.empty, .string ByteArray.empty, .int .i64 0]) := hdn (heap_alloc_new _ _)
 have HNE : Hid (w.heap.size ≠ rb ∧ w.heap.size ≠ sb) := hdn ⟨by have := h.rb_lt; omega, by have := h.sb_lt; omega⟩
 have HG : Hid (w.grownBy (w.alloc (.cells #[.string ByteArray.empty, .string ByteArray.empty, .int .i64 0] 77)) (some rb)) := hdn (grownBy_of hn _)
 generalize hwA : w.alloc (.cells #[.string ByteArray.empty, .string ByteArray.empty, .int .i64 0] 77) = wA at HM HK HG
 clear h hr hn
 go_enter Tryz.func25, Tryz.ntmps25
 go_upto_region 1 with fail
 rw [show w.alloc (.cells #[.string ⟨#[]⟩, .string ⟨#[]⟩, .int .i64 0] 77) = wA from hwA]
 clear hwA
 obtain ⟨A, hA⟩ : ∃ A, A = w.heap.size := ⟨_, rfl⟩
 have HA := hdn hA
 rw [← hA] at HK HNE ⊢
 clear hA
 go_upto_region 2 with fail
 have hn : Below wA.heap.size wA (wA.alloc (.cells #[.string ByteArray.empty, .string ByteArray.empty, .int .i64 0] 77)) := (Below.refl _ _).alloc (Nat.le_refl _) _
 have HM1 := hdn (HM.out.below hn)
 have HK1 := hdn (HK.out.below hn HK.out.lt)
 have HS1 : Hid (Bk (wA.alloc (.cells #[.string ByteArray.empty, .string ByteArray.empty, .int .i64 0] 77)) wA.heap.size 77 #[.string ByteArray.empty, .string ByteArray.empty, .int .i64 0]) := hdn (heap_alloc_new _ _)
 have HNS : Hid (wA.heap.size ≠ rb ∧ wA.heap.size ≠ sb ∧ A ≠ wA.heap.size ∧ w.heap.size ≤ wA.heap.size) := hdn ⟨by have := HM.out.rb_lt; omega, by have := HM.out.sb_lt; omega, by have := HK.out.lt; omega, HG.out.size⟩
 have HG1 := hdn (grownBy_below HG.out hn)
 change Code.wp _ _ _ _ (wA.alloc (.cells #[.string ByteArray.empty, .string ByteArray.empty, .int .i64 0] 77))
 generalize wA.alloc (.cells #[.string ByteArray.empty, .string ByteArray.empty, .int .i64 0] 77) = w1 at HM1 HK1 HS1 HG1 ⊢
 clear hn HM HK HG
 generalize wA.heap.size = S at *
 go_wp2_with fail
 refine (take_m HC.out ⟨#[105, 110, 116]⟩ (by decide) w1 r0 HM1.out).mono ?_
 rintro en w2 ⟨g2, hh⟩
 have HK2 := hdn (HK1.out.kept g2 HNE.out.1)
 have HS2 := hdn (HS1.out.kept g2 HNS.out.1)
 have HG2 := hdn (grownBy_tr HG1.out g2)
 clear g2 HM1 HK1 HS1 HG1
 rcases hh with ⟨rfl, x, u, hr0, hi, hm⟩ | ⟨rfl, hf, hm⟩
 ·have HR0 := hdn hr0
  have HI := hdn hi
  have HM4 := hdn hm
  clear hr0 hi hm
  go_wp2_with fail
  refine (name_m HC.out w2 _ HM4.out).mono ?_
  rintro en w5 ⟨g5, _, y, rfl, rfl, hy, hm⟩
  have HY := hdn hy
  have HM5 := hdn hm
  have HK5 := hdn (HK2.out.kept g5 HNE.out.1)
  have HS5 := hdn (HS2.out.kept g5 HNS.out.1)
  have HG5 := hdn (grownBy_tr HG2.out g5)
  clear hy hm g5
  have f1 := HS5.out.frozen 1
  have f2 := HS5.out.frozen 2
  have c1 := HS5.out.cell 1
  have c2 := HS5.out.cell 2
  go_upto_region 6 with fail
  clear f1 f2 c1 c2
  have gs : w5.grownBy ((w5.setCell ⟨S, 1, none⟩ (.string y.text)).setCell ⟨S, 2, none⟩ (.int .i64 y.pos)) (some S) := grownBy_tr (grownBy_setC _ ⟨S, 1, none⟩ _) (grownBy_setC _ ⟨S, 2, none⟩ _)
  have HS6 : Hid (Bk ((w5.setCell ⟨S, 1, none⟩ (.string y.text)).setCell ⟨S, 2, none⟩ (.int .i64 y.pos)) S 77 #[.string ByteArray.empty, .string y.text, .int .i64 y.pos]) := hdn ((HS5.out.set_ 1 _).set_ 2 _)
  have HM6 := hdn (HM5.out.far gs HNS.out.1 HNS.out.2.1)
  have HK6 := hdn (HK5.out.kept gs HNS.out.2.2.1)
  have HG6 := hdn (grownBy_up HG5.out gs (fun q hq => by injection hq with hq; have := HNS.out; omega))
  clear gs
  generalize (w5.setCell ⟨S, 1, none⟩ (.string y.text)).setCell ⟨S, 2, none⟩ (.int .i64 y.pos) = w6 at HS6 HM6 HK6 HG6 ⊢
  have s0 := HS6.out.cell 0
  have s1 := HS6.out.cell 1
  have s2 := HS6.out.cell 2
  have r0' := HK6.out.cell 0
  have r1' := HK6.out.cell 1
  have r2' := HK6.out.cell 2
  have f0 := HK6.out.frozen 0
  have f1 := HK6.out.frozen 1
  have f2 := HK6.out.frozen 2
  simp only [List.getElem?_toArray, List.getElem?_cons_zero, List.getElem?_cons_succ] at s0 s1 s2 r0' r1' r2'
  go_wp2_with fail
  clear s0 s1 s2 r0' r1' r2' f0 f1 f2
  obtain ⟨hB, hF⟩ := rdecl_result (t := ByteArray.empty) (n := y.text) (p := y.pos) HK6.out
  generalize ((w6.setCell ⟨A, 0, none⟩ (.string ByteArray.empty)).setCell ⟨A, 1, none⟩ (.string y.text)).setCell ⟨A, 2, none⟩ (.int .i64 y.pos) = w7 at hB hF ⊢
  have e0 := hB.cell 0
  have e1 := hB.cell 1
  have e2 := hB.cell 2
  have hm := HM6.out.far hF HNE.out.1 HNE.out.2
  have hg := grownBy_up HG6.out hF (fun q hq => by injection hq with hq; have := HA.out; omega)
  have hy := HY.out
  refine bodyPost_ret (v := .agg #[.string ByteArray.empty, .string y.text, .int .i64 y.pos]) (by simp [results, Tryz.results25, go_sem, e0, e1, e2]) rfl ?_
  rw [HR.out]
  rw [HR0.out]
  have hv : Pr.th (Except.ok (x, u)) (fun _ u => Pa.variable_ l u) = Pr.th (Pa.name l u.go) (fun x v => .ok (⟨ByteArray.empty, x.text, x.pos⟩, v)) := by
   show Pa.variable_ l u = _; unfold Pa.variable_; rw [if_pos HI.out]
  rw [hv]
  refine ⟨hg, _, ⟨ByteArray.empty, y.text, y.pos⟩, rfl, rfl, ?_, ?_⟩
  ·intro z v hz
   rcases q : Pa.name l u.go with n | ⟨b, u2⟩
   ·rw [q] at hz; cases hz
   ·rw [q] at hz; cases hz; rw [hy b _ q]
  ·refine hm.as _ ?_
   show Pr.th (Pa.name l u.go) _ = _ ∨ _
   rcases q : Pa.name l u.go with n | ⟨b, u2⟩
   ·exact .inl rfl
   ·exact .inl rfl
 ·have HF := hdn hf
  have HM2 := hdn hm
  clear hf hm
  go_wp2_with fail
  refine (name_m HC.out w2 r0 HM2.out).mono ?_
  rintro en w3 ⟨g3, _, x, rfl, rfl, hx, hm⟩
  have HX := hdn hx
  have HM3 := hdn hm
  have HK3 := hdn (HK2.out.kept g3 HNE.out.1)
  have HS3 := hdn (HS2.out.kept g3 HNS.out.1)
  have HG3 := hdn (grownBy_tr HG2.out g3)
  clear hx hm g3
  have f0 := HS3.out.frozen 0
  have c0 := HS3.out.cell 0
  go_upto_region 4 with fail
  clear f0 c0
  have gs : w3.grownBy (w3.setCell ⟨S, 0, none⟩ (.string x.text)) (some S) := grownBy_setC _ ⟨S, 0, none⟩ _
  have HS4 : Hid (Bk (w3.setCell ⟨S, 0, none⟩ (.string x.text)) S 77 #[.string x.text, .string ByteArray.empty, .int .i64 0]) := hdn (HS3.out.set_ 0 _)
  have HM4 := hdn (HM3.out.far gs HNS.out.1 HNS.out.2.1)
  have HK4 := hdn (HK3.out.kept gs HNS.out.2.2.1)
  have HG4 := hdn (grownBy_up HG3.out gs (fun q hq => by injection hq with hq; have := HNS.out; omega))
  clear gs
  generalize w3.setCell ⟨S, 0, none⟩ (.string x.text) = w4 at HS4 HM4 HK4 HG4 ⊢
  go_wp2_with fail
  refine (want_m HC.out ⟨#[42]⟩ (by decide) w4 _ HM4.out).mono ?_
  rintro en w8 ⟨rfl, g8, hm⟩
  have HM8 := hdn hm
  have HK8 := hdn (HK4.out.kept g8 HNE.out.1)
  have HS8 := hdn (HS4.out.kept g8 HNS.out.1)
  have HG8 := hdn (grownBy_tr HG4.out g8)
  clear hm g8
  go_wp2_with fail
  refine (name_m HC.out w8 _ HM8.out).mono ?_
  rintro en w5 ⟨g5, _, y, rfl, rfl, hy, hm⟩
  have HY := hdn hy
  have HM5 := hdn hm
  have HK5 := hdn (HK8.out.kept g5 HNE.out.1)
  have HS5 := hdn (HS8.out.kept g5 HNS.out.1)
  have HG5 := hdn (grownBy_tr HG8.out g5)
  clear hy hm g5
  have f1 := HS5.out.frozen 1
  have f2 := HS5.out.frozen 2
  have c1 := HS5.out.cell 1
  have c2 := HS5.out.cell 2
  go_upto_region 6 with fail
  clear f1 f2 c1 c2
  have gs : w5.grownBy ((w5.setCell ⟨S, 1, none⟩ (.string y.text)).setCell ⟨S, 2, none⟩ (.int .i64 y.pos)) (some S) := grownBy_tr (grownBy_setC _ ⟨S, 1, none⟩ _) (grownBy_setC _ ⟨S, 2, none⟩ _)
  have HS6 : Hid (Bk ((w5.setCell ⟨S, 1, none⟩ (.string y.text)).setCell ⟨S, 2, none⟩ (.int .i64 y.pos)) S 77 #[.string x.text, .string y.text, .int .i64 y.pos]) := hdn ((HS5.out.set_ 1 _).set_ 2 _)
  have HM6 := hdn (HM5.out.far gs HNS.out.1 HNS.out.2.1)
  have HK6 := hdn (HK5.out.kept gs HNS.out.2.2.1)
  have HG6 := hdn (grownBy_up HG5.out gs (fun q hq => by injection hq with hq; have := HNS.out; omega))
  clear gs
  generalize (w5.setCell ⟨S, 1, none⟩ (.string y.text)).setCell ⟨S, 2, none⟩ (.int .i64 y.pos) = w6 at HS6 HM6 HK6 HG6 ⊢
  have s0 := HS6.out.cell 0
  have s1 := HS6.out.cell 1
  have s2 := HS6.out.cell 2
  have r0' := HK6.out.cell 0
  have r1' := HK6.out.cell 1
  have r2' := HK6.out.cell 2
  have f0 := HK6.out.frozen 0
  have f1 := HK6.out.frozen 1
  have f2 := HK6.out.frozen 2
  simp only [List.getElem?_toArray, List.getElem?_cons_zero, List.getElem?_cons_succ] at s0 s1 s2 r0' r1' r2'
  go_wp2_with fail
  clear s0 s1 s2 r0' r1' r2' f0 f1 f2
  obtain ⟨hB, hF⟩ := rdecl_result (t := x.text) (n := y.text) (p := y.pos) HK6.out
  generalize ((w6.setCell ⟨A, 0, none⟩ (.string x.text)).setCell ⟨A, 1, none⟩ (.string y.text)).setCell ⟨A, 2, none⟩ (.int .i64 y.pos) = w7 at hB hF ⊢
  have e0 := hB.cell 0
  have e1 := hB.cell 1
  have e2 := hB.cell 2
  have hm := HM6.out.far hF HNE.out.1 HNE.out.2
  have hg := grownBy_up HG6.out hF (fun q hq => by injection hq with hq; have := HA.out; omega)
  have hy := HY.out
  refine bodyPost_ret (v := .agg #[.string x.text, .string y.text, .int .i64 y.pos]) (by simp [results, Tryz.results25, go_sem, e0, e1, e2]) rfl ?_
  rw [HR.out]
  have hx := HX.out
  have hf := HF.out
  clear HM6 HM5 HM2 HM3 HM4 HM8 HR
  rcases r0 with n | ⟨x0, u⟩
  ·exact ⟨hg, _, ⟨x.text, y.text, y.pos⟩, rfl, rfl, (by intro y u hc; cases hc), hm⟩
  have hv : Pr.th (Except.ok (x0, u)) (fun _ u => Pa.variable_ l u) = Pa.pointer l u := by
   show Pa.variable_ l u = _; unfold Pa.variable_; rw [if_neg (by rw [hf _ _ rfl]; decide)]
  rw [hv]
  unfold Pa.pointer
  refine ⟨hg, _, ⟨x.text, y.text, y.pos⟩, rfl, rfl, ?_, ?_⟩
  ·intro z v hz
   rcases q1 : Pa.name l u with n | ⟨a1, u1⟩
   ·rw [q1] at hz; cases hz
   rcases q2 : Pr.must (Pa.ts l) ⟨#[42]⟩ u1 with n | ⟨a2, u2⟩
   ·rw [q1] at hz; simp only [Pr.th, q2] at hz; cases hz
   rcases q3 : Pa.name l u2 with n | ⟨a3, u3⟩
   ·rw [q1] at hz; simp only [Pr.th, q2, q3] at hz; cases hz
   ·rw [q1] at hz; simp only [Pr.th, q2, q3] at hz; injection hz with hz; injection hz with h1 h2; subst h1
    rw [hx a1 u1 (by show Pa.name l u = _; exact q1), hy a3 u3 (by show Pr.th (Pr.th (Pa.name l u) _) _ = _; rw [q1]; simp only [Pr.th, q2, q3])]
  ·refine hm.as _ ?_
   show Pr.th (Pr.th (Pr.th (Pa.name l u) _) _) _ = _ ∨ _
   rcases q1 : Pa.name l u with n | ⟨a1, u1⟩
   ·exact .inl rfl
   rcases q2 : Pr.must (Pa.ts l) ⟨#[42]⟩ u1 with n | ⟨a2, u2⟩
   ·left; simp only [Pr.th, q2]
   rcases q3 : Pa.name l u2 with n | ⟨a3, u3⟩
   ·left; simp only [Pr.th, q2, q3]
   ·left; simp only [Pr.th, q2, q3]
end
end Go.Proofs.YtdlchhimkelinaaGreatDoor
namespace Go.Proofs.YtdlchhimkelinaaGreatDoor
open Go.RowKit Go.Sort
attribute [local go_sem] field72_0 field72_1 field72_2 field72_3
/-- Kinds of parts, places kept. -/
def qHp : Kd Hp := ⟨165, 2, 24, Hp.cells, id, fun _ _ => True, fun _ => rfl, fun _ => by simp [Value.oneCell'], fun _ _ _ => trivial⟩
def qPth : Kd Pth := ⟨45, 3, 40, Pth.cells, fun x => ⟨x.name, x.pos, ⟨none, 0, x.hops.l⟩⟩, fun w x => hopsLie w x.hops, fun _ => rfl, fun _ => by simp [Value.oneCell'], fun _ h k => hopsLie_ext h k⟩
theorem qinfHp : ∃ i, qHp.Inf Tryz.prog 43 i (.agg #[.string ByteArray.empty, .int .i64 0]) := by
 obtain ⟨i, h1, h2, h3, h4⟩ := info_parts zinfoHp
 exact ⟨i, Tryz.underlying43, h1, h2, h3, h4, rfl, by decide⟩
theorem RS.grown {w w' : World} {rb sb cap : Nat} {l : List Tx.Sg} {k : Nat} {o b a e : Int} {r : Option Nat} (h : RS w rb sb cap l k o b a e) (hg : w.grownBy w' r) (h1 : ∀ q, r = some q → q ≠ rb ∧ q ≠ sb) : RS w' rb sb cap l k o b a e :=
 ⟨h.blk.grown hg (fun q hq => (h1 q hq).1), fun j x hx i v hv => hg.cell (h.row j x hx i v hv) (fun e => (h1 _ e.symm).2 rfl), h.ne, h.pos, h.len, h.kb⟩
theorem RM.grown {α : Type} {rb sb cap : Nat} {l : List Tx.Sg} {o : Int} {N : Nat} {w w' : World} {r : Pr.Res α} {R : Option Nat} (h : RM w rb sb cap l o N r) (hg : w.grownBy w' R) (h1 : ∀ q, R = some q → q ≠ rb ∧ q ≠ sb) : RM w' rb sb cap l o N r := by
 rcases r with n | ⟨x, u⟩
 ·obtain ⟨k, b, a, e, e1, e2, e3, e4, e5⟩ := h; exact ⟨k, b, a, e, e1, e2, e3, e4, e5.grown hg h1⟩
 ·exact ⟨h.1.grown hg h1, h.2⟩
section
variable {α : Type} {rb sb cap : Nat} {l : List Tx.Sg} {o : Int} {N : Nat}
theorem path_m (C : RC l N) (w : World) (r0 : Pr.Res α) (h : RM w rb sb cap l o N r0) :
  Calls Tryz.prog 131 #[.pointer (some ⟨rb, 0, none⟩)] w (RP (qPth.Val w.heap.size) w rb sb cap l o N (Pr.th r0 fun _ u => Pa.path l u)) := by
 have HC := hdn C
 obtain ⟨r, hr⟩ : ∃ r, r = Pr.th r0 fun _ u => Pa.path l u := ⟨_, rfl⟩
 rw [← hr]
 have HR := hdn hr
 have hn : Below w.heap.size w (w.alloc (.cells #[.string ByteArray.empty, .int .i64 0, .slice none 0 0] 45)) := (Below.refl _ _).alloc (Nat.le_refl _) _
 have HM := hdn (h.below hn)
 have HK : Hid (Bk (w.alloc (.cells #[.string ByteArray.empty, .int .i64 0, .slice none 0 0] 45)) w.heap.size 45 #[.string ByteArray.empty, .int .i64 0, .slice none 0 0]) := hdn (heap_alloc_new _ _)
 have HNE : Hid (w.heap.size ≠ rb ∧ w.heap.size ≠ sb) := hdn ⟨by have := h.rb_lt; omega, by have := h.sb_lt; omega⟩
 have HG : Hid (w.grownBy (w.alloc (.cells #[.string ByteArray.empty, .int .i64 0, .slice none 0 0] 45)) (some rb)) := hdn (grownBy_of hn _)
 have HRB : Hid (rb < w.heap.size ∧ sb < w.heap.size) := hdn ⟨h.rb_lt, h.sb_lt⟩
 generalize hwA : w.alloc (.cells #[.string ByteArray.empty, .int .i64 0, .slice none 0 0] 45) = wA at HM HK HG
 clear h hr hn
 go_enter Tryz.func131, Tryz.ntmps131
 go_upto_region 1 with fail
 rw [show w.alloc (.cells #[.string ⟨#[]⟩, .int .i64 0, .slice none 0 0] 45) = wA from hwA]
 clear hwA
 obtain ⟨A, hA⟩ : ∃ A, A = w.heap.size := ⟨_, rfl⟩
 have HA := hdn hA
 rw [← hA] at HK HNE ⊢
 clear hA
 go_upto_region 2 with fail
 have hn : Below wA.heap.size wA (wA.alloc (.cells #[.string ByteArray.empty, .int .i64 0, .slice none 0 0] 45)) := (Below.refl _ _).alloc (Nat.le_refl _) _
 have HM1 := hdn (HM.out.below hn)
 have HK1 := hdn (HK.out.below hn HK.out.lt)
 have HS1 : Hid (Bk (wA.alloc (.cells #[.string ByteArray.empty, .int .i64 0, .slice none 0 0] 45)) wA.heap.size 45 #[.string ByteArray.empty, .int .i64 0, .slice none 0 0]) := hdn (heap_alloc_new _ _)
 have HNS : Hid (wA.heap.size ≠ rb ∧ wA.heap.size ≠ sb ∧ A ≠ wA.heap.size ∧ w.heap.size ≤ wA.heap.size ∧ rb < wA.heap.size ∧ A < wA.heap.size) := hdn ⟨by have := HM.out.rb_lt; omega, by have := HM.out.sb_lt; omega, by have := HK.out.lt; omega, HG.out.size, HM.out.rb_lt, HK.out.lt⟩
 have HG1 := hdn (grownBy_below HG.out hn)
 change Code.wp _ _ _ _ (wA.alloc (.cells #[.string ByteArray.empty, .int .i64 0, .slice none 0 0] 45))
 generalize wA.alloc (.cells #[.string ByteArray.empty, .int .i64 0, .slice none 0 0] 45) = w1 at HM1 HK1 HS1 HG1 ⊢
 clear hn HM HK HG
 generalize wA.heap.size = S at *
 go_wp2_with fail
 refine (name_m HC.out w1 r0 HM1.out).mono ?_
 rintro en w2 ⟨g2, _, x, rfl, rfl, hx, hm⟩
 have HX := hdn hx
 have HM2 := hdn hm
 have HK2 := hdn (HK1.out.kept g2 HNE.out.1)
 have HS2 := hdn (HS1.out.kept g2 HNS.out.1)
 have HG2 := hdn (grownBy_tr HG1.out g2)
 clear hx hm g2 HM1 HK1 HS1 HG1
 obtain ⟨r1, hr1⟩ : ∃ r1, r1 = Pr.th r0 fun _ u => Pa.name l u := ⟨_, rfl⟩
 rw [← hr1] at HM2 HX
 have HR1 : Hid (r = Pr.th r1 fun x u => Pr.th (Pa.hops l 8 [] u) fun l u => .ok (⟨x.text, x.pos, ⟨none, 0, l⟩⟩, u)) := hdn (by
  rw [HR.out, hr1]; rcases r0 with n | ⟨y, u⟩ <;> rfl)
 clear hr1 HR
 have f0 := HS2.out.frozen 0
 have c0 := HS2.out.cell 0
 have f1 := HS2.out.frozen 1
 have c1 := HS2.out.cell 1
 go_upto_region 3 with fail
 clear f0 c0 f1 c1
 have gs : w2.grownBy ((w2.setCell ⟨S, 0, none⟩ (.string x.text)).setCell ⟨S, 1, none⟩ (.int .i64 x.pos)) (some S) := grownBy_tr (grownBy_setC _ ⟨S, 0, none⟩ _) (grownBy_setC _ ⟨S, 1, none⟩ _)
 have HS3 : Hid (Bk ((w2.setCell ⟨S, 0, none⟩ (.string x.text)).setCell ⟨S, 1, none⟩ (.int .i64 x.pos)) S 45 #[.string x.text, .int .i64 x.pos, .slice none 0 0]) := hdn ((HS2.out.set_ 0 _).set_ 1 _)
 have HM3 := hdn (HM2.out.far gs HNS.out.1 HNS.out.2.1)
 have HK3 := hdn (HK2.out.kept gs HNS.out.2.2.1)
 have HG3 := hdn (grownBy_up HG2.out gs (fun q hq => by injection hq with hq; have := HNS.out; omega))
 clear gs
 generalize (w2.setCell ⟨S, 0, none⟩ (.string x.text)).setCell ⟨S, 1, none⟩ (.int .i64 x.pos) = w3 at HS3 HM3 HK3 HG3 ⊢
 have HSZ : Hid (S < w3.heap.size) := hdn HS3.out.lt
 have HSB : Hid (sb < w3.heap.size) := hdn HM3.out.sb_lt
 have HM3' : Hid (RM w3 rb sb cap l o N (Pr.th r1 fun _ u => (.ok ([], u) : Pr.Res (List Hp)))) := hdn (HM3.out.as _ (by rcases r1 with n | ⟨y, u⟩ <;> exact .inl rfl))
 obtain ⟨iHp, hI⟩ := qinfHp
 have HI := hdn hI
 clear hI
 go_loopg [] 8 (fun g wr => ∃ (acc : List Hp) (v : Value) (rn : Pr.Res (List Hp)), g + acc.length = 8 ∧ Hid (∀ a u, rn = .ok (a, u) → acc = a) ∧ Hid (Pr.th rn (fun a u => Pa.hops l g a u) = Pr.th r1 (fun _ u => Pa.hops l 8 [] u)) ∧ Hid (qHp.Gr w3.heap.size acc v wr) ∧ Hid (Bk wr S 45 #[.string x.text, .int .i64 x.pos, v]) ∧ Hid (RM wr rb sb cap l o N rn) ∧ Hid (Bk wr A 45 #[.string ByteArray.empty, .int .i64 0, .slice none 0 0]) ∧ Hid (w.grownBy wr (some rb)) ∧ Hid (w3.heap.size ≤ wr.heap.size))
 case atStart => exact ⟨[], .slice none 0 0, _, rfl, hdn (by intro a u ha; rcases r1 with n | ⟨y, v⟩; (· cases ha); (· cases ha; rfl)), hdn (by rcases r1 with n | ⟨y, v⟩ <;> rfl), hdn (Kd.Gr.nil qHp (World.ownsRow_nil _ _ _ _)), HS3, HM3', HK3, HG3, hdn (Nat.le_refl _)⟩
 case round =>
  obtain ⟨acc, v, rn, hg8, HAC, HH, HGr, HSr, HMr, HKr, HGw, HLE⟩ := hrel
  obtain ⟨ys, hy1, hy2, hy3⟩ := HGr.out
  obtain ⟨a0, c0, rfl⟩ := own_shape hy2
  clear hy1 hy2 hy3
  go_wp2_with fail
  refine (is_m HC.out ⟨#[45, 62]⟩ (by decide) wr rn HMr.out).mono ?_
  rintro en w4 ⟨hb, hh⟩
  have HM4 := hdn (HMr.out.below hb); have HK4 := hdn (HKr.out.below hb HKr.out.lt); have HS4 := hdn (HSr.out.below hb HSr.out.lt); have HG4 := hdn (grownBy_below HGw.out hb); have HGr4 := hdn (HGr.out.below hb); have HLE4 := hdn (Nat.le_trans HLE.out hb.size)
  clear hb HMr HKr HSr HGw HGr HLE
  rcases hh with ⟨rfl, a1, u, hrn, hi, hlt⟩ | ⟨rfl, hf⟩
  ·have HRN := hdn hrn
   have HIS := hdn hi
   have HLT := hdn hlt
   clear hrn hi hlt
   go_wp2_with fail
   refine (now_m w4 rn HM4.out).mono ?_
   rintro en w5 ⟨hb, z, rfl, hz⟩
   have HZ := hdn hz
   have HM5 := hdn (HM4.out.below hb); have HK5 := hdn (HK4.out.below hb HK4.out.lt); have HS5 := hdn (HS4.out.below hb HS4.out.lt); have HG5 := hdn (grownBy_below HG4.out hb); have HGr5 := hdn (HGr4.out.below hb); have HLE5 := hdn (Nat.le_trans HLE4.out hb.size)
   clear hb hz HM4 HK4 HS4 HG4 HGr4 HLE4
   have s2 : w5.cell? ⟨S, 2, none⟩ = some (.slice a0 acc.length c0) := HS5.out.cell 2
   by_cases h8 : gk = 0
   ·have hd : ((acc.length : Int) == 8) = true := by rw [beq_iff_eq]; omega
    have H8 := hdn h8
    clear h8
    go_wp2_with fail
    clear s2 hd
    refine (stop_m HC.out z.pos 11 (by decide) w5 rn HM5.out).mono ?_
    rintro en w6 ⟨rfl, g6, hm6⟩
    have HM6 := hdn hm6
    have HK6 := hdn (HK5.out.kept g6 HNE.out.1)
    have HS6 := hdn (HS5.out.kept g6 HNS.out.1)
    have HG6 := hdn (grownBy_tr HG5.out g6)
    have HGr6 := hdn (HGr5.out.par g6 (by have := HSZ.out; have := HNS.out; omega))
    clear g6 hm6
    have s0 := HS6.out.cell 0
    have s1 := HS6.out.cell 1
    have s2 := HS6.out.cell 2
    have r0' := HK6.out.cell 0
    have r1' := HK6.out.cell 1
    have r2' := HK6.out.cell 2
    have f0 := HK6.out.frozen 0
    have f1 := HK6.out.frozen 1
    have f2 := HK6.out.frozen 2
    simp only [List.getElem?_toArray, List.getElem?_cons_zero, List.getElem?_cons_succ] at s0 s1 s2 r0' r1' r2'
    go_wp2_with fail
    clear s0 s1 s2 r0' r1' r2' f0 f1 f2
    obtain ⟨hB, hF⟩ := path_result (n := x.text) (p := x.pos) (v := .slice a0 acc.length c0) HK6.out
    generalize ((w6.setCell ⟨A, 0, none⟩ (.string x.text)).setCell ⟨A, 1, none⟩ (.int .i64 x.pos)).setCell ⟨A, 2, none⟩ (.slice a0 acc.length c0) = wZ at hB hF ⊢
    have e0 := hB.cell 0
    have e1 := hB.cell 1
    have e2 := hB.cell 2
    have hfin := HGr6.out.par hF (by have := HSZ.out; have := HNS.out; omega)
    obtain ⟨sl, hv, hsl, hly⟩ := Kd.fin qHp (by show acc.length * 24 ≤ _; omega) hfin
    have hm := HM6.out.far hF HNE.out.1 HNE.out.2
    have hg := grownBy_up HG6.out hF (fun q hq => by injection hq with hq; have := HA.out; omega)
    refine bodyPost_ret (v := .agg #[.string x.text, .int .i64 x.pos, .slice a0 acc.length c0]) (by simp [results, Tryz.results131, go_sem, e0, e1, e2]) rfl ?_
    have hval : qPth.Val w.heap.size wZ (.agg #[.string x.text, .int .i64 x.pos, .slice a0 acc.length c0]) ⟨x.text, x.pos, ⟨none, 0, acc⟩⟩ := by
     refine ⟨⟨x.text, x.pos, sl⟩, by rw [hv]; rfl, ?_, ?_⟩
     ·show (⟨x.text, x.pos, ⟨none, 0, sl.l⟩⟩ : Pth) = _
      rw [show sl.l = acc by rw [← hsl]; exact (List.map_id _).symm]
     ·exact hopsLie_ext (fresh_rest (r := none) (B' := w.heap.size) (by have := HSZ.out; have := HNS.out; omega) (by simp) |>.trans rest_fresh) hly
    have herr : ∃ n, r = .error n := by
     rw [HR1.out]
     have hh := HH.out
     rw [HRN.out, H8.out] at hh
     simp only [Pr.th, Pa.hops, HIS.out, if_true] at hh
     rcases r1 with n | ⟨y, u1⟩
     ·exact ⟨_, rfl⟩
     ·show ∃ n, Pr.th (Pa.hops l 8 [] u1) _ = _
      change _ = Pa.hops l 8 [] u1 at hh
      rw [← hh]; exact ⟨_, rfl⟩
    obtain ⟨n, hn⟩ := herr
    rw [hn]
    exact ⟨hg, _, _, rfl, hval, (by intro y v hc; cases hc), hm.as _ (.inr ⟨⟨_, rfl⟩, ⟨_, rfl⟩⟩)⟩
   ·have hd : ((acc.length : Int) == 8) = false := by rw [beq_eq_false_iff_ne]; omega
    have H8 := hdn h8
    clear h8
    go_upto_region 8 with fail
    clear s2 hd
    have HM5' : Hid (RM w5 rb sb cap l o N (Except.ok (a1, u) : Pr.Res (List Hp))) := hdn (by have h5 := HM5.out; rw [HRN.out] at h5; exact h5)
    have c1 : w5.cell? ⟨rb, 1, none⟩ = some (.int .i64 u.i) := HM5'.out.1.blk.cell 1
    have f1 := HM5'.out.1.blk.frozen 1
    have hk0 : (0 : Int) ≤ (u.i : Int) := Int.natCast_nonneg _
    have hk2 : (u.i : Int) < 1000000 := by have := HLT.out; have := HC.out.len; have := HC.out.top; omega
    go_upto_region 9 with fail
    clear c1 f1 hk0 hk2
    have g6 : w5.grownBy (w5.setCell ⟨rb, 1, none⟩ (.int .i64 ((u.i : Int) + 1))) (some rb) := grownBy_setC w5 ⟨rb, 1, none⟩ _
    have HM6 : Hid (RM (w5.setCell ⟨rb, 1, none⟩ (.int .i64 ((u.i : Int) + 1))) rb sb cap l o N (Except.ok (a1, u.go) : Pr.Res (List Hp))) := hdn ⟨HM5'.out.1.go (by have := HLT.out; have := HC.out.len; have := HC.out.top; omega), HLT.out, HM5'.out.2.2⟩
    have HK6 := hdn (HK5.out.kept g6 HNE.out.1)
    have HS6 := hdn (HS5.out.kept g6 HNS.out.1)
    have HG6 := hdn (grownBy_tr HG5.out g6)
    have HGr6 := hdn (HGr5.out.par g6 (by have := HSZ.out; have := HNS.out; omega))
    have HLE6 := hdn (Nat.le_trans HLE5.out g6.size)
    clear g6 HM5 HM5' HK5 HS5 HG5 HGr5 HLE5
    generalize w5.setCell ⟨rb, 1, none⟩ (.int .i64 ((u.i : Int) + 1)) = w6 at HM6 HK6 HS6 HG6 HGr6 HLE6 ⊢
    go_wp2_with fail
    refine (name_m HC.out w6 _ HM6.out).mono ?_
    rintro en w7 ⟨g7, _, y, rfl, rfl, hy, hm⟩
    have HY := hdn hy
    have HM7 := hdn hm
    have HK7 := hdn (HK6.out.kept g7 HNE.out.1)
    have HS7 := hdn (HS6.out.kept g7 HNS.out.1)
    have HG7 := hdn (grownBy_tr HG6.out g7)
    have HGr7 := hdn (HGr6.out.par g7 (by have := HSZ.out; have := HNS.out; omega))
    have HLE7 := hdn (Nat.le_trans HLE6.out g7.size)
    clear hy hm g7 HM6 HK6 HS6 HG6 HGr6 HLE6
    go_upto_region 10 with fail
    have s2 : w7.cell? ⟨S, 2, none⟩ = some (.slice a0 acc.length c0) := HS7.out.cell 2
    go_wp2_with (first | ((with_reducible show wpList _ _ _ (Oper.mk (some 44) _ _ _ _ _ :: _) _ _); refine wpList_one rfl 43 165 (.tmp 43) rfl (qHp.cells ⟨y.text, z.pos⟩).toArray rfl HI.out.und iHp _ qHp.size HI.out.info HI.out.zero HI.out.size HI.out.pos (by decide) rfl ?_) | ((with_reducible show wpList _ _ _ (Oper.mk (some 45) _ _ _ _ _ :: _) _ _); refine Kd.wpList_push qHp rfl 43 iHp _ HI.out (.tmp 40) (.tmp 44) rfl w3.heap.size acc (.slice a0 acc.length c0) rfl HGr7.out HLE7.out ⟨y.text, z.pos⟩ rfl trivial (by unfold maxLen; omega) (by show (acc.length + 1) * 24 ≤ _; omega) ?_; rintro v' w8 hG8 ⟨gg, cc, rfl⟩ hgr8 hown8; have HGr8 := hdn hG8; have HM8 := hdn (HM7.out.grown hgr8 (fun q hq => by have := hown8 q hq; have := HSZ.out; have := HNS.out; have := HSB.out; omega)); have HK8 := hdn (HK7.out.grown hgr8 (fun q hq => by have := hown8 q hq; have := HSZ.out; have := HNS.out; omega)); have HS8 := hdn (HS7.out.grown hgr8 (fun q hq => by have := hown8 q hq; have := HSZ.out; omega)); have HG8 := hdn (grownBy_up HG7.out hgr8 (fun q hq => by have := hown8 q hq; have := HSZ.out; have := HNS.out; omega)); have HLE8 : Hid (w3.heap.size ≤ w8.heap.size) := hdn (Nat.le_trans HLE7.out hgr8.size); have s28 : w8.cell? ⟨S, 2, none⟩ = some (.slice a0 acc.length c0) := HS8.out.cell 2; have f28 : w8.frozen? ⟨S, 2, none⟩ = false := HS8.out.frozen 2; clear hG8 hgr8 hown8 s2 HM7 HK7 HS7 HG7 HGr7 HLE7))
    clear s28 f28
    have gs : w8.grownBy (w8.setCell ⟨S, 2, none⟩ (.slice (some ⟨gg, 0, none⟩) (acc.length + 1) cc)) (some S) := grownBy_setC w8 ⟨S, 2, none⟩ _
    have HS9 : Hid (Bk (w8.setCell ⟨S, 2, none⟩ (.slice (some ⟨gg, 0, none⟩) (acc.length + 1) cc)) S 45 #[.string x.text, .int .i64 x.pos, .slice (some ⟨gg, 0, none⟩) (acc.length + 1) cc]) := hdn (HS8.out.set_ 2 _)
    have HM9 := hdn (HM8.out.far gs HNS.out.1 HNS.out.2.1)
    have HK9 := hdn (HK8.out.kept gs HNS.out.2.2.1)
    have HG9 := hdn (grownBy_up HG8.out gs (fun q hq => by injection hq with hq; have := HNS.out; omega))
    have HGr9 := hdn (HGr8.out.par gs (by have := HSZ.out; exact this))
    have HLE9 := hdn (Nat.le_trans HLE8.out gs.size)
    clear gs HM8 HK8 HS8 HG8 HGr8 HLE8
    generalize w8.setCell ⟨S, 2, none⟩ (.slice (some ⟨gg, 0, none⟩) (acc.length + 1) cc) = w9 at HM9 HK9 HS9 HG9 HGr9 HLE9 ⊢
    go_roundg (gk - 1)
    case measure => have := H8.out; omega
    case rel =>
     have hz := HZ.out; have hac := HAC.out; have hrn := HRN.out; have hy := HY.out; have hh := HH.out; have his := HIS.out; have hm := HM9.out
     refine ⟨acc ++ [qHp.er ⟨y.text, z.pos⟩], .slice (some ⟨gg, 0, none⟩) (acc.length + 1) cc, Pr.th (Pa.name l u.go) (fun t v => .ok (a1 ++ [⟨t.text, (Pa.sg l u.i).pos⟩], v)), by have := H8.out; simp only [List.length_append, List.length_singleton]; omega, hdn ?_, hdn ?_, HGr9, HS9, hdn ?_, HK9, HG9, HLE9⟩
     ·intro a u2 ha
      rcases q : Pa.name l u.go with n | ⟨t, u3⟩
      ·rw [q] at ha; cases ha
      ·rw [q] at ha; injection ha with ha; injection ha with h1 h2; subst h1
       rw [hy t u3 q, hz a1 u hrn, hac a1 u hrn]; rfl
     ·rw [← hh, hrn]
      obtain ⟨gj, hj⟩ : ∃ k, gk = k + 1 := ⟨gk - 1, by have := H8.out; omega⟩
      subst hj
      simp only [Pr.th, Pa.hops, his, if_true, Nat.add_sub_cancel]
      rcases Pa.name l u.go with n | ⟨t, u3⟩ <;> rfl
     ·refine hm.as _ (.inl ?_)
      show Pr.th (Pa.name l u.go) _ = _
      rcases Pa.name l u.go with n | ⟨t, u3⟩ <;> rfl
  ·have HF := hdn hf
   clear hf
   have s0 := HS4.out.cell 0
   have s1 := HS4.out.cell 1
   have s2 := HS4.out.cell 2
   have r0' := HK4.out.cell 0
   have r1' := HK4.out.cell 1
   have r2' := HK4.out.cell 2
   have f0 := HK4.out.frozen 0
   have f1 := HK4.out.frozen 1
   have f2 := HK4.out.frozen 2
   simp only [List.getElem?_toArray, List.getElem?_cons_zero, List.getElem?_cons_succ] at s0 s1 s2 r0' r1' r2'
   go_wp2_with fail
   clear s0 s1 s2 r0' r1' r2' f0 f1 f2
   obtain ⟨hB, hF⟩ := path_result (n := x.text) (p := x.pos) (v := .slice a0 acc.length c0) HK4.out
   generalize ((w4.setCell ⟨A, 0, none⟩ (.string x.text)).setCell ⟨A, 1, none⟩ (.int .i64 x.pos)).setCell ⟨A, 2, none⟩ (.slice a0 acc.length c0) = wZ at hB hF ⊢
   have e0 := hB.cell 0
   have e1 := hB.cell 1
   have e2 := hB.cell 2
   have hfin := HGr4.out.par hF (by have := HSZ.out; have := HNS.out; omega)
   obtain ⟨sl, hv, hsl, hly⟩ := Kd.fin qHp (by show acc.length * 24 ≤ _; omega) hfin
   have hm := HM4.out.far hF HNE.out.1 HNE.out.2
   have hg := grownBy_up HG4.out hF (fun q hq => by injection hq with hq; have := HA.out; omega)
   refine bodyPost_ret (v := .agg #[.string x.text, .int .i64 x.pos, .slice a0 acc.length c0]) (by simp [results, Tryz.results131, go_sem, e0, e1, e2]) rfl ?_
   have hval : qPth.Val w.heap.size wZ (.agg #[.string x.text, .int .i64 x.pos, .slice a0 acc.length c0]) ⟨x.text, x.pos, ⟨none, 0, acc⟩⟩ := by
    refine ⟨⟨x.text, x.pos, sl⟩, by rw [hv]; rfl, ?_, ?_⟩
    ·show (⟨x.text, x.pos, ⟨none, 0, sl.l⟩⟩ : Pth) = _
     rw [show sl.l = acc by rw [← hsl]; exact (List.map_id _).symm]
    ·exact hopsLie_ext (fresh_rest (r := none) (B' := w.heap.size) (by have := HSZ.out; have := HNS.out; omega) (by simp) |>.trans rest_fresh) hly
   have hrn : Pr.th r1 (fun _ u => Pa.hops l 8 [] u) = rn := by
    rw [← HH.out]
    have hf := HF.out
    rcases rn with n | ⟨a, u⟩
    ·rfl
    ·show Pa.hops l gk a u = _
     have := hf a u rfl
     cases gk <;> simp only [Pa.hops, this, Bool.false_eq_true, if_false]
   have hx := HX.out
   have hac := HAC.out
   rw [HR1.out]
   refine ⟨hg, _, _, rfl, hval, ?_, ?_⟩
   ·intro z v hz
    rcases q : r1 with n | ⟨y, u1⟩
    ·rw [q] at hz; cases hz
    ·rw [q] at hz hrn
     change Pr.th (Pa.hops l 8 [] u1) _ = _ at hz
     change Pa.hops l 8 [] u1 = _ at hrn
     rw [hrn] at hz
     rcases q2 : rn with n | ⟨a, u⟩
     ·rw [q2] at hz; cases hz
     ·rw [q2] at hz; cases hz
      rw [hx y u1 q, hac a _ q2]
   ·refine hm.as _ (.inl ?_)
    rw [← hrn]
    rcases r1 with n | ⟨y, u1⟩
    ·rfl
    ·show Pr.th (Pa.hops l 8 [] u1) _ = Pr.th (Pr.th (Pa.hops l 8 [] u1) _) _
     rcases Pa.hops l 8 [] u1 with n | ⟨a, u⟩ <;> rfl
end
end Go.Proofs.YtdlchhimkelinaaGreatDoor
namespace Go.Proofs.YtdlchhimkelinaaGreatDoor
open Go.RowKit Go.Sort
attribute [local go_sem] field72_0 field72_1 field72_2 field72_3
def qVl : Kd Vl := ⟨49, 12, 144, Vl.cells, fun x => { x with path := ⟨x.path.name, x.path.pos, ⟨none, 0, x.path.hops.l⟩⟩ }, vlLies, fun _ => rfl, fun _ => by simp [Value.oneCell'], fun _ h k => vlLies_ext h k⟩
theorem no_hops {w : World} : hopsLie w (⟨none, 0, []⟩ : Sl Hp) := ⟨(show 0 * 24 ≤ 140737488351232 by decide), .inl rfl⟩
section
variable {α : Type} {rb sb cap : Nat} {l : List Tx.Sg} {o : Int} {N : Nat}
theorem side_m (C : RC l N) (w : World) (r0 : Pr.Res α) (h : RM w rb sb cap l o N r0) :
  Calls Tryz.prog 133 #[.pointer (some ⟨rb, 0, none⟩)] w (RP (qVl.Val w.heap.size) w rb sb cap l o N (Pr.th r0 fun _ u => Pa.side l u)) := by
 have HC := hdn C
 obtain ⟨r, hr⟩ : ∃ r, r = Pr.th r0 fun _ u => Pa.side l u := ⟨_, rfl⟩
 rw [← hr]
 have HR := hdn hr
 have hn : Below w.heap.size w (w.alloc (.cells #[.int .i64 0, .int .i64 0, .string ByteArray.empty, .int .i64 0, .slice none 0 0, .string ByteArray.empty, .string ByteArray.empty, .int .i64 0, .int .i64 0, .string ByteArray.empty, .int .i64 0, .int .i64 0] 49)) := (Below.refl _ _).alloc (Nat.le_refl _) _
 have HM := hdn (h.below hn)
 have HK : Hid (Bk (w.alloc (.cells #[.int .i64 0, .int .i64 0, .string ByteArray.empty, .int .i64 0, .slice none 0 0, .string ByteArray.empty, .string ByteArray.empty, .int .i64 0, .int .i64 0, .string ByteArray.empty, .int .i64 0, .int .i64 0] 49)) w.heap.size 49 (Vl.cells Pr.noVl).toArray) := hdn (heap_alloc_new _ _)
 have HNE : Hid (w.heap.size ≠ rb ∧ w.heap.size ≠ sb) := hdn ⟨by have := h.rb_lt; omega, by have := h.sb_lt; omega⟩
 have HG : Hid (w.grownBy (w.alloc (.cells #[.int .i64 0, .int .i64 0, .string ByteArray.empty, .int .i64 0, .slice none 0 0, .string ByteArray.empty, .string ByteArray.empty, .int .i64 0, .int .i64 0, .string ByteArray.empty, .int .i64 0, .int .i64 0] 49)) (some rb)) := hdn (grownBy_of hn _)
 generalize hwA : w.alloc (.cells #[.int .i64 0, .int .i64 0, .string ByteArray.empty, .int .i64 0, .slice none 0 0, .string ByteArray.empty, .string ByteArray.empty, .int .i64 0, .int .i64 0, .string ByteArray.empty, .int .i64 0, .int .i64 0] 49) = wA at HM HK HG
 clear h hr hn
 go_enter Tryz.func133, Tryz.ntmps133
 go_upto_region 1 with fail
 rw [show w.alloc (.cells #[.int .i64 0, .int .i64 0, .string ⟨#[]⟩, .int .i64 0, .slice none 0 0, .string ⟨#[]⟩, .string ⟨#[]⟩, .int .i64 0, .int .i64 0, .string ⟨#[]⟩, .int .i64 0, .int .i64 0] 49) = wA from hwA]
 clear hwA
 obtain ⟨A, hA⟩ : ∃ A, A = w.heap.size := ⟨_, rfl⟩
 have HA := hdn hA
 rw [← hA] at HK HNE ⊢
 clear hA
 go_wp2_with fail
 refine (now_m wA r0 HM.out).mono ?_
 rintro en w1 ⟨hb, z, rfl, hz⟩
 have HZ := hdn hz
 have HM1 := hdn (HM.out.below hb); have HK1 := hdn (HK.out.below hb HK.out.lt); have HG1 := hdn (grownBy_below HG.out hb)
 clear hb hz HM HK HG
 go_upto_region 2 with fail
 have hm : Below w1.heap.size w1 (w1.alloc (.cells #[.int .i64 z.kind, .int .i64 z.pos, .string z.text, .int .i64 z.num] 72)) := (Below.refl _ _).alloc (Nat.le_refl _) _
 have HM2 := hdn (HM1.out.below hm)
 have HK2 := hdn (HK1.out.below hm HK1.out.lt)
 have HF : Hid (Bk (w1.alloc (.cells #[.int .i64 z.kind, .int .i64 z.pos, .string z.text, .int .i64 z.num] 72)) w1.heap.size 72 #[.int .i64 z.kind, .int .i64 z.pos, .string z.text, .int .i64 z.num]) := hdn (heap_alloc_new _ _)
 have HG2 := hdn (grownBy_below HG1.out hm)
 have HFN : Hid (w1.heap.size ≠ rb ∧ w1.heap.size ≠ A) := hdn ⟨by have := HM1.out.rb_lt; omega, by have := HK1.out.lt; omega⟩
 generalize w1.alloc (.cells #[.int .i64 z.kind, .int .i64 z.pos, .string z.text, .int .i64 z.num] 72) = w2 at HM2 HK2 HF HG2 ⊢
 clear hm HM1 HK1 HG1
 generalize w1.heap.size = F at *
 have t1 : w2.cell? ⟨F, 1, none⟩ = some (.int .i64 z.pos) := HF.out.cell 1
 go_upto_region 4 with fail
 clear t1
 change Code.wp _ _ _ _ (w2.alloc (.cells (Vl.cells { Pr.noVl with pos := (z.pos : Int) }).toArray 49))
 have hm : Below w2.heap.size w2 (w2.alloc (.cells (Vl.cells { Pr.noVl with pos := (z.pos : Int) }).toArray 49)) := (Below.refl _ _).alloc (Nat.le_refl _) _
 have HM3 := hdn (HM2.out.below hm)
 have HK3 := hdn (HK2.out.below hm HK2.out.lt)
 have HF3 := hdn (HF.out.below hm HF.out.lt)
 have HS3 : Hid (Bk (w2.alloc (.cells (Vl.cells { Pr.noVl with pos := (z.pos : Int) }).toArray 49)) w2.heap.size 49 (Vl.cells { Pr.noVl with pos := (z.pos : Int) }).toArray) := hdn (heap_alloc_new _ _)
 have HG3 := hdn (grownBy_below HG2.out hm)
 have HNS : Hid (w2.heap.size ≠ rb ∧ w2.heap.size ≠ sb ∧ A ≠ w2.heap.size ∧ w.heap.size ≤ w2.heap.size) := hdn ⟨by have := HM2.out.rb_lt; omega, by have := HM2.out.sb_lt; omega, by have := HK2.out.lt; omega, HG2.out.size⟩
 generalize w2.alloc (.cells (Vl.cells { Pr.noVl with pos := (z.pos : Int) }).toArray 49) = w3 at HM3 HK3 HF3 HS3 HG3 ⊢
 clear hm HM2 HK2 HF HG2
 generalize w2.heap.size = S at *
 go_wp2_with fail
 refine (take_m HC.out ⟨#[110, 117, 108, 108]⟩ (by decide) w3 r0 HM3.out).mono ?_
 rintro en w4 ⟨g4, hh⟩
 have HK4 := hdn (HK3.out.kept g4 HNE.out.1)
 have HS4 := hdn (HS3.out.kept g4 HNS.out.1)
 have HF4 := hdn (HF3.out.kept g4 HFN.out.1)
 have HG4 := hdn (grownBy_tr HG3.out g4)
 clear g4 HM3 HK3 HS3 HF3 HG3
 rcases hh with ⟨rfl, x0, u, hr0, hi, hm⟩ | ⟨rfl, hf, hm⟩
 ·have HR0 := hdn hr0
  have HI := hdn hi
  have HM4 := hdn hm
  clear hr0 hi hm
  go_wp2_with (first | ((with_reducible show wpList _ _ _ (Oper.mk (some 25) (Op.load 49 _) _ _ _ _ :: _) _ _); refine wpList_load_bk rfl 49 (.tmp 4) rfl S 49 (Vl.cells { Pr.noVl with pos := (z.pos : Int) }).toArray rfl _ HS4.out Tryz.underlying49 rfl size47 ?_) | ((with_reducible show wpList _ _ _ (Oper.mk none (Op.store 49 (Operand.tmp 2) _) _ _ _ _ :: _) _ _); refine wpList_store_bk rfl 49 (.tmp 2) (.tmp 25) rfl A 49 _ (Vl.cells { Pr.noVl with pos := (z.pos : Int) }).toArray rfl rfl HK4.out size47 rfl (by simp [Value.oneCell']) ?_; intro wZ hB hF; have HB := hdn hB; have HF' := hdn hF; clear hB hF))
  have hm := HM4.out.far HF'.out HNE.out.1 HNE.out.2
  have hg := grownBy_up HG4.out HF'.out (fun q hq => by injection hq with hq; have := HA.out; omega)
  refine bodyPost_ret (results_cell_row Tryz.results133 _ wZ A 49 (Vl.cells { Pr.noVl with pos := (z.pos : Int) }).toArray (0, 0) _ rfl HB.out Tryz.underlying49 rfl size47) rfl ?_
  have hrr : r = .ok ({ Pr.noVl with pos := ((Pa.sg l u.i).pos : Int) }, u.go) := by
   rw [HR.out, HR0.out]; show Pa.side l u = _; unfold Pa.side; rw [if_pos HI.out]
  have hz := HZ.out _ _ HR0.out
  rw [hrr, ← hz]
  exact ⟨hg, _, _, rfl, ⟨{ Pr.noVl with pos := (z.pos : Int) }, rfl, rfl, no_hops⟩, (fun y v hc => by injection hc with hc; injection hc), hm.as _ (.inl rfl)⟩
 ·have HF0 := hdn hf
  have HM4 := hdn hm
  clear hf hm
  have t0 : w4.cell? ⟨F, 0, none⟩ = some (.int .i64 z.kind) := HF4.out.cell 0
  by_cases h2 : z.kind = 2
  ·have hd : (z.kind == 2) = true := by simpa using h2
   have H2 := hdn h2
   clear h2
   go_wp2_with fail
   clear t0 hd
   refine (term_m HC.out w4 r0 HM4.out).mono ?_
   rintro en w5 ⟨g5, _, x, rfl, rfl, hx, hm⟩
   have HX := hdn hx
   have HM5 := hdn hm
   have HK5 := hdn (HK4.out.kept g5 HNE.out.1)
   have HS5 := hdn (HS4.out.kept g5 HNS.out.1)
   have HG5 := hdn (grownBy_tr HG4.out g5)
   clear hx hm g5 HM4 HK4 HS4 HF4 HG4
   have f0 := HS5.out.frozen 0
   have c0 := HS5.out.cell 0
   have f6 := HS5.out.frozen 6
   have c6 := HS5.out.cell 6
   have f7 := HS5.out.frozen 7
   have c7 := HS5.out.cell 7
   have f8 := HS5.out.frozen 8
   have c8 := HS5.out.cell 8
   simp only [List.getElem?_toArray, List.getElem?_cons_zero, List.getElem?_cons_succ] at c0 c6 c7 c8
   go_upto_region 7 with fail
   clear f0 c0 f6 c6 f7 c7 f8 c8
   have gs : w5.grownBy ((((w5.setCell ⟨S, 0, none⟩ (.int .i64 4)).setCell ⟨S, 6, none⟩ (.string x.name)).setCell ⟨S, 7, none⟩ (.int .i64 x.n)).setCell ⟨S, 8, none⟩ (.int .i64 x.pos)) (some S) := grownBy_tr (grownBy_tr (grownBy_tr (grownBy_setC _ ⟨S, 0, none⟩ _) (grownBy_setC _ ⟨S, 6, none⟩ _)) (grownBy_setC _ ⟨S, 7, none⟩ _)) (grownBy_setC _ ⟨S, 8, none⟩ _)
   have HS6 : Hid (Bk ((((w5.setCell ⟨S, 0, none⟩ (.int .i64 4)).setCell ⟨S, 6, none⟩ (.string x.name)).setCell ⟨S, 7, none⟩ (.int .i64 x.n)).setCell ⟨S, 8, none⟩ (.int .i64 x.pos)) S 49 (Vl.cells { Pr.noVl with kind := 4, pos := (z.pos : Int), left := x }).toArray) := hdn ((((HS5.out.set_ 0 _).set_ 6 _).set_ 7 _).set_ 8 _)
   have HM6 := hdn (HM5.out.far gs HNS.out.1 HNS.out.2.1)
   have HK6 := hdn (HK5.out.kept gs HNS.out.2.2.1)
   have HG6 := hdn (grownBy_up HG5.out gs (fun q hq => by injection hq with hq; have := HNS.out; omega))
   clear gs
   generalize ((((w5.setCell ⟨S, 0, none⟩ (.int .i64 4)).setCell ⟨S, 6, none⟩ (.string x.name)).setCell ⟨S, 7, none⟩ (.int .i64 x.n)).setCell ⟨S, 8, none⟩ (.int .i64 x.pos)) = w6 at HS6 HM6 HK6 HG6 ⊢
   go_wp2_with (first | ((with_reducible show wpList _ _ _ (Oper.mk (some 25) (Op.load 49 _) _ _ _ _ :: _) _ _); refine wpList_load_bk rfl 49 (.tmp 4) rfl S 49 (Vl.cells { Pr.noVl with kind := 4, pos := (z.pos : Int), left := x }).toArray rfl _ HS6.out Tryz.underlying49 rfl size47 ?_) | ((with_reducible show wpList _ _ _ (Oper.mk none (Op.store 49 (Operand.tmp 2) _) _ _ _ _ :: _) _ _); refine wpList_store_bk rfl 49 (.tmp 2) (.tmp 25) rfl A 49 _ (Vl.cells { Pr.noVl with kind := 4, pos := (z.pos : Int), left := x }).toArray rfl rfl HK6.out size47 rfl (by simp [Value.oneCell']) ?_; intro wZ hB hF; have HB := hdn hB; have HF' := hdn hF; clear hB hF))
   have hm := HM6.out.far HF'.out HNE.out.1 HNE.out.2
   have hg := grownBy_up HG6.out HF'.out (fun q hq => by injection hq with hq; have := HA.out; omega)
   refine bodyPost_ret (results_cell_row Tryz.results133 _ wZ A 49 (Vl.cells { Pr.noVl with kind := 4, pos := (z.pos : Int), left := x }).toArray (0, 0) _ rfl HB.out Tryz.underlying49 rfl size47) rfl ?_
   have hx := HX.out
   have hz := HZ.out
   have h2 := H2.out
   have hf := HF0.out
   rw [HR.out]
   refine ⟨hg, _, _, rfl, ⟨{ Pr.noVl with kind := 4, pos := (z.pos : Int), left := x }, rfl, rfl, no_hops⟩, ?_, ?_⟩
   ·intro y v hc
    rcases r0 with n | ⟨x0, u⟩
    ·cases hc
    ·have hv : Pa.side l u = Pr.th (Pa.term l u) fun x v => .ok ({ Pr.noVl with kind := 4, pos := ((Pa.sg l u.i).pos : Int), left := x }, v) := by
      unfold Pa.side; rw [if_neg (by rw [hf _ _ rfl]; decide), if_pos (by rw [← hz _ _ rfl]; exact h2)]
     change Pa.side l u = _ at hc
     rw [hv] at hc
     rcases q : Pa.term l u with n | ⟨x1, u1⟩
     ·rw [q] at hc; cases hc
     ·rw [q] at hc; injection hc with hc; injection hc with h3 h4
      rw [← h3, hx x1 u1 q, hz x0 u rfl]; rfl
   ·refine hm.as _ (.inl ?_)
    rcases r0 with n | ⟨x0, u⟩
    ·rfl
    ·have hv : Pa.side l u = Pr.th (Pa.term l u) fun x v => .ok ({ Pr.noVl with kind := 4, pos := ((Pa.sg l u.i).pos : Int), left := x }, v) := by
      unfold Pa.side; rw [if_neg (by rw [hf _ _ rfl]; decide), if_pos (by rw [← hz _ _ rfl]; exact h2)]
     show Pr.th (Pa.term l u) _ = Pr.th (Pa.side l u) _
     rw [hv]
     rcases Pa.term l u with n | ⟨x1, u1⟩ <;> rfl
  ·have hd : (z.kind == 2) = false := by simpa using h2
   have H2 := hdn h2
   clear h2
   go_wp2_with fail
   clear t0 hd
   refine (path_m HC.out w4 r0 HM4.out).mono ?_
   rintro en w5 ⟨g5, v5, x, rfl, ⟨y0, hv, hye, hyl⟩, hx, hm⟩
   have hv5 : v5 = .agg #[.string y0.name, .int .i64 y0.pos, .slice y0.hops.p y0.hops.l.length y0.hops.cap] := hv
   clear hv
   subst hv5
   have HX := hdn hx
   have HYE := hdn hye
   have HYL := hdn hyl
   have HLT5 : Hid (w.heap.size ≤ w4.heap.size ∧ A < w4.heap.size ∧ S < w4.heap.size) := hdn ⟨HG4.out.size, HK4.out.lt, HS4.out.lt⟩
   have HM5 := hdn hm
   have HK5 := hdn (HK4.out.kept g5 HNE.out.1)
   have HS5 := hdn (HS4.out.kept g5 HNS.out.1)
   have HG5 := hdn (grownBy_tr HG4.out g5)
   clear hx hm g5 hye hyl HM4 HK4 HS4 HF4 HG4
   have f0 := HS5.out.frozen 0
   have c0 := HS5.out.cell 0
   have f2 := HS5.out.frozen 2
   have c2 := HS5.out.cell 2
   have f3 := HS5.out.frozen 3
   have c3 := HS5.out.cell 3
   have f4 := HS5.out.frozen 4
   have c4 := HS5.out.cell 4
   simp only [List.getElem?_toArray, List.getElem?_cons_zero, List.getElem?_cons_succ] at c0 c2 c3 c4
   go_upto_region 7 with fail
   clear f0 c0 f2 c2 f3 c3 f4 c4
   have gs : w5.grownBy ((((w5.setCell ⟨S, 0, none⟩ (.int .i64 1)).setCell ⟨S, 2, none⟩ (.string y0.name)).setCell ⟨S, 3, none⟩ (.int .i64 y0.pos)).setCell ⟨S, 4, none⟩ (.slice y0.hops.p y0.hops.l.length y0.hops.cap)) (some S) := grownBy_tr (grownBy_tr (grownBy_tr (grownBy_setC _ ⟨S, 0, none⟩ _) (grownBy_setC _ ⟨S, 2, none⟩ _)) (grownBy_setC _ ⟨S, 3, none⟩ _)) (grownBy_setC _ ⟨S, 4, none⟩ _)
   have HS6 : Hid (Bk ((((w5.setCell ⟨S, 0, none⟩ (.int .i64 1)).setCell ⟨S, 2, none⟩ (.string y0.name)).setCell ⟨S, 3, none⟩ (.int .i64 y0.pos)).setCell ⟨S, 4, none⟩ (.slice y0.hops.p y0.hops.l.length y0.hops.cap)) S 49 (Vl.cells { Pr.noVl with kind := 1, pos := (z.pos : Int), path := y0 }).toArray) := hdn ((((HS5.out.set_ 0 _).set_ 2 _).set_ 3 _).set_ 4 _)
   have HM6 := hdn (HM5.out.far gs HNS.out.1 HNS.out.2.1)
   have HYL6 := hdn (hopsLie_ext (fresh_par gs HLT5.out.2.2) HYL.out)
   have HK6 := hdn (HK5.out.kept gs HNS.out.2.2.1)
   have HG6 := hdn (grownBy_up HG5.out gs (fun q hq => by injection hq with hq; have := HNS.out; omega))
   clear gs
   generalize ((((w5.setCell ⟨S, 0, none⟩ (.int .i64 1)).setCell ⟨S, 2, none⟩ (.string y0.name)).setCell ⟨S, 3, none⟩ (.int .i64 y0.pos)).setCell ⟨S, 4, none⟩ (.slice y0.hops.p y0.hops.l.length y0.hops.cap)) = w6 at HS6 HM6 HK6 HG6 HYL6 ⊢
   go_wp2_with (first | ((with_reducible show wpList _ _ _ (Oper.mk (some 25) (Op.load 49 _) _ _ _ _ :: _) _ _); refine wpList_load_bk rfl 49 (.tmp 4) rfl S 49 (Vl.cells { Pr.noVl with kind := 1, pos := (z.pos : Int), path := y0 }).toArray rfl _ HS6.out Tryz.underlying49 rfl size47 ?_) | ((with_reducible show wpList _ _ _ (Oper.mk none (Op.store 49 (Operand.tmp 2) _) _ _ _ _ :: _) _ _); refine wpList_store_bk rfl 49 (.tmp 2) (.tmp 25) rfl A 49 _ (Vl.cells { Pr.noVl with kind := 1, pos := (z.pos : Int), path := y0 }).toArray rfl rfl HK6.out size47 rfl (by simp [Value.oneCell']) ?_; intro wZ hB hF; have HB := hdn hB; have HF' := hdn hF; clear hB hF))
   have hm := HM6.out.far HF'.out HNE.out.1 HNE.out.2
   have hg := grownBy_up HG6.out HF'.out (fun q hq => by injection hq with hq; have := HA.out; omega)
   refine bodyPost_ret (results_cell_row Tryz.results133 _ wZ A 49 (Vl.cells { Pr.noVl with kind := 1, pos := (z.pos : Int), path := y0 }).toArray (0, 0) _ rfl HB.out Tryz.underlying49 rfl size47) rfl ?_
   have hx := HX.out
   have hz := HZ.out
   have h2 := H2.out
   have hf := HF0.out
   rw [HR.out]
   refine ⟨hg, _, _, rfl, ⟨{ Pr.noVl with kind := 1, pos := (z.pos : Int), path := y0 }, rfl, (by rw [← HYE.out]; rfl : _ = ({ Pr.noVl with kind := 1, pos := (z.pos : Int), path := x } : Vl)), ?_⟩, ?_, ?_⟩
   ·exact hopsLie_ext ((fresh_par HF'.out HLT5.out.2.1).trans (fresh_mono HLT5.out.1 _)) HYL6.out
   ·intro y v hc
    rcases r0 with n | ⟨x0, u⟩
    ·cases hc
    ·have hv : Pa.side l u = Pr.th (Pa.path l u) fun x v => .ok ({ Pr.noVl with kind := 1, pos := ((Pa.sg l u.i).pos : Int), path := x }, v) := by
      unfold Pa.side; rw [if_neg (by rw [hf _ _ rfl]; decide), if_neg (by rw [← hz _ _ rfl]; exact h2)]
     change Pa.side l u = _ at hc
     rw [hv] at hc
     rcases q : Pa.path l u with n | ⟨x1, u1⟩
     ·rw [q] at hc; cases hc
     ·rw [q] at hc; injection hc with hc; injection hc with h3 h4
      rw [← h3, hx x1 u1 q, hz x0 u rfl]
   ·refine hm.as _ (.inl ?_)
    rcases r0 with n | ⟨x0, u⟩
    ·rfl
    ·have hv : Pa.side l u = Pr.th (Pa.path l u) fun x v => .ok ({ Pr.noVl with kind := 1, pos := ((Pa.sg l u.i).pos : Int), path := x }, v) := by
      unfold Pa.side; rw [if_neg (by rw [hf _ _ rfl]; decide), if_neg (by rw [← hz _ _ rfl]; exact h2)]
     show Pr.th (Pa.path l u) _ = Pr.th (Pa.side l u) _
     rw [hv]
     rcases Pa.path l u with n | ⟨x1, u1⟩ <;> rfl
end
end Go.Proofs.YtdlchhimkelinaaGreatDoor
