/-
  DERIVED. The walks of the parser's small calls: may, must, name, behind.
-/
import Derived.Test.YtlpnkllhpienhaaDoorPw
namespace Go.Proofs.YtlpnkllhpienhaaDoor
open Go.RowKit Go.Sort

attribute [local go_sem] field79_0 field79_1 field79_2 field79_3
theorem grownBy_of {a b : World} (h : Below a.heap.size a b) (r : Option Nat) : a.grownBy b r := ⟨h.os, h.tape, h.output, h.size, fun i hi _ => h.block i hi⟩
theorem below_grown {a b c : World} {r : Option Nat} (h : Below a.heap.size a b) (k : b.grownBy c r) : a.grownBy c r := grownBy_tr (grownBy_of h r) k

section
variable {pb sb cap : Nat} {l : List Tx.Sg} {i : Nat} {o b : Int}
set_option maxHeartbeats 800000 in
set_option maxRecDepth 100000 in
theorem may_yes (x : Tx.Sg) (s : ByteArray) (w : World) (h : PS w pb sb cap l i o b) (hg : Good l) (hx : l[i]? = some x) (ht : (x.text.toList == s.toList) = true) (hs : s.toList.length ≠ 0) :
    Calls Tryd.prog 35 #[.pointer (some ⟨pb, 0, none⟩), .string s] w fun e w' => e = .returned (.bool true) ∧ PS w' pb sb cap l (i + 1) o b ∧ w.grownBy w' (some pb) := by
  have HA : Hid (Calls Tryd.prog 56 #[.pointer (some ⟨pb, 0, none⟩), .string s] w fun e w' => e = .returned (.bool true) ∧ Below w.heap.size w w') := Lib.hid ((stands_any x s w h hg hx).mono fun e w' ⟨h1, h2⟩ => ⟨by rw [h1, ht], h2⟩)
  have HT : Hid (∀ w', Below w.heap.size w w' → Calls Tryd.prog 43 #[.pointer (some ⟨pb, 0, none⟩)] w' fun e w'' => e = .returned (.agg #[.int .i64 x.kind, .int .i64 x.pos, .string x.text, .int .i64 x.num]) ∧ PS w'' pb sb cap l (i + 1) o b ∧ w'.grownBy w'' (some pb)) := Lib.hid (fun w' hb => take_any x w' (h.below hb) hg hx (hg.kind hx ht hs))
  clear h hg hx ht hs
  go_enter Tryd.func35, Tryd.ntmps35
  go_wp2_with fail
  refine (HA.out).mono ?_; rintro en w1 ⟨rfl, hb⟩
  have HB := Lib.hid hb
  clear hb
  go_wp2_with fail
  refine (HT.out w1 HB.out).mono ?_; rintro en w2 ⟨rfl, h2, h3⟩
  have H2 := Lib.hid h2; have H3 := Lib.hid h3
  clear h2 h3
  go_wp2_with fail
  go_ret
  exact ⟨rfl, H2.out, below_grown HB.out H3.out⟩
set_option maxHeartbeats 800000 in
set_option maxRecDepth 100000 in
theorem may_no (x : Tx.Sg) (s : ByteArray) (w : World) (h : PS w pb sb cap l i o b) (hg : Good l) (hx : l[i]? = some x) (ht : (x.text.toList == s.toList) = false) :
    Calls Tryd.prog 35 #[.pointer (some ⟨pb, 0, none⟩), .string s] w fun e w' => e = .returned (.bool false) ∧ Below w.heap.size w w' := by
  have HA : Hid (Calls Tryd.prog 56 #[.pointer (some ⟨pb, 0, none⟩), .string s] w fun e w' => e = .returned (.bool false) ∧ Below w.heap.size w w') := Lib.hid ((stands_any x s w h hg hx).mono fun e w' ⟨h1, h2⟩ => ⟨by rw [h1, ht], h2⟩)
  clear h hg hx ht
  go_enter Tryd.func35, Tryd.ntmps35
  go_wp2_with fail
  refine (HA.out).mono ?_; rintro en w1 ⟨rfl, hb⟩
  have HB := Lib.hid hb
  clear hb
  go_wp2_with fail
  go_ret
  exact ⟨rfl, HB.out⟩
/-- The end of a call that hands back a sign through a result of its own. -/
theorem sign_result {w2 : World} {x : Tx.Sg} {R : Nat} (hk : Bk w2 R 79 #[.int .i64 0, .int .i64 0, .string ByteArray.empty, .int .i64 0]) :
    Bk ((((w2.setCell ⟨R, 0, none⟩ (.int .i64 x.kind)).setCell ⟨R, 1, none⟩ (.int .i64 x.pos)).setCell ⟨R, 2, none⟩ (.string x.text)).setCell ⟨R, 3, none⟩ (.int .i64 x.num)) R 79 #[.int .i64 x.kind, .int .i64 x.pos, .string x.text, .int .i64 x.num] ∧
    w2.grownBy ((((w2.setCell ⟨R, 0, none⟩ (.int .i64 x.kind)).setCell ⟨R, 1, none⟩ (.int .i64 x.pos)).setCell ⟨R, 2, none⟩ (.string x.text)).setCell ⟨R, 3, none⟩ (.int .i64 x.num)) (some R) :=
  ⟨(((hk.set_ 0 _).set_ 1 _).set_ 2 _).set_ 3 _, grownBy_tr (grownBy_tr (grownBy_tr (grownBy_setC _ ⟨R, 0, none⟩ _) (grownBy_setC _ ⟨R, 1, none⟩ _)) (grownBy_setC _ ⟨R, 2, none⟩ _)) (grownBy_setC _ ⟨R, 3, none⟩ _)⟩
theorem grownBy_own {w wA w2 w4 : World} {pb : Nat} (h1 : Below w.heap.size w wA) (h2 : wA.grownBy w2 (some pb)) (h3 : w2.grownBy w4 (some w.heap.size)) : w.grownBy w4 (some pb) :=
  ⟨h3.os.trans (h2.os.trans h1.os), h3.tape.trans (h2.tape.trans h1.tape), h3.output.trans (h2.output.trans h1.output), Nat.le_trans h1.size (Nat.le_trans h2.size h3.size), fun k hk hne =>
    (h3.block k (Nat.lt_of_lt_of_le hk (Nat.le_trans h1.size h2.size)) (by intro e; injection e with e; omega)).trans ((h2.block k (Nat.lt_of_lt_of_le hk h1.size) hne).trans (h1.block k hk))⟩

set_option maxHeartbeats 1600000 in
set_option maxRecDepth 100000 in
theorem must_yes (x : Tx.Sg) (s : ByteArray) (w : World) (h : PS w pb sb cap l i o b) (hg : Good l) (hx : l[i]? = some x) (ht : (x.text.toList == s.toList) = true) (hs : s.toList.length ≠ 0) :
    Calls Tryd.prog 33 #[.pointer (some ⟨pb, 0, none⟩), .string s] w fun e w' => e = .returned (.agg #[.int .i64 x.kind, .int .i64 x.pos, .string x.text, .int .i64 x.num]) ∧ PS w' pb sb cap l (i + 1) o b ∧ w.grownBy w' (some pb) := by
  have hn : Below w.heap.size w (w.alloc (.cells #[.int .i64 0, .int .i64 0, .string ByteArray.empty, .int .i64 0] 79)) := (Below.refl _ _).alloc (Nat.le_refl _) _
  have HK : Hid (Bk (w.alloc (.cells #[.int .i64 0, .int .i64 0, .string ByteArray.empty, .int .i64 0] 79)) w.heap.size 79 #[.int .i64 0, .int .i64 0, .string ByteArray.empty, .int .i64 0]) := Lib.hid (heap_alloc_new _ _)
  have HZ : Hid ((w.alloc (.cells #[.int .i64 0, .int .i64 0, .string ByteArray.empty, .int .i64 0] 79)).heap.size = w.heap.size + 1) := Lib.hid (by simp)
  have HNE : Hid (w.heap.size ≠ pb ∧ w.heap.size ≠ sb) := Lib.hid ⟨fun e => by have := h.pb_lt; omega, fun e => by have := h.sb_lt; omega⟩
  have HN := Lib.hid hn
  have hp := h.below hn
  generalize hwA : w.alloc (.cells #[.int .i64 0, .int .i64 0, .string ByteArray.empty, .int .i64 0] 79) = wA at HK HZ HN hp
  have HA : Hid (Calls Tryd.prog 56 #[.pointer (some ⟨pb, 0, none⟩), .string s] wA fun e w' => e = .returned (.bool true) ∧ Below wA.heap.size wA w') := Lib.hid ((stands_any x s wA hp hg hx).mono fun e w' ⟨h1, h2⟩ => ⟨by rw [h1, ht], h2⟩)
  have HT : Hid (∀ w', Below wA.heap.size wA w' → Calls Tryd.prog 43 #[.pointer (some ⟨pb, 0, none⟩)] w' fun e w'' => e = .returned (.agg #[.int .i64 x.kind, .int .i64 x.pos, .string x.text, .int .i64 x.num]) ∧ PS w'' pb sb cap l (i + 1) o b ∧ w'.grownBy w'' (some pb)) := Lib.hid (fun w' hb => take_any x w' (hp.below hb) hg hx (hg.kind hx ht hs))
  clear h hg hx ht hs hp hn
  go_enter Tryd.func33, Tryd.ntmps33
  go_wp2_with fail
  rw [show w.alloc (.cells #[.int .i64 0, .int .i64 0, .string ⟨#[]⟩, .int .i64 0] 79) = wA from hwA]
  clear hwA
  refine (HA.out).mono ?_; rintro en w1 ⟨rfl, hb⟩
  have HB := Lib.hid hb
  clear hb
  go_wp2_with fail
  refine (HT.out w1 HB.out).mono ?_; rintro en w2 ⟨rfl, h2, h3⟩
  have H2 := Lib.hid h2; have H3 := Lib.hid (below_grown HB.out h3)
  have HK2 : Hid (Bk w2 w.heap.size 79 #[.int .i64 0, .int .i64 0, .string ByteArray.empty, .int .i64 0]) := Lib.hid ((H3.out.block _ (by rw [HZ.out]; omega) (by intro e; injection e with e; exact HNE.out.1 e)).trans HK.out)
  clear h2 h3
  have r0 : w2.cell? ⟨w.heap.size, 0, none⟩ = some (.int .i64 0) := HK2.out.cell 0
  have r1 : w2.cell? ⟨w.heap.size, 1, none⟩ = some (.int .i64 0) := HK2.out.cell 1
  have r2 : w2.cell? ⟨w.heap.size, 2, none⟩ = some (.string ByteArray.empty) := HK2.out.cell 2
  have r3 : w2.cell? ⟨w.heap.size, 3, none⟩ = some (.int .i64 0) := HK2.out.cell 3
  have f0 := HK2.out.frozen 0
  have f1 := HK2.out.frozen 1
  have f2 := HK2.out.frozen 2
  have f3 := HK2.out.frozen 3
  go_wp2_with fail
  clear r0 r1 r2 r3 f0 f1 f2 f3
  obtain ⟨hB, hF⟩ := sign_result (x := x) HK2.out
  generalize (((w2.setCell ⟨w.heap.size, 0, none⟩ (.int .i64 x.kind)).setCell ⟨w.heap.size, 1, none⟩ (.int .i64 x.pos)).setCell ⟨w.heap.size, 2, none⟩ (.string x.text)).setCell ⟨w.heap.size, 3, none⟩ (.int .i64 x.num) = w4 at hB hF ⊢
  have e0 := hB.cell 0
  have e1 := hB.cell 1
  have e2 := hB.cell 2
  have e3 := hB.cell 3
  exact bodyPost_ret (v := .agg #[.int .i64 x.kind, .int .i64 x.pos, .string x.text, .int .i64 x.num]) (by simp [results, Tryd.results33, go_sem, e0, e1, e2, e3]) rfl ⟨rfl, H2.out.far hF HNE.out.1 HNE.out.2, grownBy_own HN.out H3.out hF⟩
set_option maxHeartbeats 1600000 in
set_option maxRecDepth 100000 in
theorem name_yes (x : Tx.Sg) (w : World) (h : PS w pb sb cap l i o b) (hg : Good l) (hx : l[i]? = some x) (ht : x.kind = 1) :
    Calls Tryd.prog 34 #[.pointer (some ⟨pb, 0, none⟩)] w fun e w' => e = .returned (.agg #[.int .i64 x.kind, .int .i64 x.pos, .string x.text, .int .i64 x.num]) ∧ PS w' pb sb cap l (i + 1) o b ∧ w.grownBy w' (some pb) := by
  have hn : Below w.heap.size w (w.alloc (.cells #[.int .i64 0, .int .i64 0, .string ByteArray.empty, .int .i64 0] 79)) := (Below.refl _ _).alloc (Nat.le_refl _) _
  have HK : Hid (Bk (w.alloc (.cells #[.int .i64 0, .int .i64 0, .string ByteArray.empty, .int .i64 0] 79)) w.heap.size 79 #[.int .i64 0, .int .i64 0, .string ByteArray.empty, .int .i64 0]) := Lib.hid (heap_alloc_new _ _)
  have HZ : Hid ((w.alloc (.cells #[.int .i64 0, .int .i64 0, .string ByteArray.empty, .int .i64 0] 79)).heap.size = w.heap.size + 1) := Lib.hid (by simp)
  have HNE : Hid (w.heap.size ≠ pb ∧ w.heap.size ≠ sb) := Lib.hid ⟨fun e => by have := h.pb_lt; omega, fun e => by have := h.sb_lt; omega⟩
  have HN := Lib.hid hn
  have hp := h.below hn
  generalize hwA : w.alloc (.cells #[.int .i64 0, .int .i64 0, .string ByteArray.empty, .int .i64 0] 79) = wA at HK HZ HN hp
  have HA : Hid (Calls Tryd.prog 23 #[.pointer (some ⟨pb, 0, none⟩)] wA fun e w' => e = .returned (.agg #[.int .i64 1, .int .i64 x.pos, .string x.text, .int .i64 x.num]) ∧ Below wA.heap.size wA w') := Lib.hid ((ahead_any x wA hp hg hx).mono fun e w' ⟨h1, h2⟩ => ⟨by rw [h1, ht], h2⟩)
  have HT : Hid (∀ w', Below wA.heap.size wA w' → Calls Tryd.prog 43 #[.pointer (some ⟨pb, 0, none⟩)] w' fun e w'' => e = .returned (.agg #[.int .i64 x.kind, .int .i64 x.pos, .string x.text, .int .i64 x.num]) ∧ PS w'' pb sb cap l (i + 1) o b ∧ w'.grownBy w'' (some pb)) := Lib.hid (fun w' hb => take_any x w' (hp.below hb) hg hx (by rw [ht]; decide))
  clear h hg hx ht hp hn
  go_enter Tryd.func34, Tryd.ntmps34
  go_wp2_with fail
  rw [show w.alloc (.cells #[.int .i64 0, .int .i64 0, .string ⟨#[]⟩, .int .i64 0] 79) = wA from hwA]
  clear hwA
  refine (HA.out).mono ?_; rintro en w1 ⟨rfl, hb⟩
  have HB := Lib.hid hb
  clear hb
  go_wp2_with fail
  refine (HT.out w1 HB.out).mono ?_; rintro en w2 ⟨rfl, h2, h3⟩
  have H2 := Lib.hid h2; have H3 := Lib.hid (below_grown HB.out h3)
  have HK2 : Hid (Bk w2 w.heap.size 79 #[.int .i64 0, .int .i64 0, .string ByteArray.empty, .int .i64 0]) := Lib.hid ((H3.out.block _ (by rw [HZ.out]; omega) (by intro e; injection e with e; exact HNE.out.1 e)).trans HK.out)
  clear h2 h3
  have r0 : w2.cell? ⟨w.heap.size, 0, none⟩ = some (.int .i64 0) := HK2.out.cell 0
  have r1 : w2.cell? ⟨w.heap.size, 1, none⟩ = some (.int .i64 0) := HK2.out.cell 1
  have r2 : w2.cell? ⟨w.heap.size, 2, none⟩ = some (.string ByteArray.empty) := HK2.out.cell 2
  have r3 : w2.cell? ⟨w.heap.size, 3, none⟩ = some (.int .i64 0) := HK2.out.cell 3
  have f0 := HK2.out.frozen 0
  have f1 := HK2.out.frozen 1
  have f2 := HK2.out.frozen 2
  have f3 := HK2.out.frozen 3
  go_wp2_with fail
  clear r0 r1 r2 r3 f0 f1 f2 f3
  obtain ⟨hB, hF⟩ := sign_result (x := x) HK2.out
  generalize (((w2.setCell ⟨w.heap.size, 0, none⟩ (.int .i64 x.kind)).setCell ⟨w.heap.size, 1, none⟩ (.int .i64 x.pos)).setCell ⟨w.heap.size, 2, none⟩ (.string x.text)).setCell ⟨w.heap.size, 3, none⟩ (.int .i64 x.num) = w4 at hB hF ⊢
  have e0 := hB.cell 0
  have e1 := hB.cell 1
  have e2 := hB.cell 2
  have e3 := hB.cell 3
  exact bodyPost_ret (v := .agg #[.int .i64 x.kind, .int .i64 x.pos, .string x.text, .int .i64 x.num]) (by simp [results, Tryd.results34, go_sem, e0, e1, e2, e3]) rfl ⟨rfl, H2.out.far hF HNE.out.1 HNE.out.2, grownBy_own HN.out H3.out hF⟩
set_option maxHeartbeats 800000 in
set_option maxRecDepth 100000 in
theorem must_no (x : Tx.Sg) (s : ByteArray) (w : World) (h : PS w pb sb cap l i o b) (hg : Good l) (hx : l[i]? = some x) (ht : (x.text.toList == s.toList) = false) :
    Calls Tryd.prog 33 #[.pointer (some ⟨pb, 0, none⟩), .string s] w fun e w' => e = faultAt x.pos 5 ∧ Below w.heap.size w w' := by
  have hn : Below w.heap.size w (w.alloc (.cells #[.int .i64 0, .int .i64 0, .string ByteArray.empty, .int .i64 0] 79)) := (Below.refl _ _).alloc (Nat.le_refl _) _
  have hp := h.below hn
  have HA : Hid (Calls Tryd.prog 56 #[.pointer (some ⟨pb, 0, none⟩), .string s] (w.alloc (.cells #[.int .i64 0, .int .i64 0, .string ByteArray.empty, .int .i64 0] 79)) fun e w' => e = .returned (.bool false) ∧ Below (w.alloc (.cells #[.int .i64 0, .int .i64 0, .string ByteArray.empty, .int .i64 0] 79)).heap.size (w.alloc (.cells #[.int .i64 0, .int .i64 0, .string ByteArray.empty, .int .i64 0] 79)) w') := Lib.hid ((stands_any x s _ hp hg hx).mono fun e w' ⟨h1, h2⟩ => ⟨by rw [h1, ht], h2⟩)
  have HT : Hid (∀ w', Below (w.alloc (.cells #[.int .i64 0, .int .i64 0, .string ByteArray.empty, .int .i64 0] 79)).heap.size (w.alloc (.cells #[.int .i64 0, .int .i64 0, .string ByteArray.empty, .int .i64 0] 79)) w' → Calls Tryd.prog 24 #[.pointer (some ⟨pb, 0, none⟩), .int .i64 5] w' fun e w'' => e = faultAt x.pos 5 ∧ Below w'.heap.size w' w'') := Lib.hid (fun w' hb => stop_any x 5 w' (hp.below hb) hg hx)
  have HN := Lib.hid hn
  clear h hg hx ht hp hn
  go_enter Tryd.func33, Tryd.ntmps33
  go_wp2_with fail
  refine (HA.out).mono ?_; rintro en w1 ⟨rfl, hb⟩
  have HB := Lib.hid hb
  clear hb
  go_wp2_with fail
  refine (HT.out w1 HB.out).mono ?_; rintro en w2 ⟨rfl, h2⟩
  exact ⟨rfl, rfl, HN.out.trans ((HB.out.trans (h2.mono HB.out.size)).mono HN.out.size)⟩
set_option maxHeartbeats 800000 in
set_option maxRecDepth 100000 in
theorem name_no (x : Tx.Sg) (w : World) (h : PS w pb sb cap l i o b) (hg : Good l) (hx : l[i]? = some x) (ht : x.kind ≠ 1) :
    Calls Tryd.prog 34 #[.pointer (some ⟨pb, 0, none⟩)] w fun e w' => e = faultAt x.pos 5 ∧ Below w.heap.size w w' := by
  have hn : Below w.heap.size w (w.alloc (.cells #[.int .i64 0, .int .i64 0, .string ByteArray.empty, .int .i64 0] 79)) := (Below.refl _ _).alloc (Nat.le_refl _) _
  have hp := h.below hn
  have HA : Hid (Calls Tryd.prog 23 #[.pointer (some ⟨pb, 0, none⟩)] (w.alloc (.cells #[.int .i64 0, .int .i64 0, .string ByteArray.empty, .int .i64 0] 79)) fun e w' => e = .returned (.agg #[.int .i64 x.kind, .int .i64 x.pos, .string x.text, .int .i64 x.num]) ∧ Below (w.alloc (.cells #[.int .i64 0, .int .i64 0, .string ByteArray.empty, .int .i64 0] 79)).heap.size (w.alloc (.cells #[.int .i64 0, .int .i64 0, .string ByteArray.empty, .int .i64 0] 79)) w') := Lib.hid (ahead_any x _ hp hg hx)
  have HT : Hid (∀ w', Below (w.alloc (.cells #[.int .i64 0, .int .i64 0, .string ByteArray.empty, .int .i64 0] 79)).heap.size (w.alloc (.cells #[.int .i64 0, .int .i64 0, .string ByteArray.empty, .int .i64 0] 79)) w' → Calls Tryd.prog 24 #[.pointer (some ⟨pb, 0, none⟩), .int .i64 5] w' fun e w'' => e = faultAt x.pos 5 ∧ Below w'.heap.size w' w'') := Lib.hid (fun w' hb => stop_any x 5 w' (hp.below hb) hg hx)
  have HN := Lib.hid hn
  have hq : (x.kind != 1) = true := by simpa using ht
  clear h hg hx ht hp hn
  go_enter Tryd.func34, Tryd.ntmps34
  go_wp2_with fail
  refine (HA.out).mono ?_; rintro en w1 ⟨rfl, hb⟩
  have HB := Lib.hid hb
  clear hb
  go_wp2_with fail
  refine (HT.out w1 HB.out).mono ?_; rintro en w2 ⟨rfl, h2⟩
  exact ⟨rfl, rfl, HN.out.trans ((HB.out.trans (h2.mono HB.out.size)).mono HN.out.size)⟩
set_option maxHeartbeats 800000 in
set_option maxRecDepth 100000 in
theorem behind_any (y : Tx.Sg) (w : World) (h : PS w pb sb cap l i o b) (hg : Good l) (hy : l[i + 1]? = some y) :
    Calls Tryd.prog 57 #[.pointer (some ⟨pb, 0, none⟩)] w fun e w' => e = .returned (.string y.text) ∧ Below w.heap.size w w' := by
  have hl : l.length ≤ 6000000 := hg.len
  have hi : i + 1 < l.length := (List.getElem?_eq_some_iff.1 hy).1
  have p0 : w.cell? ⟨pb, 0, none⟩ = some (.slice (some ⟨sb, 0, none⟩) l.length cap) := h.blk.cell 0
  have p1 : w.cell? ⟨pb, 1, none⟩ = some (.int .i64 i) := h.blk.cell 1
  have hr := h.row (i + 1) y hy
  have c2 := cell_at hr 2 _ rfl
  have hi0 : (0 : Int) ≤ (i : Int) + 1 := by omega
  have hi1 : (i : Int) + 1 < (l.length : Int) := by omega
  have hi2 : ((i : Int) + 1).toNat = i + 1 := by omega
  clear h hg hy hr
  go_enter Tryd.func57, Tryd.ntmps57
  go_wp2_with fail
  go_quiet (fail)
  go_wp2_with fail
  go_ret
  exact ⟨rfl, below_drewN_ (Below.refl _ _) _⟩
end

end Go.Proofs.YtlpnkllhpienhaaDoor
