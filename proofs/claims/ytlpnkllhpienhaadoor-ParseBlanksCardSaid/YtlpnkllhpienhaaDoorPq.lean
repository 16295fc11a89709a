/-
  DERIVED. The walk of the parser's sum.
-/
import Derived.Test.YtlpnkllhpienhaaDoorPz
namespace Go.Proofs.YtlpnkllhpienhaaDoor
open Go.RowKit Go.Sort

attribute [local go_sem] field79_0 field79_1 field79_2 field79_3
section
variable {pb sb cap : Nat} {l : List Tx.Sg}
/-- A sign that a sum begins with, and the mark behind it. -/
theorem sums_at {u : Pr.St} {x : Tx.Sg} (hg : Good l) (hx : l[u.i]? = some x) (hs : Pr.sums (l.map Pr.tk) u = true) :
    (x.kind = 1 ∨ x.kind = 2) ∧ ∃ y, l[u.i + 1]? = some y ∧ y.kind ≠ 0 ∧ Pr.is (l.map Pr.tk) (u.i + 1) ⟨#[45]⟩ = (y.text.toList == [45]) := by
  unfold Pr.sums at hs
  rw [Pr.sg_tk hx, Bool.and_eq_true, Bool.or_eq_true, beq_iff_eq, beq_iff_eq] at hs
  obtain ⟨hk, hs⟩ := hs
  have hk : x.kind = 1 ∨ x.kind = 2 := hk
  refine ⟨hk, ?_⟩
  have hi := hg.more hx (by rcases hk with h | h <;> rw [h] <;> decide)
  have hy : l[u.i + 1]? = some l[u.i + 1] := List.getElem?_eq_getElem hi
  refine ⟨_, hy, ?_, by rw [Pr.is_tk hy]; rw [show (⟨#[45]⟩ : ByteArray).toList = [45] from Lib.toList_data _]⟩
  rw [Pr.is_tk hy, Pr.is_tk hy, Bool.or_eq_true] at hs
  rcases hs with h | h
  · exact hg.kind hy h (by rw [Lib.toList_data]; decide)
  · exact hg.kind hy h (by rw [Lib.toList_data]; decide)
set_option maxHeartbeats 1600000 in
/-- The end of a call that hands back a value through a result of its own. -/
theorem value_result {w2 : World} {R : Nat} {a0 a1 a2 a3 a4 a5 a6 a7 a8 a9 a10 a11 : Value} {c0 c1 c2 c3 c4 c5 c6 c7 c8 c9 c10 c11 : Value} (hk : Bk w2 R 47 #[a0, a1, a2, a3, a4, a5, a6, a7, a8, a9, a10, a11]) :
    Bk (((((((((((((w2.setCell ⟨R, 0, none⟩ c0).setCell ⟨R, 1, none⟩ c1).setCell ⟨R, 2, none⟩ c2).setCell ⟨R, 3, none⟩ c3).setCell ⟨R, 4, none⟩ c4).setCell ⟨R, 5, none⟩ c5).setCell ⟨R, 6, none⟩ c6).setCell ⟨R, 7, none⟩ c7).setCell ⟨R, 8, none⟩ c8).setCell ⟨R, 9, none⟩ c9).setCell ⟨R, 10, none⟩ c10).setCell ⟨R, 11, none⟩ c11)) R 47 #[c0, c1, c2, c3, c4, c5, c6, c7, c8, c9, c10, c11] ∧ w2.grownBy (((((((((((((w2.setCell ⟨R, 0, none⟩ c0).setCell ⟨R, 1, none⟩ c1).setCell ⟨R, 2, none⟩ c2).setCell ⟨R, 3, none⟩ c3).setCell ⟨R, 4, none⟩ c4).setCell ⟨R, 5, none⟩ c5).setCell ⟨R, 6, none⟩ c6).setCell ⟨R, 7, none⟩ c7).setCell ⟨R, 8, none⟩ c8).setCell ⟨R, 9, none⟩ c9).setCell ⟨R, 10, none⟩ c10).setCell ⟨R, 11, none⟩ c11)) (some R) :=
  ⟨by have h := ((((((((((((hk.set_ 0 c0).set_ 1 c1).set_ 2 c2).set_ 3 c3).set_ 4 c4).set_ 5 c5).set_ 6 c6).set_ 7 c7).set_ 8 c8).set_ 9 c9).set_ 10 c10).set_ 11 c11); simpa only [List.setIfInBounds_toArray, List.set_cons_zero, List.set_cons_succ] using h, (grownBy_tr (grownBy_tr (grownBy_tr (grownBy_tr (grownBy_tr (grownBy_tr (grownBy_tr (grownBy_tr (grownBy_tr (grownBy_tr (grownBy_tr (grownBy_setC _ ⟨R, 0, none⟩ _) (grownBy_setC _ ⟨R, 1, none⟩ _)) (grownBy_setC _ ⟨R, 2, none⟩ _)) (grownBy_setC _ ⟨R, 3, none⟩ _)) (grownBy_setC _ ⟨R, 4, none⟩ _)) (grownBy_setC _ ⟨R, 5, none⟩ _)) (grownBy_setC _ ⟨R, 6, none⟩ _)) (grownBy_setC _ ⟨R, 7, none⟩ _)) (grownBy_setC _ ⟨R, 8, none⟩ _)) (grownBy_setC _ ⟨R, 9, none⟩ _)) (grownBy_setC _ ⟨R, 10, none⟩ _)) (grownBy_setC _ ⟨R, 11, none⟩ _))⟩
theorem grownBy_under {w w2 w4 : World} {pb S : Nat} (h2 : w.grownBy w2 (some pb)) (h3 : w2.grownBy w4 (some S)) (hS : w.heap.size ≤ S) : w.grownBy w4 (some pb) :=
  ⟨h3.os.trans h2.os, h3.tape.trans h2.tape, h3.output.trans h2.output, Nat.le_trans h2.size h3.size, fun k hk hne =>
    (h3.block k (Nat.lt_of_lt_of_le hk h2.size) (by intro e; injection e with e; omega)).trans (h2.block k hk hne)⟩
set_option maxHeartbeats 3200000 in
set_option maxRecDepth 100000 in
theorem sum_any (w : World) (u : Pr.St) (h : PS w pb sb cap l u.i u.o u.b) (hg : Good l) (hs : Pr.sums (l.map Pr.tk) u = true) :
    Calls Tryd.prog 76 #[.pointer (some ⟨pb, 0, none⟩)] w (Outc (fun _ v a => ∃ y : Vl, v = .agg y.cells.toArray ∧ y.er = a ∧ y.path.hops.l = []) w pb sb cap l (Pr.sum (l.map Pr.tk) u)) := by
  obtain ⟨r, hr⟩ : ∃ r, r = Pr.sum (l.map Pr.tk) u := ⟨_, rfl⟩
  rw [← hr]
  obtain ⟨x, hx⟩ := h.at
  obtain ⟨hk, y, hy, hy0, hm⟩ := sums_at hg hx hs
  have HR := Lib.hid hr
  have HL := Lib.hid hg
  have HY := Lib.hid hy
  have HY0 := Lib.hid hy0
  have HM := Lib.hid hm
  have HT1 : Hid (∃ a1, Pr.term (l.map Pr.tk) u = .ok (a1, u.go)) := Lib.hid (by
    unfold Pr.term Pr.name
    rw [Pr.sg_tk hx]
    rcases hk with h1 | h1
    · refine ⟨⟨x.text, 0, 0⟩, ?_⟩
      simp only [Pr.tk, h1, Pr.th, if_true, show ¬ ((1 : Int) = 2) by decide, if_false]
    · refine ⟨⟨ByteArray.empty, x.num, 0⟩, ?_⟩
      simp only [Pr.tk, h1, if_true])
  have hn : Below w.heap.size w (w.alloc (.cells #[.int .i64 0, .int .i64 0, .string ByteArray.empty, .int .i64 0, .slice none 0 0, .string ByteArray.empty, .string ByteArray.empty, .int .i64 0, .int .i64 0, .string ByteArray.empty, .int .i64 0, .int .i64 0] 47)) := (Below.refl _ _).alloc (Nat.le_refl _) _
  have HK : Hid (Bk (w.alloc (.cells #[.int .i64 0, .int .i64 0, .string ByteArray.empty, .int .i64 0, .slice none 0 0, .string ByteArray.empty, .string ByteArray.empty, .int .i64 0, .int .i64 0, .string ByteArray.empty, .int .i64 0, .int .i64 0] 47)) w.heap.size 47 #[.int .i64 0, .int .i64 0, .string ByteArray.empty, .int .i64 0, .slice none 0 0, .string ByteArray.empty, .string ByteArray.empty, .int .i64 0, .int .i64 0, .string ByteArray.empty, .int .i64 0, .int .i64 0]) := Lib.hid (heap_alloc_new _ _)
  have HNE : Hid (w.heap.size ≠ pb ∧ w.heap.size ≠ sb) := Lib.hid ⟨fun e => by have := h.pb_lt; omega, fun e => by have := h.sb_lt; omega⟩
  have HG : Hid (w.grownBy (w.alloc (.cells #[.int .i64 0, .int .i64 0, .string ByteArray.empty, .int .i64 0, .slice none 0 0, .string ByteArray.empty, .string ByteArray.empty, .int .i64 0, .int .i64 0, .string ByteArray.empty, .int .i64 0, .int .i64 0] 47)) (some pb)) := Lib.hid (grownBy_of hn _)
  have HP := Lib.hid (h.below hn)
  generalize hwA : w.alloc (.cells #[.int .i64 0, .int .i64 0, .string ByteArray.empty, .int .i64 0, .slice none 0 0, .string ByteArray.empty, .string ByteArray.empty, .int .i64 0, .int .i64 0, .string ByteArray.empty, .int .i64 0, .int .i64 0] 47) = wA at HK HG HP
  have HA := Lib.hid (ahead_any x wA HP.out hg hx)
  clear h hg hr hn hx hk hy hy0 hm hs
  go_enter Tryd.func76, Tryd.ntmps76
  go_wp2_with fail
  rw [show w.alloc (.cells #[.int .i64 0, .int .i64 0, .string ⟨#[]⟩, .int .i64 0, .slice none 0 0, .string ⟨#[]⟩, .string ⟨#[]⟩, .int .i64 0, .int .i64 0, .string ⟨#[]⟩, .int .i64 0, .int .i64 0] 47) = wA from hwA]
  clear hwA
  refine (HA.out).mono ?_; rintro en w1 ⟨rfl, hb⟩
  have HP1 := Lib.hid (HP.out.below hb); have HG1 := Lib.hid (grownBy_below HG.out hb); have HK1 := Lib.hid (HK.out.below hb HK.out.lt)
  clear hb
  go_upto_region 2 with fail
  have hm : Below w1.heap.size w1 (w1.alloc (.cells #[.int .i64 5, .int .i64 x.pos, .string ByteArray.empty, .int .i64 0, .slice none 0 0, .string ByteArray.empty, .string ByteArray.empty, .int .i64 0, .int .i64 0, .string ByteArray.empty, .int .i64 0, .int .i64 0] 47)) := (Below.refl _ _).alloc (Nat.le_refl _) _
  have HP2 := Lib.hid (HP1.out.below hm)
  have HK2 := Lib.hid (HK1.out.below hm HK1.out.lt)
  have HS2 : Hid (Bk (w1.alloc (.cells #[.int .i64 5, .int .i64 x.pos, .string ByteArray.empty, .int .i64 0, .slice none 0 0, .string ByteArray.empty, .string ByteArray.empty, .int .i64 0, .int .i64 0, .string ByteArray.empty, .int .i64 0, .int .i64 0] 47)) w1.heap.size 47 #[.int .i64 5, .int .i64 x.pos, .string ByteArray.empty, .int .i64 0, .slice none 0 0, .string ByteArray.empty, .string ByteArray.empty, .int .i64 0, .int .i64 0, .string ByteArray.empty, .int .i64 0, .int .i64 0]) := Lib.hid (heap_alloc_new _ _)
  have HG2 : Hid (w.grownBy (w1.alloc (.cells #[.int .i64 5, .int .i64 x.pos, .string ByteArray.empty, .int .i64 0, .slice none 0 0, .string ByteArray.empty, .string ByteArray.empty, .int .i64 0, .int .i64 0, .string ByteArray.empty, .int .i64 0, .int .i64 0] 47)) (some pb)) := Lib.hid (grownBy_below HG1.out hm)
  obtain ⟨S, hS⟩ : ∃ S, S = w1.heap.size := ⟨_, rfl⟩
  have HSN : Hid (S ≠ pb ∧ S ≠ sb ∧ w.heap.size ≠ S ∧ w.heap.size ≤ S) := Lib.hid ⟨by have := HP1.out.pb_lt; omega, by have := HP1.out.sb_lt; omega, by have := HK1.out.lt; omega, by have := HK1.out.lt; omega⟩
  rw [← hS] at HS2 ⊢
  clear hS hm
  change Code.wp _ _ _ _ (w1.alloc (.cells #[.int .i64 5, .int .i64 x.pos, .string ByteArray.empty, .int .i64 0, .slice none 0 0, .string ByteArray.empty, .string ByteArray.empty, .int .i64 0, .int .i64 0, .string ByteArray.empty, .int .i64 0, .int .i64 0] 47))
  generalize (w1.alloc (.cells #[.int .i64 5, .int .i64 x.pos, .string ByteArray.empty, .int .i64 0, .slice none 0 0, .string ByteArray.empty, .string ByteArray.empty, .int .i64 0, .int .i64 0, .string ByteArray.empty, .int .i64 0, .int .i64 0] 47)) = w2 at HP2 HK2 HS2 HG2 ⊢
  go_wp2_with fail
  refine (term_any w2 HP2.out HL.out).mono ?_; intro en w3 ho
  obtain ⟨a1, ha1⟩ := HT1.out
  obtain ⟨v, rfl, ⟨d, rfl, hd⟩, h3, g3⟩ := ho.of_ok ha1
  have HD := Lib.hid hd
  have HA1 := Lib.hid ha1
  have HP3 := Lib.hid h3; have HG3 := Lib.hid (grownBy_tr HG2.out g3); have HK3 := Lib.hid (HK2.out.kept g3 HNE.out.1); have HS3 := Lib.hid (HS2.out.kept g3 HSN.out.1)
  clear h3 g3 ho hd ha1
  have f6 := HS3.out.frozen 6
  have f7 := HS3.out.frozen 7
  have f8 := HS3.out.frozen 8
  have s6 : w3.cell? ⟨S, 6, none⟩ = some (.string ByteArray.empty) := HS3.out.cell 6
  have s7 : w3.cell? ⟨S, 7, none⟩ = some (.int .i64 0) := HS3.out.cell 7
  have s8 : w3.cell? ⟨S, 8, none⟩ = some (.int .i64 0) := HS3.out.cell 8
  go_upto_region 3 with fail
  clear f6 f7 f8 s6 s7 s8
  have g4 : w3.grownBy (((w3.setCell ⟨S, 6, none⟩ (.string d.name)).setCell ⟨S, 7, none⟩ (.int .i64 d.n)).setCell ⟨S, 8, none⟩ (.int .i64 d.pos)) (some S) := (grownBy_tr (grownBy_tr (grownBy_setC _ ⟨S, 6, none⟩ _) (grownBy_setC _ ⟨S, 7, none⟩ _)) (grownBy_setC _ ⟨S, 8, none⟩ _))
  have HP4 := Lib.hid (HP3.out.far g4 HSN.out.1 HSN.out.2.1)
  have HK4 := Lib.hid (HK3.out.kept g4 HSN.out.2.2.1)
  have HS4 : Hid (Bk (((w3.setCell ⟨S, 6, none⟩ (.string d.name)).setCell ⟨S, 7, none⟩ (.int .i64 d.n)).setCell ⟨S, 8, none⟩ (.int .i64 d.pos)) S 47 #[.int .i64 5, .int .i64 x.pos, .string ByteArray.empty, .int .i64 0, .slice none 0 0, .string ByteArray.empty, .string d.name, .int .i64 d.n, .int .i64 d.pos, .string ByteArray.empty, .int .i64 0, .int .i64 0]) := Lib.hid (((HS3.out.set_ 6 _).set_ 7 _).set_ 8 _)
  have HG4 : Hid (w.grownBy (((w3.setCell ⟨S, 6, none⟩ (.string d.name)).setCell ⟨S, 7, none⟩ (.int .i64 d.n)).setCell ⟨S, 8, none⟩ (.int .i64 d.pos)) (some pb)) := Lib.hid (grownBy_under HG3.out g4 HSN.out.2.2.2)
  clear g4
  generalize (((w3.setCell ⟨S, 6, none⟩ (.string d.name)).setCell ⟨S, 7, none⟩ (.int .i64 d.n)).setCell ⟨S, 8, none⟩ (.int .i64 d.pos)) = w4 at HP4 HK4 HS4 HG4 ⊢
  go_wp2_with fail
  refine (take_any y w4 HP4.out HL.out HY.out HY0.out).mono ?_; rintro en w5 ⟨rfl, h5, g5⟩
  have HP5 := Lib.hid h5; have HG5 := Lib.hid (grownBy_tr HG4.out g5); have HK5 := Lib.hid (HK4.out.kept g5 HNE.out.1); have HS5 := Lib.hid (HS4.out.kept g5 HSN.out.1)
  clear h5 g5
  have f0 := HS5.out.frozen 0
  have s0 : w5.cell? ⟨S, 0, none⟩ = some (.int .i64 5) := HS5.out.cell 0
  rcases q1 : (y.text.toList == [45]) with _ | _
  · go_wp2_with fail
    clear f0 s0
    refine (term_any w5 HP5.out HL.out).mono ?_; intro en w7 ho
    rcases hm2 : Pr.term (l.map Pr.tk) ⟨u.i + 1 + 1, u.o, u.b⟩ with n | ⟨a2, u2⟩
    · obtain ⟨p, rfl, g7⟩ := ho.of_err hm2
      exact ⟨rfl, Outc.err (by rw [HR.out]; simp only [Pr.sum, Pr.th, HA1.out, Pr.St.go, hm2]) (grownBy_tr HG5.out g7)⟩
    obtain ⟨v, rfl, ⟨f, rfl, hf⟩, h7, g7⟩ := ho.of_ok hm2
    have HF := Lib.hid hf
    have HP7 := Lib.hid h7; have HG7 := Lib.hid (grownBy_tr HG5.out g7); have HK7 := Lib.hid (HK5.out.kept g7 HNE.out.1); have HS7 := Lib.hid (HS5.out.kept g7 HSN.out.1)
    clear h7 g7 ho hf
    have f9 := HS7.out.frozen 9
    have f10 := HS7.out.frozen 10
    have f11 := HS7.out.frozen 11
    have s9 : w7.cell? ⟨S, 9, none⟩ = some (.string ByteArray.empty) := HS7.out.cell 9
    have s10 : w7.cell? ⟨S, 10, none⟩ = some (.int .i64 0) := HS7.out.cell 10
    have s11 : w7.cell? ⟨S, 11, none⟩ = some (.int .i64 0) := HS7.out.cell 11
    go_upto_region 6 with fail
    clear f9 f10 f11 s9 s10 s11
    have g8 : w7.grownBy (((w7.setCell ⟨S, 9, none⟩ (.string f.name)).setCell ⟨S, 10, none⟩ (.int .i64 f.n)).setCell ⟨S, 11, none⟩ (.int .i64 f.pos)) (some S) := (grownBy_tr (grownBy_tr (grownBy_setC _ ⟨S, 9, none⟩ _) (grownBy_setC _ ⟨S, 10, none⟩ _)) (grownBy_setC _ ⟨S, 11, none⟩ _))
    have HP8 := Lib.hid (HP7.out.far g8 HSN.out.1 HSN.out.2.1)
    have HK8 := Lib.hid (HK7.out.kept g8 HSN.out.2.2.1)
    have HS8 : Hid (Bk (((w7.setCell ⟨S, 9, none⟩ (.string f.name)).setCell ⟨S, 10, none⟩ (.int .i64 f.n)).setCell ⟨S, 11, none⟩ (.int .i64 f.pos)) S 47 #[.int .i64 5, .int .i64 x.pos, .string ByteArray.empty, .int .i64 0, .slice none 0 0, .string ByteArray.empty, .string d.name, .int .i64 d.n, .int .i64 d.pos, .string f.name, .int .i64 f.n, .int .i64 f.pos]) := Lib.hid (((HS7.out.set_ 9 _).set_ 10 _).set_ 11 _)
    have HG8 : Hid (w.grownBy (((w7.setCell ⟨S, 9, none⟩ (.string f.name)).setCell ⟨S, 10, none⟩ (.int .i64 f.n)).setCell ⟨S, 11, none⟩ (.int .i64 f.pos)) (some pb)) := Lib.hid (grownBy_under HG7.out g8 HSN.out.2.2.2)
    clear g8
    generalize (((w7.setCell ⟨S, 9, none⟩ (.string f.name)).setCell ⟨S, 10, none⟩ (.int .i64 f.n)).setCell ⟨S, 11, none⟩ (.int .i64 f.pos)) = w8 at HP8 HK8 HS8 HG8 ⊢
    have s0 : w8.cell? ⟨S, 0, none⟩ = some (.int .i64 5) := HS8.out.cell 0
    have r0 : w8.cell? ⟨w.heap.size, 0, none⟩ = some (.int .i64 0) := HK8.out.cell 0
    have f0 := HK8.out.frozen 0
    have s1 : w8.cell? ⟨S, 1, none⟩ = some (.int .i64 x.pos) := HS8.out.cell 1
    have r1 : w8.cell? ⟨w.heap.size, 1, none⟩ = some (.int .i64 0) := HK8.out.cell 1
    have f1 := HK8.out.frozen 1
    have s2 : w8.cell? ⟨S, 2, none⟩ = some (.string ByteArray.empty) := HS8.out.cell 2
    have r2 : w8.cell? ⟨w.heap.size, 2, none⟩ = some (.string ByteArray.empty) := HK8.out.cell 2
    have f2 := HK8.out.frozen 2
    have s3 : w8.cell? ⟨S, 3, none⟩ = some (.int .i64 0) := HS8.out.cell 3
    have r3 : w8.cell? ⟨w.heap.size, 3, none⟩ = some (.int .i64 0) := HK8.out.cell 3
    have f3 := HK8.out.frozen 3
    have s4 : w8.cell? ⟨S, 4, none⟩ = some (.slice none 0 0) := HS8.out.cell 4
    have r4 : w8.cell? ⟨w.heap.size, 4, none⟩ = some (.slice none 0 0) := HK8.out.cell 4
    have f4 := HK8.out.frozen 4
    have s5 : w8.cell? ⟨S, 5, none⟩ = some (.string ByteArray.empty) := HS8.out.cell 5
    have r5 : w8.cell? ⟨w.heap.size, 5, none⟩ = some (.string ByteArray.empty) := HK8.out.cell 5
    have f5 := HK8.out.frozen 5
    have s6 : w8.cell? ⟨S, 6, none⟩ = some (.string d.name) := HS8.out.cell 6
    have r6 : w8.cell? ⟨w.heap.size, 6, none⟩ = some (.string ByteArray.empty) := HK8.out.cell 6
    have f6 := HK8.out.frozen 6
    have s7 : w8.cell? ⟨S, 7, none⟩ = some (.int .i64 d.n) := HS8.out.cell 7
    have r7 : w8.cell? ⟨w.heap.size, 7, none⟩ = some (.int .i64 0) := HK8.out.cell 7
    have f7 := HK8.out.frozen 7
    have s8 : w8.cell? ⟨S, 8, none⟩ = some (.int .i64 d.pos) := HS8.out.cell 8
    have r8 : w8.cell? ⟨w.heap.size, 8, none⟩ = some (.int .i64 0) := HK8.out.cell 8
    have f8 := HK8.out.frozen 8
    have s9 : w8.cell? ⟨S, 9, none⟩ = some (.string f.name) := HS8.out.cell 9
    have r9 : w8.cell? ⟨w.heap.size, 9, none⟩ = some (.string ByteArray.empty) := HK8.out.cell 9
    have f9 := HK8.out.frozen 9
    have s10 : w8.cell? ⟨S, 10, none⟩ = some (.int .i64 f.n) := HS8.out.cell 10
    have r10 : w8.cell? ⟨w.heap.size, 10, none⟩ = some (.int .i64 0) := HK8.out.cell 10
    have f10 := HK8.out.frozen 10
    have s11 : w8.cell? ⟨S, 11, none⟩ = some (.int .i64 f.pos) := HS8.out.cell 11
    have r11 : w8.cell? ⟨w.heap.size, 11, none⟩ = some (.int .i64 0) := HK8.out.cell 11
    have f11 := HK8.out.frozen 11
    go_wp2_with fail
    clear s0 r0 f0 s1 r1 f1 s2 r2 f2 s3 r3 f3 s4 r4 f4 s5 r5 f5 s6 r6 f6 s7 r7 f7 s8 r8 f8 s9 r9 f9 s10 r10 f10 s11 r11 f11
    obtain ⟨hB, hF⟩ := value_result (c0 := .int .i64 5) (c1 := .int .i64 x.pos) (c2 := .string ByteArray.empty) (c3 := .int .i64 0) (c4 := .slice none 0 0) (c5 := .string ByteArray.empty) (c6 := .string d.name) (c7 := .int .i64 d.n) (c8 := .int .i64 d.pos) (c9 := .string f.name) (c10 := .int .i64 f.n) (c11 := .int .i64 f.pos) HK8.out
    generalize ((((((((((((w8.setCell ⟨w.heap.size, 0, none⟩ (.int .i64 5)).setCell ⟨w.heap.size, 1, none⟩ (.int .i64 x.pos)).setCell ⟨w.heap.size, 2, none⟩ (.string ByteArray.empty)).setCell ⟨w.heap.size, 3, none⟩ (.int .i64 0)).setCell ⟨w.heap.size, 4, none⟩ (.slice none 0 0)).setCell ⟨w.heap.size, 5, none⟩ (.string ByteArray.empty)).setCell ⟨w.heap.size, 6, none⟩ (.string d.name)).setCell ⟨w.heap.size, 7, none⟩ (.int .i64 d.n)).setCell ⟨w.heap.size, 8, none⟩ (.int .i64 d.pos)).setCell ⟨w.heap.size, 9, none⟩ (.string f.name)).setCell ⟨w.heap.size, 10, none⟩ (.int .i64 f.n)).setCell ⟨w.heap.size, 11, none⟩ (.int .i64 f.pos)) = wZ at hB hF ⊢
    have e0 := hB.cell 0
    have e1 := hB.cell 1
    have e2 := hB.cell 2
    have e3 := hB.cell 3
    have e4 := hB.cell 4
    have e5 := hB.cell 5
    have e6 := hB.cell 6
    have e7 := hB.cell 7
    have e8 := hB.cell 8
    have e9 := hB.cell 9
    have e10 := hB.cell 10
    have e11 := hB.cell 11
    exact bodyPost_ret (v := .agg #[.int .i64 5, .int .i64 x.pos, .string ByteArray.empty, .int .i64 0, .slice none 0 0, .string ByteArray.empty, .string d.name, .int .i64 d.n, .int .i64 d.pos, .string f.name, .int .i64 f.n, .int .i64 f.pos]) (by simp [results, Tryd.results76, go_sem, e0, e1, e2, e3, e4, e5, e6, e7, e8, e9, e10, e11]) rfl (Outc.ok (u := u2) (a := ⟨5, 0, Pr.noPth, ByteArray.empty, a1, a2⟩) (by rw [HR.out]; simp only [Pr.sum, Pr.th, HA1.out, Pr.St.go, hm2, HM.out, q1, Bool.false_eq_true, if_false]; rfl) (grownBy_mine HG8.out hF) ⟨⟨5, x.pos, ⟨ByteArray.empty, 0, ⟨none, 0, []⟩⟩, ByteArray.empty, d, f⟩, rfl, by rw [← HD.out, ← HF.out]; rfl, rfl⟩ (HP8.out.far hF HNE.out.1 HNE.out.2))
  · go_wp2_with fail
    have g6 := grownBy_setC w5 ⟨S, 0, none⟩ (.int .i64 6)
    have HP5' := Lib.hid (HP5.out.far g6 HSN.out.1 HSN.out.2.1)
    have HK5' := Lib.hid (HK5.out.kept g6 HSN.out.2.2.1)
    have HS5' : Hid (Bk (w5.setCell ⟨S, 0, none⟩ (.int .i64 6)) S 47 #[.int .i64 6, .int .i64 x.pos, .string ByteArray.empty, .int .i64 0, .slice none 0 0, .string ByteArray.empty, .string d.name, .int .i64 d.n, .int .i64 d.pos, .string ByteArray.empty, .int .i64 0, .int .i64 0]) := Lib.hid (HS5.out.set_ 0 _)
    have HG5' : Hid (w.grownBy (w5.setCell ⟨S, 0, none⟩ (.int .i64 6)) (some pb)) := Lib.hid (grownBy_under HG5.out g6 HSN.out.2.2.2)
    clear g6 f0 s0 HP5 HK5 HS5 HG5
    generalize w5.setCell ⟨S, 0, none⟩ (.int .i64 6) = w6 at HP5' HK5' HS5' HG5' ⊢
    refine (term_any w6 HP5'.out HL.out).mono ?_; intro en w7 ho
    rcases hm2 : Pr.term (l.map Pr.tk) ⟨u.i + 1 + 1, u.o, u.b⟩ with n | ⟨a2, u2⟩
    · obtain ⟨p, rfl, g7⟩ := ho.of_err hm2
      exact ⟨rfl, Outc.err (by rw [HR.out]; simp only [Pr.sum, Pr.th, HA1.out, Pr.St.go, hm2]) (grownBy_tr HG5'.out g7)⟩
    obtain ⟨v, rfl, ⟨f, rfl, hf⟩, h7, g7⟩ := ho.of_ok hm2
    have HF := Lib.hid hf
    have HP7 := Lib.hid h7; have HG7 := Lib.hid (grownBy_tr HG5'.out g7); have HK7 := Lib.hid (HK5'.out.kept g7 HNE.out.1); have HS7 := Lib.hid (HS5'.out.kept g7 HSN.out.1)
    clear h7 g7 ho hf
    have f9 := HS7.out.frozen 9
    have f10 := HS7.out.frozen 10
    have f11 := HS7.out.frozen 11
    have s9 : w7.cell? ⟨S, 9, none⟩ = some (.string ByteArray.empty) := HS7.out.cell 9
    have s10 : w7.cell? ⟨S, 10, none⟩ = some (.int .i64 0) := HS7.out.cell 10
    have s11 : w7.cell? ⟨S, 11, none⟩ = some (.int .i64 0) := HS7.out.cell 11
    go_upto_region 6 with fail
    clear f9 f10 f11 s9 s10 s11
    have g8 : w7.grownBy (((w7.setCell ⟨S, 9, none⟩ (.string f.name)).setCell ⟨S, 10, none⟩ (.int .i64 f.n)).setCell ⟨S, 11, none⟩ (.int .i64 f.pos)) (some S) := (grownBy_tr (grownBy_tr (grownBy_setC _ ⟨S, 9, none⟩ _) (grownBy_setC _ ⟨S, 10, none⟩ _)) (grownBy_setC _ ⟨S, 11, none⟩ _))
    have HP8 := Lib.hid (HP7.out.far g8 HSN.out.1 HSN.out.2.1)
    have HK8 := Lib.hid (HK7.out.kept g8 HSN.out.2.2.1)
    have HS8 : Hid (Bk (((w7.setCell ⟨S, 9, none⟩ (.string f.name)).setCell ⟨S, 10, none⟩ (.int .i64 f.n)).setCell ⟨S, 11, none⟩ (.int .i64 f.pos)) S 47 #[.int .i64 6, .int .i64 x.pos, .string ByteArray.empty, .int .i64 0, .slice none 0 0, .string ByteArray.empty, .string d.name, .int .i64 d.n, .int .i64 d.pos, .string f.name, .int .i64 f.n, .int .i64 f.pos]) := Lib.hid (((HS7.out.set_ 9 _).set_ 10 _).set_ 11 _)
    have HG8 : Hid (w.grownBy (((w7.setCell ⟨S, 9, none⟩ (.string f.name)).setCell ⟨S, 10, none⟩ (.int .i64 f.n)).setCell ⟨S, 11, none⟩ (.int .i64 f.pos)) (some pb)) := Lib.hid (grownBy_under HG7.out g8 HSN.out.2.2.2)
    clear g8
    generalize (((w7.setCell ⟨S, 9, none⟩ (.string f.name)).setCell ⟨S, 10, none⟩ (.int .i64 f.n)).setCell ⟨S, 11, none⟩ (.int .i64 f.pos)) = w8 at HP8 HK8 HS8 HG8 ⊢
    have s0 : w8.cell? ⟨S, 0, none⟩ = some (.int .i64 6) := HS8.out.cell 0
    have r0 : w8.cell? ⟨w.heap.size, 0, none⟩ = some (.int .i64 0) := HK8.out.cell 0
    have f0 := HK8.out.frozen 0
    have s1 : w8.cell? ⟨S, 1, none⟩ = some (.int .i64 x.pos) := HS8.out.cell 1
    have r1 : w8.cell? ⟨w.heap.size, 1, none⟩ = some (.int .i64 0) := HK8.out.cell 1
    have f1 := HK8.out.frozen 1
    have s2 : w8.cell? ⟨S, 2, none⟩ = some (.string ByteArray.empty) := HS8.out.cell 2
    have r2 : w8.cell? ⟨w.heap.size, 2, none⟩ = some (.string ByteArray.empty) := HK8.out.cell 2
    have f2 := HK8.out.frozen 2
    have s3 : w8.cell? ⟨S, 3, none⟩ = some (.int .i64 0) := HS8.out.cell 3
    have r3 : w8.cell? ⟨w.heap.size, 3, none⟩ = some (.int .i64 0) := HK8.out.cell 3
    have f3 := HK8.out.frozen 3
    have s4 : w8.cell? ⟨S, 4, none⟩ = some (.slice none 0 0) := HS8.out.cell 4
    have r4 : w8.cell? ⟨w.heap.size, 4, none⟩ = some (.slice none 0 0) := HK8.out.cell 4
    have f4 := HK8.out.frozen 4
    have s5 : w8.cell? ⟨S, 5, none⟩ = some (.string ByteArray.empty) := HS8.out.cell 5
    have r5 : w8.cell? ⟨w.heap.size, 5, none⟩ = some (.string ByteArray.empty) := HK8.out.cell 5
    have f5 := HK8.out.frozen 5
    have s6 : w8.cell? ⟨S, 6, none⟩ = some (.string d.name) := HS8.out.cell 6
    have r6 : w8.cell? ⟨w.heap.size, 6, none⟩ = some (.string ByteArray.empty) := HK8.out.cell 6
    have f6 := HK8.out.frozen 6
    have s7 : w8.cell? ⟨S, 7, none⟩ = some (.int .i64 d.n) := HS8.out.cell 7
    have r7 : w8.cell? ⟨w.heap.size, 7, none⟩ = some (.int .i64 0) := HK8.out.cell 7
    have f7 := HK8.out.frozen 7
    have s8 : w8.cell? ⟨S, 8, none⟩ = some (.int .i64 d.pos) := HS8.out.cell 8
    have r8 : w8.cell? ⟨w.heap.size, 8, none⟩ = some (.int .i64 0) := HK8.out.cell 8
    have f8 := HK8.out.frozen 8
    have s9 : w8.cell? ⟨S, 9, none⟩ = some (.string f.name) := HS8.out.cell 9
    have r9 : w8.cell? ⟨w.heap.size, 9, none⟩ = some (.string ByteArray.empty) := HK8.out.cell 9
    have f9 := HK8.out.frozen 9
    have s10 : w8.cell? ⟨S, 10, none⟩ = some (.int .i64 f.n) := HS8.out.cell 10
    have r10 : w8.cell? ⟨w.heap.size, 10, none⟩ = some (.int .i64 0) := HK8.out.cell 10
    have f10 := HK8.out.frozen 10
    have s11 : w8.cell? ⟨S, 11, none⟩ = some (.int .i64 f.pos) := HS8.out.cell 11
    have r11 : w8.cell? ⟨w.heap.size, 11, none⟩ = some (.int .i64 0) := HK8.out.cell 11
    have f11 := HK8.out.frozen 11
    go_wp2_with fail
    clear s0 r0 f0 s1 r1 f1 s2 r2 f2 s3 r3 f3 s4 r4 f4 s5 r5 f5 s6 r6 f6 s7 r7 f7 s8 r8 f8 s9 r9 f9 s10 r10 f10 s11 r11 f11
    obtain ⟨hB, hF⟩ := value_result (c0 := .int .i64 6) (c1 := .int .i64 x.pos) (c2 := .string ByteArray.empty) (c3 := .int .i64 0) (c4 := .slice none 0 0) (c5 := .string ByteArray.empty) (c6 := .string d.name) (c7 := .int .i64 d.n) (c8 := .int .i64 d.pos) (c9 := .string f.name) (c10 := .int .i64 f.n) (c11 := .int .i64 f.pos) HK8.out
    generalize ((((((((((((w8.setCell ⟨w.heap.size, 0, none⟩ (.int .i64 6)).setCell ⟨w.heap.size, 1, none⟩ (.int .i64 x.pos)).setCell ⟨w.heap.size, 2, none⟩ (.string ByteArray.empty)).setCell ⟨w.heap.size, 3, none⟩ (.int .i64 0)).setCell ⟨w.heap.size, 4, none⟩ (.slice none 0 0)).setCell ⟨w.heap.size, 5, none⟩ (.string ByteArray.empty)).setCell ⟨w.heap.size, 6, none⟩ (.string d.name)).setCell ⟨w.heap.size, 7, none⟩ (.int .i64 d.n)).setCell ⟨w.heap.size, 8, none⟩ (.int .i64 d.pos)).setCell ⟨w.heap.size, 9, none⟩ (.string f.name)).setCell ⟨w.heap.size, 10, none⟩ (.int .i64 f.n)).setCell ⟨w.heap.size, 11, none⟩ (.int .i64 f.pos)) = wZ at hB hF ⊢
    have e0 := hB.cell 0
    have e1 := hB.cell 1
    have e2 := hB.cell 2
    have e3 := hB.cell 3
    have e4 := hB.cell 4
    have e5 := hB.cell 5
    have e6 := hB.cell 6
    have e7 := hB.cell 7
    have e8 := hB.cell 8
    have e9 := hB.cell 9
    have e10 := hB.cell 10
    have e11 := hB.cell 11
    exact bodyPost_ret (v := .agg #[.int .i64 6, .int .i64 x.pos, .string ByteArray.empty, .int .i64 0, .slice none 0 0, .string ByteArray.empty, .string d.name, .int .i64 d.n, .int .i64 d.pos, .string f.name, .int .i64 f.n, .int .i64 f.pos]) (by simp [results, Tryd.results76, go_sem, e0, e1, e2, e3, e4, e5, e6, e7, e8, e9, e10, e11]) rfl (Outc.ok (u := u2) (a := ⟨6, 0, Pr.noPth, ByteArray.empty, a1, a2⟩) (by rw [HR.out]; simp only [Pr.sum, Pr.th, HA1.out, Pr.St.go, hm2, HM.out, q1, if_true]; rfl) (grownBy_mine HG8.out hF) ⟨⟨6, x.pos, ⟨ByteArray.empty, 0, ⟨none, 0, []⟩⟩, ByteArray.empty, d, f⟩, rfl, by rw [← HD.out, ← HF.out]; rfl, rfl⟩ (HP8.out.far hF HNE.out.1 HNE.out.2))
end
end Go.Proofs.YtlpnkllhpienhaaDoor
