/-
  DERIVED. The walks of the parser: fields, numbers and pointers that are declared.
-/
import Derived.Test.YtlpnkllhpienhaaDoorPv
namespace Go.Proofs.YtlpnkllhpienhaaDoor
open Go.RowKit Go.Sort

attribute [local go_sem] field79_0 field79_1 field79_2 field79_3
section
variable {pb sb cap : Nat} {l : List Tx.Sg}
/-- What is declared, as it is handed back. -/
def KDc (v : Value) (a : Dc) : Prop := ∃ y : Dc, v = .agg y.cells.toArray ∧ y.er = a
/-- The end of a call that hands back what is declared through a result of its own. -/
theorem decl_result {w2 : World} {n m : ByteArray} {p : Int} {R : Nat} {s s' : ByteArray} {c : Int} (hk : Bk w2 R 85 #[.string s, .string s', .int .i64 c]) :
    Bk (((w2.setCell ⟨R, 0, none⟩ (.string n)).setCell ⟨R, 1, none⟩ (.string m)).setCell ⟨R, 2, none⟩ (.int .i64 p)) R 85 #[.string n, .string m, .int .i64 p] ∧
    w2.grownBy (((w2.setCell ⟨R, 0, none⟩ (.string n)).setCell ⟨R, 1, none⟩ (.string m)).setCell ⟨R, 2, none⟩ (.int .i64 p)) (some R) :=
  ⟨((hk.set_ 0 _).set_ 1 _).set_ 2 _, grownBy_tr (grownBy_tr (grownBy_setC _ ⟨R, 0, none⟩ _) (grownBy_setC _ ⟨R, 1, none⟩ _)) (grownBy_setC _ ⟨R, 2, none⟩ _)⟩
theorem Bk.kept {w w' : World} {b t : Nat} {cs : Array Value} {r : Nat} (h : Bk w b t cs) (hg : w.grownBy w' (some r)) (hne : b ≠ r) : Bk w' b t cs :=
  (hg.block b (Array.getElem?_eq_some_iff.1 h).1 (by intro e; injection e with e; exact hne e)).trans h
theorem Bk.lt {w : World} {b t : Nat} {cs : Array Value} (h : Bk w b t cs) : b < w.heap.size := (Array.getElem?_eq_some_iff.1 h).1
set_option maxHeartbeats 1600000 in
set_option maxRecDepth 100000 in
theorem pointer_any (w : World) (u : Pr.St) (h : PS w pb sb cap l u.i u.o u.b) (hg : Good l) :
    Calls Tryd.prog 36 #[.pointer (some ⟨pb, 0, none⟩)] w (Outc (fun _ v a => KDc v a) w pb sb cap l (Pr.pointer (l.map Pr.tk) u)) := by
  obtain ⟨r, hr⟩ : ∃ r, r = Pr.pointer (l.map Pr.tk) u := ⟨_, rfl⟩
  rw [← hr]
  have HR := Lib.hid hr
  have HL := Lib.hid hg
  have hn : Below w.heap.size w (w.alloc (.cells #[.string ByteArray.empty, .string ByteArray.empty, .int .i64 0] 85)) := (Below.refl _ _).alloc (Nat.le_refl _) _
  have HK : Hid (Bk (w.alloc (.cells #[.string ByteArray.empty, .string ByteArray.empty, .int .i64 0] 85)) w.heap.size 85 #[.string ByteArray.empty, .string ByteArray.empty, .int .i64 0]) := Lib.hid (heap_alloc_new _ _)
  have HNE : Hid (w.heap.size ≠ pb ∧ w.heap.size ≠ sb) := Lib.hid ⟨fun e => by have := h.pb_lt; omega, fun e => by have := h.sb_lt; omega⟩
  have HG : Hid (w.grownBy (w.alloc (.cells #[.string ByteArray.empty, .string ByteArray.empty, .int .i64 0] 85)) (some pb)) := Lib.hid (grownBy_of hn _)
  have HP := Lib.hid (h.below hn)
  generalize hwA : w.alloc (.cells #[.string ByteArray.empty, .string ByteArray.empty, .int .i64 0] 85) = wA at HK HG HP
  clear h hg hr hn
  go_enter Tryd.func36, Tryd.ntmps36
  go_wp2_with fail
  rw [show w.alloc (.cells #[.string ⟨#[]⟩, .string ⟨#[]⟩, .int .i64 0] 85) = wA from hwA]
  clear hwA
  refine (name_any wA u HP.out HL.out).mono ?_; intro en w1 ho
  rcases hm1 : Pr.name (l.map Pr.tk) u with n | ⟨a1, u1⟩
  · obtain ⟨p, rfl, g1⟩ := ho.of_err hm1
    exact ⟨rfl, Outc.err (by rw [HR.out]; simp only [Pr.pointer, Pr.th, hm1]) (grownBy_tr HG.out g1)⟩
  obtain ⟨v, rfl, ⟨x, rfl, hx⟩, h1, g1⟩ := ho.of_ok hm1
  have HX := Lib.hid hx
  have HP1 := Lib.hid h1; have HG1 := Lib.hid (grownBy_tr HG.out g1); have HK1 := Lib.hid (HK.out.kept g1 HNE.out.1)
  clear h1 g1 ho hx
  go_upto_region 2 with fail
  have hm : Below w1.heap.size w1 (w1.alloc (.cells #[.int .i64 x.kind, .int .i64 x.pos, .string x.text, .int .i64 x.num] 79)) := (Below.refl _ _).alloc (Nat.le_refl _) _
  have HP2 := Lib.hid (HP1.out.below hm)
  have HK2 := Lib.hid (HK1.out.below hm HK1.out.lt)
  have HS2 : Hid (Bk (w1.alloc (.cells #[.int .i64 x.kind, .int .i64 x.pos, .string x.text, .int .i64 x.num] 79)) w1.heap.size 79 #[.int .i64 x.kind, .int .i64 x.pos, .string x.text, .int .i64 x.num]) := Lib.hid (heap_alloc_new _ _)
  have HG2 : Hid (w.grownBy (w1.alloc (.cells #[.int .i64 x.kind, .int .i64 x.pos, .string x.text, .int .i64 x.num] 79)) (some pb)) := Lib.hid (grownBy_below HG1.out hm)
  obtain ⟨S, hS⟩ : ∃ S, S = w1.heap.size := ⟨_, rfl⟩
  have HSN : Hid (S ≠ pb) := Lib.hid (by have := HP1.out.pb_lt; omega)
  rw [← hS] at HS2 ⊢
  clear hS hm
  generalize w1.alloc (.cells #[.int .i64 x.kind, .int .i64 x.pos, .string x.text, .int .i64 x.num] 79) = w2 at HP2 HK2 HS2 HG2 ⊢
  go_wp2_with fail
  refine (must_any ⟨#[42]⟩ (by decide) w2 u1 HP2.out HL.out).mono ?_; intro en w3 ho
  rcases hm2 : Pr.must (l.map Pr.tk) ⟨#[42]⟩ u1 with n | ⟨a2, u2⟩
  · obtain ⟨p, rfl, g3⟩ := ho.of_err hm2
    exact ⟨rfl, Outc.err (by rw [HR.out]; simp only [Pr.pointer, Pr.th, hm1, hm2]) (grownBy_tr HG2.out g3)⟩
  obtain ⟨v, rfl, ⟨x2, rfl, _⟩, h3, g3⟩ := ho.of_ok hm2
  have HP3 := Lib.hid h3; have HG3 := Lib.hid (grownBy_tr HG2.out g3); have HK3 := Lib.hid (HK2.out.kept g3 HNE.out.1); have HS3 := Lib.hid (HS2.out.kept g3 HSN.out)
  clear h3 g3 ho
  go_wp2_with fail
  refine (name_any w3 u2 HP3.out HL.out).mono ?_; intro en w4 ho
  rcases hm3 : Pr.name (l.map Pr.tk) u2 with n | ⟨a3, u3⟩
  · obtain ⟨p, rfl, g4⟩ := ho.of_err hm3
    exact ⟨rfl, Outc.err (by rw [HR.out]; simp only [Pr.pointer, Pr.th, hm1, hm2, hm3]) (grownBy_tr HG3.out g4)⟩
  obtain ⟨v, rfl, ⟨y, rfl, hy⟩, h4, g4⟩ := ho.of_ok hm3
  have HY := Lib.hid hy
  have HP4 := Lib.hid h4; have HG4 := Lib.hid (grownBy_tr HG3.out g4); have HK4 := Lib.hid (HK3.out.kept g4 HNE.out.1); have HS4 := Lib.hid (HS3.out.kept g4 HSN.out)
  clear h4 g4 ho hy
  go_upto_region 4 with fail
  have hm : Below w4.heap.size w4 (w4.alloc (.cells #[.int .i64 y.kind, .int .i64 y.pos, .string y.text, .int .i64 y.num] 79)) := (Below.refl _ _).alloc (Nat.le_refl _) _
  have HP5 := Lib.hid (HP4.out.below hm)
  have HK5 := Lib.hid (HK4.out.below hm HK4.out.lt)
  have HS5 := Lib.hid (HS4.out.below hm HS4.out.lt)
  have HT5 : Hid (Bk (w4.alloc (.cells #[.int .i64 y.kind, .int .i64 y.pos, .string y.text, .int .i64 y.num] 79)) w4.heap.size 79 #[.int .i64 y.kind, .int .i64 y.pos, .string y.text, .int .i64 y.num]) := Lib.hid (heap_alloc_new _ _)
  have HG5 : Hid (w.grownBy (w4.alloc (.cells #[.int .i64 y.kind, .int .i64 y.pos, .string y.text, .int .i64 y.num] 79)) (some pb)) := Lib.hid (grownBy_below HG4.out hm)
  obtain ⟨T, hT⟩ : ∃ T, T = w4.heap.size := ⟨_, rfl⟩
  rw [← hT] at HT5 ⊢
  clear hT hm
  generalize w4.alloc (.cells #[.int .i64 y.kind, .int .i64 y.pos, .string y.text, .int .i64 y.num] 79) = w5 at HP5 HK5 HS5 HT5 HG5 ⊢
  have s2 : w5.cell? ⟨S, 2, none⟩ = some (.string x.text) := HS5.out.cell 2
  have t1 : w5.cell? ⟨T, 1, none⟩ = some (.int .i64 y.pos) := HT5.out.cell 1
  have t2 : w5.cell? ⟨T, 2, none⟩ = some (.string y.text) := HT5.out.cell 2
  have r0 : w5.cell? ⟨w.heap.size, 0, none⟩ = some (.string ByteArray.empty) := HK5.out.cell 0
  have r1 : w5.cell? ⟨w.heap.size, 1, none⟩ = some (.string ByteArray.empty) := HK5.out.cell 1
  have r2 : w5.cell? ⟨w.heap.size, 2, none⟩ = some (.int .i64 0) := HK5.out.cell 2
  have f0 := HK5.out.frozen 0
  have f1 := HK5.out.frozen 1
  have f2 := HK5.out.frozen 2
  go_wp2_with fail
  clear s2 t1 t2 r0 r1 r2 f0 f1 f2
  obtain ⟨hB, hF⟩ := decl_result (n := x.text) (m := y.text) (p := y.pos) HK5.out
  generalize ((w5.setCell ⟨w.heap.size, 0, none⟩ (.string x.text)).setCell ⟨w.heap.size, 1, none⟩ (.string y.text)).setCell ⟨w.heap.size, 2, none⟩ (.int .i64 y.pos) = w6 at hB hF ⊢
  have e0 := hB.cell 0
  have e1 := hB.cell 1
  have e2 := hB.cell 2
  exact bodyPost_ret (v := .agg #[.string x.text, .string y.text, .int .i64 y.pos]) (by simp [results, Tryd.results36, go_sem, e0, e1, e2]) rfl (Outc.ok (u := u3) (a := ⟨a1.text, a3.text, 0⟩) (by rw [HR.out]; simp only [Pr.pointer, Pr.th, hm1, hm2, hm3]) (grownBy_mine HG5.out hF) ⟨⟨x.text, y.text, y.pos⟩, rfl, by rw [← HX.out, ← HY.out]; rfl⟩ (HP5.out.far hF HNE.out.1 HNE.out.2))
end
end Go.Proofs.YtlpnkllhpienhaaDoor
