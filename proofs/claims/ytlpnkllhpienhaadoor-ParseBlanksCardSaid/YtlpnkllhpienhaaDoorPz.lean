/-
  DERIVED. The walks of the parser: what is declared.
-/
import Derived.Test.YtlpnkllhpienhaaDoorPy
namespace Go.Proofs.YtlpnkllhpienhaaDoor
open Go.RowKit Go.Sort

attribute [local go_sem] field79_0 field79_1 field79_2 field79_3
section
variable {pb sb cap : Nat} {l : List Tx.Sg}
set_option maxHeartbeats 1600000 in
set_option maxRecDepth 100000 in
theorem variable__any (w : World) (u : Pr.St) (h : PS w pb sb cap l u.i u.o u.b) (hg : Good l) :
    Calls Tryd.prog 38 #[.pointer (some ⟨pb, 0, none⟩)] w (Outc (fun _ v a => KDc v a) w pb sb cap l (Pr.variable_ (l.map Pr.tk) u)) := by
  obtain ⟨r, hr⟩ : ∃ r, r = Pr.variable_ (l.map Pr.tk) u := ⟨_, rfl⟩
  rw [← hr]
  have HR := Lib.hid hr
  have HL := Lib.hid hg
  have hn : Below w.heap.size w (w.alloc (.cells #[.string ByteArray.empty, .string ByteArray.empty, .int .i64 0] 85)) := (Below.refl _ _).alloc (Nat.le_refl _) _
  have HK : Hid (Bk (w.alloc (.cells #[.string ByteArray.empty, .string ByteArray.empty, .int .i64 0] 85)) w.heap.size 85 #[.string ByteArray.empty, .string ByteArray.empty, .int .i64 0]) := Lib.hid (heap_alloc_new _ _)
  have HNE : Hid (w.heap.size ≠ pb ∧ w.heap.size ≠ sb) := Lib.hid ⟨fun e => by have := h.pb_lt; omega, fun e => by have := h.sb_lt; omega⟩
  have HG : Hid (w.grownBy (w.alloc (.cells #[.string ByteArray.empty, .string ByteArray.empty, .int .i64 0] 85)) (some pb)) := Lib.hid (grownBy_of hn _)
  have HP := Lib.hid (h.below hn)
  generalize hwA : w.alloc (.cells #[.string ByteArray.empty, .string ByteArray.empty, .int .i64 0] 85) = wA at HK HG HP
  clear h hg hr hn
  go_enter Tryd.func38, Tryd.ntmps38
  go_wp2_with fail
  rw [show w.alloc (.cells #[.string ⟨#[]⟩, .string ⟨#[]⟩, .int .i64 0] 85) = wA from hwA]
  clear hwA
  refine (may_any ⟨#[105, 110, 116]⟩ (by decide) wA u HP.out HL.out).mono ?_; rintro en w1 ⟨q, hq, rfl, h1, g1⟩
  have HP1 := Lib.hid h1; have HG1 := Lib.hid (grownBy_tr HG.out g1); have HK1 := Lib.hid (HK.out.kept g1 HNE.out.1)
  clear h1 g1
  cases q with
  | false =>
    go_wp2_with fail
    refine (pointer_any w1 u HP1.out HL.out).mono ?_; intro en w2 ho
    rcases hm1 : Pr.pointer (l.map Pr.tk) u with n | ⟨a1, u1⟩
    · obtain ⟨p, rfl, g2⟩ := ho.of_err hm1
      exact ⟨rfl, Outc.err (by rw [HR.out]; simp only [Pr.variable_, hq, Bool.false_eq_true, if_false, hm1]) (grownBy_tr HG1.out g2)⟩
    obtain ⟨v, rfl, ⟨d, rfl, hd⟩, h2, g2⟩ := ho.of_ok hm1
    have HD := Lib.hid hd
    have HP2 := Lib.hid h2; have HG2 := Lib.hid (grownBy_tr HG1.out g2); have HK2 := Lib.hid (HK1.out.kept g2 HNE.out.1)
    clear h2 g2 ho hd
    have r0 : w2.cell? ⟨w.heap.size, 0, none⟩ = some (.string ByteArray.empty) := HK2.out.cell 0
    have r1 : w2.cell? ⟨w.heap.size, 1, none⟩ = some (.string ByteArray.empty) := HK2.out.cell 1
    have r2 : w2.cell? ⟨w.heap.size, 2, none⟩ = some (.int .i64 0) := HK2.out.cell 2
    have f0 := HK2.out.frozen 0
    have f1 := HK2.out.frozen 1
    have f2 := HK2.out.frozen 2
    go_wp2_with fail
    clear r0 r1 r2 f0 f1 f2
    obtain ⟨hB, hF⟩ := decl_result (n := d.type) (m := d.name) (p := d.pos) HK2.out
    generalize ((w2.setCell ⟨w.heap.size, 0, none⟩ (.string d.type)).setCell ⟨w.heap.size, 1, none⟩ (.string d.name)).setCell ⟨w.heap.size, 2, none⟩ (.int .i64 d.pos) = wZ at hB hF ⊢
    have e0 := hB.cell 0
    have e1 := hB.cell 1
    have e2 := hB.cell 2
    exact bodyPost_ret (v := .agg #[.string d.type, .string d.name, .int .i64 d.pos]) (by simp [results, Tryd.results38, go_sem, e0, e1, e2]) rfl (Outc.ok (u := u1) (a := a1) (by rw [HR.out]; simp only [Pr.variable_, hq, Bool.false_eq_true, if_false, hm1]) (grownBy_mine HG2.out hF) ⟨d, rfl, HD.out⟩ (HP2.out.far hF HNE.out.1 HNE.out.2))
  | true =>
    go_wp2_with fail
    refine (name_any w1 u.go HP1.out HL.out).mono ?_; intro en w2 ho
    rcases hm1 : Pr.name (l.map Pr.tk) u.go with n | ⟨a1, u1⟩
    · obtain ⟨p, rfl, g2⟩ := ho.of_err hm1
      exact ⟨rfl, Outc.err (by rw [HR.out]; simp only [Pr.variable_, hq, if_true, Pr.th, hm1]) (grownBy_tr HG1.out g2)⟩
    obtain ⟨v, rfl, ⟨x, rfl, hx⟩, h2, g2⟩ := ho.of_ok hm1
    have HX := Lib.hid hx
    have HP2 := Lib.hid h2; have HG2 := Lib.hid (grownBy_tr HG1.out g2); have HK2 := Lib.hid (HK1.out.kept g2 HNE.out.1)
    clear h2 g2 ho hx
    go_upto_region 4 with fail
    have hm : Below w2.heap.size w2 (w2.alloc (.cells #[.int .i64 x.kind, .int .i64 x.pos, .string x.text, .int .i64 x.num] 79)) := (Below.refl _ _).alloc (Nat.le_refl _) _
    have HP3 := Lib.hid (HP2.out.below hm)
    have HK3 := Lib.hid (HK2.out.below hm HK2.out.lt)
    have HS3 : Hid (Bk (w2.alloc (.cells #[.int .i64 x.kind, .int .i64 x.pos, .string x.text, .int .i64 x.num] 79)) w2.heap.size 79 #[.int .i64 x.kind, .int .i64 x.pos, .string x.text, .int .i64 x.num]) := Lib.hid (heap_alloc_new _ _)
    have HG3 : Hid (w.grownBy (w2.alloc (.cells #[.int .i64 x.kind, .int .i64 x.pos, .string x.text, .int .i64 x.num] 79)) (some pb)) := Lib.hid (grownBy_below HG2.out hm)
    obtain ⟨S, hS⟩ : ∃ S, S = w2.heap.size := ⟨_, rfl⟩
    rw [← hS] at HS3 ⊢
    clear hS hm
    generalize w2.alloc (.cells #[.int .i64 x.kind, .int .i64 x.pos, .string x.text, .int .i64 x.num] 79) = w3 at HP3 HK3 HS3 HG3 ⊢
    have s0 : w3.cell? ⟨S, 1, none⟩ = some (.int .i64 x.pos) := HS3.out.cell 1
    have s1 : w3.cell? ⟨S, 2, none⟩ = some (.string x.text) := HS3.out.cell 2
    have r0 : w3.cell? ⟨w.heap.size, 0, none⟩ = some (.string ByteArray.empty) := HK3.out.cell 0
    have r1 : w3.cell? ⟨w.heap.size, 1, none⟩ = some (.string ByteArray.empty) := HK3.out.cell 1
    have r2 : w3.cell? ⟨w.heap.size, 2, none⟩ = some (.int .i64 0) := HK3.out.cell 2
    have f0 := HK3.out.frozen 0
    have f1 := HK3.out.frozen 1
    have f2 := HK3.out.frozen 2
    go_wp2_with fail
    clear s0 s1 r0 r1 r2 f0 f1 f2
    obtain ⟨hB, hF⟩ := decl_result (n := ⟨#[]⟩) (m := x.text) (p := x.pos) HK3.out
    generalize ((w3.setCell ⟨w.heap.size, 0, none⟩ (.string ⟨#[]⟩)).setCell ⟨w.heap.size, 1, none⟩ (.string x.text)).setCell ⟨w.heap.size, 2, none⟩ (.int .i64 x.pos) = wZ at hB hF ⊢
    have e0 := hB.cell 0
    have e1 := hB.cell 1
    have e2 := hB.cell 2
    exact bodyPost_ret (v := .agg #[.string ⟨#[]⟩, .string x.text, .int .i64 x.pos]) (by simp [results, Tryd.results38, go_sem, e0, e1, e2]) rfl (Outc.ok (u := u1) (a := ⟨ByteArray.empty, a1.text, 0⟩) (by rw [HR.out]; simp only [Pr.variable_, hq, if_true, Pr.th, hm1]) (grownBy_mine HG3.out hF) ⟨⟨ByteArray.empty, x.text, x.pos⟩, rfl, by rw [← HX.out]; rfl⟩ (HP3.out.far hF HNE.out.1 HNE.out.2))
set_option maxHeartbeats 1600000 in
set_option maxRecDepth 100000 in
theorem decl_any (w : World) (u : Pr.St) (h : PS w pb sb cap l u.i u.o u.b) (hg : Good l) :
    Calls Tryd.prog 27 #[.pointer (some ⟨pb, 0, none⟩)] w (Outc (fun _ v a => KDc v a) w pb sb cap l (Pr.decl (l.map Pr.tk) u)) := by
  obtain ⟨r, hr⟩ : ∃ r, r = Pr.decl (l.map Pr.tk) u := ⟨_, rfl⟩
  rw [← hr]
  have HR := Lib.hid hr
  have HL := Lib.hid hg
  have hn : Below w.heap.size w (w.alloc (.cells #[.string ByteArray.empty, .string ByteArray.empty, .int .i64 0] 85)) := (Below.refl _ _).alloc (Nat.le_refl _) _
  have HK : Hid (Bk (w.alloc (.cells #[.string ByteArray.empty, .string ByteArray.empty, .int .i64 0] 85)) w.heap.size 85 #[.string ByteArray.empty, .string ByteArray.empty, .int .i64 0]) := Lib.hid (heap_alloc_new _ _)
  have HNE : Hid (w.heap.size ≠ pb ∧ w.heap.size ≠ sb) := Lib.hid ⟨fun e => by have := h.pb_lt; omega, fun e => by have := h.sb_lt; omega⟩
  have HG : Hid (w.grownBy (w.alloc (.cells #[.string ByteArray.empty, .string ByteArray.empty, .int .i64 0] 85)) (some pb)) := Lib.hid (grownBy_of hn _)
  have HP := Lib.hid (h.below hn)
  generalize hwA : w.alloc (.cells #[.string ByteArray.empty, .string ByteArray.empty, .int .i64 0] 85) = wA at HK HG HP
  clear h hg hr hn
  go_enter Tryd.func27, Tryd.ntmps27
  go_wp2_with fail
  rw [show w.alloc (.cells #[.string ⟨#[]⟩, .string ⟨#[]⟩, .int .i64 0] 85) = wA from hwA]
  clear hwA
  refine (variable__any wA u HP.out HL.out).mono ?_; intro en w1 ho
  rcases hm1 : Pr.variable_ (l.map Pr.tk) u with n | ⟨a1, u1⟩
  · obtain ⟨p, rfl, g1⟩ := ho.of_err hm1
    exact ⟨rfl, Outc.err (by rw [HR.out]; simp only [Pr.decl, Pr.th, hm1]) (grownBy_tr HG.out g1)⟩
  obtain ⟨v, rfl, ⟨d, rfl, hd⟩, h1, g1⟩ := ho.of_ok hm1
  have HD := Lib.hid hd
  have HP1 := Lib.hid h1; have HG1 := Lib.hid (grownBy_tr HG.out g1); have HK1 := Lib.hid (HK.out.kept g1 HNE.out.1)
  clear h1 g1 ho hd
  go_upto_region 2 with fail
  have hm : Below w1.heap.size w1 (w1.alloc (.cells #[.string d.type, .string d.name, .int .i64 d.pos] 85)) := (Below.refl _ _).alloc (Nat.le_refl _) _
  have HP2 := Lib.hid (HP1.out.below hm)
  have HK2 := Lib.hid (HK1.out.below hm HK1.out.lt)
  have HS2 : Hid (Bk (w1.alloc (.cells #[.string d.type, .string d.name, .int .i64 d.pos] 85)) w1.heap.size 85 #[.string d.type, .string d.name, .int .i64 d.pos]) := Lib.hid (heap_alloc_new _ _)
  have HG2 : Hid (w.grownBy (w1.alloc (.cells #[.string d.type, .string d.name, .int .i64 d.pos] 85)) (some pb)) := Lib.hid (grownBy_below HG1.out hm)
  obtain ⟨S, hS⟩ : ∃ S, S = w1.heap.size := ⟨_, rfl⟩
  have HSN : Hid (S ≠ pb) := Lib.hid (by have := HP1.out.pb_lt; omega)
  rw [← hS] at HS2 ⊢
  clear hS hm
  generalize w1.alloc (.cells #[.string d.type, .string d.name, .int .i64 d.pos] 85) = w2 at HP2 HK2 HS2 HG2 ⊢
  go_wp2_with fail
  refine (must_any ⟨#[59]⟩ (by decide) w2 u1 HP2.out HL.out).mono ?_; intro en w3 ho
  rcases hm2 : Pr.must (l.map Pr.tk) ⟨#[59]⟩ u1 with n | ⟨a2, u2⟩
  · obtain ⟨p, rfl, g3⟩ := ho.of_err hm2
    exact ⟨rfl, Outc.err (by rw [HR.out]; simp only [Pr.decl, Pr.th, hm1, hm2]) (grownBy_tr HG2.out g3)⟩
  obtain ⟨v, rfl, ⟨x2, rfl, _⟩, h3, g3⟩ := ho.of_ok hm2
  have HP3 := Lib.hid h3; have HG3 := Lib.hid (grownBy_tr HG2.out g3); have HK3 := Lib.hid (HK2.out.kept g3 HNE.out.1); have HS3 := Lib.hid (HS2.out.kept g3 HSN.out)
  clear h3 g3 ho
  have s0 : w3.cell? ⟨S, 0, none⟩ = some (.string d.type) := HS3.out.cell 0
  have s1 : w3.cell? ⟨S, 1, none⟩ = some (.string d.name) := HS3.out.cell 1
  have s2 : w3.cell? ⟨S, 2, none⟩ = some (.int .i64 d.pos) := HS3.out.cell 2
  have r0 : w3.cell? ⟨w.heap.size, 0, none⟩ = some (.string ByteArray.empty) := HK3.out.cell 0
  have r1 : w3.cell? ⟨w.heap.size, 1, none⟩ = some (.string ByteArray.empty) := HK3.out.cell 1
  have r2 : w3.cell? ⟨w.heap.size, 2, none⟩ = some (.int .i64 0) := HK3.out.cell 2
  have f0 := HK3.out.frozen 0
  have f1 := HK3.out.frozen 1
  have f2 := HK3.out.frozen 2
  go_wp2_with fail
  clear s0 s1 s2 r0 r1 r2 f0 f1 f2
  obtain ⟨hB, hF⟩ := decl_result (n := d.type) (m := d.name) (p := d.pos) HK3.out
  generalize ((w3.setCell ⟨w.heap.size, 0, none⟩ (.string d.type)).setCell ⟨w.heap.size, 1, none⟩ (.string d.name)).setCell ⟨w.heap.size, 2, none⟩ (.int .i64 d.pos) = wZ at hB hF ⊢
  have e0 := hB.cell 0
  have e1 := hB.cell 1
  have e2 := hB.cell 2
  exact bodyPost_ret (v := .agg #[.string d.type, .string d.name, .int .i64 d.pos]) (by simp [results, Tryd.results27, go_sem, e0, e1, e2]) rfl (Outc.ok (u := u2) (a := a1) (by rw [HR.out]; simp only [Pr.decl, Pr.th, hm1, hm2]) (grownBy_mine HG3.out hF) ⟨d, rfl, HD.out⟩ (HP3.out.far hF HNE.out.1 HNE.out.2))
end
end Go.Proofs.YtlpnkllhpienhaaDoor
