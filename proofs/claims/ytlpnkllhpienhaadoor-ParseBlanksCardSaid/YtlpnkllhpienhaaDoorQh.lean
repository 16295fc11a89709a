/-
  DERIVED. The walks of the parser's blocks, branches and loops.
-/
import Derived.Test.YtlpnkllhpienhaaDoorQg
namespace Go.Proofs.YtlpnkllhpienhaaDoor
open Go.RowKit Go.Sort

attribute [local go_sem] field79_0 field79_1 field79_2 field79_3
section
variable {pb sb cap : Nat} {l : List Tx.Sg}
/-- Statements, as they are handed back. -/
def SLs (B : Nat) (w : World) (v : Value) (a : SL) : Prop := ∃ (p : Option Addr) (c : Nat) (s : SL), v = .slice p s.len c ∧ s.er = a ∧ sLies (fresh B w) p s
/-- What the parser of statements does, with fuel n. -/
def SRec (pb sb cap : Nat) (l : List Tx.Sg) (n : Nat) : Prop := ∀ (w : World) (u : Pr.St), PS w pb sb cap l u.i u.o u.b → Pr.Inv u → l.length < u.i + n →
  Calls Tryd.prog 15 #[.pointer (some ⟨pb, 0, none⟩)] w (Outc (SLs w.heap.size) w pb sb cap l (Pr.stmts (l.map Pr.tk) n u))
set_option maxHeartbeats 1600000 in
set_option maxRecDepth 100000 in
theorem block_any (n : Nat) (hrec : SRec pb sb cap l n) (w : World) (u : Pr.St) (h : PS w pb sb cap l u.i u.o u.b) (hg : Good l) (hi : Pr.Inv u) (hf : l.length < u.i + 1 + n) :
    Calls Tryd.prog 44 #[.pointer (some ⟨pb, 0, none⟩)] w (Outc (SLs w.heap.size) w pb sb cap l (Pr.block (l.map Pr.tk) (Pr.stmts (l.map Pr.tk) n) u)) := by
  obtain ⟨r, hr⟩ : ∃ r, r = Pr.block (l.map Pr.tk) (Pr.stmts (l.map Pr.tk) n) u := ⟨_, rfl⟩
  rw [← hr]
  have HR := Lib.hid hr
  have HL := Lib.hid hg
  have HP := Lib.hid h
  have HLT : Hid (pb < w.heap.size) := Lib.hid h.pb_lt
  have HI := Lib.hid hi
  have HFU := Lib.hid hf
  have HRC := Lib.hid hrec
  clear h hg hr hi hf hrec
  go_enter Tryd.func44, Tryd.ntmps44
  go_wp2_with fail
  refine (mustHold_any w u HP.out HL.out).mono ?_; intro en w1 ho
  rcases hm1 : Pr.mustHold (l.map Pr.tk) u with n | ⟨a1, v1⟩
  · obtain ⟨p, rfl, g1⟩ := ho.of_err hm1
    exact ⟨rfl, Outc.err (by rw [HR.out]; simp only [Pr.block, Pr.th, hm1]) g1⟩
  obtain ⟨v, rfl, rfl, h1, g1⟩ := ho.of_ok hm1
  obtain ⟨hv1, hn20⟩ := Pr.mustHold_ok hm1
  subst hv1
  have HM1 := Lib.hid hm1; have HN := Lib.hid hn20; have HP1 := Lib.hid h1; have HG1 := Lib.hid g1
  clear h1 g1 ho hm1 hn20 HP
  go_wp2_with fail
  refine (must_any ⟨#[123]⟩ (by decide) w1 v1 HP1.out HL.out).mono ?_; intro en w2 ho
  rcases hm2 : Pr.must (l.map Pr.tk) ⟨#[123]⟩ v1 with n | ⟨a2, v2⟩
  · obtain ⟨p, rfl, g2⟩ := ho.of_err hm2
    exact ⟨rfl, Outc.err (by rw [HR.out]; simp only [Pr.block, Pr.th, HM1.out, hm2]) (grownBy_tr HG1.out g2)⟩
  obtain ⟨v, rfl, ⟨xx, rfl, _⟩, h2, g2⟩ := ho.of_ok hm2
  have HM2 := Lib.hid hm2; have HP2 := Lib.hid h2; have HG2 := Lib.hid (grownBy_tr HG1.out g2)
  obtain ⟨hs2, hv2⟩ := Pr.must_is hm2
  have ho0 : 0 ≤ v2.o := by rw [hv2]; exact HI.out.1
  have ho1 : v2.o + 1 ≤ 20 := by have := HN.out hs2; have := HI.out.2.1; rw [hv2]; simp only [Pr.St.go]; omega
  have HV2 := Lib.hid hv2
  clear h2 g2 ho hm2 HP1 HG1 hs2 hv2
  have p2 : w2.cell? ⟨pb, 2, none⟩ = some (.int .i64 v2.o) := HP2.out.blk.cell 2
  have f2 := HP2.out.blk.frozen 2
  have HP3 := Lib.hid (HP2.out.open_ (v2.o + 1))
  have HG3 := Lib.hid (grownBy_tr HG2.out (grownBy_setC w2 ⟨pb, 2, none⟩ (.int .i64 (v2.o + 1))))
  go_upto_region 4 with fail
  clear p2 f2 HP2 HG2
  generalize w2.setCell ⟨pb, 2, none⟩ (.int .i64 (v2.o + 1)) = w3 at HP3 HG3 ⊢
  have HO : Hid (0 ≤ v2.o ∧ v2.o + 1 ≤ 20) := Lib.hid ⟨ho0, ho1⟩
  clear ho0 ho1
  go_wp2_with fail
  refine (HRC.out w3 ⟨v2.i, v2.o + 1, v2.b⟩ HP3.out ⟨by have := HO.out; show 0 ≤ v2.o + 1; omega, HO.out.2, by have := HI.out.2.2; rw [HV2.out]; exact this⟩ (by have := HFU.out; rw [HV2.out]; simp only [Pr.St.go]; omega)).mono ?_; intro en w4 ho
  rcases hm4 : Pr.stmts (l.map Pr.tk) n ⟨v2.i, v2.o + 1, v2.b⟩ with n | ⟨a4, v4⟩
  · obtain ⟨p, rfl, g4⟩ := ho.of_err hm4
    exact ⟨rfl, Outc.err (by rw [HR.out]; simp only [Pr.block, Pr.th, HM1.out, HM2.out, hm4]) (grownBy_tr HG3.out g4)⟩
  have HST := Lib.hid (Pr.stmts_stp _ _ _ _ hm4)
  obtain ⟨v, rfl, ⟨sp, sc, s, rfl, hse, hsl⟩, h4, g4⟩ := ho.of_ok hm4
  have HM4 := Lib.hid hm4; have HP4 := Lib.hid h4; have HG4 := Lib.hid (grownBy_tr HG3.out g4); have HSE := Lib.hid hse
  have HSL : Hid (sLies (fresh w.heap.size w4) sp s) := Lib.hid (sLies_ext (fresh_mono HG3.out.size _) hsl)
  clear h4 g4 ho hm4 hse hsl HP3 HG3
  go_wp2_with fail
  refine (must_any ⟨#[125]⟩ (by decide) w4 v4 HP4.out HL.out).mono ?_; intro en w5 ho
  rcases hm5 : Pr.must (l.map Pr.tk) ⟨#[125]⟩ v4 with n | ⟨a5, v5⟩
  · obtain ⟨p, rfl, g5⟩ := ho.of_err hm5
    exact ⟨rfl, Outc.err (by rw [HR.out]; simp only [Pr.block, Pr.th, HM1.out, HM2.out, HM4.out, hm5]) (grownBy_tr HG4.out g5)⟩
  obtain ⟨v, rfl, ⟨xx5, rfl, _⟩, h5, g5⟩ := ho.of_ok hm5
  have ho0 : 1 ≤ v5.o := by have h1 := (Pr.must_fwd hm5).2.1; have h2 := HST.out.2.1; have h3 := HO.out.1; simp only at h2; omega
  have ho1 : v5.o ≤ 20 := by have h1 := (Pr.must_fwd hm5).2.1; have h2 := HST.out.2.1; have h3 := HO.out.2; simp only at h2; omega
  have HM5 := Lib.hid hm5; have HP5 := Lib.hid h5; have HG5 := Lib.hid (grownBy_tr HG4.out g5)
  have HSL5 : Hid (sLies (fresh w.heap.size w5) sp s) := Lib.hid (sLies_ext (fresh_par g5 HLT.out) HSL.out)
  clear h5 g5 ho hm5 HP4 HG4 HSL
  have p2 : w5.cell? ⟨pb, 2, none⟩ = some (.int .i64 v5.o) := HP5.out.blk.cell 2
  have f2 := HP5.out.blk.frozen 2
  have HP6 := Lib.hid (HP5.out.open_ (v5.o - 1))
  have HG6 := Lib.hid (grownBy_tr HG5.out (grownBy_setC w5 ⟨pb, 2, none⟩ (.int .i64 (v5.o - 1))))
  have HSL6 : Hid (sLies (fresh w.heap.size (w5.setCell ⟨pb, 2, none⟩ (.int .i64 (v5.o - 1)))) sp s) := Lib.hid (sLies_ext (fresh_par (grownBy_setC w5 ⟨pb, 2, none⟩ _) HLT.out) HSL5.out)
  go_upto_region 7 with fail
  clear p2 f2 HP5 HG5 HSL5 ho0 ho1
  generalize w5.setCell ⟨pb, 2, none⟩ (.int .i64 (v5.o - 1)) = w6 at HP6 HG6 HSL6 ⊢
  go_wp2_with fail
  exact bodyPost_ret (v := .slice sp s.len sc) (results_tmp (t := 2) rfl _ _ _) rfl (Outc.ok (u := ⟨v5.i, v5.o - 1, v5.b⟩) (a := a4) (by rw [HR.out]; simp only [Pr.block, Pr.th, HM1.out, HM2.out, HM4.out, HM5.out]) HG6.out ⟨sp, sc, s, rfl, HSE.out, HSL6.out⟩ HP6.out)
set_option maxHeartbeats 1600000 in
set_option maxRecDepth 100000 in
theorem loop_any (n : Nat) (hrec : SRec pb sb cap l n) (w : World) (u : Pr.St) (S : Nat) (p0 : Int) (h : PS w pb sb cap l u.i u.o u.b) (hg : Good l) (hk : Bk w S 52 (it0 p0).cells.toArray) (hn : S ≠ pb ∧ S ≠ sb) (hi : Pr.Inv u) (hf : l.length < u.i + 1 + n) :
    Calls Tryd.prog 47 #[.pointer (some ⟨pb, 0, none⟩), .pointer (some ⟨S, 0, none⟩)] w (OutS itB w pb sb cap S l (Pr.loop (l.map Pr.tk) (Pr.stmts (l.map Pr.tk) n) u)) := by
  obtain ⟨r, hr⟩ : ∃ r, r = Pr.loop (l.map Pr.tk) (Pr.stmts (l.map Pr.tk) n) u := ⟨_, rfl⟩
  rw [← hr]
  have HR := Lib.hid hr
  have HL := Lib.hid hg
  have HP0 := Lib.hid h
  have HSN : Hid (S ≠ pb ∧ S ≠ sb ∧ S < w.heap.size ∧ pb < w.heap.size) := Lib.hid ⟨hn.1, hn.2, hk.lt, h.pb_lt⟩
  have HG0 : Hid (Gr2 w w pb S) := Lib.hid (Gr2.refl _ _ _)
  obtain ⟨x0, hx0⟩ : ∃ x, x = it0 p0 := ⟨_, rfl⟩
  have HX0 : Hid (Stc w w S x0) := Lib.hid (by rw [hx0]; exact Stc.zero p0 hk)
  have HE0 := Lib.hid hx0
  have HI := Lib.hid hi
  have HFU := Lib.hid hf
  have HRC := Lib.hid hrec
  clear h hg hr hk hn hx0 hi hf hrec
  go_enter Tryd.func47, Tryd.ntmps47
  have s0 : w.cell? ⟨S, 0, none⟩ = some (.int .i64 x0.h.kind) := HX0.out.1.cell 0
  have f0 := HX0.out.1.frozen 0
  have gS := grownBy_setC w ⟨S, 0, none⟩ (.int .i64 5)
  have HP1 := Lib.hid (HP0.out.far gS HSN.out.1 HSN.out.2.1)
  have HG1 := Lib.hid (HG0.out.two gS)
  have HX1 : Hid (Stc w (w.setCell ⟨S, 0, none⟩ (.int .i64 5)) S { x0 with h := { x0.h with kind := 5 } }) := Lib.hid (HX0.out.kind HSN.out.2.2.1 5)
  clear gS
  go_upto_region 1 with fail
  clear s0 f0 HP0 HG0 HX0
  generalize w.setCell ⟨S, 0, none⟩ (.int .i64 5) = w1 at HP1 HG1 HX1 ⊢
  obtain ⟨x1, hx1⟩ : ∃ x : It, x = { x0 with h := { x0.h with kind := 5 } } := ⟨_, rfl⟩
  rw [← hx1] at HX1
  have HE1 := Lib.hid hx1
  clear hx1
  go_wp2_with fail
  refine (must_any ⟨#[119, 104, 105, 108, 101]⟩ (by decide) w1 u HP1.out HL.out).mono ?_; intro en w2 ho
  rcases hm1 : Pr.must (l.map Pr.tk) ⟨#[119, 104, 105, 108, 101]⟩ u with n | ⟨a1, v1⟩
  · obtain ⟨p, rfl, g⟩ := ho.of_err hm1
    exact ⟨rfl, OutS.err (by rw [HR.out]; simp only [Pr.loop, Pr.th, hm1]) (HG1.out.one g)⟩
  obtain ⟨v, rfl, ⟨xx, rfl, _⟩, h, g⟩ := ho.of_ok hm1
  have HM1 := Lib.hid hm1; have HP2 := Lib.hid h; have HG2 := Lib.hid (HG1.out.one g); have HX2 := Lib.hid (HX1.out.par g HSN.out.1 HSN.out.2.2.2)
  clear h g ho hm1 HP1 HG1 HX1
  have HF1 := Lib.hid (Pr.must_fwd HM1.out)
  go_wp2_with fail
  refine (held_any w2 v1 HP2.out HL.out).mono ?_; intro en w3 ho
  rcases hm2 : Pr.held (l.map Pr.tk) v1 with n | ⟨a2, v2⟩
  · obtain ⟨p, rfl, g⟩ := ho.of_err hm2
    exact ⟨rfl, OutS.err (by rw [HR.out]; simp only [Pr.loop, Pr.th, HM1.out, hm2]) (HG2.out.one g)⟩
  obtain ⟨v, rfl, ⟨y, rfl, hz, hlie⟩, h, g⟩ := ho.of_ok hm2
  have HM2 := Lib.hid hm2; have HP3 := Lib.hid h; have HG3 := Lib.hid (HG2.out.one g); have HX3 := Lib.hid (HX2.out.par g HSN.out.1 HSN.out.2.2.2)
  have HZ := Lib.hid hz; have HY : Hid (kCd.R (fresh w.heap.size w3) y) := Lib.hid (kCd.ext y (fresh_mono HG2.out.size _) hlie); clear hz hlie
  clear h g ho hm2 HP2 HG2 HX2
  have HF2 := Lib.hid (HF1.out.tr (Pr.held_fwd HM2.out))
  go_upto_region 3 with (first | ((with_reducible show wpList _ _ _ (Oper.mk none (Op.store 49 (Operand.tmp 13) (Operand.tmp 11)) _ _ _ _ :: _) _ _); refine wpList_store_part rfl 49 (.tmp 13) (.tmp 11) rfl S 17 52 x1.cells (Cd.cells y) rfl rfl HX3.out.1 size49 (show 17+26 ≤ 48 by decide) (kCd.one y) ?_; intro w4 hB hF))
  have HP4 := Lib.hid (HP3.out.far hF HSN.out.1 HSN.out.2.1); have HG4 := Lib.hid (HG3.out.two hF)
  have HX4 : Hid (Stc w w4 S { x1 with h := { x1.h with cond := y } }) := Lib.hid (HX3.out.cond HSN.out.2.2.1 hB hF HY.out)
  clear hB hF HP3 HG3 HX3
  obtain ⟨x2, hx2⟩ : ∃ x : It, x = { x1 with h := { x1.h with cond := y } } := ⟨_, rfl⟩
  rw [← hx2] at HX4
  have HE2 := Lib.hid hx2
  clear hx2
  go_wp2_with fail
  refine (block_any n HRC.out w4 v2 HP4.out HL.out (HF2.out.inv HI.out) (by have := HFU.out; have := HF2.out.1; omega)).mono ?_; intro en w5 ho
  rcases hm3 : Pr.block (l.map Pr.tk) (Pr.stmts (l.map Pr.tk) n) v2 with n | ⟨a3, v3⟩
  · obtain ⟨p, rfl, g⟩ := ho.of_err hm3
    exact ⟨rfl, OutS.err (by rw [HR.out]; simp only [Pr.loop, Pr.th, HM1.out, HM2.out, hm3]) (HG4.out.one g)⟩
  obtain ⟨v, rfl, ⟨sp1, sc1, s1, rfl, hse, hsl⟩, h, g⟩ := ho.of_ok hm3
  have HM3 := Lib.hid hm3; have HP5 := Lib.hid h; have HG5 := Lib.hid (HG4.out.one g); have HX5 := Lib.hid (HX4.out.par g HSN.out.1 HSN.out.2.2.2)
  have HSE1 := Lib.hid hse; have HSL1 : Hid (sLies (fresh w.heap.size w5) sp1 s1) := Lib.hid (sLies_ext (fresh_mono HG4.out.size _) hsl); clear hse hsl
  clear h g ho hm3 HP4 HG4 HX4
  have s0 : w5.cell? ⟨S, 45, none⟩ = some (.slice x2.tp x2.t.len x2.tc) := HX5.out.1.cell 45
  have f0 := HX5.out.1.frozen 45
  go_wp2_with fail
  go_end0
  have gS := grownBy_setC w5 ⟨S, 45, none⟩ (.slice sp1 s1.len sc1)
  exact OutS.ok (u := v3) (a := ({ Pr.noHd with kind := 5, cond := a2 }, a3, .nil)) (x := { x2 with tp := sp1, tc := sc1, t := s1 }) (by rw [HR.out]; simp only [Pr.loop, Pr.th, HM1.out, HM2.out, HM3.out]) (HG5.out.two gS) (by rw [HE2.out, HE1.out, HE0.out, ← HZ.out, ← HSE1.out]; rfl) (HX5.out.then_ HSN.out.2.2.1 sp1 sc1 s1 HSL1.out) (HP5.out.far gS HSN.out.1 HSN.out.2.1)
set_option maxHeartbeats 1600000 in
set_option maxRecDepth 100000 in
theorem branch_any (n : Nat) (hrec : SRec pb sb cap l n) (w : World) (u : Pr.St) (S : Nat) (p0 : Int) (h : PS w pb sb cap l u.i u.o u.b) (hg : Good l) (hk : Bk w S 52 (it0 p0).cells.toArray) (hn : S ≠ pb ∧ S ≠ sb) (hi : Pr.Inv u) (hf : l.length < u.i + 1 + n) :
    Calls Tryd.prog 46 #[.pointer (some ⟨pb, 0, none⟩), .pointer (some ⟨S, 0, none⟩)] w (OutS itB w pb sb cap S l (Pr.branch (l.map Pr.tk) (Pr.stmts (l.map Pr.tk) n) u)) := by
  obtain ⟨r, hr⟩ : ∃ r, r = Pr.branch (l.map Pr.tk) (Pr.stmts (l.map Pr.tk) n) u := ⟨_, rfl⟩
  rw [← hr]
  have HR := Lib.hid hr
  have HL := Lib.hid hg
  have HP0 := Lib.hid h
  have HSN : Hid (S ≠ pb ∧ S ≠ sb ∧ S < w.heap.size ∧ pb < w.heap.size) := Lib.hid ⟨hn.1, hn.2, hk.lt, h.pb_lt⟩
  have HG0 : Hid (Gr2 w w pb S) := Lib.hid (Gr2.refl _ _ _)
  obtain ⟨x0, hx0⟩ : ∃ x, x = it0 p0 := ⟨_, rfl⟩
  have HX0 : Hid (Stc w w S x0) := Lib.hid (by rw [hx0]; exact Stc.zero p0 hk)
  have HE0 := Lib.hid hx0
  have HI := Lib.hid hi
  have HFU := Lib.hid hf
  have HRC := Lib.hid hrec
  clear h hg hr hk hn hx0 hi hf hrec
  go_enter Tryd.func46, Tryd.ntmps46
  have s0 : w.cell? ⟨S, 0, none⟩ = some (.int .i64 x0.h.kind) := HX0.out.1.cell 0
  have f0 := HX0.out.1.frozen 0
  have gS := grownBy_setC w ⟨S, 0, none⟩ (.int .i64 4)
  have HP1 := Lib.hid (HP0.out.far gS HSN.out.1 HSN.out.2.1)
  have HG1 := Lib.hid (HG0.out.two gS)
  have HX1 : Hid (Stc w (w.setCell ⟨S, 0, none⟩ (.int .i64 4)) S { x0 with h := { x0.h with kind := 4 } }) := Lib.hid (HX0.out.kind HSN.out.2.2.1 4)
  clear gS
  go_upto_region 1 with fail
  clear s0 f0 HP0 HG0 HX0
  generalize w.setCell ⟨S, 0, none⟩ (.int .i64 4) = w1 at HP1 HG1 HX1 ⊢
  obtain ⟨x1, hx1⟩ : ∃ x : It, x = { x0 with h := { x0.h with kind := 4 } } := ⟨_, rfl⟩
  rw [← hx1] at HX1
  have HE1 := Lib.hid hx1
  clear hx1
  go_wp2_with fail
  refine (must_any ⟨#[105, 102]⟩ (by decide) w1 u HP1.out HL.out).mono ?_; intro en w2 ho
  rcases hm1 : Pr.must (l.map Pr.tk) ⟨#[105, 102]⟩ u with n | ⟨a1, v1⟩
  · obtain ⟨p, rfl, g⟩ := ho.of_err hm1
    exact ⟨rfl, OutS.err (by rw [HR.out]; simp only [Pr.branch, Pr.th, hm1]) (HG1.out.one g)⟩
  obtain ⟨v, rfl, ⟨xx, rfl, _⟩, h, g⟩ := ho.of_ok hm1
  have HM1 := Lib.hid hm1; have HP2 := Lib.hid h; have HG2 := Lib.hid (HG1.out.one g); have HX2 := Lib.hid (HX1.out.par g HSN.out.1 HSN.out.2.2.2)
  clear h g ho hm1 HP1 HG1 HX1
  have HF1 := Lib.hid (Pr.must_fwd HM1.out)
  go_wp2_with fail
  refine (held_any w2 v1 HP2.out HL.out).mono ?_; intro en w3 ho
  rcases hm2 : Pr.held (l.map Pr.tk) v1 with n | ⟨a2, v2⟩
  · obtain ⟨p, rfl, g⟩ := ho.of_err hm2
    exact ⟨rfl, OutS.err (by rw [HR.out]; simp only [Pr.branch, Pr.th, HM1.out, hm2]) (HG2.out.one g)⟩
  obtain ⟨v, rfl, ⟨y, rfl, hz, hlie⟩, h, g⟩ := ho.of_ok hm2
  have HM2 := Lib.hid hm2; have HP3 := Lib.hid h; have HG3 := Lib.hid (HG2.out.one g); have HX3 := Lib.hid (HX2.out.par g HSN.out.1 HSN.out.2.2.2)
  have HZ := Lib.hid hz; have HY : Hid (kCd.R (fresh w.heap.size w3) y) := Lib.hid (kCd.ext y (fresh_mono HG2.out.size _) hlie); clear hz hlie
  clear h g ho hm2 HP2 HG2 HX2
  have HF2 := Lib.hid (HF1.out.tr (Pr.held_fwd HM2.out))
  go_upto_region 3 with (first | ((with_reducible show wpList _ _ _ (Oper.mk none (Op.store 49 (Operand.tmp 13) (Operand.tmp 11)) _ _ _ _ :: _) _ _); refine wpList_store_part rfl 49 (.tmp 13) (.tmp 11) rfl S 17 52 x1.cells (Cd.cells y) rfl rfl HX3.out.1 size49 (show 17+26 ≤ 48 by decide) (kCd.one y) ?_; intro w4 hB hF))
  have HP4 := Lib.hid (HP3.out.far hF HSN.out.1 HSN.out.2.1); have HG4 := Lib.hid (HG3.out.two hF)
  have HX4 : Hid (Stc w w4 S { x1 with h := { x1.h with cond := y } }) := Lib.hid (HX3.out.cond HSN.out.2.2.1 hB hF HY.out)
  clear hB hF HP3 HG3 HX3
  obtain ⟨x2, hx2⟩ : ∃ x : It, x = { x1 with h := { x1.h with cond := y } } := ⟨_, rfl⟩
  rw [← hx2] at HX4
  have HE2 := Lib.hid hx2
  clear hx2
  go_wp2_with fail
  refine (block_any n HRC.out w4 v2 HP4.out HL.out (HF2.out.inv HI.out) (by have := HFU.out; have := HF2.out.1; omega)).mono ?_; intro en w5 ho
  rcases hm3 : Pr.block (l.map Pr.tk) (Pr.stmts (l.map Pr.tk) n) v2 with n | ⟨a3, v3⟩
  · obtain ⟨p, rfl, g⟩ := ho.of_err hm3
    exact ⟨rfl, OutS.err (by rw [HR.out]; simp only [Pr.branch, Pr.th, HM1.out, HM2.out, hm3]) (HG4.out.one g)⟩
  obtain ⟨v, rfl, ⟨sp1, sc1, s1, rfl, hse, hsl⟩, h, g⟩ := ho.of_ok hm3
  have HM3 := Lib.hid hm3; have HP5 := Lib.hid h; have HG5 := Lib.hid (HG4.out.one g); have HX5 := Lib.hid (HX4.out.par g HSN.out.1 HSN.out.2.2.2)
  have HSE1 := Lib.hid hse; have HSL1 : Hid (sLies (fresh w.heap.size w5) sp1 s1) := Lib.hid (sLies_ext (fresh_mono HG4.out.size _) hsl); clear hse hsl
  clear h g ho hm3 HP4 HG4 HX4
  have s0 : w5.cell? ⟨S, 45, none⟩ = some (.slice x2.tp x2.t.len x2.tc) := HX5.out.1.cell 45
  have f0 := HX5.out.1.frozen 45
  have gS := grownBy_setC w5 ⟨S, 45, none⟩ (.slice sp1 s1.len sc1)
  have HP6 := Lib.hid (HP5.out.far gS HSN.out.1 HSN.out.2.1)
  have HG6 := Lib.hid (HG5.out.two gS)
  have HX6 : Hid (Stc w (w5.setCell ⟨S, 45, none⟩ (.slice sp1 s1.len sc1)) S { x2 with tp := sp1, tc := sc1, t := s1 }) := Lib.hid (HX5.out.then_ HSN.out.2.2.1 sp1 sc1 s1 HSL1.out)
  clear gS
  go_upto_region 4 with fail
  clear s0 f0 HP5 HG5 HX5
  generalize w5.setCell ⟨S, 45, none⟩ (.slice sp1 s1.len sc1) = w6 at HP6 HG6 HX6 ⊢
  obtain ⟨x3, hx3⟩ : ∃ x : It, x = { x2 with tp := sp1, tc := sc1, t := s1 } := ⟨_, rfl⟩
  rw [← hx3] at HX6
  have HE3 := Lib.hid hx3
  clear hx3
  have HS3 := Lib.hid (HF2.out.stp.tr (Pr.block_stp (fun u l v h => Pr.stmts_stp _ u l v h) HM3.out))
  go_wp2_with fail
  refine (may_any ⟨#[101, 108, 115, 101]⟩ (by decide) w6 v3 HP6.out HL.out).mono ?_; rintro en w7 ⟨q, hq, rfl, h, g⟩
  have HP7 := Lib.hid h; have HG7 := Lib.hid (HG6.out.one g); have HX7 := Lib.hid (HX6.out.par g HSN.out.1 HSN.out.2.2.2); have HQ := Lib.hid hq
  clear h g hq HP6 HG6 HX6
  cases q with
  | false =>
    go_wp2_with fail
    go_end0
    exact OutS.ok (u := v3) (a := ({ Pr.noHd with kind := 4, cond := a2 }, a3, .nil)) (x := x3) (by rw [HR.out]; simp only [Pr.branch, HQ.out, Bool.false_eq_true, if_false, Pr.th, HM1.out, HM2.out, HM3.out]) HG7.out (by rw [HE3.out, HE2.out, HE1.out, HE0.out, ← HZ.out, ← HSE1.out]; rfl) HX7.out HP7.out
  | true =>
    have s0 : w7.cell? ⟨S, 47, none⟩ = some (.bool x3.h.both) := HX7.out.1.cell 47
    have f0 := HX7.out.1.frozen 47
    have gS := grownBy_setC w7 ⟨S, 47, none⟩ (.bool true)
    have HP8 := Lib.hid (HP7.out.far gS HSN.out.1 HSN.out.2.1)
    have HG8 := Lib.hid (HG7.out.two gS)
    have HX8 : Hid (Stc w (w7.setCell ⟨S, 47, none⟩ (.bool true)) S { x3 with h := { x3.h with both := true } }) := Lib.hid (HX7.out.both HSN.out.2.2.1 true)
    clear gS
    go_upto_region 6 with fail
    clear s0 f0 HP7 HG7 HX7
    generalize w7.setCell ⟨S, 47, none⟩ (.bool true) = w8 at HP8 HG8 HX8 ⊢
    obtain ⟨x4, hx4⟩ : ∃ x : It, x = { x3 with h := { x3.h with both := true } } := ⟨_, rfl⟩
    rw [← hx4] at HX8
    have HE4 := Lib.hid hx4
    clear hx4
    go_wp2_with fail
    refine (block_any n HRC.out w8 v3.go HP8.out HL.out (HS3.out.2.2 HI.out) (by have := HFU.out; have := HS3.out.1; simp only [Pr.St.go]; omega)).mono ?_; intro en w9 ho
    rcases hm4 : Pr.block (l.map Pr.tk) (Pr.stmts (l.map Pr.tk) n) v3.go with n | ⟨a4, v4⟩
    · obtain ⟨p, rfl, g⟩ := ho.of_err hm4
      exact ⟨rfl, OutS.err (by rw [HR.out]; simp only [Pr.branch, HQ.out, if_true, Pr.th, HM1.out, HM2.out, HM3.out, hm4]) (HG8.out.one g)⟩
    obtain ⟨v, rfl, ⟨sp2, sc2, s2, rfl, hse, hsl⟩, h, g⟩ := ho.of_ok hm4
    have HM4 := Lib.hid hm4; have HP9 := Lib.hid h; have HG9 := Lib.hid (HG8.out.one g); have HX9 := Lib.hid (HX8.out.par g HSN.out.1 HSN.out.2.2.2)
    have HSE2 := Lib.hid hse; have HSL2 : Hid (sLies (fresh w.heap.size w9) sp2 s2) := Lib.hid (sLies_ext (fresh_mono HG8.out.size _) hsl); clear hse hsl
    clear h g ho hm4 HP8 HG8 HX8
    have s0 : w9.cell? ⟨S, 46, none⟩ = some (.slice x4.ep x4.e.len x4.ec) := HX9.out.1.cell 46
    have f0 := HX9.out.1.frozen 46
    go_wp2_with fail
    go_end0
    have gS := grownBy_setC w9 ⟨S, 46, none⟩ (.slice sp2 s2.len sc2)
    exact OutS.ok (u := v4) (a := ({ Pr.noHd with kind := 4, cond := a2, both := true }, a3, a4)) (x := { x4 with ep := sp2, ec := sc2, e := s2 }) (by rw [HR.out]; simp only [Pr.branch, HQ.out, if_true, Pr.th, HM1.out, HM2.out, HM3.out, HM4.out]) (HG9.out.two gS) (by rw [HE4.out, HE3.out, HE2.out, HE1.out, HE0.out, ← HZ.out, ← HSE1.out, ← HSE2.out]; rfl) (HX9.out.else_ HSN.out.2.2.1 sp2 sc2 s2 (sLies_ext (Ext.refl _) HSL2.out)) (HP9.out.far gS HSN.out.1 HSN.out.2.1)
end
end Go.Proofs.YtlpnkllhpienhaaDoor
