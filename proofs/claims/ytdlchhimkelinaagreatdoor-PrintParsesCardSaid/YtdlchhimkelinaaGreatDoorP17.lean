/-
  The walks of the parser's blocks, branches and loops. The walk of the parser's statement. The walk of the parser's statements. The walks of the parser's structs and procedures.
-/
import Derived.Test.YtdlchhimkelinaaGreatDoorP16
set_option maxHeartbeats 6400000
set_option maxRecDepth 100000
namespace Go.Proofs.YtdlchhimkelinaaGreatDoor
open Go.RowKit Go.Sort
attribute [local go_sem] field79_0 field79_1 field79_2 field79_3
section
variable {pb sb cap : Nat} {l : List Tx.Sg}
/-- Statements, as they are handed back. -/
def SLs (B : Nat) (w : World) (v : Value) (a : SL) : Prop := ∃ (p : Option Addr) (c : Nat) (s : SL), v = .slice p s.len c ∧ s.er = a ∧ sLies (fresh B w) p s
/-- What the parser of statements does, with fuel n. -/
def SRec (pb sb cap : Nat) (l : List Tx.Sg) (n : Nat) : Prop := ∀ (w : World) (u : Pr.St), PS w pb sb cap l u.i u.o u.b → Pr.Inv u → l.length < u.i + n →
 Calls Tryz.prog 105 #[.pointer (some ⟨pb, 0, none⟩)] w (Outc (SLs w.heap.size) w pb sb cap l (Pr.stmts (l.map Pr.tk) n u))
theorem block_any (n : Nat) (hrec : SRec pb sb cap l n) (w : World) (u : Pr.St) (h : PS w pb sb cap l u.i u.o u.b) (hg : Good l) (hi : Pr.Inv u) (hf : l.length < u.i + 1 + n) :
  Calls Tryz.prog 161 #[.pointer (some ⟨pb, 0, none⟩)] w (Outc (SLs w.heap.size) w pb sb cap l (Pr.block (l.map Pr.tk) (Pr.stmts (l.map Pr.tk) n) u)) := by
 obtain ⟨r, hr⟩ : ∃ r, r = Pr.block (l.map Pr.tk) (Pr.stmts (l.map Pr.tk) n) u := ⟨_, rfl⟩
 rw [← hr]
 have HR := hdn hr
 have HL := hdn hg
 have HP := hdn h
 have HLT : Hid (pb < w.heap.size) := hdn h.pb_lt
 have HI := hdn hi
 have HFU := hdn hf
 have HRC := hdn hrec
 clear h hg hr hi hf hrec
 go_enter Tryz.func161, Tryz.ntmps161
 go_wp2_with fail
 refine (mustHold_any w u HP.out HL.out).mono ?_; intro en w1 ho
 rcases hm1 : Pr.mustHold (l.map Pr.tk) u with n | ⟨a1, v1⟩
 ·obtain ⟨p, rfl, g1⟩ := ho.of_err hm1
  exact ⟨rfl, Outc.err (by rw [HR.out]; simp only [Pr.block, Pr.th, hm1]) g1⟩
 obtain ⟨v, rfl, rfl, h1, g1⟩ := ho.of_ok hm1
 obtain ⟨hv1, hn20⟩ := Pr.mustHold_ok hm1
 subst hv1
 have HM1 := hdn hm1; have HN := hdn hn20; have HP1 := hdn h1; have HG1 := hdn g1
 clear h1 g1 ho hm1 hn20 HP
 go_wp2_with fail
 refine (must_any ⟨#[123]⟩ (by decide) w1 v1 HP1.out HL.out).mono ?_; intro en w2 ho
 rcases hm2 : Pr.must (l.map Pr.tk) ⟨#[123]⟩ v1 with n | ⟨a2, v2⟩
 ·obtain ⟨p, rfl, g2⟩ := ho.of_err hm2
  exact ⟨rfl, Outc.err (by rw [HR.out]; simp only [Pr.block, Pr.th, HM1.out, hm2]) (grownBy_tr HG1.out g2)⟩
 obtain ⟨v, rfl, ⟨xx, rfl, _⟩, h2, g2⟩ := ho.of_ok hm2
 have HM2 := hdn hm2; have HP2 := hdn h2; have HG2 := hdn (grownBy_tr HG1.out g2)
 obtain ⟨hs2, hv2⟩ := Pr.must_is hm2
 have ho0 : 0 ≤ v2.o := by rw [hv2]; exact HI.out.1
 have ho1 : v2.o + 1 ≤ 20 := by have := HN.out hs2; have := HI.out.2.1; rw [hv2]; simp only [Pr.St.go]; omega
 have HV2 := hdn hv2
 clear h2 g2 ho hm2 HP1 HG1 hs2 hv2
 have p2 : w2.cell? ⟨pb, 2, none⟩ = some (.int .i64 v2.o) := HP2.out.blk.cell 2
 have f2 := HP2.out.blk.frozen 2
 have HP3 := hdn (HP2.out.open_ (v2.o + 1))
 have HG3 := hdn (grownBy_tr HG2.out (grownBy_setC w2 ⟨pb, 2, none⟩ (.int .i64 (v2.o + 1))))
 go_upto_region 4 with fail
 clear p2 f2 HP2 HG2
 generalize w2.setCell ⟨pb, 2, none⟩ (.int .i64 (v2.o + 1)) = w3 at HP3 HG3 ⊢
 have HO : Hid (0 ≤ v2.o ∧ v2.o + 1 ≤ 20) := hdn ⟨ho0, ho1⟩
 clear ho0 ho1
 go_wp2_with fail
 refine (HRC.out w3 ⟨v2.i, v2.o + 1, v2.b⟩ HP3.out ⟨by have := HO.out; show 0 ≤ v2.o + 1; omega, HO.out.2, by have := HI.out.2.2; rw [HV2.out]; exact this⟩ (by have := HFU.out; rw [HV2.out]; simp only [Pr.St.go]; omega)).mono ?_; intro en w4 ho
 rcases hm4 : Pr.stmts (l.map Pr.tk) n ⟨v2.i, v2.o + 1, v2.b⟩ with n | ⟨a4, v4⟩
 ·obtain ⟨p, rfl, g4⟩ := ho.of_err hm4
  exact ⟨rfl, Outc.err (by rw [HR.out]; simp only [Pr.block, Pr.th, HM1.out, HM2.out, hm4]) (grownBy_tr HG3.out g4)⟩
 have HST := hdn (Pr.stmts_stp _ _ _ _ hm4)
 obtain ⟨v, rfl, ⟨sp, sc, s, rfl, hse, hsl⟩, h4, g4⟩ := ho.of_ok hm4
 have HM4 := hdn hm4; have HP4 := hdn h4; have HG4 := hdn (grownBy_tr HG3.out g4); have HSE := hdn hse
 have HSL : Hid (sLies (fresh w.heap.size w4) sp s) := hdn (sLies_ext (fresh_mono HG3.out.size _) hsl)
 clear h4 g4 ho hm4 hse hsl HP3 HG3
 go_wp2_with fail
 refine (must_any ⟨#[125]⟩ (by decide) w4 v4 HP4.out HL.out).mono ?_; intro en w5 ho
 rcases hm5 : Pr.must (l.map Pr.tk) ⟨#[125]⟩ v4 with n | ⟨a5, v5⟩
 ·obtain ⟨p, rfl, g5⟩ := ho.of_err hm5
  exact ⟨rfl, Outc.err (by rw [HR.out]; simp only [Pr.block, Pr.th, HM1.out, HM2.out, HM4.out, hm5]) (grownBy_tr HG4.out g5)⟩
 obtain ⟨v, rfl, ⟨xx5, rfl, _⟩, h5, g5⟩ := ho.of_ok hm5
 have ho0 : 1 ≤ v5.o := by have h1 := (Pr.must_fwd hm5).2.1; have h2 := HST.out.2.1; have h3 := HO.out.1; simp only at h2; omega
 have ho1 : v5.o ≤ 20 := by have h1 := (Pr.must_fwd hm5).2.1; have h2 := HST.out.2.1; have h3 := HO.out.2; simp only at h2; omega
 have HM5 := hdn hm5; have HP5 := hdn h5; have HG5 := hdn (grownBy_tr HG4.out g5)
 have HSL5 : Hid (sLies (fresh w.heap.size w5) sp s) := hdn (sLies_ext (fresh_par g5 HLT.out) HSL.out)
 clear h5 g5 ho hm5 HP4 HG4 HSL
 have p2 : w5.cell? ⟨pb, 2, none⟩ = some (.int .i64 v5.o) := HP5.out.blk.cell 2
 have f2 := HP5.out.blk.frozen 2
 have HP6 := hdn (HP5.out.open_ (v5.o - 1))
 have HG6 := hdn (grownBy_tr HG5.out (grownBy_setC w5 ⟨pb, 2, none⟩ (.int .i64 (v5.o - 1))))
 have HSL6 : Hid (sLies (fresh w.heap.size (w5.setCell ⟨pb, 2, none⟩ (.int .i64 (v5.o - 1)))) sp s) := hdn (sLies_ext (fresh_par (grownBy_setC w5 ⟨pb, 2, none⟩ _) HLT.out) HSL5.out)
 go_upto_region 7 with fail
 clear p2 f2 HP5 HG5 HSL5 ho0 ho1
 generalize w5.setCell ⟨pb, 2, none⟩ (.int .i64 (v5.o - 1)) = w6 at HP6 HG6 HSL6 ⊢
 go_wp2_with fail
 exact bodyPost_ret (v := .slice sp s.len sc) (results_tmp (t := 2) rfl _ _ _) rfl (Outc.ok (u := ⟨v5.i, v5.o - 1, v5.b⟩) (a := a4) (by rw [HR.out]; simp only [Pr.block, Pr.th, HM1.out, HM2.out, HM4.out, HM5.out]) HG6.out ⟨sp, sc, s, rfl, HSE.out, HSL6.out⟩ HP6.out)
theorem loop_any (n : Nat) (hrec : SRec pb sb cap l n) (w : World) (u : Pr.St) (S : Nat) (p0 : Int) (h : PS w pb sb cap l u.i u.o u.b) (hg : Good l) (hk : Bk w S 54 (it0 p0).cells.toArray) (hn : S ≠ pb ∧ S ≠ sb) (hi : Pr.Inv u) (hf : l.length < u.i + 1 + n) :
  Calls Tryz.prog 164 #[.pointer (some ⟨pb, 0, none⟩), .pointer (some ⟨S, 0, none⟩)] w (OutS itB w pb sb cap S l (Pr.loop (l.map Pr.tk) (Pr.stmts (l.map Pr.tk) n) u)) := by
 obtain ⟨r, hr⟩ : ∃ r, r = Pr.loop (l.map Pr.tk) (Pr.stmts (l.map Pr.tk) n) u := ⟨_, rfl⟩
 rw [← hr]
 have HR := hdn hr
 have HL := hdn hg
 have HP0 := hdn h
 have HSN : Hid (S ≠ pb ∧ S ≠ sb ∧ S < w.heap.size ∧ pb < w.heap.size) := hdn ⟨hn.1, hn.2, hk.lt, h.pb_lt⟩
 have HG0 : Hid (Gr2 w w pb S) := hdn (Gr2.refl _ _ _)
 obtain ⟨x0, hx0⟩ : ∃ x, x = it0 p0 := ⟨_, rfl⟩
 have HX0 : Hid (Stc w w S x0) := hdn (by rw [hx0]; exact Stc.zero p0 hk)
 have HE0 := hdn hx0
 have HI := hdn hi
 have HFU := hdn hf
 have HRC := hdn hrec
 clear h hg hr hk hn hx0 hi hf hrec
 go_enter Tryz.func164, Tryz.ntmps164
 have s0 : w.cell? ⟨S, 0, none⟩ = some (.int .i64 x0.h.kind) := HX0.out.1.cell 0
 have f0 := HX0.out.1.frozen 0
 have gS := grownBy_setC w ⟨S, 0, none⟩ (.int .i64 5)
 have HP1 := hdn (HP0.out.far gS HSN.out.1 HSN.out.2.1)
 have HG1 := hdn (HG0.out.two gS)
 have HX1 : Hid (Stc w (w.setCell ⟨S, 0, none⟩ (.int .i64 5)) S { x0 with h := { x0.h with kind := 5 } }) := hdn (HX0.out.kind HSN.out.2.2.1 5)
 clear gS
 go_upto_region 1 with fail
 clear s0 f0 HP0 HG0 HX0
 generalize w.setCell ⟨S, 0, none⟩ (.int .i64 5) = w1 at HP1 HG1 HX1 ⊢
 obtain ⟨x1, hx1⟩ : ∃ x : It, x = { x0 with h := { x0.h with kind := 5 } } := ⟨_, rfl⟩
 rw [← hx1] at HX1
 have HE1 := hdn hx1
 clear hx1
 go_wp2_with fail
 refine (must_any ⟨#[119, 104, 105, 108, 101]⟩ (by decide) w1 u HP1.out HL.out).mono ?_; intro en w2 ho
 rcases hm1 : Pr.must (l.map Pr.tk) ⟨#[119, 104, 105, 108, 101]⟩ u with n | ⟨a1, v1⟩
 ·obtain ⟨p, rfl, g⟩ := ho.of_err hm1
  exact ⟨rfl, OutS.err (by rw [HR.out]; simp only [Pr.loop, Pr.th, hm1]) (HG1.out.one g)⟩
 obtain ⟨v, rfl, ⟨xx, rfl, _⟩, h, g⟩ := ho.of_ok hm1
 have HM1 := hdn hm1; have HP2 := hdn h; have HG2 := hdn (HG1.out.one g); have HX2 := hdn (HX1.out.par g HSN.out.1 HSN.out.2.2.2)
 clear h g ho hm1 HP1 HG1 HX1
 have HF1 := hdn (Pr.must_fwd HM1.out)
 go_wp2_with fail
 refine (held_any w2 v1 HP2.out HL.out).mono ?_; intro en w3 ho
 rcases hm2 : Pr.held (l.map Pr.tk) v1 with n | ⟨a2, v2⟩
 ·obtain ⟨p, rfl, g⟩ := ho.of_err hm2
  exact ⟨rfl, OutS.err (by rw [HR.out]; simp only [Pr.loop, Pr.th, HM1.out, hm2]) (HG2.out.one g)⟩
 obtain ⟨v, rfl, ⟨y, rfl, hz, hlie⟩, h, g⟩ := ho.of_ok hm2
 have HM2 := hdn hm2; have HP3 := hdn h; have HG3 := hdn (HG2.out.one g); have HX3 := hdn (HX2.out.par g HSN.out.1 HSN.out.2.2.2)
 have HZ := hdn hz; have HY : Hid (kCd.R (fresh w.heap.size w3) y) := hdn (kCd.ext y (fresh_mono HG2.out.size _) hlie); clear hz hlie
 clear h g ho hm2 HP2 HG2 HX2
 have HF2 := hdn (HF1.out.tr (Pr.held_fwd HM2.out))
 go_upto_region 3 with (first | ((with_reducible show wpList _ _ _ (Oper.mk none (Op.store 51 (Operand.tmp 13) (Operand.tmp 11)) _ _ _ _ :: _) _ _); refine wpList_store_part rfl 51 (.tmp 13) (.tmp 11) rfl S 17 54 x1.cells (Cd.cells y) rfl rfl HX3.out.1 size49 (show 17+26 ≤ 48 by decide) (kCd.one y) ?_; intro w4 hB hF))
 have HP4 := hdn (HP3.out.far hF HSN.out.1 HSN.out.2.1); have HG4 := hdn (HG3.out.two hF)
 have HX4 : Hid (Stc w w4 S { x1 with h := { x1.h with cond := y } }) := hdn (HX3.out.cond HSN.out.2.2.1 hB hF HY.out)
 clear hB hF HP3 HG3 HX3
 obtain ⟨x2, hx2⟩ : ∃ x : It, x = { x1 with h := { x1.h with cond := y } } := ⟨_, rfl⟩
 rw [← hx2] at HX4
 have HE2 := hdn hx2
 clear hx2
 go_wp2_with fail
 refine (block_any n HRC.out w4 v2 HP4.out HL.out (HF2.out.inv HI.out) (by have := HFU.out; have := HF2.out.1; omega)).mono ?_; intro en w5 ho
 rcases hm3 : Pr.block (l.map Pr.tk) (Pr.stmts (l.map Pr.tk) n) v2 with n | ⟨a3, v3⟩
 ·obtain ⟨p, rfl, g⟩ := ho.of_err hm3
  exact ⟨rfl, OutS.err (by rw [HR.out]; simp only [Pr.loop, Pr.th, HM1.out, HM2.out, hm3]) (HG4.out.one g)⟩
 obtain ⟨v, rfl, ⟨sp1, sc1, s1, rfl, hse, hsl⟩, h, g⟩ := ho.of_ok hm3
 have HM3 := hdn hm3; have HP5 := hdn h; have HG5 := hdn (HG4.out.one g); have HX5 := hdn (HX4.out.par g HSN.out.1 HSN.out.2.2.2)
 have HSE1 := hdn hse; have HSL1 : Hid (sLies (fresh w.heap.size w5) sp1 s1) := hdn (sLies_ext (fresh_mono HG4.out.size _) hsl); clear hse hsl
 clear h g ho hm3 HP4 HG4 HX4
 have s0 : w5.cell? ⟨S, 45, none⟩ = some (.slice x2.tp x2.t.len x2.tc) := HX5.out.1.cell 45
 have f0 := HX5.out.1.frozen 45
 go_wp2_with fail
 go_end0
 have gS := grownBy_setC w5 ⟨S, 45, none⟩ (.slice sp1 s1.len sc1)
 exact OutS.ok (u := v3) (a := ({ Pr.noHd with kind := 5, cond := a2 }, a3, .nil)) (x := { x2 with tp := sp1, tc := sc1, t := s1 }) (by rw [HR.out]; simp only [Pr.loop, Pr.th, HM1.out, HM2.out, HM3.out]) (HG5.out.two gS) (by rw [HE2.out, HE1.out, HE0.out, ← HZ.out, ← HSE1.out]; rfl) (HX5.out.then_ HSN.out.2.2.1 sp1 sc1 s1 HSL1.out) (HP5.out.far gS HSN.out.1 HSN.out.2.1)
theorem branch_any (n : Nat) (hrec : SRec pb sb cap l n) (w : World) (u : Pr.St) (S : Nat) (p0 : Int) (h : PS w pb sb cap l u.i u.o u.b) (hg : Good l) (hk : Bk w S 54 (it0 p0).cells.toArray) (hn : S ≠ pb ∧ S ≠ sb) (hi : Pr.Inv u) (hf : l.length < u.i + 1 + n) :
  Calls Tryz.prog 163 #[.pointer (some ⟨pb, 0, none⟩), .pointer (some ⟨S, 0, none⟩)] w (OutS itB w pb sb cap S l (Pr.branch (l.map Pr.tk) (Pr.stmts (l.map Pr.tk) n) u)) := by
 obtain ⟨r, hr⟩ : ∃ r, r = Pr.branch (l.map Pr.tk) (Pr.stmts (l.map Pr.tk) n) u := ⟨_, rfl⟩
 rw [← hr]
 have HR := hdn hr
 have HL := hdn hg
 have HP0 := hdn h
 have HSN : Hid (S ≠ pb ∧ S ≠ sb ∧ S < w.heap.size ∧ pb < w.heap.size) := hdn ⟨hn.1, hn.2, hk.lt, h.pb_lt⟩
 have HG0 : Hid (Gr2 w w pb S) := hdn (Gr2.refl _ _ _)
 obtain ⟨x0, hx0⟩ : ∃ x, x = it0 p0 := ⟨_, rfl⟩
 have HX0 : Hid (Stc w w S x0) := hdn (by rw [hx0]; exact Stc.zero p0 hk)
 have HE0 := hdn hx0
 have HI := hdn hi
 have HFU := hdn hf
 have HRC := hdn hrec
 clear h hg hr hk hn hx0 hi hf hrec
 go_enter Tryz.func163, Tryz.ntmps163
 have s0 : w.cell? ⟨S, 0, none⟩ = some (.int .i64 x0.h.kind) := HX0.out.1.cell 0
 have f0 := HX0.out.1.frozen 0
 have gS := grownBy_setC w ⟨S, 0, none⟩ (.int .i64 4)
 have HP1 := hdn (HP0.out.far gS HSN.out.1 HSN.out.2.1)
 have HG1 := hdn (HG0.out.two gS)
 have HX1 : Hid (Stc w (w.setCell ⟨S, 0, none⟩ (.int .i64 4)) S { x0 with h := { x0.h with kind := 4 } }) := hdn (HX0.out.kind HSN.out.2.2.1 4)
 clear gS
 go_upto_region 1 with fail
 clear s0 f0 HP0 HG0 HX0
 generalize w.setCell ⟨S, 0, none⟩ (.int .i64 4) = w1 at HP1 HG1 HX1 ⊢
 obtain ⟨x1, hx1⟩ : ∃ x : It, x = { x0 with h := { x0.h with kind := 4 } } := ⟨_, rfl⟩
 rw [← hx1] at HX1
 have HE1 := hdn hx1
 clear hx1
 go_wp2_with fail
 refine (must_any ⟨#[105, 102]⟩ (by decide) w1 u HP1.out HL.out).mono ?_; intro en w2 ho
 rcases hm1 : Pr.must (l.map Pr.tk) ⟨#[105, 102]⟩ u with n | ⟨a1, v1⟩
 ·obtain ⟨p, rfl, g⟩ := ho.of_err hm1
  exact ⟨rfl, OutS.err (by rw [HR.out]; simp only [Pr.branch, Pr.th, hm1]) (HG1.out.one g)⟩
 obtain ⟨v, rfl, ⟨xx, rfl, _⟩, h, g⟩ := ho.of_ok hm1
 have HM1 := hdn hm1; have HP2 := hdn h; have HG2 := hdn (HG1.out.one g); have HX2 := hdn (HX1.out.par g HSN.out.1 HSN.out.2.2.2)
 clear h g ho hm1 HP1 HG1 HX1
 have HF1 := hdn (Pr.must_fwd HM1.out)
 go_wp2_with fail
 refine (held_any w2 v1 HP2.out HL.out).mono ?_; intro en w3 ho
 rcases hm2 : Pr.held (l.map Pr.tk) v1 with n | ⟨a2, v2⟩
 ·obtain ⟨p, rfl, g⟩ := ho.of_err hm2
  exact ⟨rfl, OutS.err (by rw [HR.out]; simp only [Pr.branch, Pr.th, HM1.out, hm2]) (HG2.out.one g)⟩
 obtain ⟨v, rfl, ⟨y, rfl, hz, hlie⟩, h, g⟩ := ho.of_ok hm2
 have HM2 := hdn hm2; have HP3 := hdn h; have HG3 := hdn (HG2.out.one g); have HX3 := hdn (HX2.out.par g HSN.out.1 HSN.out.2.2.2)
 have HZ := hdn hz; have HY : Hid (kCd.R (fresh w.heap.size w3) y) := hdn (kCd.ext y (fresh_mono HG2.out.size _) hlie); clear hz hlie
 clear h g ho hm2 HP2 HG2 HX2
 have HF2 := hdn (HF1.out.tr (Pr.held_fwd HM2.out))
 go_upto_region 3 with (first | ((with_reducible show wpList _ _ _ (Oper.mk none (Op.store 51 (Operand.tmp 13) (Operand.tmp 11)) _ _ _ _ :: _) _ _); refine wpList_store_part rfl 51 (.tmp 13) (.tmp 11) rfl S 17 54 x1.cells (Cd.cells y) rfl rfl HX3.out.1 size49 (show 17+26 ≤ 48 by decide) (kCd.one y) ?_; intro w4 hB hF))
 have HP4 := hdn (HP3.out.far hF HSN.out.1 HSN.out.2.1); have HG4 := hdn (HG3.out.two hF)
 have HX4 : Hid (Stc w w4 S { x1 with h := { x1.h with cond := y } }) := hdn (HX3.out.cond HSN.out.2.2.1 hB hF HY.out)
 clear hB hF HP3 HG3 HX3
 obtain ⟨x2, hx2⟩ : ∃ x : It, x = { x1 with h := { x1.h with cond := y } } := ⟨_, rfl⟩
 rw [← hx2] at HX4
 have HE2 := hdn hx2
 clear hx2
 go_wp2_with fail
 refine (block_any n HRC.out w4 v2 HP4.out HL.out (HF2.out.inv HI.out) (by have := HFU.out; have := HF2.out.1; omega)).mono ?_; intro en w5 ho
 rcases hm3 : Pr.block (l.map Pr.tk) (Pr.stmts (l.map Pr.tk) n) v2 with n | ⟨a3, v3⟩
 ·obtain ⟨p, rfl, g⟩ := ho.of_err hm3
  exact ⟨rfl, OutS.err (by rw [HR.out]; simp only [Pr.branch, Pr.th, HM1.out, HM2.out, hm3]) (HG4.out.one g)⟩
 obtain ⟨v, rfl, ⟨sp1, sc1, s1, rfl, hse, hsl⟩, h, g⟩ := ho.of_ok hm3
 have HM3 := hdn hm3; have HP5 := hdn h; have HG5 := hdn (HG4.out.one g); have HX5 := hdn (HX4.out.par g HSN.out.1 HSN.out.2.2.2)
 have HSE1 := hdn hse; have HSL1 : Hid (sLies (fresh w.heap.size w5) sp1 s1) := hdn (sLies_ext (fresh_mono HG4.out.size _) hsl); clear hse hsl
 clear h g ho hm3 HP4 HG4 HX4
 have s0 : w5.cell? ⟨S, 45, none⟩ = some (.slice x2.tp x2.t.len x2.tc) := HX5.out.1.cell 45
 have f0 := HX5.out.1.frozen 45
 have gS := grownBy_setC w5 ⟨S, 45, none⟩ (.slice sp1 s1.len sc1)
 have HP6 := hdn (HP5.out.far gS HSN.out.1 HSN.out.2.1)
 have HG6 := hdn (HG5.out.two gS)
 have HX6 : Hid (Stc w (w5.setCell ⟨S, 45, none⟩ (.slice sp1 s1.len sc1)) S { x2 with tp := sp1, tc := sc1, t := s1 }) := hdn (HX5.out.then_ HSN.out.2.2.1 sp1 sc1 s1 HSL1.out)
 clear gS
 go_upto_region 4 with fail
 clear s0 f0 HP5 HG5 HX5
 generalize w5.setCell ⟨S, 45, none⟩ (.slice sp1 s1.len sc1) = w6 at HP6 HG6 HX6 ⊢
 obtain ⟨x3, hx3⟩ : ∃ x : It, x = { x2 with tp := sp1, tc := sc1, t := s1 } := ⟨_, rfl⟩
 rw [← hx3] at HX6
 have HE3 := hdn hx3
 clear hx3
 have HS3 := hdn (HF2.out.stp.tr (Pr.block_stp (fun u l v h => Pr.stmts_stp _ u l v h) HM3.out))
 go_wp2_with fail
 refine (may_any ⟨#[101, 108, 115, 101]⟩ (by decide) w6 v3 HP6.out HL.out).mono ?_; rintro en w7 ⟨q, hq, rfl, h, g⟩
 have HP7 := hdn h; have HG7 := hdn (HG6.out.one g); have HX7 := hdn (HX6.out.par g HSN.out.1 HSN.out.2.2.2); have HQ := hdn hq
 clear h g hq HP6 HG6 HX6
 cases q with
 | false =>
  go_wp2_with fail
  go_end0
  exact OutS.ok (u := v3) (a := ({ Pr.noHd with kind := 4, cond := a2 }, a3, .nil)) (x := x3) (by rw [HR.out]; simp only [Pr.branch, HQ.out, Bool.false_eq_true, if_false, Pr.th, HM1.out, HM2.out, HM3.out]) HG7.out (by rw [HE3.out, HE2.out, HE1.out, HE0.out, ← HZ.out, ← HSE1.out]; rfl) HX7.out HP7.out
 | true =>
  have s0 : w7.cell? ⟨S, 47, none⟩ = some (.bool x3.h.both) := HX7.out.1.cell 47
  have f0 := HX7.out.1.frozen 47
  have gS := grownBy_setC w7 ⟨S, 47, none⟩ (.bool true)
  have HP8 := hdn (HP7.out.far gS HSN.out.1 HSN.out.2.1)
  have HG8 := hdn (HG7.out.two gS)
  have HX8 : Hid (Stc w (w7.setCell ⟨S, 47, none⟩ (.bool true)) S { x3 with h := { x3.h with both := true } }) := hdn (HX7.out.both HSN.out.2.2.1 true)
  clear gS
  go_upto_region 6 with fail
  clear s0 f0 HP7 HG7 HX7
  generalize w7.setCell ⟨S, 47, none⟩ (.bool true) = w8 at HP8 HG8 HX8 ⊢
  obtain ⟨x4, hx4⟩ : ∃ x : It, x = { x3 with h := { x3.h with both := true } } := ⟨_, rfl⟩
  rw [← hx4] at HX8
  have HE4 := hdn hx4
  clear hx4
  go_wp2_with fail
  refine (block_any n HRC.out w8 v3.go HP8.out HL.out (HS3.out.2.2 HI.out) (by have := HFU.out; have := HS3.out.1; simp only [Pr.St.go]; omega)).mono ?_; intro en w9 ho
  rcases hm4 : Pr.block (l.map Pr.tk) (Pr.stmts (l.map Pr.tk) n) v3.go with n | ⟨a4, v4⟩
  ·obtain ⟨p, rfl, g⟩ := ho.of_err hm4
   exact ⟨rfl, OutS.err (by rw [HR.out]; simp only [Pr.branch, HQ.out, if_true, Pr.th, HM1.out, HM2.out, HM3.out, hm4]) (HG8.out.one g)⟩
  obtain ⟨v, rfl, ⟨sp2, sc2, s2, rfl, hse, hsl⟩, h, g⟩ := ho.of_ok hm4
  have HM4 := hdn hm4; have HP9 := hdn h; have HG9 := hdn (HG8.out.one g); have HX9 := hdn (HX8.out.par g HSN.out.1 HSN.out.2.2.2)
  have HSE2 := hdn hse; have HSL2 : Hid (sLies (fresh w.heap.size w9) sp2 s2) := hdn (sLies_ext (fresh_mono HG8.out.size _) hsl); clear hse hsl
  clear h g ho hm4 HP8 HG8 HX8
  have s0 : w9.cell? ⟨S, 46, none⟩ = some (.slice x4.ep x4.e.len x4.ec) := HX9.out.1.cell 46
  have f0 := HX9.out.1.frozen 46
  go_wp2_with fail
  go_end0
  have gS := grownBy_setC w9 ⟨S, 46, none⟩ (.slice sp2 s2.len sc2)
  exact OutS.ok (u := v4) (a := ({ Pr.noHd with kind := 4, cond := a2, both := true }, a3, a4)) (x := { x4 with ep := sp2, ec := sc2, e := s2 }) (by rw [HR.out]; simp only [Pr.branch, HQ.out, if_true, Pr.th, HM1.out, HM2.out, HM3.out, HM4.out]) (HG9.out.two gS) (by rw [HE4.out, HE3.out, HE2.out, HE1.out, HE0.out, ← HZ.out, ← HSE1.out, ← HSE2.out]; rfl) (HX9.out.else_ HSN.out.2.2.1 sp2 sc2 s2 (sLies_ext (Ext.refl _) HSL2.out)) (HP9.out.far gS HSN.out.1 HSN.out.2.1)
end
end Go.Proofs.YtdlchhimkelinaaGreatDoor
namespace Go.Proofs.YtdlchhimkelinaaGreatDoor
open Go.RowKit Go.Sort
attribute [local go_sem] field79_0 field79_1 field79_2 field79_3
section
variable {pb sb cap : Nat} {l : List Tx.Sg}
/-- A statement, as it is handed back. -/
def ItV (B : Nat) (w : World) (v : Value) (a : Hd × SL × SL) : Prop := ∃ y : It, v = .agg y.cells.toArray ∧ y.er = itB a ∧ itLies (fresh B w) y
theorem stmt_any (n : Nat) (hrec : SRec pb sb cap l n) (w : World) (u : Pr.St) (h : PS w pb sb cap l u.i u.o u.b) (hg : Good l) (hT : Tex l) (hi : Pr.Inv u) (hf : l.length < u.i + 1 + n) (hb : Pr.begins (l.map Pr.tk) u = true) :
  Calls Tryz.prog 140 #[.pointer (some ⟨pb, 0, none⟩)] w (Outc (ItV w.heap.size) w pb sb cap l (Pr.stmt (l.map Pr.tk) (Pr.stmts (l.map Pr.tk) n) u)) := by
 obtain ⟨r, hr⟩ : ∃ r, r = Pr.stmt (l.map Pr.tk) (Pr.stmts (l.map Pr.tk) n) u := ⟨_, rfl⟩
 rw [← hr]
 have HR := hdn hr
 have HL := hdn hg
 have HI := hdn hi
 have HFU := hdn hf
 have HRC := hdn hrec
 have HTX := hdn hT
 have HBG := hdn hb
 have hn : Below w.heap.size w (w.alloc (.cells #[.int .i64 0, .int .i64 0, .string ByteArray.empty, .int .i64 0, .slice none 0 0, .int .i64 0, .int .i64 0, .string ByteArray.empty, .int .i64 0, .slice none 0 0, .string ByteArray.empty, .string ByteArray.empty, .int .i64 0, .int .i64 0, .string ByteArray.empty, .int .i64 0, .int .i64 0, .int .i64 0, .int .i64 0, .int .i64 0, .int .i64 0, .string ByteArray.empty, .int .i64 0, .slice none 0 0, .string ByteArray.empty, .string ByteArray.empty, .int .i64 0, .int .i64 0, .string ByteArray.empty, .int .i64 0, .int .i64 0, .int .i64 0, .int .i64 0, .string ByteArray.empty, .int .i64 0, .slice none 0 0, .string ByteArray.empty, .string ByteArray.empty, .int .i64 0, .int .i64 0, .string ByteArray.empty, .int .i64 0, .int .i64 0, .string ByteArray.empty, .slice none 0 0, .slice none 0 0, .slice none 0 0, .bool false] 54)) := (Below.refl _ _).alloc (Nat.le_refl _) _
 have HK : Hid (Bk (w.alloc (.cells #[.int .i64 0, .int .i64 0, .string ByteArray.empty, .int .i64 0, .slice none 0 0, .int .i64 0, .int .i64 0, .string ByteArray.empty, .int .i64 0, .slice none 0 0, .string ByteArray.empty, .string ByteArray.empty, .int .i64 0, .int .i64 0, .string ByteArray.empty, .int .i64 0, .int .i64 0, .int .i64 0, .int .i64 0, .int .i64 0, .int .i64 0, .string ByteArray.empty, .int .i64 0, .slice none 0 0, .string ByteArray.empty, .string ByteArray.empty, .int .i64 0, .int .i64 0, .string ByteArray.empty, .int .i64 0, .int .i64 0, .int .i64 0, .int .i64 0, .string ByteArray.empty, .int .i64 0, .slice none 0 0, .string ByteArray.empty, .string ByteArray.empty, .int .i64 0, .int .i64 0, .string ByteArray.empty, .int .i64 0, .int .i64 0, .string ByteArray.empty, .slice none 0 0, .slice none 0 0, .slice none 0 0, .bool false] 54)) w.heap.size 54 #[.int .i64 0, .int .i64 0, .string ByteArray.empty, .int .i64 0, .slice none 0 0, .int .i64 0, .int .i64 0, .string ByteArray.empty, .int .i64 0, .slice none 0 0, .string ByteArray.empty, .string ByteArray.empty, .int .i64 0, .int .i64 0, .string ByteArray.empty, .int .i64 0, .int .i64 0, .int .i64 0, .int .i64 0, .int .i64 0, .int .i64 0, .string ByteArray.empty, .int .i64 0, .slice none 0 0, .string ByteArray.empty, .string ByteArray.empty, .int .i64 0, .int .i64 0, .string ByteArray.empty, .int .i64 0, .int .i64 0, .int .i64 0, .int .i64 0, .string ByteArray.empty, .int .i64 0, .slice none 0 0, .string ByteArray.empty, .string ByteArray.empty, .int .i64 0, .int .i64 0, .string ByteArray.empty, .int .i64 0, .int .i64 0, .string ByteArray.empty, .slice none 0 0, .slice none 0 0, .slice none 0 0, .bool false]) := hdn (heap_alloc_new _ _)
 have HNE : Hid (w.heap.size ≠ pb ∧ w.heap.size ≠ sb ∧ pb < w.heap.size ∧ sb < w.heap.size) := hdn ⟨fun e => by have := h.pb_lt; omega, fun e => by have := h.sb_lt; omega, h.pb_lt, h.sb_lt⟩
 have HZ : Hid ((w.alloc (.cells #[.int .i64 0, .int .i64 0, .string ByteArray.empty, .int .i64 0, .slice none 0 0, .int .i64 0, .int .i64 0, .string ByteArray.empty, .int .i64 0, .slice none 0 0, .string ByteArray.empty, .string ByteArray.empty, .int .i64 0, .int .i64 0, .string ByteArray.empty, .int .i64 0, .int .i64 0, .int .i64 0, .int .i64 0, .int .i64 0, .int .i64 0, .string ByteArray.empty, .int .i64 0, .slice none 0 0, .string ByteArray.empty, .string ByteArray.empty, .int .i64 0, .int .i64 0, .string ByteArray.empty, .int .i64 0, .int .i64 0, .int .i64 0, .int .i64 0, .string ByteArray.empty, .int .i64 0, .slice none 0 0, .string ByteArray.empty, .string ByteArray.empty, .int .i64 0, .int .i64 0, .string ByteArray.empty, .int .i64 0, .int .i64 0, .string ByteArray.empty, .slice none 0 0, .slice none 0 0, .slice none 0 0, .bool false] 54)).heap.size = w.heap.size + 1) := hdn (by simp)
 have HG : Hid (w.grownBy (w.alloc (.cells #[.int .i64 0, .int .i64 0, .string ByteArray.empty, .int .i64 0, .slice none 0 0, .int .i64 0, .int .i64 0, .string ByteArray.empty, .int .i64 0, .slice none 0 0, .string ByteArray.empty, .string ByteArray.empty, .int .i64 0, .int .i64 0, .string ByteArray.empty, .int .i64 0, .int .i64 0, .int .i64 0, .int .i64 0, .int .i64 0, .int .i64 0, .string ByteArray.empty, .int .i64 0, .slice none 0 0, .string ByteArray.empty, .string ByteArray.empty, .int .i64 0, .int .i64 0, .string ByteArray.empty, .int .i64 0, .int .i64 0, .int .i64 0, .int .i64 0, .string ByteArray.empty, .int .i64 0, .slice none 0 0, .string ByteArray.empty, .string ByteArray.empty, .int .i64 0, .int .i64 0, .string ByteArray.empty, .int .i64 0, .int .i64 0, .string ByteArray.empty, .slice none 0 0, .slice none 0 0, .slice none 0 0, .bool false] 54)) (some pb)) := hdn (grownBy_of hn _)
 have HP := hdn (h.below hn)
 generalize hwA : w.alloc (.cells #[.int .i64 0, .int .i64 0, .string ByteArray.empty, .int .i64 0, .slice none 0 0, .int .i64 0, .int .i64 0, .string ByteArray.empty, .int .i64 0, .slice none 0 0, .string ByteArray.empty, .string ByteArray.empty, .int .i64 0, .int .i64 0, .string ByteArray.empty, .int .i64 0, .int .i64 0, .int .i64 0, .int .i64 0, .int .i64 0, .int .i64 0, .string ByteArray.empty, .int .i64 0, .slice none 0 0, .string ByteArray.empty, .string ByteArray.empty, .int .i64 0, .int .i64 0, .string ByteArray.empty, .int .i64 0, .int .i64 0, .int .i64 0, .int .i64 0, .string ByteArray.empty, .int .i64 0, .slice none 0 0, .string ByteArray.empty, .string ByteArray.empty, .int .i64 0, .int .i64 0, .string ByteArray.empty, .int .i64 0, .int .i64 0, .string ByteArray.empty, .slice none 0 0, .slice none 0 0, .slice none 0 0, .bool false] 54) = wA at HK HG HP HZ
 clear h hg hr hn hi hf hrec hT hb
 go_enter Tryz.func140, Tryz.ntmps140
 go_wp2_with fail
 rw [show w.alloc (.cells #[.int .i64 0, .int .i64 0, .string ⟨#[]⟩, .int .i64 0, .slice none 0 0, .int .i64 0, .int .i64 0, .string ⟨#[]⟩, .int .i64 0, .slice none 0 0, .string ⟨#[]⟩, .string ⟨#[]⟩, .int .i64 0, .int .i64 0, .string ⟨#[]⟩, .int .i64 0, .int .i64 0, .int .i64 0, .int .i64 0, .int .i64 0, .int .i64 0, .string ⟨#[]⟩, .int .i64 0, .slice none 0 0, .string ⟨#[]⟩, .string ⟨#[]⟩, .int .i64 0, .int .i64 0, .string ⟨#[]⟩, .int .i64 0, .int .i64 0, .int .i64 0, .int .i64 0, .string ⟨#[]⟩, .int .i64 0, .slice none 0 0, .string ⟨#[]⟩, .string ⟨#[]⟩, .int .i64 0, .int .i64 0, .string ⟨#[]⟩, .int .i64 0, .int .i64 0, .string ⟨#[]⟩, .slice none 0 0, .slice none 0 0, .slice none 0 0, .bool false] 54) = wA from hwA]
 clear hwA
 refine (count_any wA u HP.out HL.out HI.out.2.2.1 HI.out.2.2.2).mono ?_; intro en w1 ho
 rcases hm1 : Pr.count (l.map Pr.tk) u with n | ⟨a1, v1⟩
 ·obtain ⟨p, rfl, g1⟩ := ho.of_err hm1
  exact ⟨rfl, Outc.err (by rw [HR.out]; simp only [Pr.stmt, Pr.th, hm1]) (grownBy_tr HG.out g1)⟩
 obtain ⟨v, rfl, rfl, h1, g1⟩ := ho.of_ok hm1
 have hinv := (Pr.count_stp hm1).2.2 HI.out
 obtain ⟨rfl, _⟩ := Pr.count_ok hm1
 have HM1 := hdn hm1; have HP1 := hdn h1; have HG1 := hdn (grownBy_tr HG.out g1); have HK1 := hdn (HK.out.kept g1 HNE.out.1)
 have HI1 := hdn hinv
 clear h1 g1 ho hm1 hinv HP HG HK HI
 obtain ⟨x, hx⟩ := HP1.out.at
 have HX := hdn hx
 have HA : Hid (∀ w', PS w' pb sb cap l u.i u.o (u.b + 1) → Calls Tryz.prog 58 #[.pointer (some ⟨pb, 0, none⟩)] w' fun e w'' => e = .returned (.agg #[.int .i64 x.kind, .int .i64 x.pos, .string x.text, .int .i64 x.num]) ∧ Below w'.heap.size w' w'') := hdn (fun w' hp => ahead_any x w' hp HL.out hx)
 have HT1 : Hid (Pr.is (l.map Pr.tk) u.i ⟨#[59]⟩ = (x.text.toList == [59])) := hdn (by rw [Pr.is_tk hx]; rw [show (⟨#[59]⟩ : ByteArray).toList = [59] from Lib.toList_data _])
 have HT2 : Hid (Pr.is (l.map Pr.tk) u.i ⟨#[123]⟩ = (x.text.toList == [123])) := hdn (by rw [Pr.is_tk hx]; rw [show (⟨#[123]⟩ : ByteArray).toList = [123] from Lib.toList_data _])
 have HT3 : Hid (Pr.is (l.map Pr.tk) u.i ⟨#[102, 114, 101, 101]⟩ = (x.text.toList == [102, 114, 101, 101])) := hdn (by rw [Pr.is_tk hx]; rw [show (⟨#[102, 114, 101, 101]⟩ : ByteArray).toList = [102, 114, 101, 101] from Lib.toList_data _])
 have HT4 : Hid (Pr.is (l.map Pr.tk) u.i ⟨#[105, 102]⟩ = (x.text.toList == [105, 102])) := hdn (by rw [Pr.is_tk hx]; rw [show (⟨#[105, 102]⟩ : ByteArray).toList = [105, 102] from Lib.toList_data _])
 have HT5 : Hid (Pr.is (l.map Pr.tk) u.i ⟨#[119, 104, 105, 108, 101]⟩ = (x.text.toList == [119, 104, 105, 108, 101])) := hdn (by rw [Pr.is_tk hx]; rw [show (⟨#[119, 104, 105, 108, 101]⟩ : ByteArray).toList = [119, 104, 105, 108, 101] from Lib.toList_data _])
 clear hx
 go_wp2_with fail
 refine (HA.out w1 HP1.out).mono ?_; rintro en w2 ⟨rfl, hb⟩
 have HP2 := hdn (HP1.out.below hb); have HG2 := hdn (grownBy_below HG1.out hb); have HK2 := hdn (HK1.out.below hb HK1.out.lt)
 clear hb HP1 HG1 HK1
 go_upto_region 3 with (first | ((with_reducible show wpList _ _ _ (Oper.mk none (Op.store 54 _ _) _ _ _ _ :: _) _ _); refine wpList_store_new rfl 54 (.tmp 3) (.tmp 9) rfl _ (It.cells (it0 x.pos)).toArray rfl rfl size57 rfl (kIt.one _) ?_))
 have hm : Below w2.heap.size w2 (w2.alloc (.cells (It.cells (it0 x.pos)).toArray 54)) := (Below.refl _ _).alloc (Nat.le_refl _) _
 have HP3 := hdn (HP2.out.below hm); have HG3 := hdn (grownBy_below HG2.out hm); have HK3 := hdn (HK2.out.below hm HK2.out.lt)
 have HS3 : Hid (Bk (w2.alloc (.cells (It.cells (it0 x.pos)).toArray 54)) w2.heap.size 54 (It.cells (it0 x.pos)).toArray) := hdn (heap_alloc_new _ _)
 obtain ⟨S, hS⟩ : ∃ S, S = w2.heap.size := ⟨_, rfl⟩
 have HSN : Hid (S ≠ pb ∧ S ≠ sb ∧ w.heap.size ≠ S ∧ w.heap.size ≤ S) := hdn ⟨by have := HP2.out.pb_lt; omega, by have := HP2.out.sb_lt; omega, by have := HK2.out.lt; omega, by have := HK2.out.lt; omega⟩
 rw [← hS] at HS3 ⊢
 clear hS hm HP2 HG2 HK2
 change Code.wp _ _ _ _ (w2.alloc (.cells (It.cells (it0 x.pos)).toArray 54))
 generalize w2.alloc (.cells (It.cells (it0 x.pos)).toArray 54) = w3 at HP3 HG3 HK3 HS3 ⊢
 go_wp2_with fail
 refine (HA.out w3 HP3.out).mono ?_; rintro en w4 ⟨rfl, hb⟩
 have HP4 := hdn (HP3.out.below hb); have HG4 := hdn (grownBy_below HG3.out hb); have HK4 := hdn (HK3.out.below hb HK3.out.lt); have HS4 := hdn (HS3.out.below hb HS3.out.lt)
 clear hb HP3 HG3 HK3 HS3 HA
 have HLT : Hid (S < w4.heap.size ∧ pb < w4.heap.size ∧ w.heap.size ≤ w4.heap.size) := hdn ⟨HS4.out.lt, HP4.out.pb_lt, HG4.out.size⟩
 rcases q1 : (x.text.toList == [59]) with _ | _
 case true =>
  have HQ1 := hdn (HT1.out.trans q1)
  have HX4 : Hid (Stc w4 w4 S (it0 x.pos)) := hdn (Stc.zero x.pos HS4.out)
  have hk0 : x.kind ≠ 0 := HL.out.kind HX.out (s := ⟨#[59]⟩) (by rw [show (⟨#[59]⟩ : ByteArray).toList = [59] from Lib.toList_data _]; exact q1) (by rw [Lib.toList_data]; decide)
  have HK0 := hdn hk0
  clear hk0
  have s0 : w4.cell? ⟨S, 0, none⟩ = some (.int .i64 0) := HS4.out.cell 0
  have f0 := HS4.out.frozen 0
  have gS := grownBy_setC w4 ⟨S, 0, none⟩ (.int .i64 0)
  have HP5 := hdn (HP4.out.far gS HSN.out.1 HSN.out.2.1); have HK5 := hdn (HK4.out.kept gS HSN.out.2.2.1); have HG5 := hdn (grownBy_under HG4.out gS HSN.out.2.2.2)
  have HX5 : Hid (Stc w4 (w4.setCell ⟨S, 0, none⟩ (.int .i64 0)) S { it0 x.pos with h := { (it0 x.pos).h with kind := 0 } }) := hdn (HX4.out.kind HLT.out.1 0)
  clear gS
  go_upto_region 7 with fail
  clear s0 f0 q1 HP4 HG4 HK4 HS4 HX4
  generalize w4.setCell ⟨S, 0, none⟩ (.int .i64 0) = w5 at HP5 HK5 HG5 HX5 ⊢
  go_wp2_with fail
  refine (take_any x w5 HP5.out HL.out HX.out HK0.out).mono ?_; rintro en w6 ⟨rfl, h, g⟩
  have HP6 := hdn h; have HK6 := hdn (HK5.out.kept g HNE.out.1); have HG6 := hdn (grownBy_tr HG5.out g); have HX6 := hdn (HX5.out.par g HSN.out.1 HLT.out.2.1)
  clear h g HP5 HK5 HG5 HX5
  obtain ⟨x1, hx1⟩ : ∃ x1 : It, x1 = { it0 x.pos with h := { (it0 x.pos).h with kind := 0 } } := ⟨_, rfl⟩
  rw [← hx1] at HX6
  have HE1 := hdn hx1
  clear hx1
  go_wp2_with (first | ((with_reducible show wpList _ _ _ (Oper.mk (some 38) (Op.load 54 (Operand.tmp 3)) _ _ _ _ :: _) _ _); refine wpList_load_bk rfl 54 (.tmp 3) rfl S 54 (It.cells x1).toArray rfl _ HX6.out.1 Tryz.underlying54 rfl size57 ?_) | ((with_reducible show wpList _ _ _ (Oper.mk none (Op.store 54 (Operand.tmp 2) (Operand.tmp 38)) _ _ _ _ :: _) _ _); refine wpList_store_bk rfl 54 (.tmp 2) (.tmp 38) rfl w.heap.size 54 _ (It.cells x1).toArray rfl rfl HK6.out size57 rfl (kIt.one x1) ?_; intro wZ hB hF))
  exact bodyPost_ret (results_cell_row Tryz.results140 _ wZ w.heap.size 54 (It.cells x1).toArray (0, 0) _ rfl hB Tryz.underlying54 rfl size57) rfl (Outc.ok (u := ⟨u.i + 1, u.o, u.b + 1⟩) (a := (Pr.noHd, .nil, .nil)) (by rw [HR.out]; simp only [Pr.stmt, Pr.th, HM1.out, HQ1.out, if_true]; rfl) (grownBy_mine HG6.out hF) ⟨x1, rfl, by rw [HE1.out]; rfl, itLies_ext ((fresh_par hF (Nat.lt_of_le_of_lt HSN.out.2.2.2 HLT.out.1)).trans (fresh_mono HLT.out.2.2 _)) HX6.out.2⟩ (HP6.out.far hF HNE.out.1 HNE.out.2.1))
 have HQ1 := hdn (HT1.out.trans q1)
 rcases q2 : (x.text.toList == [123]) with _ | _
 case true =>
  have HQ2 := hdn (HT2.out.trans q2)
  have HX4 : Hid (Stc w4 w4 S (it0 x.pos)) := hdn (Stc.zero x.pos HS4.out)
  have s0 : w4.cell? ⟨S, 0, none⟩ = some (.int .i64 0) := HS4.out.cell 0
  have f0 := HS4.out.frozen 0
  have gS := grownBy_setC w4 ⟨S, 0, none⟩ (.int .i64 6)
  have HP5 := hdn (HP4.out.far gS HSN.out.1 HSN.out.2.1); have HK5 := hdn (HK4.out.kept gS HSN.out.2.2.1); have HG5 := hdn (grownBy_under HG4.out gS HSN.out.2.2.2)
  have HX5 : Hid (Stc w4 (w4.setCell ⟨S, 0, none⟩ (.int .i64 6)) S { it0 x.pos with h := { (it0 x.pos).h with kind := 6 } }) := hdn (HX4.out.kind HLT.out.1 6)
  have HLE5 : Hid (w4.heap.size ≤ (w4.setCell ⟨S, 0, none⟩ (.int .i64 6)).heap.size) := hdn gS.size
  clear gS
  go_upto_region 10 with fail
  clear s0 f0 q1 q2 HP4 HG4 HK4 HS4 HX4
  generalize w4.setCell ⟨S, 0, none⟩ (.int .i64 6) = w5 at HP5 HK5 HG5 HX5 HLE5 ⊢
  obtain ⟨x1, hx1⟩ : ∃ x1 : It, x1 = { it0 x.pos with h := { (it0 x.pos).h with kind := 6 } } := ⟨_, rfl⟩
  rw [← hx1] at HX5
  have HE1 := hdn hx1
  clear hx1
  go_wp2_with fail
  refine (block_any n HRC.out w5 ⟨u.i, u.o, u.b + 1⟩ HP5.out HL.out HI1.out HFU.out).mono ?_; intro en w6 ho
  rcases hm2 : Pr.block (l.map Pr.tk) (Pr.stmts (l.map Pr.tk) n) ⟨u.i, u.o, u.b + 1⟩ with n | ⟨a2, v2⟩
  ·obtain ⟨p, rfl, g⟩ := ho.of_err hm2
   exact ⟨rfl, Outc.err (by rw [HR.out]; simp only [Pr.stmt, Pr.th, HM1.out, HQ1.out, HQ2.out, if_true, Bool.false_eq_true, if_false, hm2]) (grownBy_tr HG5.out g)⟩
  obtain ⟨v, rfl, ⟨sp1, sc1, s1, rfl, hse, hsl⟩, h, g⟩ := ho.of_ok hm2
  have HM2 := hdn hm2; have HSE := hdn hse
  have HSL : Hid (sLies (fresh w4.heap.size w6) sp1 s1) := hdn (sLies_ext (fresh_mono HLE5.out _) hsl)
  have HP6 := hdn h; have HK6 := hdn (HK5.out.kept g HNE.out.1); have HG6 := hdn (grownBy_tr HG5.out g); have HX6 := hdn (HX5.out.par g HSN.out.1 HLT.out.2.1)
  clear h g ho hm2 hse hsl HP5 HK5 HG5 HX5
  have s0 : w6.cell? ⟨S, 45, none⟩ = some (.slice x1.tp x1.t.len x1.tc) := HX6.out.1.cell 45
  have f0 := HX6.out.1.frozen 45
  have gS := grownBy_setC w6 ⟨S, 45, none⟩ (.slice sp1 s1.len sc1)
  have HP7 := hdn (HP6.out.far gS HSN.out.1 HSN.out.2.1); have HK7 := hdn (HK6.out.kept gS HSN.out.2.2.1); have HG7 := hdn (grownBy_under HG6.out gS HSN.out.2.2.2)
  have HX7 : Hid (Stc w4 (w6.setCell ⟨S, 45, none⟩ (.slice sp1 s1.len sc1)) S { x1 with tp := sp1, tc := sc1, t := s1 }) := hdn (HX6.out.then_ HLT.out.1 sp1 sc1 s1 HSL.out)
  clear gS
  go_upto_region 17 with fail
  clear s0 f0 HP6 HG6 HK6 HX6 HSL
  generalize w6.setCell ⟨S, 45, none⟩ (.slice sp1 s1.len sc1) = w7 at HP7 HK7 HG7 HX7 ⊢
  obtain ⟨x2, hx2⟩ : ∃ x2 : It, x2 = { x1 with tp := sp1, tc := sc1, t := s1 } := ⟨_, rfl⟩
  rw [← hx2] at HX7
  have HE2 := hdn hx2
  clear hx2
  go_wp2_with (first | ((with_reducible show wpList _ _ _ (Oper.mk (some 38) (Op.load 54 (Operand.tmp 3)) _ _ _ _ :: _) _ _); refine wpList_load_bk rfl 54 (.tmp 3) rfl S 54 (It.cells x2).toArray rfl _ HX7.out.1 Tryz.underlying54 rfl size57 ?_) | ((with_reducible show wpList _ _ _ (Oper.mk none (Op.store 54 (Operand.tmp 2) (Operand.tmp 38)) _ _ _ _ :: _) _ _); refine wpList_store_bk rfl 54 (.tmp 2) (.tmp 38) rfl w.heap.size 54 _ (It.cells x2).toArray rfl rfl HK7.out size57 rfl (kIt.one x2) ?_; intro wZ hB hF))
  exact bodyPost_ret (results_cell_row Tryz.results140 _ wZ w.heap.size 54 (It.cells x2).toArray (0, 0) _ rfl hB Tryz.underlying54 rfl size57) rfl (Outc.ok (u := v2) (a := ({ Pr.noHd with kind := 6 }, a2, .nil)) (by rw [HR.out]; simp only [Pr.stmt, Pr.th, HM1.out, HQ1.out, HQ2.out, if_true, Bool.false_eq_true, if_false, HM2.out]) (grownBy_mine HG7.out hF) ⟨x2, rfl, by rw [HE2.out, HE1.out, ← HSE.out]; rfl, itLies_ext ((fresh_par hF (Nat.lt_of_le_of_lt HSN.out.2.2.2 HLT.out.1)).trans (fresh_mono HLT.out.2.2 _)) HX7.out.2⟩ (HP7.out.far hF HNE.out.1 HNE.out.2.1))
 have HQ2 := hdn (HT2.out.trans q2)
 rcases q3 : (x.text.toList == [102, 114, 101, 101]) with _ | _
 case true =>
  have HQ3 := hdn (HT3.out.trans q3)
  go_wp2_with fail
  clear q1 q2 q3
  refine (free_any w4 ⟨u.i, u.o, u.b + 1⟩ S x.pos HP4.out HL.out HS4.out ⟨HSN.out.1, HSN.out.2.1⟩).mono ?_; intro en w6 ho
  rcases hm2 : Pr.free (l.map Pr.tk) ⟨u.i, u.o, u.b + 1⟩ with n | ⟨a2, v2⟩
  ·obtain ⟨p, rfl, g⟩ := ho.of_err hm2
   exact ⟨rfl, Outc.err (by rw [HR.out]; simp only [Pr.stmt, Pr.th, HM1.out, HQ1.out, HQ2.out, HQ3.out, if_true, Bool.false_eq_true, if_false, hm2]) (Gr2.own HG4.out g HSN.out.2.2.2)⟩
  obtain ⟨rfl, ⟨x1, hxe, hxs⟩, h, g⟩ := ho.of_ok hm2
  have HM2 := hdn hm2; have HE1 := hdn hxe; have HX6 := hdn hxs
  have HP6 := hdn h; have HK6 := hdn (g.bk HK4.out HNE.out.1 HSN.out.2.2.1); have HG6 := hdn (Gr2.own HG4.out g HSN.out.2.2.2)
  clear h g ho hm2 hxe hxs HP4 HK4 HG4 HS4
  go_wp2_with (first | ((with_reducible show wpList _ _ _ (Oper.mk (some 38) (Op.load 54 (Operand.tmp 3)) _ _ _ _ :: _) _ _); refine wpList_load_bk rfl 54 (.tmp 3) rfl S 54 (It.cells x1).toArray rfl _ HX6.out.1 Tryz.underlying54 rfl size57 ?_) | ((with_reducible show wpList _ _ _ (Oper.mk none (Op.store 54 (Operand.tmp 2) (Operand.tmp 38)) _ _ _ _ :: _) _ _); refine wpList_store_bk rfl 54 (.tmp 2) (.tmp 38) rfl w.heap.size 54 _ (It.cells x1).toArray rfl rfl HK6.out size57 rfl (kIt.one x1) ?_; intro wZ hB hF))
  exact bodyPost_ret (results_cell_row Tryz.results140 _ wZ w.heap.size 54 (It.cells x1).toArray (0, 0) _ rfl hB Tryz.underlying54 rfl size57) rfl (Outc.ok (u := v2) (a := (a2, .nil, .nil)) (by rw [HR.out]; simp only [Pr.stmt, Pr.th, HM1.out, HQ1.out, HQ2.out, HQ3.out, if_true, Bool.false_eq_true, if_false, HM2.out]) (grownBy_mine HG6.out hF) ⟨x1, rfl, HE1.out.trans rfl, itLies_ext ((fresh_par hF (Nat.lt_of_le_of_lt HSN.out.2.2.2 HLT.out.1)).trans (fresh_mono HLT.out.2.2 _)) HX6.out.2⟩ (HP6.out.far hF HNE.out.1 HNE.out.2.1))
 have HQ3 := hdn (HT3.out.trans q3)
 rcases q4 : (x.text.toList == [105, 102]) with _ | _
 case true =>
  have HQ4 := hdn (HT4.out.trans q4)
  go_wp2_with fail
  clear q1 q2 q3 q4
  refine (branch_any n HRC.out w4 ⟨u.i, u.o, u.b + 1⟩ S x.pos HP4.out HL.out HS4.out ⟨HSN.out.1, HSN.out.2.1⟩ HI1.out HFU.out).mono ?_; intro en w6 ho
  rcases hm2 : Pr.branch (l.map Pr.tk) (Pr.stmts (l.map Pr.tk) n) ⟨u.i, u.o, u.b + 1⟩ with n | ⟨a2, v2⟩
  ·obtain ⟨p, rfl, g⟩ := ho.of_err hm2
   exact ⟨rfl, Outc.err (by rw [HR.out]; simp only [Pr.stmt, Pr.th, HM1.out, HQ1.out, HQ2.out, HQ3.out, HQ4.out, if_true, Bool.false_eq_true, if_false, hm2]) (Gr2.own HG4.out g HSN.out.2.2.2)⟩
  obtain ⟨rfl, ⟨x1, hxe, hxs⟩, h, g⟩ := ho.of_ok hm2
  have HM2 := hdn hm2; have HE1 := hdn hxe; have HX6 := hdn hxs
  have HP6 := hdn h; have HK6 := hdn (g.bk HK4.out HNE.out.1 HSN.out.2.2.1); have HG6 := hdn (Gr2.own HG4.out g HSN.out.2.2.2)
  clear h g ho hm2 hxe hxs HP4 HK4 HG4 HS4
  go_wp2_with (first | ((with_reducible show wpList _ _ _ (Oper.mk (some 38) (Op.load 54 (Operand.tmp 3)) _ _ _ _ :: _) _ _); refine wpList_load_bk rfl 54 (.tmp 3) rfl S 54 (It.cells x1).toArray rfl _ HX6.out.1 Tryz.underlying54 rfl size57 ?_) | ((with_reducible show wpList _ _ _ (Oper.mk none (Op.store 54 (Operand.tmp 2) (Operand.tmp 38)) _ _ _ _ :: _) _ _); refine wpList_store_bk rfl 54 (.tmp 2) (.tmp 38) rfl w.heap.size 54 _ (It.cells x1).toArray rfl rfl HK6.out size57 rfl (kIt.one x1) ?_; intro wZ hB hF))
  exact bodyPost_ret (results_cell_row Tryz.results140 _ wZ w.heap.size 54 (It.cells x1).toArray (0, 0) _ rfl hB Tryz.underlying54 rfl size57) rfl (Outc.ok (u := v2) (a := a2) (by rw [HR.out]; simp only [Pr.stmt, Pr.th, HM1.out, HQ1.out, HQ2.out, HQ3.out, HQ4.out, if_true, Bool.false_eq_true, if_false, HM2.out]) (grownBy_mine HG6.out hF) ⟨x1, rfl, HE1.out.trans rfl, itLies_ext ((fresh_par hF (Nat.lt_of_le_of_lt HSN.out.2.2.2 HLT.out.1)).trans (fresh_mono HLT.out.2.2 _)) HX6.out.2⟩ (HP6.out.far hF HNE.out.1 HNE.out.2.1))
 have HQ4 := hdn (HT4.out.trans q4)
 rcases q5 : (x.text.toList == [119, 104, 105, 108, 101]) with _ | _
 case true =>
  have HQ5 := hdn (HT5.out.trans q5)
  go_wp2_with fail
  clear q1 q2 q3 q4 q5
  refine (loop_any n HRC.out w4 ⟨u.i, u.o, u.b + 1⟩ S x.pos HP4.out HL.out HS4.out ⟨HSN.out.1, HSN.out.2.1⟩ HI1.out HFU.out).mono ?_; intro en w6 ho
  rcases hm2 : Pr.loop (l.map Pr.tk) (Pr.stmts (l.map Pr.tk) n) ⟨u.i, u.o, u.b + 1⟩ with n | ⟨a2, v2⟩
  ·obtain ⟨p, rfl, g⟩ := ho.of_err hm2
   exact ⟨rfl, Outc.err (by rw [HR.out]; simp only [Pr.stmt, Pr.th, HM1.out, HQ1.out, HQ2.out, HQ3.out, HQ4.out, HQ5.out, if_true, Bool.false_eq_true, if_false, hm2]) (Gr2.own HG4.out g HSN.out.2.2.2)⟩
  obtain ⟨rfl, ⟨x1, hxe, hxs⟩, h, g⟩ := ho.of_ok hm2
  have HM2 := hdn hm2; have HE1 := hdn hxe; have HX6 := hdn hxs
  have HP6 := hdn h; have HK6 := hdn (g.bk HK4.out HNE.out.1 HSN.out.2.2.1); have HG6 := hdn (Gr2.own HG4.out g HSN.out.2.2.2)
  clear h g ho hm2 hxe hxs HP4 HK4 HG4 HS4
  go_wp2_with (first | ((with_reducible show wpList _ _ _ (Oper.mk (some 38) (Op.load 54 (Operand.tmp 3)) _ _ _ _ :: _) _ _); refine wpList_load_bk rfl 54 (.tmp 3) rfl S 54 (It.cells x1).toArray rfl _ HX6.out.1 Tryz.underlying54 rfl size57 ?_) | ((with_reducible show wpList _ _ _ (Oper.mk none (Op.store 54 (Operand.tmp 2) (Operand.tmp 38)) _ _ _ _ :: _) _ _); refine wpList_store_bk rfl 54 (.tmp 2) (.tmp 38) rfl w.heap.size 54 _ (It.cells x1).toArray rfl rfl HK6.out size57 rfl (kIt.one x1) ?_; intro wZ hB hF))
  exact bodyPost_ret (results_cell_row Tryz.results140 _ wZ w.heap.size 54 (It.cells x1).toArray (0, 0) _ rfl hB Tryz.underlying54 rfl size57) rfl (Outc.ok (u := v2) (a := a2) (by rw [HR.out]; simp only [Pr.stmt, Pr.th, HM1.out, HQ1.out, HQ2.out, HQ3.out, HQ4.out, HQ5.out, if_true, Bool.false_eq_true, if_false, HM2.out]) (grownBy_mine HG6.out hF) ⟨x1, rfl, HE1.out.trans rfl, itLies_ext ((fresh_par hF (Nat.lt_of_le_of_lt HSN.out.2.2.2 HLT.out.1)).trans (fresh_mono HLT.out.2.2 _)) HX6.out.2⟩ (HP6.out.far hF HNE.out.1 HNE.out.2.1))
 have HQ5 := hdn (HT5.out.trans q5)
 have HKD : Hid ((Pr.sg (l.map Pr.tk) u.i).kind ≠ 0) := hdn (by
  have hb := HBG.out
  simp only [Pr.begins, HQ1.out, HQ2.out, HQ3.out, HQ4.out, HQ5.out, Bool.false_or] at hb
  rw [beq_iff_eq] at hb
  rw [hb]; decide)
 go_wp2_with fail
 clear q1 q2 q3 q4 q5
 refine (named_any w4 ⟨u.i, u.o, u.b + 1⟩ S x.pos HP4.out HL.out HS4.out ⟨HSN.out.1, HSN.out.2.1⟩ HTX.out HKD.out).mono ?_; intro en w6 ho
 rcases hm2 : Pr.named (l.map Pr.tk) ⟨u.i, u.o, u.b + 1⟩ with n | ⟨a2, v2⟩
 ·obtain ⟨p, rfl, g⟩ := ho.of_err hm2
  exact ⟨rfl, Outc.err (by rw [HR.out]; simp only [Pr.stmt, Pr.th, HM1.out, HQ1.out, HQ2.out, HQ3.out, HQ4.out, HQ5.out, Bool.false_eq_true, if_false, hm2]) (Gr2.own HG4.out g HSN.out.2.2.2)⟩
 obtain ⟨rfl, ⟨x1, hxe, hxs⟩, h, g⟩ := ho.of_ok hm2
 have HM2 := hdn hm2; have HE1 := hdn hxe; have HX6 := hdn hxs
 have HP6 := hdn h; have HK6 := hdn (g.bk HK4.out HNE.out.1 HSN.out.2.2.1); have HG6 := hdn (Gr2.own HG4.out g HSN.out.2.2.2)
 clear h g ho hm2 hxe hxs HP4 HK4 HG4 HS4
 go_wp2_with (first | ((with_reducible show wpList _ _ _ (Oper.mk (some 38) (Op.load 54 (Operand.tmp 3)) _ _ _ _ :: _) _ _); refine wpList_load_bk rfl 54 (.tmp 3) rfl S 54 (It.cells x1).toArray rfl _ HX6.out.1 Tryz.underlying54 rfl size57 ?_) | ((with_reducible show wpList _ _ _ (Oper.mk none (Op.store 54 (Operand.tmp 2) (Operand.tmp 38)) _ _ _ _ :: _) _ _); refine wpList_store_bk rfl 54 (.tmp 2) (.tmp 38) rfl w.heap.size 54 _ (It.cells x1).toArray rfl rfl HK6.out size57 rfl (kIt.one x1) ?_; intro wZ hB hF))
 exact bodyPost_ret (results_cell_row Tryz.results140 _ wZ w.heap.size 54 (It.cells x1).toArray (0, 0) _ rfl hB Tryz.underlying54 rfl size57) rfl (Outc.ok (u := v2) (a := (a2, .nil, .nil)) (by rw [HR.out]; simp only [Pr.stmt, Pr.th, HM1.out, HQ1.out, HQ2.out, HQ3.out, HQ4.out, HQ5.out, Bool.false_eq_true, if_false, HM2.out]) (grownBy_mine HG6.out hF) ⟨x1, rfl, HE1.out.trans rfl, itLies_ext ((fresh_par hF (Nat.lt_of_le_of_lt HSN.out.2.2.2 HLT.out.1)).trans (fresh_mono HLT.out.2.2 _)) HX6.out.2⟩ (HP6.out.far hF HNE.out.1 HNE.out.2.1))
end
end Go.Proofs.YtdlchhimkelinaaGreatDoor
namespace Go.Proofs.YtdlchhimkelinaaGreatDoor
open Go.RowKit Go.Sort
/-- Items ahead of a list of statements. -/
def SL.onto : List It → SL → SL
 | [], r => r
 | x :: l, r => .cons x.h x.tp x.tc x.t x.ep x.ec x.e (SL.onto l r)
theorem SL.onto_nil : ∀ (l : List It), SL.onto l .nil = SL.of l
 | [] => rfl
 | x :: l => by rw [SL.onto, SL.of, SL.onto_nil l]
theorem SL.onto_app : ∀ (l m : List It) (r : SL), SL.onto (l ++ m) r = SL.onto l (SL.onto m r)
 | [], _, _ => rfl
 | x :: l, m, r => by rw [List.cons_append, SL.onto, SL.onto, SL.onto_app l m r]
theorem SL.of_len : ∀ (l : List It), (SL.of l).len = l.length
 | [] => rfl
 | x :: l => by rw [SL.of, SL.len, SL.of_len l, List.length_cons]
/-- Items that were read, ahead of what is read then. -/
def thenOnto (acc : List It) (r : Pr.Res SL) : Pr.Res SL :=
 match r with
 | .error e => .error e
 | .ok (s, v) => .ok (SL.onto acc s, v)
theorem thenOnto_nil (r : Pr.Res SL) : thenOnto [] r = r := by
 cases r with
 | error e => rfl
 | ok x => rfl
theorem thenOnto_app (acc m : List It) (r : Pr.Res SL) : thenOnto acc (thenOnto m r) = thenOnto (acc ++ m) r := by
 cases r with
 | error e => rfl
 | ok x => simp only [thenOnto, SL.onto_app]
theorem stmts_step {t : List Pr.Tk} {n : Nat} {u : Pr.St} (h : Pr.begins t u = true) : Pr.stmts t (n + 1) u = Pr.th (Pr.stmt t (Pr.stmts t n) u) fun a v => thenOnto [itB a] (Pr.stmts t n v) := by
 rw [Pr.stmts, if_pos h]
 congr 1
 funext a v
 obtain ⟨h, a, e⟩ := a
 cases Pr.stmts t n v with
 | error e => rfl
 | ok x => rfl
theorem lies_ofItems {w : World} : ∀ (l : List It) (b o : Nat), (∀ (k : Nat) (x : It), l[k]? = some x → w.rangeAt b (o + k * 48) x.cells ∧ itLies w x) → lies w (SL.of l) b o
 | [], _, _, _ => trivial
 | x :: l, b, o, h => by
  obtain ⟨h1, h2⟩ := h 0 x rfl
  rw [Nat.zero_mul, Nat.add_zero] at h1
  exact ⟨h1, h2.1, h2.2.1, h2.2.2, lies_ofItems l b (o + 48) fun k y hk => by
   have := h (k + 1) y hk
   rwa [show o + (k + 1) * 48 = o + 48 + k * 48 by omega] at this⟩
theorem sLies_items {w : World} {p : Option Addr} {l : List It} (h : kIt.Ly w p l) : sLies w p (SL.of l) := by
 obtain ⟨h0, h⟩ := h
 refine ⟨by rw [SL.of_len]; exact h0, ?_⟩
 rcases h with h | ⟨b, o, hp, hx⟩
 ·exact .inl (by rw [h]; rfl)
 ·exact .inr ⟨b, o, hp, lies_ofItems l b o hx⟩
attribute [local go_sem] field79_0 field79_1 field79_2 field79_3
section
variable {pb sb cap : Nat} {l : List Tx.Sg}
theorem stmts_rec (hg : Good l) (hT : Tex l) (n : Nat) (hlow : ∀ m, m < n → SRec pb sb cap l m) : SRec pb sb cap l n := by
 intro w u h hi hf
 obtain ⟨r, hr⟩ : ∃ r, r = Pr.stmts (l.map Pr.tk) n u := ⟨_, rfl⟩
 rw [← hr]
 have HR := hdn hr
 have HL := hdn hg
 have HTX := hdn hT
 have HLO := hdn hlow
 have HP := hdn h
 have HI := hdn hi
 have HFU := hdn hf
 have HLT : Hid (pb < w.heap.size ∧ sb < w.heap.size) := hdn ⟨h.pb_lt, h.sb_lt⟩
 have HLL : Hid (l.length ≤ 6000000) := hdn hg.len
 have HG0 : Hid (w.grownBy w (some pb)) := hdn (grownBy_of (Below.refl _ _) _)
 obtain ⟨i0, hI⟩ := infIt
 have HIN := hdn hI
 clear h hg hr hI hT hlow hi hf
 go_enter Tryz.func105, Tryz.ntmps105
 go_wp2_with fail
 go_loopg [3] n (fun g v wr => ∃ (acc : List It) (un : Pr.St), g ≤ n ∧ l.length < un.i + g ∧ acc.length ≤ un.i ∧ Hid (Pr.Inv un) ∧ Hid (Pr.stmts (l.map Pr.tk) n u = thenOnto acc (Pr.stmts (l.map Pr.tk) g un)) ∧ Hid (kIt.Gr w.heap.size acc v wr) ∧ Hid (PS wr pb sb cap l un.i un.o un.b) ∧ Hid (w.grownBy wr (some pb)))
 case atStart => exact ⟨[], u, Nat.le_refl _, HFU.out, Nat.zero_le _, HI, hdn (thenOnto_nil _).symm, hdn (Kd.Gr.nil kIt (World.ownsRow_nil _ _ _ _)), HP, HG0⟩
 case round =>
  obtain ⟨acc, un, hgn, hlt, hacc, HIU, HH, HGr, HPr, HGw⟩ := hrel
  have HUL : Hid (un.i < l.length) := hdn HPr.out.lt
  obtain ⟨gj, hgj⟩ : ∃ k, gk = k + 1 := ⟨gk - 1, by have := HUL.out; omega⟩
  have HGJ := hdn hgj
  clear hgj
  go_wp2_with fail
  refine (begins_any wr un HPr.out HL.out).mono ?_; rintro en w5 ⟨rfl, hb⟩
  have HP5 := hdn (HPr.out.below hb); have HG5 := hdn (grownBy_below HGw.out hb); have HGr5 := hdn (HGr.out.below hb)
  clear hb HPr HGw HGr
  rcases hbg : Pr.begins (l.map Pr.tk) un with _ | _
  ·have HB := hdn hbg
   clear hbg
   go_wp2_with fail
   obtain ⟨sl, hv, hsl, hly⟩ := Kd.fin kIt (by have := HLL.out; have := HUL.out; show acc.length * 608 ≤ _; omega) HGr5.out
   refine bodyPost_ret (v := u3) (results_tmp (t := 2) rfl _ _ _) rfl (Outc.ok (u := un) (a := SL.of acc) ?_ HG5.out ⟨sl.p, sl.cap, SL.of sl.l, by rw [hv, SL.of_len], ?_, sLies_items hly⟩ HP5.out)
   ·rw [HR.out, HH.out, HGJ.out, Pr.stmts, if_neg (by rw [HB.out]; simp), thenOnto, SL.onto_nil]
   ·rw [SL.er_of]; rw [show sl.l.map It.er = acc from hsl]
  ·have HB := hdn hbg
   clear hbg
   go_wp2_with fail
   refine (stmt_any gj (HLO.out gj (by have := HGJ.out; omega)) w5 un HP5.out HL.out HTX.out HIU.out (by have := HGJ.out; omega) HB.out).mono ?_; intro en w6 ho
   have hstep : Pr.stmts (l.map Pr.tk) n u = thenOnto acc (Pr.th (Pr.stmt (l.map Pr.tk) (Pr.stmts (l.map Pr.tk) gj) un) fun a v => thenOnto [itB a] (Pr.stmts (l.map Pr.tk) gj v)) := by rw [HH.out, HGJ.out, stmts_step HB.out]
   rcases hm6 : Pr.stmt (l.map Pr.tk) (Pr.stmts (l.map Pr.tk) gj) un with e | ⟨a6, v6⟩
   ·obtain ⟨p, rfl, g6⟩ := ho.of_err hm6
    exact ⟨rfl, Outc.err (by rw [HR.out, hstep, hm6]; rfl) (grownBy_tr HG5.out g6)⟩
   have HST := hdn (Pr.stmt_stp (fun u l v h => Pr.stmts_stp _ u l v h) hm6)
   have HMO : Hid (Pr.stmts (l.map Pr.tk) n u = thenOnto (acc ++ [itB a6]) (Pr.stmts (l.map Pr.tk) gj v6)) := hdn (by rw [hstep, hm6, ← thenOnto_app]; rfl)
   obtain ⟨v, rfl, ⟨z, rfl, hz, hlie⟩, h6, g6⟩ := ho.of_ok hm6
   have HLZ : Hid (kIt.R (rest w.heap.size u3.ownBlock w6) z) := hdn (kIt.ext z (fresh_rest HG5.out.size (fun g hg => (HGr5.out.lt g hg).2)) hlie)
   have HZ6 : Hid (kIt.er z = itB a6) := hdn hz
   have HP6 := hdn h6; have HG6 := hdn (grownBy_tr HG5.out g6); have HGr6 := hdn (HGr5.out.par g6 HLT.out.1)
   have HB1 : Hid (acc.length + 1 ≤ maxLen ∧ (acc.length + 1) * 608 ≤ 140737488355328) := hdn ⟨by have := HLL.out; have := HUL.out; unfold maxLen; omega, by have := HLL.out; have := HUL.out; omega⟩
   clear h6 g6 ho hz hm6 hstep HP5 HG5 HGr5 hlie
   go_wp2_with (first | ((with_reducible show wpList _ _ _ (Oper.mk (some 9) _ _ _ _ _ :: _) _ _); refine wpList_one rfl 38 54 (.tmp 8) rfl (kIt.cells z).toArray rfl HIN.out.und i0 _ kIt.size HIN.out.info HIN.out.zero HIN.out.size HIN.out.pos (by decide) rfl ?_) | ((with_reducible show wpList _ _ _ (Oper.mk (some 10) _ _ _ _ _ :: _) _ _); refine Kd.wpList_push kIt rfl 38 i0 _ HIN.out (.tmp 6) (.tmp 9) rfl w.heap.size acc u3 rfl HGr6.out HG6.out.size z rfl HLZ.out HB1.out.1 HB1.out.2 ?_; rintro v' w7 hG7 ⟨gg, cc, rfl⟩ hgr7 hown7; have HGr7 := hdn hG7; have HP7 := hdn (HP6.out.grown hgr7 (fun q hq => by have := hown7 q hq; have := HLT.out; omega)); have HG7 := hdn (grownBy_up HG6.out hgr7 hown7); clear hG7 hgr7 hown7))
   go_roundg gj
   case measure => have := HGJ.out; omega
   case rel => exact ⟨acc ++ [itB a6], v6, by have := HGJ.out; omega, by have := HST.out.1; have := HGJ.out; omega, by have := HST.out.1; simp only [List.length_append, List.length_singleton]; omega, hdn (HST.out.2.2 HIU.out), HMO, by rw [← HZ6.out]; exact HGr7, HP7, HG7⟩
theorem stmts_any (hg : Good l) (hT : Tex l) (n : Nat) : SRec pb sb cap l n := by
 induction n using Nat.strongRecOn with
 | _ n ih => exact stmts_rec hg hT n ih
end
end Go.Proofs.YtdlchhimkelinaaGreatDoor
namespace Go.Proofs.YtdlchhimkelinaaGreatDoor
open Go.RowKit Go.Sort
attribute [local go_sem] field79_0 field79_1 field79_2 field79_3
section
variable {pb sb cap : Nat} {l : List Tx.Sg}
theorem size61 : (Tryz.prog.info? 37).map (·.size) = some 3 := by kernel_rfl
theorem size63 : (Tryz.prog.info? 40).map (·.size) = some 6 := by kernel_rfl
theorem fields_step {t : List Pr.Tk} {n : Nat} {acc : List Dc} {u : Pr.St} (h : Pr.is t u.i ⟨#[125]⟩ = false) : Pr.fields t (n + 1) acc u = Pr.th (Pr.pointer t u) fun d u => Pr.th (Pr.must t ⟨#[59]⟩ u) fun _ u => Pr.fields t n (acc ++ [d]) u := by
 rw [Pr.fields, if_neg (by rw [h]; simp)]
theorem fields_end {t : List Pr.Tk} {n : Nat} {acc : List Dc} {u : Pr.St} (h : Pr.is t u.i ⟨#[125]⟩ = true) : Pr.fields t (n + 1) acc u = .ok (acc, u.go) := by
 rw [Pr.fields, if_pos h]
theorem locals_step {t : List Pr.Tk} {n : Nat} {acc : List Dc} {u : Pr.St} (h : Pr.declares t u = true) : Pr.locals t (n + 1) acc u = Pr.th (Pr.decl t u) fun d u => Pr.locals t n (acc ++ [d]) u := by
 rw [Pr.locals, if_pos h]
theorem locals_end {t : List Pr.Tk} {n : Nat} {acc : List Dc} {u : Pr.St} (h : Pr.declares t u = false) : Pr.locals t (n + 1) acc u = .ok (acc, u) := by
 rw [Pr.locals, if_neg (by rw [h]; simp)]
theorem structure_any (w : World) (u : Pr.St) (h : PS w pb sb cap l u.i u.o u.b) (hg : Good l) :
  Calls Tryz.prog 60 #[.pointer (some ⟨pb, 0, none⟩)] w (Outc (kSr.Val w.heap.size) w pb sb cap l (Pr.structure_ (l.map Pr.tk) u)) := by
 obtain ⟨r, hr⟩ : ∃ r, r = Pr.structure_ (l.map Pr.tk) u := ⟨_, rfl⟩
 rw [← hr]
 have HR := hdn hr
 have HL := hdn hg
 have hn : Below w.heap.size w (w.alloc (.cells #[.string ByteArray.empty, .int .i64 0, .slice none 0 0] 37)) := (Below.refl _ _).alloc (Nat.le_refl _) _
 have HK : Hid (Bk (w.alloc (.cells #[.string ByteArray.empty, .int .i64 0, .slice none 0 0] 37)) w.heap.size 37 #[.string ByteArray.empty, .int .i64 0, .slice none 0 0]) := hdn (heap_alloc_new _ _)
 have HNE : Hid (w.heap.size ≠ pb ∧ w.heap.size ≠ sb ∧ pb < w.heap.size ∧ sb < w.heap.size) := hdn ⟨fun e => by have := h.pb_lt; omega, fun e => by have := h.sb_lt; omega, h.pb_lt, h.sb_lt⟩
 have HZ : Hid ((w.alloc (.cells #[.string ByteArray.empty, .int .i64 0, .slice none 0 0] 37)).heap.size = w.heap.size + 1) := hdn (by simp)
 have HG : Hid (w.grownBy (w.alloc (.cells #[.string ByteArray.empty, .int .i64 0, .slice none 0 0] 37)) (some pb)) := hdn (grownBy_of hn _)
 have HP := hdn (h.below hn)
 have HLL : Hid ((l.map Pr.tk).length = l.length ∧ l.length ≤ 6000000) := hdn ⟨List.length_map _, hg.len⟩
 generalize hwA : w.alloc (.cells #[.string ByteArray.empty, .int .i64 0, .slice none 0 0] 37) = wA at HK HG HP HZ
 clear h hg hr hn
 go_enter Tryz.func60, Tryz.ntmps60
 go_wp2_with fail
 rw [show w.alloc (.cells #[.string ⟨#[]⟩, .int .i64 0, .slice none 0 0] 37) = wA from hwA]
 clear hwA
 refine (must_any ⟨#[115, 116, 114, 117, 99, 116]⟩ (by decide) wA u HP.out HL.out).mono ?_; intro en w1 ho
 rcases hm1 : Pr.must (l.map Pr.tk) ⟨#[115, 116, 114, 117, 99, 116]⟩ u with n | ⟨a1, u1⟩
 ·obtain ⟨p, rfl, g⟩ := ho.of_err hm1
  exact ⟨rfl, Outc.err (by rw [HR.out]; simp only [Pr.structure_, Pr.th, hm1]) (grownBy_tr HG.out g)⟩
 obtain ⟨v, rfl, ⟨xx1, rfl, hxx1⟩, h, g⟩ := ho.of_ok hm1
 have HM1 := hdn hm1; have HP1 := hdn h; have HK1 := hdn (HK.out.kept g HNE.out.1); have HG1 := hdn (grownBy_tr HG.out g)
 clear h g ho hm1 hxx1 HP HK HG
 go_wp2_with fail
 refine (name_any w1 u1 HP1.out HL.out).mono ?_; intro en w2 ho
 rcases hm2 : Pr.name (l.map Pr.tk) u1 with n | ⟨a2, u2⟩
 ·obtain ⟨p, rfl, g⟩ := ho.of_err hm2
  exact ⟨rfl, Outc.err (by rw [HR.out]; simp only [Pr.structure_, Pr.th, HM1.out, hm2]) (grownBy_tr HG1.out g)⟩
 obtain ⟨v, rfl, ⟨x, rfl, hx⟩, h, g⟩ := ho.of_ok hm2
 have HX := hdn hx; have HM2 := hdn hm2; have HP2 := hdn h; have HK2 := hdn (HK1.out.kept g HNE.out.1); have HG2 := hdn (grownBy_tr HG1.out g)
 clear h g ho hm2 hx HP1 HK1 HG1
 go_upto_region 3 with fail
 have hm : Below w2.heap.size w2 (w2.alloc (.cells #[.int .i64 x.kind, .int .i64 x.pos, .string x.text, .int .i64 x.num] 106)) := (Below.refl _ _).alloc (Nat.le_refl _) _
 have HP3 := hdn (HP2.out.below hm)
 have HK3 := hdn (HK2.out.below hm HK2.out.lt)
 have HF : Hid (Bk (w2.alloc (.cells #[.int .i64 x.kind, .int .i64 x.pos, .string x.text, .int .i64 x.num] 106)) w2.heap.size 106 #[.int .i64 x.kind, .int .i64 x.pos, .string x.text, .int .i64 x.num]) := hdn (heap_alloc_new _ _)
 have HG3 : Hid (w.grownBy (w2.alloc (.cells #[.int .i64 x.kind, .int .i64 x.pos, .string x.text, .int .i64 x.num] 106)) (some pb)) := hdn (grownBy_below HG2.out hm)
 obtain ⟨F, hF⟩ : ∃ F, F = w2.heap.size := ⟨_, rfl⟩
 rw [← hF] at HF ⊢
 clear hF hm HP2 HK2 HG2
 generalize w2.alloc (.cells #[.int .i64 x.kind, .int .i64 x.pos, .string x.text, .int .i64 x.num] 106) = w3 at HP3 HK3 HF HG3 ⊢
 have t1 : w3.cell? ⟨F, 1, none⟩ = some (.int .i64 x.pos) := HF.out.cell 1
 have t2 : w3.cell? ⟨F, 2, none⟩ = some (.string x.text) := HF.out.cell 2
 go_upto_region 4 with fail
 clear t1 t2
 have hm : Below w3.heap.size w3 (w3.alloc (.cells #[.string x.text, .int .i64 x.pos, .slice none 0 0] 37)) := (Below.refl _ _).alloc (Nat.le_refl _) _
 have HP4 := hdn (HP3.out.below hm)
 have HK4 := hdn (HK3.out.below hm HK3.out.lt)
 have HS : Hid (Bk (w3.alloc (.cells #[.string x.text, .int .i64 x.pos, .slice none 0 0] 37)) w3.heap.size 37 #[.string x.text, .int .i64 x.pos, .slice none 0 0]) := hdn (heap_alloc_new _ _)
 have HG4 : Hid (w.grownBy (w3.alloc (.cells #[.string x.text, .int .i64 x.pos, .slice none 0 0] 37)) (some pb)) := hdn (grownBy_below HG3.out hm)
 have HSZ : Hid ((w3.alloc (.cells #[.string x.text, .int .i64 x.pos, .slice none 0 0] 37)).heap.size = w3.heap.size + 1) := hdn (by simp)
 obtain ⟨S, hS⟩ : ∃ S, S = w3.heap.size := ⟨_, rfl⟩
 have HSN : Hid (S ≠ pb ∧ S ≠ sb ∧ w.heap.size ≠ S ∧ w.heap.size ≤ S ∧ pb < S ∧ sb < S) := hdn ⟨by have := HP3.out.pb_lt; omega, by have := HP3.out.sb_lt; omega, by have := HK3.out.lt; omega, by have := HK3.out.lt; omega, by have := HP3.out.pb_lt; omega, by have := HP3.out.sb_lt; omega⟩
 rw [← hS] at HS HSZ ⊢
 clear hS hm HF HP3 HK3 HG3
 change Code.wp _ _ _ _ (w3.alloc (.cells #[.string x.text, .int .i64 x.pos, .slice none 0 0] 37))
 generalize w3.alloc (.cells #[.string x.text, .int .i64 x.pos, .slice none 0 0] 37) = w4 at HP4 HK4 HS HG4 HSZ ⊢
 go_wp2_with fail
 refine (must_any ⟨#[123]⟩ (by decide) w4 u2 HP4.out HL.out).mono ?_; intro en w5 ho
 rcases hm3 : Pr.must (l.map Pr.tk) ⟨#[123]⟩ u2 with n | ⟨a3, u3⟩
 ·obtain ⟨p, rfl, g⟩ := ho.of_err hm3
  exact ⟨rfl, Outc.err (by rw [HR.out]; simp only [Pr.structure_, Pr.th, HM1.out, HM2.out, hm3]) (grownBy_tr HG4.out g)⟩
 obtain ⟨v, rfl, ⟨xx3, rfl, hxx3⟩, h, g⟩ := ho.of_ok hm3
 have HM3 := hdn hm3; have HP5 := hdn h; have HK5 := hdn (HK4.out.kept g HNE.out.1); have HS5 := hdn (HS.out.kept g HSN.out.1); have HG5 := hdn (grownBy_tr HG4.out g); have HLE5 := hdn g.size
 clear h g ho hm3 hxx3 HP4 HK4 HS HG4
 obtain ⟨i0, hI⟩ := infDc
 have HI := hdn hI
 clear hI
 go_wp2_with fail
 go_loopg [] ((l.map Pr.tk).length + 1) (fun g wr => ∃ (acc : List Dc) (v : Value) (un : Pr.St), l.length < un.i + g ∧ acc.length ≤ un.i ∧ Hid (Pr.fields (l.map Pr.tk) g acc un = Pr.fields (l.map Pr.tk) ((l.map Pr.tk).length + 1) [] u3) ∧ Hid (kDc.Gr w4.heap.size acc v wr) ∧ Hid (Bk wr S 37 #[.string x.text, .int .i64 x.pos, v]) ∧ Hid (PS wr pb sb cap l un.i un.o un.b) ∧ Hid (Bk wr w.heap.size 37 #[.string ByteArray.empty, .int .i64 0, .slice none 0 0]) ∧ Hid (w.grownBy wr (some pb)) ∧ Hid (w4.heap.size ≤ wr.heap.size))
 case atStart => exact ⟨[], .slice none 0 0, u3, by rw [HLL.out.1]; omega, Nat.zero_le _, hdn rfl, hdn (Kd.Gr.nil kDc (World.ownsRow_nil _ _ _ _)), HS5, HP5, HK5, HG5, HLE5⟩
 case round =>
  obtain ⟨acc, v, un, hlt, hacc, HH, HGr, HSr, HPr, HKr, HGw, HLE⟩ := hrel
  obtain ⟨a0, c0, rfl⟩ : ∃ a0 c0, v = .slice a0 acc.length c0 := by obtain ⟨ys, _, h2, _⟩ := HGr.out; exact own_shape h2
  have HUL : Hid (un.i < l.length) := hdn HPr.out.lt
  obtain ⟨gj, hgj⟩ : ∃ k, gk = k + 1 := ⟨gk - 1, by have := HUL.out; omega⟩
  have HGJ := hdn hgj
  clear hgj
  go_wp2_with fail
  refine (may_any ⟨#[125]⟩ (by decide) wr un HPr.out HL.out).mono ?_; rintro en w6 ⟨q, hq, rfl, h, g⟩
  have HQ := hdn hq; have HP6 := hdn h; have HK6 := hdn (HKr.out.kept g HNE.out.1); have HS6 := hdn (HSr.out.kept g HSN.out.1); have HG6 := hdn (grownBy_tr HGw.out g); have HGr6 := hdn (HGr.out.par g (by have := HSZ.out; have := HSN.out; omega)); have HLE6 := hdn (Nat.le_trans HLE.out g.size)
  clear h g hq HPr HKr HSr HGw HGr HLE
  cases q with
  | true =>
   obtain ⟨sl, hv, hsl, hly⟩ := Kd.fin kDc (by have := HLL.out.2; have := HUL.out; show acc.length * 40 ≤ _; omega) HGr6.out
   injection hv with e1 e2 e3
   have HSL := hdn hsl
   have HLY : Hid (declsLie (fresh w4.heap.size w6) sl) := hdn hly
   have HS7 : Hid (Bk w6 S 37 (Sr.cells ⟨x.text, x.pos, sl⟩).toArray) := hdn (by have := HS6.out; rw [e1, e2, e3] at this; exact this)
   clear e1 e2 e3 hsl hly
   go_wp2_with (first | ((with_reducible show wpList _ _ _ (Oper.mk (some 28) (Op.load 37 (Operand.tmp 4)) _ _ _ _ :: _) _ _); refine wpList_load_bk rfl 37 (.tmp 4) rfl S 37 (Sr.cells ⟨x.text, x.pos, sl⟩).toArray rfl _ HS7.out Tryz.underlying37 rfl size61 ?_) | ((with_reducible show wpList _ _ _ (Oper.mk none (Op.store 37 (Operand.tmp 2) (Operand.tmp 28)) _ _ _ _ :: _) _ _); refine wpList_store_bk rfl 37 (.tmp 2) (.tmp 28) rfl w.heap.size 37 _ (Sr.cells ⟨x.text, x.pos, sl⟩).toArray rfl rfl HK6.out size61 rfl (kSr.one _) ?_; intro wZ hB hF))
   exact bodyPost_ret (results_cell_row Tryz.results60 _ wZ w.heap.size 37 (Sr.cells ⟨x.text, x.pos, sl⟩).toArray (0, 0) _ rfl hB Tryz.underlying37 rfl size61) rfl (Outc.ok (u := un.go) (a := ⟨a2.text, 0, ⟨none, 0, acc⟩⟩) (by rw [HR.out]; simp only [Pr.structure_, Pr.th, HM1.out, HM2.out, HM3.out]; rw [← HH.out, HGJ.out, fields_end HQ.out]) (grownBy_mine HG6.out hF) ⟨⟨x.text, x.pos, sl⟩, rfl, by show Sr.er _ = _; rw [← HX.out]; simp only [Sr.er, Sl.er, Pr.tk]; rw [show sl.l.map Dc.er = acc from HSL.out], declsLie_ext ((fresh_par hF (by have := HSZ.out; have := HSN.out; omega)).trans (fresh_mono (by have := HSZ.out; have := HSN.out; omega) _)) HLY.out⟩ (HP6.out.far hF HNE.out.1 HNE.out.2.1))
  | false =>
   have s2 : w6.cell? ⟨S, 2, none⟩ = some (.slice a0 acc.length c0) := HS6.out.cell 2
   go_wp2_with fail
   have HPD : Hid (PS w6.drew pb sb cap l un.i un.o un.b) := hdn (HP6.out.below (below_drew (Below.refl _ _)))
   have HKD : Hid (Bk w6.drew w.heap.size 37 #[.string ByteArray.empty, .int .i64 0, .slice none 0 0]) := hdn HK6.out
   have HSD : Hid (Bk w6.drew S 37 #[.string x.text, .int .i64 x.pos, .slice a0 acc.length c0]) := hdn HS6.out
   have HGD : Hid (w.grownBy w6.drew (some pb)) := hdn (grownBy_drew HG6.out)
   have HGrD := hdn (HGr6.out.below (below_drew (Below.refl _ _)))
   have HLED : Hid (w4.heap.size ≤ w6.drew.heap.size) := hdn HLE6.out
   have HB1 : Hid (acc.length + 1 ≤ maxLen ∧ (acc.length + 1) * 40 ≤ 140737488355328) := hdn ⟨by have := HLL.out.2; have := HUL.out; unfold maxLen; omega, by have := HLL.out.2; have := HUL.out; omega⟩
   clear HP6 HK6 HS6 HG6 HGr6 HLE6
   go_region_law (first
    | (go_simp; go_at_call 101; (with_reducible refine (pointer_any _ un HPD.out HL.out).mono ?_); intro en w7 ho; rcases hm7 : Pr.pointer (l.map Pr.tk) un with n | ⟨a7, u7⟩; (· obtain ⟨p, rfl, g⟩ := ho.of_err hm7; exact ⟨rfl, Outc.err (by rw [HR.out]; simp only [Pr.structure_, Pr.th, HM1.out, HM2.out, HM3.out]; rw [← HH.out, HGJ.out, fields_step HQ.out, hm7]; rfl) (grownBy_tr HGD.out g)⟩); obtain ⟨v, rfl, ⟨z, rfl, hz⟩, h, g⟩ := ho.of_ok hm7; have HZE : Hid (kDc.er z = a7) := hdn hz; have HM7 := hdn hm7; have HP7 := hdn h; have HK7 := hdn (HKD.out.kept g HNE.out.1); have HS7 := hdn (HSD.out.kept g HSN.out.1); have HG7 := hdn (grownBy_tr HGD.out g); have HGr7 := hdn (HGrD.out.par g (by have := HSZ.out; have := HSN.out; omega)); have HLE7 := hdn (Nat.le_trans HLED.out g.size); have s27 : w7.cell? ⟨S, 2, none⟩ = some (.slice a0 acc.length c0) := HS7.out.cell 2; have s27a : ∀ ob, (w7.alloc ob).cell? ⟨S, 2, none⟩ = some (.slice a0 acc.length c0) := (fun ob => (World.cell?_alloc_lt _ _ _ HS7.out.lt).trans s27); clear h g ho hz hm7; (try dsimp only))
    | (refine Kd.step_push kDc rfl 23 i0 _ HI.out (.tmp 20) (.tmp 23) rfl w4.heap.size acc (.slice a0 acc.length c0) rfl HGr7.out HLE7.out z rfl trivial HB1.out.1 HB1.out.2 ?_; rintro v' w8 hG8 ⟨gg, cc, rfl⟩ hgr8 hown8; have HGr8 := hdn hG8; have HP8 := hdn (HP7.out.grown hgr8 (fun q hq => by have := hown8 q hq; have := HSZ.out; have := HSN.out; omega)); have HK8 := hdn (HK7.out.grown hgr8 (fun q hq => by have := hown8 q hq; have := HSZ.out; have := HSN.out; omega)); have HS8 := hdn (HS7.out.grown hgr8 (fun q hq => by have := hown8 q hq; have := HSZ.out; omega)); have HG8 := hdn (grownBy_up HG7.out hgr8 (fun q hq => by have := hown8 q hq; have := HSZ.out; have := HSN.out; omega)); have HLE8 : Hid (w4.heap.size ≤ w8.heap.size) := hdn (Nat.le_trans HLE7.out hgr8.size); have s28 : w8.cell? ⟨S, 2, none⟩ = some (.slice a0 acc.length c0) := HS8.out.cell 2; have f28 : w8.frozen? ⟨S, 2, none⟩ = false := HS8.out.frozen 2; clear hG8 hgr8 hown8))
   all_goals
    have gS := grownBy_setC w8 ⟨S, 2, none⟩ (.slice (some ⟨gg, 0, none⟩) (acc.length + 1) cc)
    have HP9 := hdn (HP8.out.far gS HSN.out.1 HSN.out.2.1)
    have HK9 := hdn (HK8.out.kept gS HSN.out.2.2.1)
    have HS9 : Hid (Bk (w8.setCell ⟨S, 2, none⟩ (.slice (some ⟨gg, 0, none⟩) (acc.length + 1) cc)) S 37 #[.string x.text, .int .i64 x.pos, .slice (some ⟨gg, 0, none⟩) (acc.length + 1) cc]) := hdn (HS8.out.set_ 2 _)
    have HG9 := hdn (grownBy_under HG8.out gS HSN.out.2.2.2.1)
    have HGr9 := hdn (HGr8.out.par gS (by have := HSZ.out; show S < _; omega))
    have HLE9 := hdn (Nat.le_trans HLE8.out gS.size)
    clear gS s28 f28 s27 s27a s2 HP8 HK8 HS8 HG8 HLE8 HGr8 HP7 HK7 HS7 HG7 HLE7 HGr7
    generalize w8.setCell ⟨S, 2, none⟩ (.slice (some ⟨gg, 0, none⟩) (acc.length + 1) cc) = w9 at HP9 HK9 HS9 HG9 HGr9 HLE9 ⊢
    go_wp2_with fail
    refine (must_any ⟨#[59]⟩ (by decide) w9 u7 HP9.out HL.out).mono ?_; intro en w10 ho
    rcases hm10 : Pr.must (l.map Pr.tk) ⟨#[59]⟩ u7 with n | ⟨a10, u10⟩
    ·obtain ⟨p, rfl, g⟩ := ho.of_err hm10
     exact ⟨rfl, Outc.err (by rw [HR.out]; simp only [Pr.structure_, Pr.th, HM1.out, HM2.out, HM3.out]; rw [← HH.out, HGJ.out, fields_step HQ.out]; simp only [Pr.th, HM7.out, hm10]) (grownBy_tr HG9.out g)⟩
    obtain ⟨v, rfl, ⟨xx10, rfl, hxx10⟩, h, g⟩ := ho.of_ok hm10
    have HF10 := hdn ((Pr.pointer_fwd HM7.out).tr (Pr.must_fwd hm10))
    have HFE : Hid (Pr.fields (l.map Pr.tk) gk acc un = Pr.fields (l.map Pr.tk) gj (acc ++ [a7]) u10) := hdn (by rw [HGJ.out, fields_step HQ.out]; simp only [Pr.th, HM7.out, hm10])
    have HP10 := hdn h; have HK10 := hdn (HK9.out.kept g HNE.out.1); have HS10 := hdn (HS9.out.kept g HSN.out.1); have HG10 := hdn (grownBy_tr HG9.out g); have HGr10 := hdn (HGr9.out.par g (by have := HSZ.out; have := HSN.out; omega)); have HLE10 := hdn (Nat.le_trans HLE9.out g.size)
    clear h g ho hm10 hxx10 HP9 HK9 HS9 HG9 HGr9 HLE9
    go_wp2_with fail
    go_roundg gj
    case measure => have := HGJ.out; omega
    case rel => exact ⟨acc ++ [a7], .slice (some ⟨gg, 0, none⟩) (acc.length + 1) cc, u10, by have := HF10.out.1; have := HGJ.out; omega, by have := HF10.out.1; simp only [List.length_append, List.length_singleton]; omega, hdn (by rw [← HFE.out, HH.out]), by rw [← HZE.out]; exact HGr10, HS10, HP10, HK10, HG10, HLE10⟩
end
end Go.Proofs.YtdlchhimkelinaaGreatDoor
