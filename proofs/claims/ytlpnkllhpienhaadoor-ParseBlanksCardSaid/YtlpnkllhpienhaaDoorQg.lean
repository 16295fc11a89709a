/-
  DERIVED. The walks of the parser's statements that lead to no others.
-/
import Derived.Test.YtlpnkllhpienhaaDoorQf
namespace Go.Proofs.YtlpnkllhpienhaaDoor
open Go.RowKit Go.Sort

attribute [local go_sem] field79_0 field79_1 field79_2 field79_3
section
variable {pb sb cap : Nat} {l : List Tx.Sg}
theorem Pr.name_sg {t : List Pr.Tk} {u v : Pr.St} {x : Pr.Tk} (h : Pr.name t u = .ok (x, v)) : x = Pr.sg t u.i := by
  unfold Pr.name at h
  split at h
  · injection h with h; injection h with h _; exact h.symm
  · cases h
set_option maxHeartbeats 1600000 in
set_option maxRecDepth 100000 in
theorem free_any (w : World) (u : Pr.St) (S : Nat) (p0 : Int) (h : PS w pb sb cap l u.i u.o u.b) (hg : Good l) (hk : Bk w S 52 (it0 p0).cells.toArray) (hn : S ≠ pb ∧ S ≠ sb) :
    Calls Tryd.prog 45 #[.pointer (some ⟨pb, 0, none⟩), .pointer (some ⟨S, 0, none⟩)] w (OutS itH w pb sb cap S l (Pr.free (l.map Pr.tk) u)) := by
  obtain ⟨r, hr⟩ : ∃ r, r = Pr.free (l.map Pr.tk) u := ⟨_, rfl⟩
  rw [← hr]
  have HR := Lib.hid hr
  have HL := Lib.hid hg
  have HP0 := Lib.hid h
  have HSN : Hid (S ≠ pb ∧ S ≠ sb ∧ S < w.heap.size ∧ pb < w.heap.size) := Lib.hid ⟨hn.1, hn.2, hk.lt, h.pb_lt⟩
  have HG0 : Hid (Gr2 w w pb S) := Lib.hid (Gr2.refl _ _ _)
  obtain ⟨x0, hx0⟩ : ∃ x, x = it0 p0 := ⟨_, rfl⟩
  have HX0 : Hid (Stc w w S x0) := Lib.hid (by rw [hx0]; exact Stc.zero p0 hk)
  have HE0 := Lib.hid hx0
  clear h hg hr hk hn hx0 
  go_enter Tryd.func45, Tryd.ntmps45
  have s0 : w.cell? ⟨S, 0, none⟩ = some (.int .i64 x0.h.kind) := HX0.out.1.cell 0
  have f0 := HX0.out.1.frozen 0
  have gS := grownBy_setC w ⟨S, 0, none⟩ (.int .i64 2)
  have HP1 := Lib.hid (HP0.out.far gS HSN.out.1 HSN.out.2.1)
  have HG1 := Lib.hid (HG0.out.two gS)
  have HX1 : Hid (Stc w (w.setCell ⟨S, 0, none⟩ (.int .i64 2)) S { x0 with h := { x0.h with kind := 2 } }) := Lib.hid (HX0.out.kind HSN.out.2.2.1 2)
  clear gS
  go_upto_region 1 with fail
  clear s0 f0 HP0 HG0 HX0
  generalize w.setCell ⟨S, 0, none⟩ (.int .i64 2) = w1 at HP1 HG1 HX1 ⊢
  obtain ⟨x1, hx1⟩ : ∃ x : It, x = { x0 with h := { x0.h with kind := 2 } } := ⟨_, rfl⟩
  rw [← hx1] at HX1
  have HE1 := Lib.hid hx1
  clear hx1
  go_wp2_with fail
  refine (must_any ⟨#[102, 114, 101, 101]⟩ (by decide) w1 u HP1.out HL.out).mono ?_; intro en w2 ho
  rcases hm1 : Pr.must (l.map Pr.tk) ⟨#[102, 114, 101, 101]⟩ u with n | ⟨a1, v1⟩
  · obtain ⟨p, rfl, g⟩ := ho.of_err hm1
    exact ⟨rfl, OutS.err (by rw [HR.out]; simp only [Pr.free, Pr.th, hm1]) (HG1.out.one g)⟩
  obtain ⟨v, rfl, ⟨xx, rfl, _⟩, h, g⟩ := ho.of_ok hm1
  have HM1 := Lib.hid hm1; have HP2 := Lib.hid h; have HG2 := Lib.hid (HG1.out.one g); have HX2 := Lib.hid (HX1.out.par g HSN.out.1 HSN.out.2.2.2)
  clear h g ho hm1 HP1 HG1 HX1
  go_wp2_with fail
  refine (must_any ⟨#[40]⟩ (by decide) w2 v1 HP2.out HL.out).mono ?_; intro en w3 ho
  rcases hm2 : Pr.must (l.map Pr.tk) ⟨#[40]⟩ v1 with n | ⟨a2, v2⟩
  · obtain ⟨p, rfl, g⟩ := ho.of_err hm2
    exact ⟨rfl, OutS.err (by rw [HR.out]; simp only [Pr.free, Pr.th, HM1.out, hm2]) (HG2.out.one g)⟩
  obtain ⟨v, rfl, ⟨xx, rfl, _⟩, h, g⟩ := ho.of_ok hm2
  have HM2 := Lib.hid hm2; have HP3 := Lib.hid h; have HG3 := Lib.hid (HG2.out.one g); have HX3 := Lib.hid (HX2.out.par g HSN.out.1 HSN.out.2.2.2)
  clear h g ho hm2 HP2 HG2 HX2
  go_wp2_with fail
  refine (path_any w3 v2 HP3.out HL.out).mono ?_; intro en w4 ho
  rcases hm3 : Pr.path (l.map Pr.tk) v2 with n | ⟨a3, v3⟩
  · obtain ⟨p, rfl, g⟩ := ho.of_err hm3
    exact ⟨rfl, OutS.err (by rw [HR.out]; simp only [Pr.free, Pr.th, HM1.out, HM2.out, hm3]) (HG3.out.one g)⟩
  obtain ⟨v, rfl, ⟨y, rfl, hz, hlie⟩, h, g⟩ := ho.of_ok hm3
  have HM3 := Lib.hid hm3; have HP4 := Lib.hid h; have HG4 := Lib.hid (HG3.out.one g); have HX4 := Lib.hid (HX3.out.par g HSN.out.1 HSN.out.2.2.2)
  have HZ := Lib.hid hz; have HY : Hid (hopsLie (fresh w.heap.size w4) y.hops) := Lib.hid (hopsLie_ext (fresh_mono HG3.out.size _) hlie); clear hz hlie
  clear h g ho hm3 HP3 HG3 HX3
  go_upto_region 4 with (first | ((with_reducible show wpList _ _ _ (Oper.mk none (Op.store 43 (Operand.tmp 15) (Operand.tmp 13)) _ _ _ _ :: _) _ _); refine wpList_store_part rfl 43 (.tmp 15) (.tmp 13) rfl S 2 52 x1.cells (Pth.cells y) rfl rfl HX4.out.1 size43 (show 2+3 ≤ 48 by decide) (kPth.one y) ?_; intro w5 hB hF))
  have HP5 := Lib.hid (HP4.out.far hF HSN.out.1 HSN.out.2.1); have HG5 := Lib.hid (HG4.out.two hF)
  have HX5 : Hid (Stc w w5 S { x1 with h := { x1.h with place := y } }) := Lib.hid (HX4.out.place HSN.out.2.2.1 hB hF HY.out)
  clear hB hF HP4 HG4 HX4
  obtain ⟨x2, hx2⟩ : ∃ x : It, x = { x1 with h := { x1.h with place := y } } := ⟨_, rfl⟩
  rw [← hx2] at HX5
  have HE2 := Lib.hid hx2
  clear hx2
  go_wp2_with fail
  refine (must_any ⟨#[41]⟩ (by decide) w5 v3 HP5.out HL.out).mono ?_; intro en w6 ho
  rcases hm4 : Pr.must (l.map Pr.tk) ⟨#[41]⟩ v3 with n | ⟨a4, v4⟩
  · obtain ⟨p, rfl, g⟩ := ho.of_err hm4
    exact ⟨rfl, OutS.err (by rw [HR.out]; simp only [Pr.free, Pr.th, HM1.out, HM2.out, HM3.out, hm4]) (HG5.out.one g)⟩
  obtain ⟨v, rfl, ⟨xx, rfl, _⟩, h, g⟩ := ho.of_ok hm4
  have HM4 := Lib.hid hm4; have HP6 := Lib.hid h; have HG6 := Lib.hid (HG5.out.one g); have HX6 := Lib.hid (HX5.out.par g HSN.out.1 HSN.out.2.2.2)
  clear h g ho hm4 HP5 HG5 HX5
  go_wp2_with fail
  refine (must_any ⟨#[59]⟩ (by decide) w6 v4 HP6.out HL.out).mono ?_; intro en w7 ho
  rcases hm5 : Pr.must (l.map Pr.tk) ⟨#[59]⟩ v4 with n | ⟨a5, v5⟩
  · obtain ⟨p, rfl, g⟩ := ho.of_err hm5
    exact ⟨rfl, OutS.err (by rw [HR.out]; simp only [Pr.free, Pr.th, HM1.out, HM2.out, HM3.out, HM4.out, hm5]) (HG6.out.one g)⟩
  obtain ⟨v, rfl, ⟨xx, rfl, _⟩, h, g⟩ := ho.of_ok hm5
  have HM5 := Lib.hid hm5; have HP7 := Lib.hid h; have HG7 := Lib.hid (HG6.out.one g); have HX7 := Lib.hid (HX6.out.par g HSN.out.1 HSN.out.2.2.2)
  clear h g ho hm5 HP6 HG6 HX6
  go_wp2_with fail
  go_end0
  exact OutS.ok (u := v5) (a := { Pr.noHd with kind := 2, place := a3 }) (x := x2) (by rw [HR.out]; simp only [Pr.free, Pr.th, HM1.out, HM2.out, HM3.out, HM4.out, HM5.out]) HG7.out (by rw [HE2.out, HE1.out, HE0.out, ← HZ.out]; rfl) HX7.out HP7.out
set_option maxHeartbeats 3200000 in
set_option maxRecDepth 100000 in
theorem named_any (w : World) (u : Pr.St) (S : Nat) (p0 : Int) (h : PS w pb sb cap l u.i u.o u.b) (hg : Good l) (hk : Bk w S 52 (it0 p0).cells.toArray) (hn : S ≠ pb ∧ S ≠ sb) (hT : Tex l) (hx : (Pr.sg (l.map Pr.tk) u.i).kind ≠ 0) :
    Calls Tryd.prog 48 #[.pointer (some ⟨pb, 0, none⟩), .pointer (some ⟨S, 0, none⟩)] w (OutS itH w pb sb cap S l (Pr.named (l.map Pr.tk) u)) := by
  obtain ⟨r, hr⟩ : ∃ r, r = Pr.named (l.map Pr.tk) u := ⟨_, rfl⟩
  rw [← hr]
  have HR := Lib.hid hr
  have HL := Lib.hid hg
  have HP0 := Lib.hid h
  have HSN : Hid (S ≠ pb ∧ S ≠ sb ∧ S < w.heap.size ∧ pb < w.heap.size) := Lib.hid ⟨hn.1, hn.2, hk.lt, h.pb_lt⟩
  have HG0 : Hid (Gr2 w w pb S) := Lib.hid (Gr2.refl _ _ _)
  obtain ⟨x0, hx0⟩ : ∃ x, x = it0 p0 := ⟨_, rfl⟩
  have HX0 : Hid (Stc w w S x0) := Lib.hid (by rw [hx0]; exact Stc.zero p0 hk)
  have HE0 := Lib.hid hx0
  obtain ⟨x, hx1⟩ := h.at
  have hi := hg.more hx1 (by rw [Pr.sg_tk hx1] at hx; exact hx)
  obtain ⟨y1, hy1⟩ : ∃ y, l[u.i + 1]? = some y := ⟨l[u.i + 1], List.getElem?_eq_getElem hi⟩
  have HY1 : Hid (Pr.is (l.map Pr.tk) (u.i + 1) ⟨#[40]⟩ = (y1.text.toList == [40])) := Lib.hid (by rw [Pr.is_tk hy1]; rw [show (⟨#[40]⟩ : ByteArray).toList = [40] from Lib.toList_data _])
  have HB := Lib.hid (behind_any y1 w h hg hy1)
  have HTX := Lib.hid hT
  have HI := Lib.hid hx1
  clear hx1 hi hy1
  clear h hg hr hk hn hx0 hT hx
  go_enter Tryd.func48, Tryd.ntmps48
  go_wp2_with fail
  refine (HB.out).mono ?_; rintro en w1 ⟨rfl, hb⟩
  have HP1 := Lib.hid (HP0.out.below hb); have HG1 := Lib.hid (HG0.out.one (grownBy_of hb (some pb))); have HX1 := Lib.hid (HX0.out.par (grownBy_of hb (some pb)) HSN.out.1 HSN.out.2.2.2)
  clear hb HP0 HG0 HX0 HB
  rcases q1 : (y1.text.toList == [40]) with _ | _
  · have HSK := Lib.hid (HY1.out.trans q1)
    have s0 : w1.cell? ⟨S, 0, none⟩ = some (.int .i64 x0.h.kind) := HX1.out.1.cell 0
    have f0 := HX1.out.1.frozen 0
    have gS := grownBy_setC w1 ⟨S, 0, none⟩ (.int .i64 1)
    have HP2 := Lib.hid (HP1.out.far gS HSN.out.1 HSN.out.2.1)
    have HG2 := Lib.hid (HG1.out.two gS)
    have HX2 : Hid (Stc w (w1.setCell ⟨S, 0, none⟩ (.int .i64 1)) S { x0 with h := { x0.h with kind := 1 } }) := Lib.hid (HX1.out.kind HSN.out.2.2.1 1)
    clear gS
    go_upto_region 5 with fail
    clear q1 s0 f0 HP1 HG1 HX1
    generalize w1.setCell ⟨S, 0, none⟩ (.int .i64 1) = w2 at HP2 HG2 HX2 ⊢
    obtain ⟨x1, hx1⟩ : ∃ x : It, x = { x0 with h := { x0.h with kind := 1 } } := ⟨_, rfl⟩
    rw [← hx1] at HX2
    have HE1 := Lib.hid hx1
    clear hx1
    go_wp2_with fail
    refine (path_any w2 u HP2.out HL.out).mono ?_; intro en w3 ho
    rcases hm1 : Pr.path (l.map Pr.tk) u with n | ⟨a1, v1⟩
    · obtain ⟨p, rfl, g⟩ := ho.of_err hm1
      exact ⟨rfl, OutS.err (by rw [HR.out]; simp only [Pr.named, HSK.out, Bool.false_eq_true, if_false, Pr.th, hm1]) (HG2.out.one g)⟩
    obtain ⟨v, rfl, ⟨y, rfl, hz, hlie⟩, h, g⟩ := ho.of_ok hm1
    have HM1 := Lib.hid hm1; have HP3 := Lib.hid h; have HG3 := Lib.hid (HG2.out.one g); have HX3 := Lib.hid (HX2.out.par g HSN.out.1 HSN.out.2.2.2)
    have HZ := Lib.hid hz; have HY : Hid (hopsLie (fresh w.heap.size w3) y.hops) := Lib.hid (hopsLie_ext (fresh_mono HG2.out.size _) hlie); clear hz hlie
    clear h g ho hm1 HP2 HG2 HX2
    go_upto_region 6 with (first | ((with_reducible show wpList _ _ _ (Oper.mk none (Op.store 43 (Operand.tmp 28) (Operand.tmp 26)) _ _ _ _ :: _) _ _); refine wpList_store_part rfl 43 (.tmp 28) (.tmp 26) rfl S 2 52 x1.cells (Pth.cells y) rfl rfl HX3.out.1 size43 (show 2+3 ≤ 48 by decide) (kPth.one y) ?_; intro w4 hB hF))
    have HP4 := Lib.hid (HP3.out.far hF HSN.out.1 HSN.out.2.1); have HG4 := Lib.hid (HG3.out.two hF)
    have HX4 : Hid (Stc w w4 S { x1 with h := { x1.h with place := y } }) := Lib.hid (HX3.out.place HSN.out.2.2.1 hB hF HY.out)
    clear hB hF HP3 HG3 HX3
    obtain ⟨x2, hx2⟩ : ∃ x : It, x = { x1 with h := { x1.h with place := y } } := ⟨_, rfl⟩
    rw [← hx2] at HX4
    have HE2 := Lib.hid hx2
    clear hx2
    go_wp2_with fail
    refine (must_any ⟨#[61]⟩ (by decide) w4 v1 HP4.out HL.out).mono ?_; intro en w5 ho
    rcases hm2 : Pr.must (l.map Pr.tk) ⟨#[61]⟩ v1 with n | ⟨a2, v2⟩
    · obtain ⟨p, rfl, g⟩ := ho.of_err hm2
      exact ⟨rfl, OutS.err (by rw [HR.out]; simp only [Pr.named, HSK.out, Bool.false_eq_true, if_false, Pr.th, HM1.out, hm2]) (HG4.out.one g)⟩
    obtain ⟨v, rfl, ⟨xx, rfl, _⟩, h, g⟩ := ho.of_ok hm2
    have HM2 := Lib.hid hm2; have HP5 := Lib.hid h; have HG5 := Lib.hid (HG4.out.one g); have HX5 := Lib.hid (HX4.out.par g HSN.out.1 HSN.out.2.2.2)
    clear h g ho hm2 HP4 HG4 HX4
    go_wp2_with fail
    refine (value_any w5 v2 HP5.out HL.out).mono ?_; intro en w6 ho
    rcases hm3 : Pr.value (l.map Pr.tk) v2 with n | ⟨a3, v3⟩
    · obtain ⟨p, rfl, g⟩ := ho.of_err hm3
      exact ⟨rfl, OutS.err (by rw [HR.out]; simp only [Pr.named, HSK.out, Bool.false_eq_true, if_false, Pr.th, HM1.out, HM2.out, hm3]) (HG5.out.one g)⟩
    obtain ⟨v, rfl, ⟨z, rfl, hz, hlie⟩, h, g⟩ := ho.of_ok hm3
    have HM3 := Lib.hid hm3; have HP6 := Lib.hid h; have HG6 := Lib.hid (HG5.out.one g); have HX6 := Lib.hid (HX5.out.par g HSN.out.1 HSN.out.2.2.2)
    have HZ2 := Lib.hid hz; have HY2 : Hid (vlLies (fresh w.heap.size w6) z) := Lib.hid (hopsLie_ext (fresh_mono HG5.out.size _) hlie); clear hz hlie
    clear h g ho hm3 HP5 HG5 HX5
    go_upto_region 8 with (first | ((with_reducible show wpList _ _ _ (Oper.mk none (Op.store 47 (Operand.tmp 35) (Operand.tmp 33)) _ _ _ _ :: _) _ _); refine wpList_store_part rfl 47 (.tmp 35) (.tmp 33) rfl S 5 52 x2.cells (Vl.cells z) rfl rfl HX6.out.1 size47 (show 5+12 ≤ 48 by decide) (kVl.one z) ?_; intro w7 hB hF))
    have HP7 := Lib.hid (HP6.out.far hF HSN.out.1 HSN.out.2.1); have HG7 := Lib.hid (HG6.out.two hF)
    have HX7 : Hid (Stc w w7 S { x2 with h := { x2.h with value := z } }) := Lib.hid (HX6.out.value HSN.out.2.2.1 hB hF HY2.out)
    clear hB hF HP6 HG6 HX6
    obtain ⟨x3, hx3⟩ : ∃ x : It, x = { x2 with h := { x2.h with value := z } } := ⟨_, rfl⟩
    rw [← hx3] at HX7
    have HE3 := Lib.hid hx3
    clear hx3
    go_wp2_with fail
    refine (must_any ⟨#[59]⟩ (by decide) w7 v3 HP7.out HL.out).mono ?_; intro en w8 ho
    rcases hm4 : Pr.must (l.map Pr.tk) ⟨#[59]⟩ v3 with n | ⟨a4, v4⟩
    · obtain ⟨p, rfl, g⟩ := ho.of_err hm4
      exact ⟨rfl, OutS.err (by rw [HR.out]; simp only [Pr.named, HSK.out, Bool.false_eq_true, if_false, Pr.th, HM1.out, HM2.out, HM3.out, hm4]) (HG7.out.one g)⟩
    obtain ⟨v, rfl, ⟨xx, rfl, _⟩, h, g⟩ := ho.of_ok hm4
    have HM4 := Lib.hid hm4; have HP8 := Lib.hid h; have HG8 := Lib.hid (HG7.out.one g); have HX8 := Lib.hid (HX7.out.par g HSN.out.1 HSN.out.2.2.2)
    clear h g ho hm4 HP7 HG7 HX7
    go_wp2_with fail
    go_end0
    exact OutS.ok (u := v4) (a := { Pr.noHd with kind := 1, place := a1, value := a3 }) (x := x3) (by rw [HR.out]; simp only [Pr.named, HSK.out, Bool.false_eq_true, if_false, Pr.th, HM1.out, HM2.out, HM3.out, HM4.out]) HG8.out (by rw [HE3.out, HE2.out, HE1.out, HE0.out, ← HZ.out, ← HZ2.out]; rfl) HX8.out HP8.out
  · have HSK := Lib.hid (HY1.out.trans q1)
    have s0 : w1.cell? ⟨S, 0, none⟩ = some (.int .i64 x0.h.kind) := HX1.out.1.cell 0
    have f0 := HX1.out.1.frozen 0
    have gS := grownBy_setC w1 ⟨S, 0, none⟩ (.int .i64 3)
    have HP2 := Lib.hid (HP1.out.far gS HSN.out.1 HSN.out.2.1)
    have HG2 := Lib.hid (HG1.out.two gS)
    have HX2 : Hid (Stc w (w1.setCell ⟨S, 0, none⟩ (.int .i64 3)) S { x0 with h := { x0.h with kind := 3 } }) := Lib.hid (HX1.out.kind HSN.out.2.2.1 3)
    clear gS
    go_upto_region 2 with fail
    clear q1 s0 f0 HP1 HG1 HX1
    generalize w1.setCell ⟨S, 0, none⟩ (.int .i64 3) = w2 at HP2 HG2 HX2 ⊢
    obtain ⟨x1, hx1⟩ : ∃ x : It, x = { x0 with h := { x0.h with kind := 3 } } := ⟨_, rfl⟩
    rw [← hx1] at HX2
    have HE1 := Lib.hid hx1
    clear hx1
    go_wp2_with fail
    refine (name_any w2 u HP2.out HL.out).mono ?_; intro en w3 ho
    rcases hm1 : Pr.name (l.map Pr.tk) u with n | ⟨a1, v1⟩
    · obtain ⟨p, rfl, g⟩ := ho.of_err hm1
      exact ⟨rfl, OutS.err (by rw [HR.out]; simp only [Pr.named, HSK.out, if_true, Pr.th, hm1]) (HG2.out.one g)⟩
    obtain ⟨v, rfl, ⟨y, rfl, hz⟩, h, g⟩ := ho.of_ok hm1
    have HM1 := Lib.hid hm1; have HP3 := Lib.hid h; have HG3 := Lib.hid (HG2.out.one g); have HX3 := Lib.hid (HX2.out.par g HSN.out.1 HSN.out.2.2.2)
    have HZ := Lib.hid hz; have HTY : Hid (y.text.size ≤ maxLen) := Lib.hid (by have h2 : (Pr.tk y).text = (Pr.sg (l.map Pr.tk) u.i).text := congrArg Pr.Tk.text (hz.trans (Pr.name_sg HM1.out)); rw [Pr.sg_tk HI.out] at h2; have h3 : y.text = x.text := h2; rw [h3]; exact HTX.out _ _ HI.out); clear hz
    clear h g ho hm1 HP2 HG2 HX2
    have s0 : w3.cell? ⟨S, 43, none⟩ = some (.string x1.h.name) := HX3.out.1.cell 43
    have f0 := HX3.out.1.frozen 43
    have gS := grownBy_setC w3 ⟨S, 43, none⟩ (.string y.text)
    have HP4 := Lib.hid (HP3.out.far gS HSN.out.1 HSN.out.2.1)
    have HG4 := Lib.hid (HG3.out.two gS)
    have HX4 : Hid (Stc w (w3.setCell ⟨S, 43, none⟩ (.string y.text)) S { x1 with h := { x1.h with name := y.text } }) := Lib.hid (HX3.out.name HSN.out.2.2.1 y.text HTY.out)
    clear gS
    go_upto_region 3 with fail
    clear s0 f0 HP3 HG3 HX3
    generalize w3.setCell ⟨S, 43, none⟩ (.string y.text) = w4 at HP4 HG4 HX4 ⊢
    obtain ⟨x2, hx2⟩ : ∃ x : It, x = { x1 with h := { x1.h with name := y.text } } := ⟨_, rfl⟩
    rw [← hx2] at HX4
    have HE2 := Lib.hid hx2
    clear hx2
    go_wp2_with fail
    refine (args_any w4 v1 HP4.out HL.out).mono ?_; intro en w5 ho
    rcases hm2 : Pr.listed (l.map Pr.tk) (Pr.side (l.map Pr.tk)) v1 with n | ⟨a2, v2⟩
    · obtain ⟨p, rfl, g⟩ := ho.of_err hm2
      exact ⟨rfl, OutS.err (by rw [HR.out]; simp only [Pr.named, HSK.out, if_true, Pr.th, HM1.out, hm2]) (HG4.out.one g)⟩
    obtain ⟨v, rfl, ⟨sl, rfl, hz, hlie⟩, h, g⟩ := ho.of_ok hm2
    have HM2 := Lib.hid hm2; have HP5 := Lib.hid h; have HG5 := Lib.hid (HG4.out.one g); have HX5 := Lib.hid (HX4.out.par g HSN.out.1 HSN.out.2.2.2)
    have HZ2 := Lib.hid hz; have HY2 : Hid (argsLie (fresh w.heap.size w5) sl) := Lib.hid (argsLie_ext (fresh_mono HG4.out.size _) hlie); clear hz hlie
    clear h g ho hm2 HP4 HG4 HX4
    have s0 : w5.cell? ⟨S, 44, none⟩ = some (.slice x2.h.args.p x2.h.args.l.length x2.h.args.cap) := HX5.out.1.cell 44
    have f0 := HX5.out.1.frozen 44
    have gS := grownBy_setC w5 ⟨S, 44, none⟩ (.slice sl.p sl.l.length sl.cap)
    have HP6 := Lib.hid (HP5.out.far gS HSN.out.1 HSN.out.2.1)
    have HG6 := Lib.hid (HG5.out.two gS)
    have HX6 : Hid (Stc w (w5.setCell ⟨S, 44, none⟩ (.slice sl.p sl.l.length sl.cap)) S { x2 with h := { x2.h with args := sl } }) := Lib.hid (HX5.out.args HSN.out.2.2.1 sl HY2.out)
    clear gS
    go_upto_region 8 with fail
    clear s0 f0 HP5 HG5 HX5
    generalize w5.setCell ⟨S, 44, none⟩ (.slice sl.p sl.l.length sl.cap) = w6 at HP6 HG6 HX6 ⊢
    obtain ⟨x3, hx3⟩ : ∃ x : It, x = { x2 with h := { x2.h with args := sl } } := ⟨_, rfl⟩
    rw [← hx3] at HX6
    have HE3 := Lib.hid hx3
    clear hx3
    go_wp2_with fail
    refine (must_any ⟨#[59]⟩ (by decide) w6 v2 HP6.out HL.out).mono ?_; intro en w7 ho
    rcases hm3 : Pr.must (l.map Pr.tk) ⟨#[59]⟩ v2 with n | ⟨a3, v3⟩
    · obtain ⟨p, rfl, g⟩ := ho.of_err hm3
      exact ⟨rfl, OutS.err (by rw [HR.out]; simp only [Pr.named, HSK.out, if_true, Pr.th, HM1.out, HM2.out, hm3]) (HG6.out.one g)⟩
    obtain ⟨v, rfl, ⟨xx, rfl, _⟩, h, g⟩ := ho.of_ok hm3
    have HM3 := Lib.hid hm3; have HP7 := Lib.hid h; have HG7 := Lib.hid (HG6.out.one g); have HX7 := Lib.hid (HX6.out.par g HSN.out.1 HSN.out.2.2.2)
    clear h g ho hm3 HP6 HG6 HX6
    go_wp2_with fail
    go_end0
    exact OutS.ok (u := v3) (a := { Pr.noHd with kind := 3, name := a1.text, args := ⟨none, 0, a2⟩ }) (x := x3) (by rw [HR.out]; simp only [Pr.named, HSK.out, if_true, Pr.th, HM1.out, HM2.out, HM3.out]) HG7.out (by rw [HE3.out, HE2.out, HE1.out, HE0.out, ← HZ.out, ← HZ2.out]; rfl) HX7.out HP7.out
end
end Go.Proofs.YtlpnkllhpienhaaDoor
