/-
  DERIVED. The walk of the parser's side.
-/
import Derived.Test.YtlpnkllhpienhaaDoorQl
namespace Go.Proofs.YtlpnkllhpienhaaDoor
open Go.RowKit Go.Sort

attribute [local go_sem] field79_0 field79_1 field79_2 field79_3
section
variable {pb sb cap : Nat} {l : List Tx.Sg}
set_option maxHeartbeats 3200000 in
set_option maxRecDepth 100000 in
theorem side_any (w : World) (u : Pr.St) (h : PS w pb sb cap l u.i u.o u.b) (hg : Good l) :
    Calls Tryd.prog 63 #[.pointer (some ⟨pb, 0, none⟩)] w (Outc (kVl.Val w.heap.size) w pb sb cap l (Pr.side (l.map Pr.tk) u)) := by
  obtain ⟨r, hr⟩ : ∃ r, r = Pr.side (l.map Pr.tk) u := ⟨_, rfl⟩
  rw [← hr]
  have HR := Lib.hid hr
  have HL := Lib.hid hg
  obtain ⟨x, hx⟩ := h.at
  have hn : Below w.heap.size w (w.alloc (.cells #[.int .i64 0, .int .i64 0, .string ByteArray.empty, .int .i64 0, .slice none 0 0, .string ByteArray.empty, .string ByteArray.empty, .int .i64 0, .int .i64 0, .string ByteArray.empty, .int .i64 0, .int .i64 0] 47)) := (Below.refl _ _).alloc (Nat.le_refl _) _
  have HK : Hid (Bk (w.alloc (.cells #[.int .i64 0, .int .i64 0, .string ByteArray.empty, .int .i64 0, .slice none 0 0, .string ByteArray.empty, .string ByteArray.empty, .int .i64 0, .int .i64 0, .string ByteArray.empty, .int .i64 0, .int .i64 0] 47)) w.heap.size 47 #[.int .i64 0, .int .i64 0, .string ByteArray.empty, .int .i64 0, .slice none 0 0, .string ByteArray.empty, .string ByteArray.empty, .int .i64 0, .int .i64 0, .string ByteArray.empty, .int .i64 0, .int .i64 0]) := Lib.hid (heap_alloc_new _ _)
  have HNE : Hid (w.heap.size ≠ pb ∧ w.heap.size ≠ sb ∧ pb < w.heap.size ∧ sb < w.heap.size) := Lib.hid ⟨fun e => by have := h.pb_lt; omega, fun e => by have := h.sb_lt; omega, h.pb_lt, h.sb_lt⟩
  have HZ : Hid ((w.alloc (.cells #[.int .i64 0, .int .i64 0, .string ByteArray.empty, .int .i64 0, .slice none 0 0, .string ByteArray.empty, .string ByteArray.empty, .int .i64 0, .int .i64 0, .string ByteArray.empty, .int .i64 0, .int .i64 0] 47)).heap.size = w.heap.size + 1) := Lib.hid (by simp)
  have HG : Hid (w.grownBy (w.alloc (.cells #[.int .i64 0, .int .i64 0, .string ByteArray.empty, .int .i64 0, .slice none 0 0, .string ByteArray.empty, .string ByteArray.empty, .int .i64 0, .int .i64 0, .string ByteArray.empty, .int .i64 0, .int .i64 0] 47)) (some pb)) := Lib.hid (grownBy_of hn _)
  have HP := Lib.hid (h.below hn)
  generalize hwA : w.alloc (.cells #[.int .i64 0, .int .i64 0, .string ByteArray.empty, .int .i64 0, .slice none 0 0, .string ByteArray.empty, .string ByteArray.empty, .int .i64 0, .int .i64 0, .string ByteArray.empty, .int .i64 0, .int .i64 0] 47) = wA at HK HG HP HZ
  have HX := Lib.hid hx
  have HA := Lib.hid (ahead_any x wA HP.out hg hx)
  clear h hg hr hn hx
  go_enter Tryd.func63, Tryd.ntmps63
  go_wp2_with fail
  rw [show w.alloc (.cells #[.int .i64 0, .int .i64 0, .string ⟨#[]⟩, .int .i64 0, .slice none 0 0, .string ⟨#[]⟩, .string ⟨#[]⟩, .int .i64 0, .int .i64 0, .string ⟨#[]⟩, .int .i64 0, .int .i64 0] 47) = wA from hwA]
  clear hwA
  refine (HA.out).mono ?_; rintro en w1 ⟨rfl, hb⟩
  have HP1 := Lib.hid (HP.out.below hb); have HG1 := Lib.hid (grownBy_below HG.out hb); have HK1 := Lib.hid (HK.out.below hb HK.out.lt)
  clear hb HA
  go_upto_region 2 with fail
  have hm : Below w1.heap.size w1 (w1.alloc (.cells #[.int .i64 x.kind, .int .i64 x.pos, .string x.text, .int .i64 x.num] 79)) := (Below.refl _ _).alloc (Nat.le_refl _) _
  have HP2 := Lib.hid (HP1.out.below hm)
  have HK2 := Lib.hid (HK1.out.below hm HK1.out.lt)
  have HF : Hid (Bk (w1.alloc (.cells #[.int .i64 x.kind, .int .i64 x.pos, .string x.text, .int .i64 x.num] 79)) w1.heap.size 79 #[.int .i64 x.kind, .int .i64 x.pos, .string x.text, .int .i64 x.num]) := Lib.hid (heap_alloc_new _ _)
  have HG2 : Hid (w.grownBy (w1.alloc (.cells #[.int .i64 x.kind, .int .i64 x.pos, .string x.text, .int .i64 x.num] 79)) (some pb)) := Lib.hid (grownBy_below HG1.out hm)
  obtain ⟨F, hF⟩ : ∃ F, F = w1.heap.size := ⟨_, rfl⟩
  have HFN : Hid (F ≠ pb ∧ F ≠ w.heap.size) := Lib.hid ⟨by have := HP1.out.pb_lt; omega, by have := HK1.out.lt; omega⟩
  rw [← hF] at HF ⊢
  clear hF hm HP1 HG1 HK1
  generalize w1.alloc (.cells #[.int .i64 x.kind, .int .i64 x.pos, .string x.text, .int .i64 x.num] 79) = w2 at HP2 HK2 HF HG2 ⊢
  go_wp2_with fail
  refine (may_any ⟨#[110, 117, 108, 108]⟩ (by decide) w2 u HP2.out HL.out).mono ?_; rintro en w3 ⟨q, hq, rfl, h3, g3⟩
  have HP3 := Lib.hid h3; have HG3 := Lib.hid (grownBy_tr HG2.out g3); have HK3 := Lib.hid (HK2.out.kept g3 HNE.out.1); have HF3 := Lib.hid (HF.out.kept g3 HFN.out.1)
  have HQ := Lib.hid hq
  clear h3 g3 hq HP2 HG2 HK2 HF
  have t0 : w3.cell? ⟨F, 0, none⟩ = some (.int .i64 x.kind) := HF3.out.cell 0
  have t1 : w3.cell? ⟨F, 1, none⟩ = some (.int .i64 x.pos) := HF3.out.cell 1
  cases q with
  | true =>
    go_wp2_with (first | ((with_reducible show wpList _ _ _ (Oper.mk none (Op.store 47 (Operand.tmp 2) _) _ _ _ _ :: _) _ _); refine wpList_store_bk rfl 47 (.tmp 2) (.tmp 11) rfl w.heap.size 47 _ #[.int .i64 0, .int .i64 x.pos, .string ⟨#[]⟩, .int .i64 0, .slice none 0 0, .string ⟨#[]⟩, .string ⟨#[]⟩, .int .i64 0, .int .i64 0, .string ⟨#[]⟩, .int .i64 0, .int .i64 0] rfl rfl HK3.out size47 rfl (by simp [Value.oneCell']) ?_; intro wZ hB hF))
    have e0 := hB.cell 0
    have e1 := hB.cell 1
    have e2 := hB.cell 2
    have e3 := hB.cell 3
    have e4 := hB.cell 4
    have e5 := hB.cell 5
    have e6 := hB.cell 6
    have e7 := hB.cell 7
    have e8 := hB.cell 8
    have e9 := hB.cell 9
    have e10 := hB.cell 10
    have e11 := hB.cell 11
    exact bodyPost_ret (v := .agg #[.int .i64 0, .int .i64 x.pos, .string ⟨#[]⟩, .int .i64 0, .slice none 0 0, .string ⟨#[]⟩, .string ⟨#[]⟩, .int .i64 0, .int .i64 0, .string ⟨#[]⟩, .int .i64 0, .int .i64 0]) (by simp [results, Tryd.results63, go_sem, e0, e1, e2, e3, e4, e5, e6, e7, e8, e9, e10, e11]) rfl (Outc.ok (u := u.go) (a := Pr.noVl) (by rw [HR.out]; simp only [Pr.side, HQ.out, if_true]) (grownBy_mine HG3.out hF) ⟨⟨0, x.pos, ⟨ByteArray.empty, 0, ⟨none, 0, []⟩⟩, ByteArray.empty, ⟨ByteArray.empty, 0, 0⟩, ⟨ByteArray.empty, 0, 0⟩⟩, rfl, rfl, (show 0 * 24 ≤ 140737488351232 by decide), .inl rfl⟩ (HP3.out.far hF HNE.out.1 HNE.out.2.1))
  | false =>
  by_cases h2 : x.kind = 2
  · have hd : (x.kind == 2) = true := by simpa using h2
    have HSK : Hid (Pr.side (l.map Pr.tk) u = Pr.th (Pr.term (l.map Pr.tk) u) fun y u => .ok ({ Pr.noVl with kind := 4, left := y }, u)) := Lib.hid (by simp only [Pr.side, HQ.out, Pr.sg_tk HX.out, Pr.tk, h2, if_true, Bool.false_eq_true, if_false])
    clear h2
    go_wp2_with fail
    clear t0
    have HPD : Hid (PS w3.drew pb sb cap l u.i u.o u.b) := Lib.hid (HP3.out.below (below_drew (Below.refl _ _)))
    have HKD : Hid (Bk w3.drew w.heap.size 47 #[.int .i64 0, .int .i64 0, .string ByteArray.empty, .int .i64 0, .slice none 0 0, .string ByteArray.empty, .string ByteArray.empty, .int .i64 0, .int .i64 0, .string ByteArray.empty, .int .i64 0, .int .i64 0]) := Lib.hid HK3.out
    have HFD : Hid (Bk w3.drew F 79 #[.int .i64 x.kind, .int .i64 x.pos, .string x.text, .int .i64 x.num]) := Lib.hid HF3.out
    have HGD : Hid (w.grownBy w3.drew (some pb)) := Lib.hid (grownBy_drew HG3.out)
    clear HP3 HK3 HF3 HG3
    go_region_law (first
      | (go_simp; go_at_call 74; (with_reducible refine (term_any _ HPD.out HL.out).mono ?_); intro en w4 ho; rcases hm1 : Pr.term (l.map Pr.tk) u with n | ⟨a1, u1⟩; (· obtain ⟨p, rfl, g4⟩ := ho.of_err hm1; exact ⟨rfl, Outc.err (by rw [HR.out, HSK.out]; simp only [Pr.th, hm1]) (grownBy_tr HGD.out g4)⟩); obtain ⟨v, rfl, ⟨d, rfl, hz⟩, h4, g4⟩ := ho.of_ok hm1; have HD := Lib.hid hz; have HM1 := Lib.hid hm1; have HP4 := Lib.hid h4; have HK4 := Lib.hid (HKD.out.kept g4 HNE.out.1); have HF4 := Lib.hid (HFD.out.kept g4 HFN.out.1); have HG4 := Lib.hid (grownBy_tr HGD.out g4); have t14 : w4.cell? ⟨F, 1, none⟩ = some (.int .i64 x.pos) := HF4.out.cell 1; have r0 : w4.cell? ⟨w.heap.size, 0, none⟩ = some (.int .i64 0) := HK4.out.cell 0; have r1 : w4.cell? ⟨w.heap.size, 1, none⟩ = some (.int .i64 0) := HK4.out.cell 1; have r2 : w4.cell? ⟨w.heap.size, 2, none⟩ = some (.string ByteArray.empty) := HK4.out.cell 2; have r3 : w4.cell? ⟨w.heap.size, 3, none⟩ = some (.int .i64 0) := HK4.out.cell 3; have r4 : w4.cell? ⟨w.heap.size, 4, none⟩ = some (.slice none 0 0) := HK4.out.cell 4; have r5 : w4.cell? ⟨w.heap.size, 5, none⟩ = some (.string ByteArray.empty) := HK4.out.cell 5; have r6 : w4.cell? ⟨w.heap.size, 6, none⟩ = some (.string ByteArray.empty) := HK4.out.cell 6; have r7 : w4.cell? ⟨w.heap.size, 7, none⟩ = some (.int .i64 0) := HK4.out.cell 7; have r8 : w4.cell? ⟨w.heap.size, 8, none⟩ = some (.int .i64 0) := HK4.out.cell 8; have r9 : w4.cell? ⟨w.heap.size, 9, none⟩ = some (.string ByteArray.empty) := HK4.out.cell 9; have r10 : w4.cell? ⟨w.heap.size, 10, none⟩ = some (.int .i64 0) := HK4.out.cell 10; have r11 : w4.cell? ⟨w.heap.size, 11, none⟩ = some (.int .i64 0) := HK4.out.cell 11; have f0 := HK4.out.frozen 0; have f1 := HK4.out.frozen 1; have f2 := HK4.out.frozen 2; have f3 := HK4.out.frozen 3; have f4 := HK4.out.frozen 4; have f5 := HK4.out.frozen 5; have f6 := HK4.out.frozen 6; have f7 := HK4.out.frozen 7; have f8 := HK4.out.frozen 8; have f9 := HK4.out.frozen 9; have f10 := HK4.out.frozen 10; have f11 := HK4.out.frozen 11; clear h4 g4 ho hz hm1; (try dsimp only)))
    all_goals
      obtain ⟨hB, hF⟩ := value_result (c0 := .int .i64 4) (c1 := .int .i64 x.pos) (c2 := .string ⟨#[]⟩) (c3 := .int .i64 0) (c4 := .slice none 0 0) (c5 := .string ⟨#[]⟩) (c6 := .string d.name) (c7 := .int .i64 d.n) (c8 := .int .i64 d.pos) (c9 := .string ⟨#[]⟩) (c10 := .int .i64 0) (c11 := .int .i64 0) HK4.out
      generalize ((((((((((((w4.setCell ⟨w.heap.size, 0, none⟩ (.int .i64 4)).setCell ⟨w.heap.size, 1, none⟩ (.int .i64 x.pos)).setCell ⟨w.heap.size, 2, none⟩ (.string ⟨#[]⟩)).setCell ⟨w.heap.size, 3, none⟩ (.int .i64 0)).setCell ⟨w.heap.size, 4, none⟩ (.slice none 0 0)).setCell ⟨w.heap.size, 5, none⟩ (.string ⟨#[]⟩)).setCell ⟨w.heap.size, 6, none⟩ (.string d.name)).setCell ⟨w.heap.size, 7, none⟩ (.int .i64 d.n)).setCell ⟨w.heap.size, 8, none⟩ (.int .i64 d.pos)).setCell ⟨w.heap.size, 9, none⟩ (.string ⟨#[]⟩)).setCell ⟨w.heap.size, 10, none⟩ (.int .i64 0)).setCell ⟨w.heap.size, 11, none⟩ (.int .i64 0)) = wZ at hB hF ⊢
      have HBZ := Lib.hid hB; have HFZ := Lib.hid hF
      clear hB hF r0 f0 r1 f1 r2 f2 r3 f3 r4 f4 r5 f5 r6 f6 r7 f7 r8 f8 r9 f9 r10 f10 r11 f11
      go_wp2_with fail
      have hB := HBZ.out; have hF := HFZ.out
      have e0 := hB.cell 0
      have e1 := hB.cell 1
      have e2 := hB.cell 2
      have e3 := hB.cell 3
      have e4 := hB.cell 4
      have e5 := hB.cell 5
      have e6 := hB.cell 6
      have e7 := hB.cell 7
      have e8 := hB.cell 8
      have e9 := hB.cell 9
      have e10 := hB.cell 10
      have e11 := hB.cell 11
      exact bodyPost_ret (v := .agg #[.int .i64 4, .int .i64 x.pos, .string ⟨#[]⟩, .int .i64 0, .slice none 0 0, .string ⟨#[]⟩, .string d.name, .int .i64 d.n, .int .i64 d.pos, .string ⟨#[]⟩, .int .i64 0, .int .i64 0]) (by simp [results, Tryd.results63, go_sem, e0, e1, e2, e3, e4, e5, e6, e7, e8, e9, e10, e11]) rfl (Outc.ok (u := u1) (a := { Pr.noVl with kind := 4, left := a1 }) (by rw [HR.out, HSK.out]; simp only [Pr.th, HM1.out]) (grownBy_mine HG4.out hF) ⟨⟨4, x.pos, ⟨ByteArray.empty, 0, ⟨none, 0, []⟩⟩, ByteArray.empty, d, ⟨ByteArray.empty, 0, 0⟩⟩, rfl, by rw [← HD.out]; rfl, (show 0 * 24 ≤ 140737488351232 by decide), .inl rfl⟩ (HP4.out.far hF HNE.out.1 HNE.out.2.1))
  · have hd : (x.kind == 2) = false := by simpa using h2
    have HSK : Hid (Pr.side (l.map Pr.tk) u = Pr.th (Pr.path (l.map Pr.tk) u) fun y u => .ok ({ Pr.noVl with kind := 1, path := y }, u)) := Lib.hid (by simp only [Pr.side, HQ.out, Pr.sg_tk HX.out, Pr.tk, h2, Bool.false_eq_true, if_false])
    clear h2
    go_wp2_with fail
    clear t0
    have HPD : Hid (PS w3.drew pb sb cap l u.i u.o u.b) := Lib.hid (HP3.out.below (below_drew (Below.refl _ _)))
    have HKD : Hid (Bk w3.drew w.heap.size 47 #[.int .i64 0, .int .i64 0, .string ByteArray.empty, .int .i64 0, .slice none 0 0, .string ByteArray.empty, .string ByteArray.empty, .int .i64 0, .int .i64 0, .string ByteArray.empty, .int .i64 0, .int .i64 0]) := Lib.hid HK3.out
    have HFD : Hid (Bk w3.drew F 79 #[.int .i64 x.kind, .int .i64 x.pos, .string x.text, .int .i64 x.num]) := Lib.hid HF3.out
    have HGD : Hid (w.grownBy w3.drew (some pb)) := Lib.hid (grownBy_drew HG3.out)
    have HLT : Hid (w.heap.size < w3.drew.heap.size) := Lib.hid HK3.out.lt
    clear HP3 HK3 HF3 HG3
    go_region_law (first
      | (go_simp; go_at_call 60; (with_reducible refine (path_any _ u HPD.out HL.out).mono ?_); intro en w4 ho; rcases hm1 : Pr.path (l.map Pr.tk) u with n | ⟨a1, u1⟩; (· obtain ⟨p, rfl, g4⟩ := ho.of_err hm1; exact ⟨rfl, Outc.err (by rw [HR.out, HSK.out]; simp only [Pr.th, hm1]) (grownBy_tr HGD.out g4)⟩); obtain ⟨v, rfl, ⟨d, rfl, hz, hlie⟩, h4, g4⟩ := ho.of_ok hm1; have HD := Lib.hid hz; have HLI := Lib.hid hlie; have HM1 := Lib.hid hm1; have HP4 := Lib.hid h4; have HK4 := Lib.hid (HKD.out.kept g4 HNE.out.1); have HF4 := Lib.hid (HFD.out.kept g4 HFN.out.1); have HG4 := Lib.hid (grownBy_tr HGD.out g4); have t14 : w4.cell? ⟨F, 1, none⟩ = some (.int .i64 x.pos) := HF4.out.cell 1; have r0 : w4.cell? ⟨w.heap.size, 0, none⟩ = some (.int .i64 0) := HK4.out.cell 0; have r1 : w4.cell? ⟨w.heap.size, 1, none⟩ = some (.int .i64 0) := HK4.out.cell 1; have r2 : w4.cell? ⟨w.heap.size, 2, none⟩ = some (.string ByteArray.empty) := HK4.out.cell 2; have r3 : w4.cell? ⟨w.heap.size, 3, none⟩ = some (.int .i64 0) := HK4.out.cell 3; have r4 : w4.cell? ⟨w.heap.size, 4, none⟩ = some (.slice none 0 0) := HK4.out.cell 4; have r5 : w4.cell? ⟨w.heap.size, 5, none⟩ = some (.string ByteArray.empty) := HK4.out.cell 5; have r6 : w4.cell? ⟨w.heap.size, 6, none⟩ = some (.string ByteArray.empty) := HK4.out.cell 6; have r7 : w4.cell? ⟨w.heap.size, 7, none⟩ = some (.int .i64 0) := HK4.out.cell 7; have r8 : w4.cell? ⟨w.heap.size, 8, none⟩ = some (.int .i64 0) := HK4.out.cell 8; have r9 : w4.cell? ⟨w.heap.size, 9, none⟩ = some (.string ByteArray.empty) := HK4.out.cell 9; have r10 : w4.cell? ⟨w.heap.size, 10, none⟩ = some (.int .i64 0) := HK4.out.cell 10; have r11 : w4.cell? ⟨w.heap.size, 11, none⟩ = some (.int .i64 0) := HK4.out.cell 11; have f0 := HK4.out.frozen 0; have f1 := HK4.out.frozen 1; have f2 := HK4.out.frozen 2; have f3 := HK4.out.frozen 3; have f4 := HK4.out.frozen 4; have f5 := HK4.out.frozen 5; have f6 := HK4.out.frozen 6; have f7 := HK4.out.frozen 7; have f8 := HK4.out.frozen 8; have f9 := HK4.out.frozen 9; have f10 := HK4.out.frozen 10; have f11 := HK4.out.frozen 11; clear h4 g4 ho hz hm1 hlie; dsimp only [kPth]; (try dsimp only)))
    all_goals
      obtain ⟨hB, hF⟩ := value_result (c0 := .int .i64 1) (c1 := .int .i64 x.pos) (c2 := .string d.name) (c3 := .int .i64 d.pos) (c4 := .slice d.hops.p d.hops.l.length d.hops.cap) (c5 := .string ⟨#[]⟩) (c6 := .string ⟨#[]⟩) (c7 := .int .i64 0) (c8 := .int .i64 0) (c9 := .string ⟨#[]⟩) (c10 := .int .i64 0) (c11 := .int .i64 0) HK4.out
      generalize ((((((((((((w4.setCell ⟨w.heap.size, 0, none⟩ (.int .i64 1)).setCell ⟨w.heap.size, 1, none⟩ (.int .i64 x.pos)).setCell ⟨w.heap.size, 2, none⟩ (.string d.name)).setCell ⟨w.heap.size, 3, none⟩ (.int .i64 d.pos)).setCell ⟨w.heap.size, 4, none⟩ (.slice d.hops.p d.hops.l.length d.hops.cap)).setCell ⟨w.heap.size, 5, none⟩ (.string ⟨#[]⟩)).setCell ⟨w.heap.size, 6, none⟩ (.string ⟨#[]⟩)).setCell ⟨w.heap.size, 7, none⟩ (.int .i64 0)).setCell ⟨w.heap.size, 8, none⟩ (.int .i64 0)).setCell ⟨w.heap.size, 9, none⟩ (.string ⟨#[]⟩)).setCell ⟨w.heap.size, 10, none⟩ (.int .i64 0)).setCell ⟨w.heap.size, 11, none⟩ (.int .i64 0)) = wZ at hB hF ⊢
      have HBZ := Lib.hid hB; have HFZ := Lib.hid hF
      clear hB hF r0 f0 r1 f1 r2 f2 r3 f3 r4 f4 r5 f5 r6 f6 r7 f7 r8 f8 r9 f9 r10 f10 r11 f11
      go_wp2_with fail
      have hB := HBZ.out; have hF := HFZ.out
      have e0 := hB.cell 0
      have e1 := hB.cell 1
      have e2 := hB.cell 2
      have e3 := hB.cell 3
      have e4 := hB.cell 4
      have e5 := hB.cell 5
      have e6 := hB.cell 6
      have e7 := hB.cell 7
      have e8 := hB.cell 8
      have e9 := hB.cell 9
      have e10 := hB.cell 10
      have e11 := hB.cell 11
      exact bodyPost_ret (v := .agg #[.int .i64 1, .int .i64 x.pos, .string d.name, .int .i64 d.pos, .slice d.hops.p d.hops.l.length d.hops.cap, .string ⟨#[]⟩, .string ⟨#[]⟩, .int .i64 0, .int .i64 0, .string ⟨#[]⟩, .int .i64 0, .int .i64 0]) (by simp [results, Tryd.results63, go_sem, e0, e1, e2, e3, e4, e5, e6, e7, e8, e9, e10, e11]) rfl (Outc.ok (u := u1) (a := { Pr.noVl with kind := 1, path := a1 }) (by rw [HR.out, HSK.out]; simp only [Pr.th, HM1.out]) (grownBy_mine HG4.out hF) ⟨⟨1, x.pos, d, ByteArray.empty, ⟨ByteArray.empty, 0, 0⟩, ⟨ByteArray.empty, 0, 0⟩⟩, rfl, by rw [← HD.out]; rfl, hopsLie_ext ((fresh_par hF HLT.out).trans (fresh_mono (Nat.le_of_lt HLT.out) _)) HLI.out⟩ (HP4.out.far hF HNE.out.1 HNE.out.2.1))
end
end Go.Proofs.YtlpnkllhpienhaaDoor
