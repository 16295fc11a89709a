/-
  DERIVED. The walks of the parser's conditions.
-/
import Derived.Test.YtlpnkllhpienhaaDoorQc
namespace Go.Proofs.YtlpnkllhpienhaaDoor
open Go.RowKit Go.Sort

attribute [local go_sem] field79_0 field79_1 field79_2 field79_3
section
variable {pb sb cap : Nat} {l : List Tx.Sg}
/-- A condition's first end. -/
theorem cd_set0 {w : World} {C : Nat} {c : Cd} (h : Bk w C 49 (Cd.cells c).toArray) (k : Int) : Bk (w.setCell ⟨C, 0, none⟩ (.int .i64 k)) C 49 (Cd.cells { c with kind := k }).toArray := h.set_ 0 _
theorem cd_put1 {w : World} {C : Nat} {c : Cd} {y : Vl} (h : Bk w C 49 (putC (Cd.cells c) 2 (Vl.cells y)).toArray) : Bk w C 49 (Cd.cells { c with left := y }).toArray := h
theorem cd_put2 {w : World} {C : Nat} {c : Cd} {y : Vl} (h : Bk w C 49 (putC (Cd.cells c) 14 (Vl.cells y)).toArray) : Bk w C 49 (Cd.cells { c with right := y }).toArray := h
set_option maxHeartbeats 3200000 in
set_option maxRecDepth 100000 in
theorem cond_any (w : World) (u : Pr.St) (h : PS w pb sb cap l u.i u.o u.b) (hg : Good l) :
    Calls Tryd.prog 73 #[.pointer (some ⟨pb, 0, none⟩)] w (Outc (kCd.Val w.heap.size) w pb sb cap l (Pr.cond (l.map Pr.tk) u)) := by
  obtain ⟨r, hr⟩ : ∃ r, r = Pr.cond (l.map Pr.tk) u := ⟨_, rfl⟩
  rw [← hr]
  have HR := Lib.hid hr
  have HL := Lib.hid hg
  obtain ⟨x, hx⟩ := h.at
  have hn : Below w.heap.size w (w.alloc (.cells #[.int .i64 0, .int .i64 0, .int .i64 0, .int .i64 0, .string ByteArray.empty, .int .i64 0, .slice none 0 0, .string ByteArray.empty, .string ByteArray.empty, .int .i64 0, .int .i64 0, .string ByteArray.empty, .int .i64 0, .int .i64 0, .int .i64 0, .int .i64 0, .string ByteArray.empty, .int .i64 0, .slice none 0 0, .string ByteArray.empty, .string ByteArray.empty, .int .i64 0, .int .i64 0, .string ByteArray.empty, .int .i64 0, .int .i64 0] 49)) := (Below.refl _ _).alloc (Nat.le_refl _) _
  have HK : Hid (Bk (w.alloc (.cells #[.int .i64 0, .int .i64 0, .int .i64 0, .int .i64 0, .string ByteArray.empty, .int .i64 0, .slice none 0 0, .string ByteArray.empty, .string ByteArray.empty, .int .i64 0, .int .i64 0, .string ByteArray.empty, .int .i64 0, .int .i64 0, .int .i64 0, .int .i64 0, .string ByteArray.empty, .int .i64 0, .slice none 0 0, .string ByteArray.empty, .string ByteArray.empty, .int .i64 0, .int .i64 0, .string ByteArray.empty, .int .i64 0, .int .i64 0] 49)) w.heap.size 49 #[.int .i64 0, .int .i64 0, .int .i64 0, .int .i64 0, .string ByteArray.empty, .int .i64 0, .slice none 0 0, .string ByteArray.empty, .string ByteArray.empty, .int .i64 0, .int .i64 0, .string ByteArray.empty, .int .i64 0, .int .i64 0, .int .i64 0, .int .i64 0, .string ByteArray.empty, .int .i64 0, .slice none 0 0, .string ByteArray.empty, .string ByteArray.empty, .int .i64 0, .int .i64 0, .string ByteArray.empty, .int .i64 0, .int .i64 0]) := Lib.hid (heap_alloc_new _ _)
  have HNE : Hid (w.heap.size ≠ pb ∧ w.heap.size ≠ sb ∧ pb < w.heap.size ∧ sb < w.heap.size) := Lib.hid ⟨fun e => by have := h.pb_lt; omega, fun e => by have := h.sb_lt; omega, h.pb_lt, h.sb_lt⟩
  have HZ : Hid ((w.alloc (.cells #[.int .i64 0, .int .i64 0, .int .i64 0, .int .i64 0, .string ByteArray.empty, .int .i64 0, .slice none 0 0, .string ByteArray.empty, .string ByteArray.empty, .int .i64 0, .int .i64 0, .string ByteArray.empty, .int .i64 0, .int .i64 0, .int .i64 0, .int .i64 0, .string ByteArray.empty, .int .i64 0, .slice none 0 0, .string ByteArray.empty, .string ByteArray.empty, .int .i64 0, .int .i64 0, .string ByteArray.empty, .int .i64 0, .int .i64 0] 49)).heap.size = w.heap.size + 1) := Lib.hid (by simp)
  have HG : Hid (w.grownBy (w.alloc (.cells #[.int .i64 0, .int .i64 0, .int .i64 0, .int .i64 0, .string ByteArray.empty, .int .i64 0, .slice none 0 0, .string ByteArray.empty, .string ByteArray.empty, .int .i64 0, .int .i64 0, .string ByteArray.empty, .int .i64 0, .int .i64 0, .int .i64 0, .int .i64 0, .string ByteArray.empty, .int .i64 0, .slice none 0 0, .string ByteArray.empty, .string ByteArray.empty, .int .i64 0, .int .i64 0, .string ByteArray.empty, .int .i64 0, .int .i64 0] 49)) (some pb)) := Lib.hid (grownBy_of hn _)
  have HP := Lib.hid (h.below hn)
  generalize hwA : w.alloc (.cells #[.int .i64 0, .int .i64 0, .int .i64 0, .int .i64 0, .string ByteArray.empty, .int .i64 0, .slice none 0 0, .string ByteArray.empty, .string ByteArray.empty, .int .i64 0, .int .i64 0, .string ByteArray.empty, .int .i64 0, .int .i64 0, .int .i64 0, .int .i64 0, .string ByteArray.empty, .int .i64 0, .slice none 0 0, .string ByteArray.empty, .string ByteArray.empty, .int .i64 0, .int .i64 0, .string ByteArray.empty, .int .i64 0, .int .i64 0] 49) = wA at HK HG HP HZ
  have HX := Lib.hid hx
  have HA := Lib.hid (ahead_any x wA HP.out hg hx)
  clear h hg hr hn hx
  go_enter Tryd.func73, Tryd.ntmps73
  go_wp2_with fail
  rw [show w.alloc (.cells #[.int .i64 0, .int .i64 0, .int .i64 0, .int .i64 0, .string ⟨#[]⟩, .int .i64 0, .slice none 0 0, .string ⟨#[]⟩, .string ⟨#[]⟩, .int .i64 0, .int .i64 0, .string ⟨#[]⟩, .int .i64 0, .int .i64 0, .int .i64 0, .int .i64 0, .string ⟨#[]⟩, .int .i64 0, .slice none 0 0, .string ⟨#[]⟩, .string ⟨#[]⟩, .int .i64 0, .int .i64 0, .string ⟨#[]⟩, .int .i64 0, .int .i64 0] 49) = wA from hwA]
  clear hwA
  refine (HA.out).mono ?_; rintro en w1 ⟨rfl, hb⟩
  have HP1 := Lib.hid (HP.out.below hb); have HG1 := Lib.hid (grownBy_below HG.out hb); have HK1 := Lib.hid (HK.out.below hb HK.out.lt)
  clear hb HA
  go_upto_region 2 with (first | ((with_reducible show wpList _ _ _ (Oper.mk none (Op.store 49 _ _) _ _ _ _ :: _) _ _); refine wpList_store_new rfl 49 (.tmp 3) (.tmp 7) rfl _ #[.int .i64 0, .int .i64 x.pos, .int .i64 0, .int .i64 0, .string ⟨#[]⟩, .int .i64 0, .slice none 0 0, .string ⟨#[]⟩, .string ⟨#[]⟩, .int .i64 0, .int .i64 0, .string ⟨#[]⟩, .int .i64 0, .int .i64 0, .int .i64 0, .int .i64 0, .string ⟨#[]⟩, .int .i64 0, .slice none 0 0, .string ⟨#[]⟩, .string ⟨#[]⟩, .int .i64 0, .int .i64 0, .string ⟨#[]⟩, .int .i64 0, .int .i64 0] rfl rfl size49 rfl (kCd.one ⟨0, x.pos, ⟨0, 0, ⟨ByteArray.empty, 0, ⟨none, 0, []⟩⟩, ByteArray.empty, ⟨ByteArray.empty, 0, 0⟩, ⟨ByteArray.empty, 0, 0⟩⟩, ⟨0, 0, ⟨ByteArray.empty, 0, ⟨none, 0, []⟩⟩, ByteArray.empty, ⟨ByteArray.empty, 0, 0⟩, ⟨ByteArray.empty, 0, 0⟩⟩⟩) ?_))
  have hm : Below w1.heap.size w1 (w1.alloc (.cells #[.int .i64 0, .int .i64 x.pos, .int .i64 0, .int .i64 0, .string ByteArray.empty, .int .i64 0, .slice none 0 0, .string ByteArray.empty, .string ByteArray.empty, .int .i64 0, .int .i64 0, .string ByteArray.empty, .int .i64 0, .int .i64 0, .int .i64 0, .int .i64 0, .string ByteArray.empty, .int .i64 0, .slice none 0 0, .string ByteArray.empty, .string ByteArray.empty, .int .i64 0, .int .i64 0, .string ByteArray.empty, .int .i64 0, .int .i64 0] 49)) := (Below.refl _ _).alloc (Nat.le_refl _) _
  have HP2 := Lib.hid (HP1.out.below hm)
  have HK2 := Lib.hid (HK1.out.below hm HK1.out.lt)
  have HC : Hid (Bk (w1.alloc (.cells #[.int .i64 0, .int .i64 x.pos, .int .i64 0, .int .i64 0, .string ByteArray.empty, .int .i64 0, .slice none 0 0, .string ByteArray.empty, .string ByteArray.empty, .int .i64 0, .int .i64 0, .string ByteArray.empty, .int .i64 0, .int .i64 0, .int .i64 0, .int .i64 0, .string ByteArray.empty, .int .i64 0, .slice none 0 0, .string ByteArray.empty, .string ByteArray.empty, .int .i64 0, .int .i64 0, .string ByteArray.empty, .int .i64 0, .int .i64 0] 49)) w1.heap.size 49 #[.int .i64 0, .int .i64 x.pos, .int .i64 0, .int .i64 0, .string ByteArray.empty, .int .i64 0, .slice none 0 0, .string ByteArray.empty, .string ByteArray.empty, .int .i64 0, .int .i64 0, .string ByteArray.empty, .int .i64 0, .int .i64 0, .int .i64 0, .int .i64 0, .string ByteArray.empty, .int .i64 0, .slice none 0 0, .string ByteArray.empty, .string ByteArray.empty, .int .i64 0, .int .i64 0, .string ByteArray.empty, .int .i64 0, .int .i64 0]) := Lib.hid (heap_alloc_new _ _)
  have HG2 : Hid (w.grownBy (w1.alloc (.cells #[.int .i64 0, .int .i64 x.pos, .int .i64 0, .int .i64 0, .string ByteArray.empty, .int .i64 0, .slice none 0 0, .string ByteArray.empty, .string ByteArray.empty, .int .i64 0, .int .i64 0, .string ByteArray.empty, .int .i64 0, .int .i64 0, .int .i64 0, .int .i64 0, .string ByteArray.empty, .int .i64 0, .slice none 0 0, .string ByteArray.empty, .string ByteArray.empty, .int .i64 0, .int .i64 0, .string ByteArray.empty, .int .i64 0, .int .i64 0] 49)) (some pb)) := Lib.hid (grownBy_below HG1.out hm)
  obtain ⟨C, hC⟩ : ∃ C, C = w1.heap.size := ⟨_, rfl⟩
  have HCN : Hid (C ≠ pb ∧ C ≠ sb ∧ w.heap.size ≠ C ∧ w.heap.size ≤ C) := Lib.hid ⟨by have := HP1.out.pb_lt; omega, by have := HP1.out.sb_lt; omega, by have := HK1.out.lt; omega, by have := HK1.out.lt; omega⟩
  rw [← hC] at HC ⊢
  clear hC hm HP1 HG1 HK1
  change Code.wp _ _ _ _ (w1.alloc (.cells #[.int .i64 0, .int .i64 x.pos, .int .i64 0, .int .i64 0, .string ByteArray.empty, .int .i64 0, .slice none 0 0, .string ByteArray.empty, .string ByteArray.empty, .int .i64 0, .int .i64 0, .string ByteArray.empty, .int .i64 0, .int .i64 0, .int .i64 0, .int .i64 0, .string ByteArray.empty, .int .i64 0, .slice none 0 0, .string ByteArray.empty, .string ByteArray.empty, .int .i64 0, .int .i64 0, .string ByteArray.empty, .int .i64 0, .int .i64 0] 49))
  generalize w1.alloc (.cells #[.int .i64 0, .int .i64 x.pos, .int .i64 0, .int .i64 0, .string ByteArray.empty, .int .i64 0, .slice none 0 0, .string ByteArray.empty, .string ByteArray.empty, .int .i64 0, .int .i64 0, .string ByteArray.empty, .int .i64 0, .int .i64 0, .int .i64 0, .int .i64 0, .string ByteArray.empty, .int .i64 0, .slice none 0 0, .string ByteArray.empty, .string ByteArray.empty, .int .i64 0, .int .i64 0, .string ByteArray.empty, .int .i64 0, .int .i64 0] 49) = w2 at HP2 HK2 HC HG2 ⊢
  obtain ⟨c0, hc0⟩ : ∃ c : Cd, c = ⟨0, x.pos, ⟨0, 0, ⟨ByteArray.empty, 0, ⟨none, 0, []⟩⟩, ByteArray.empty, ⟨ByteArray.empty, 0, 0⟩, ⟨ByteArray.empty, 0, 0⟩⟩, ⟨0, 0, ⟨ByteArray.empty, 0, ⟨none, 0, []⟩⟩, ByteArray.empty, ⟨ByteArray.empty, 0, 0⟩, ⟨ByteArray.empty, 0, 0⟩⟩⟩ := ⟨_, rfl⟩
  have HC2 : Hid (Bk w2 C 49 (Cd.cells c0).toArray) := Lib.hid (by rw [hc0]; exact HC.out)
  have HC0 := Lib.hid hc0
  clear hc0 HC
  go_wp2_with fail
  refine (may_any ⟨#[63]⟩ (by decide) w2 u HP2.out HL.out).mono ?_; rintro en w3 ⟨q, hq, rfl, h3, g3⟩
  have HP3 := Lib.hid h3; have HG3 := Lib.hid (grownBy_tr HG2.out g3); have HK3 := Lib.hid (HK2.out.kept g3 HNE.out.1); have HC3 := Lib.hid (HC2.out.kept g3 HCN.out.1)
  have HQ := Lib.hid hq
  clear h3 g3 hq HP2 HG2 HK2 HC2
  have c0c : w3.cell? ⟨C, 0, none⟩ = some (.int .i64 c0.kind) := HC3.out.cell 0
  have c0f := HC3.out.frozen 0
  cases q with
  | true =>
    have HC4 : Hid (Bk (w3.setCell ⟨C, 0, none⟩ (.int .i64 0)) C 49 (Cd.cells { c0 with kind := 0 }).toArray) := Lib.hid (cd_set0 HC3.out 0)
    have gC := grownBy_setC w3 ⟨C, 0, none⟩ (.int .i64 0)
    have HP4 := Lib.hid (HP3.out.far gC HCN.out.1 HCN.out.2.1); have HK4 := Lib.hid (HK3.out.kept gC HCN.out.2.2.1); have HG4 := Lib.hid (grownBy_under HG3.out gC HCN.out.2.2.2)
    clear gC
    go_upto_region 4 with fail
    clear c0c c0f
    generalize w3.setCell ⟨C, 0, none⟩ (.int .i64 0) = w4 at HC4 HP4 HK4 HG4 ⊢
    obtain ⟨c1, hc1⟩ : ∃ c : Cd, c = { c0 with kind := 0 } := ⟨_, rfl⟩
    rw [← hc1] at HC4
    have HC1 := Lib.hid hc1
    clear hc1
    go_wp2_with (first | ((with_reducible show wpList _ _ _ (Oper.mk (some 11) (Op.load 49 (Operand.tmp 3)) _ _ _ _ :: _) _ _); refine wpList_load_bk rfl 49 (.tmp 3) rfl C 49 (Cd.cells c1).toArray rfl _ HC4.out Tryd.underlying49 rfl size49 ?_) | ((with_reducible show wpList _ _ _ (Oper.mk none (Op.store 49 (Operand.tmp 2) (Operand.tmp 11)) _ _ _ _ :: _) _ _); refine wpList_store_bk rfl 49 (.tmp 2) (.tmp 11) rfl w.heap.size 49 _ (Cd.cells c1).toArray rfl rfl HK4.out size49 rfl (kCd.one _) ?_; intro wZ hB hF))
    exact bodyPost_ret (results_cell_row Tryd.results73 _ wZ w.heap.size 49 (Cd.cells c1).toArray (0, 0) _ rfl hB Tryd.underlying49 rfl size49) rfl (Outc.ok (u := u.go) (a := Pr.noCd) (by rw [HR.out]; simp only [Pr.cond, HQ.out, if_true]) (grownBy_mine HG4.out hF) ⟨c1, rfl, by rw [HC1.out, HC0.out]; rfl, by rw [HC1.out, HC0.out]; exact ⟨⟨(show 0 * 24 ≤ 140737488351232 by decide), .inl rfl⟩, ⟨(show 0 * 24 ≤ 140737488351232 by decide), .inl rfl⟩⟩⟩ (HP4.out.far hF HNE.out.1 HNE.out.2.1))
  | false =>
  clear c0c c0f
  have HLT : Hid (C < w3.heap.size) := Lib.hid HC3.out.lt
  go_wp2_with fail
  refine (side_any w3 u HP3.out HL.out).mono ?_; intro en w4 ho
  rcases hm1 : Pr.side (l.map Pr.tk) u with n | ⟨a1, u1⟩
  · obtain ⟨p, rfl, g4⟩ := ho.of_err hm1
    exact ⟨rfl, Outc.err (by rw [HR.out]; simp only [Pr.cond, HQ.out, Bool.false_eq_true, if_false, Pr.th, hm1]) (grownBy_tr HG3.out g4)⟩
  obtain ⟨v, rfl, ⟨y, rfl, hz, hlie⟩, h4, g4⟩ := ho.of_ok hm1
  have HLE4 := Lib.hid g4.size
  have HD := Lib.hid hz; have HM1 := Lib.hid hm1; have HP4 := Lib.hid h4; have HK4 := Lib.hid (HK3.out.kept g4 HNE.out.1); have HC4 := Lib.hid (HC3.out.kept g4 HCN.out.1); have HG4 := Lib.hid (grownBy_tr HG3.out g4)
  have HLI : Hid (kVl.R (fresh w3.heap.size w4) y) := Lib.hid hlie
  clear h4 g4 ho hz hm1 hlie HP3 HG3 HK3 HC3
  go_upto_region 6 with (first | ((with_reducible show wpList _ _ _ (Oper.mk none (Op.store 47 (Operand.tmp 14) (Operand.tmp 13)) _ _ _ _ :: _) _ _); refine wpList_store_part rfl 47 (.tmp 14) (.tmp 13) rfl C 2 49 (Cd.cells c0) (Vl.cells y) rfl rfl HC4.out size47 (by show 14 ≤ 26; decide) (kVl.one y) ?_; intro wY hB hF))
  have HC5 : Hid (Bk wY C 49 (Cd.cells { c0 with left := y }).toArray) := Lib.hid (cd_put1 hB)
  have HP5 := Lib.hid (HP4.out.far hF HCN.out.1 HCN.out.2.1); have HK5 := Lib.hid (HK4.out.kept hF HCN.out.2.2.1); have HG5 := Lib.hid (grownBy_under HG4.out hF HCN.out.2.2.2)
  have HLE5 := Lib.hid (Nat.le_trans HLE4.out hF.size)
  have HLI5 : Hid (kVl.R (fresh w3.heap.size wY) y) := Lib.hid (kVl.ext y (fresh_par hF HLT.out) HLI.out)
  clear hB hF HP4 HG4 HK4 HC4 HLI
  go_wp2_with fail
  refine (relation_any wY u1 HP5.out HL.out).mono ?_; intro en w6 ho
  rcases hm2 : Pr.relation (l.map Pr.tk) u1 with n | ⟨a2, u2⟩
  · obtain ⟨p, rfl, g6⟩ := ho.of_err hm2
    exact ⟨rfl, Outc.err (by rw [HR.out]; simp only [Pr.cond, HQ.out, Bool.false_eq_true, if_false, Pr.th, HM1.out, hm2]) (grownBy_tr HG5.out g6)⟩
  obtain ⟨v, rfl, rfl, h6, g6⟩ := ho.of_ok hm2
  have HM2 := Lib.hid hm2; have HP6 := Lib.hid h6; have HK6 := Lib.hid (HK5.out.kept g6 HNE.out.1); have HC6 := Lib.hid (HC5.out.kept g6 HCN.out.1); have HG6 := Lib.hid (grownBy_tr HG5.out g6)
  have HLE6 := Lib.hid (Nat.le_trans HLE5.out g6.size)
  have HPB : Hid (pb < w3.heap.size) := Lib.hid (Nat.lt_of_lt_of_le HNE.out.2.2.1 (Nat.le_trans HCN.out.2.2.2 (Nat.le_of_lt HLT.out)))
  have HLI6 : Hid (kVl.R (fresh w3.heap.size w6) y) := Lib.hid (kVl.ext y (fresh_par g6 HPB.out) HLI5.out)
  clear h6 g6 ho hm2 HP5 HG5 HK5 HC5 HLI5
  have c0c : w6.cell? ⟨C, 0, none⟩ = some (.int .i64 c0.kind) := HC6.out.cell 0
  have c0f := HC6.out.frozen 0
  have HC7 : Hid (Bk (w6.setCell ⟨C, 0, none⟩ (.int .i64 a2)) C 49 (Cd.cells { c0 with kind := a2, left := y }).toArray) := Lib.hid (cd_set0 HC6.out a2)
  have gC := grownBy_setC w6 ⟨C, 0, none⟩ (.int .i64 a2)
  have HP7 := Lib.hid (HP6.out.far gC HCN.out.1 HCN.out.2.1); have HK7 := Lib.hid (HK6.out.kept gC HCN.out.2.2.1); have HG7 := Lib.hid (grownBy_under HG6.out gC HCN.out.2.2.2)
  have HLI7 : Hid (kVl.R (fresh w3.heap.size (w6.setCell ⟨C, 0, none⟩ (.int .i64 a2))) y) := Lib.hid (kVl.ext y (fresh_par gC HLT.out) HLI6.out)
  have HLE7 : Hid (w3.heap.size ≤ (w6.setCell ⟨C, 0, none⟩ (.int .i64 a2)).heap.size) := Lib.hid (Nat.le_trans HLE6.out gC.size)
  clear gC
  go_upto_region 7 with fail
  clear c0c c0f HP6 HG6 HK6 HC6 HLI6
  generalize w6.setCell ⟨C, 0, none⟩ (.int .i64 a2) = w7 at HC7 HP7 HK7 HG7 HLI7 HLE7 ⊢
  go_wp2_with fail
  refine (side_any w7 u2 HP7.out HL.out).mono ?_; intro en w8 ho
  rcases hm3 : Pr.side (l.map Pr.tk) u2 with n | ⟨a3, u3⟩
  · obtain ⟨p, rfl, g8⟩ := ho.of_err hm3
    exact ⟨rfl, Outc.err (by rw [HR.out]; simp only [Pr.cond, HQ.out, Bool.false_eq_true, if_false, Pr.th, HM1.out, HM2.out, hm3]) (grownBy_tr HG7.out g8)⟩
  obtain ⟨v, rfl, ⟨z, rfl, hz, hlie⟩, h8, g8⟩ := ho.of_ok hm3
  have HW37 : Hid (w3.heap.size ≤ w7.heap.size ∧ w3.heap.size ≤ w8.heap.size) := Lib.hid ⟨HLE7.out, Nat.le_trans HLE7.out g8.size⟩
  have HE := Lib.hid hz; have HM3 := Lib.hid hm3; have HP8 := Lib.hid h8; have HK8 := Lib.hid (HK7.out.kept g8 HNE.out.1); have HC8 := Lib.hid (HC7.out.kept g8 HCN.out.1); have HG8 := Lib.hid (grownBy_tr HG7.out g8)
  have HLI8 : Hid (kVl.R (fresh w3.heap.size w8) y) := Lib.hid (kVl.ext y (fresh_par g8 HPB.out) HLI7.out)
  have HLZ8 : Hid (kVl.R (fresh w3.heap.size w8) z) := Lib.hid (kVl.ext z (fresh_mono HW37.out.1 _) hlie)
  clear h8 g8 ho hz hm3 hlie HP7 HG7 HK7 HC7 HLI7
  go_upto_region 8 with (first | ((with_reducible show wpList _ _ _ (Oper.mk none (Op.store 47 (Operand.tmp 20) (Operand.tmp 19)) _ _ _ _ :: _) _ _); refine wpList_store_part rfl 47 (.tmp 20) (.tmp 19) rfl C 14 49 (Cd.cells { c0 with kind := a2, left := y }) (Vl.cells z) rfl rfl HC8.out size47 (by show 26 ≤ 26; decide) (kVl.one z) ?_; intro wX hB hF))
  have HC9 : Hid (Bk wX C 49 (Cd.cells { c0 with kind := a2, left := y, right := z }).toArray) := Lib.hid (cd_put2 hB)
  have HP9 := Lib.hid (HP8.out.far hF HCN.out.1 HCN.out.2.1); have HK9 := Lib.hid (HK8.out.kept hF HCN.out.2.2.1); have HG9 := Lib.hid (grownBy_under HG8.out hF HCN.out.2.2.2)
  have HLI9 : Hid (kVl.R (fresh w3.heap.size wX) y) := Lib.hid (kVl.ext y (fresh_par hF HLT.out) HLI8.out)
  have HLZ9 : Hid (kVl.R (fresh w3.heap.size wX) z) := Lib.hid (kVl.ext z (fresh_par hF HLT.out) HLZ8.out)
  clear hB hF HP8 HG8 HK8 HC8 HLI8 HLZ8
  obtain ⟨c1, hc1⟩ : ∃ c : Cd, c = { c0 with kind := a2, left := y, right := z } := ⟨_, rfl⟩
  rw [← hc1] at HC9
  have HC1 := Lib.hid hc1
  clear hc1
  go_wp2_with (first | ((with_reducible show wpList _ _ _ (Oper.mk (some 21) (Op.load 49 (Operand.tmp 3)) _ _ _ _ :: _) _ _); refine wpList_load_bk rfl 49 (.tmp 3) rfl C 49 (Cd.cells c1).toArray rfl _ HC9.out Tryd.underlying49 rfl size49 ?_) | ((with_reducible show wpList _ _ _ (Oper.mk none (Op.store 49 (Operand.tmp 2) (Operand.tmp 21)) _ _ _ _ :: _) _ _); refine wpList_store_bk rfl 49 (.tmp 2) (.tmp 21) rfl w.heap.size 49 _ (Cd.cells c1).toArray rfl rfl HK9.out size49 rfl (kCd.one _) ?_; intro wZ hB hF))
  exact bodyPost_ret (results_cell_row Tryd.results73 _ wZ w.heap.size 49 (Cd.cells c1).toArray (0, 0) _ rfl hB Tryd.underlying49 rfl size49) rfl (Outc.ok (u := u3) (a := ⟨a2, 0, a1, a3⟩) (by rw [HR.out]; simp only [Pr.cond, HQ.out, Bool.false_eq_true, if_false, Pr.th, HM1.out, HM2.out, HM3.out]) (grownBy_mine HG9.out hF) ⟨c1, rfl, by rw [HC1.out, ← HD.out, ← HE.out]; rfl, by rw [HC1.out]; exact ⟨kVl.ext y ((fresh_par hF (Nat.lt_of_le_of_lt HCN.out.2.2.2 HLT.out)).trans (fresh_mono (Nat.le_trans HCN.out.2.2.2 (Nat.le_of_lt HLT.out)) _)) HLI9.out, kVl.ext z ((fresh_par hF (Nat.lt_of_le_of_lt HCN.out.2.2.2 HLT.out)).trans (fresh_mono (Nat.le_trans HCN.out.2.2.2 (Nat.le_of_lt HLT.out)) _)) HLZ9.out⟩⟩ (HP9.out.far hF HNE.out.1 HNE.out.2.1))
set_option maxHeartbeats 3200000 in
set_option maxRecDepth 100000 in
theorem held_any (w : World) (u : Pr.St) (h : PS w pb sb cap l u.i u.o u.b) (hg : Good l) :
    Calls Tryd.prog 61 #[.pointer (some ⟨pb, 0, none⟩)] w (Outc (kCd.Val w.heap.size) w pb sb cap l (Pr.held (l.map Pr.tk) u)) := by
  obtain ⟨r, hr⟩ : ∃ r, r = Pr.held (l.map Pr.tk) u := ⟨_, rfl⟩
  rw [← hr]
  have HR := Lib.hid hr
  have HL := Lib.hid hg
  have hn : Below w.heap.size w (w.alloc (.cells #[.int .i64 0, .int .i64 0, .int .i64 0, .int .i64 0, .string ByteArray.empty, .int .i64 0, .slice none 0 0, .string ByteArray.empty, .string ByteArray.empty, .int .i64 0, .int .i64 0, .string ByteArray.empty, .int .i64 0, .int .i64 0, .int .i64 0, .int .i64 0, .string ByteArray.empty, .int .i64 0, .slice none 0 0, .string ByteArray.empty, .string ByteArray.empty, .int .i64 0, .int .i64 0, .string ByteArray.empty, .int .i64 0, .int .i64 0] 49)) := (Below.refl _ _).alloc (Nat.le_refl _) _
  have HK : Hid (Bk (w.alloc (.cells #[.int .i64 0, .int .i64 0, .int .i64 0, .int .i64 0, .string ByteArray.empty, .int .i64 0, .slice none 0 0, .string ByteArray.empty, .string ByteArray.empty, .int .i64 0, .int .i64 0, .string ByteArray.empty, .int .i64 0, .int .i64 0, .int .i64 0, .int .i64 0, .string ByteArray.empty, .int .i64 0, .slice none 0 0, .string ByteArray.empty, .string ByteArray.empty, .int .i64 0, .int .i64 0, .string ByteArray.empty, .int .i64 0, .int .i64 0] 49)) w.heap.size 49 #[.int .i64 0, .int .i64 0, .int .i64 0, .int .i64 0, .string ByteArray.empty, .int .i64 0, .slice none 0 0, .string ByteArray.empty, .string ByteArray.empty, .int .i64 0, .int .i64 0, .string ByteArray.empty, .int .i64 0, .int .i64 0, .int .i64 0, .int .i64 0, .string ByteArray.empty, .int .i64 0, .slice none 0 0, .string ByteArray.empty, .string ByteArray.empty, .int .i64 0, .int .i64 0, .string ByteArray.empty, .int .i64 0, .int .i64 0]) := Lib.hid (heap_alloc_new _ _)
  have HNE : Hid (w.heap.size ≠ pb ∧ w.heap.size ≠ sb ∧ pb < w.heap.size ∧ sb < w.heap.size) := Lib.hid ⟨fun e => by have := h.pb_lt; omega, fun e => by have := h.sb_lt; omega, h.pb_lt, h.sb_lt⟩
  have HZ : Hid ((w.alloc (.cells #[.int .i64 0, .int .i64 0, .int .i64 0, .int .i64 0, .string ByteArray.empty, .int .i64 0, .slice none 0 0, .string ByteArray.empty, .string ByteArray.empty, .int .i64 0, .int .i64 0, .string ByteArray.empty, .int .i64 0, .int .i64 0, .int .i64 0, .int .i64 0, .string ByteArray.empty, .int .i64 0, .slice none 0 0, .string ByteArray.empty, .string ByteArray.empty, .int .i64 0, .int .i64 0, .string ByteArray.empty, .int .i64 0, .int .i64 0] 49)).heap.size = w.heap.size + 1) := Lib.hid (by simp)
  have HG : Hid (w.grownBy (w.alloc (.cells #[.int .i64 0, .int .i64 0, .int .i64 0, .int .i64 0, .string ByteArray.empty, .int .i64 0, .slice none 0 0, .string ByteArray.empty, .string ByteArray.empty, .int .i64 0, .int .i64 0, .string ByteArray.empty, .int .i64 0, .int .i64 0, .int .i64 0, .int .i64 0, .string ByteArray.empty, .int .i64 0, .slice none 0 0, .string ByteArray.empty, .string ByteArray.empty, .int .i64 0, .int .i64 0, .string ByteArray.empty, .int .i64 0, .int .i64 0] 49)) (some pb)) := Lib.hid (grownBy_of hn _)
  have HP := Lib.hid (h.below hn)
  generalize hwA : w.alloc (.cells #[.int .i64 0, .int .i64 0, .int .i64 0, .int .i64 0, .string ByteArray.empty, .int .i64 0, .slice none 0 0, .string ByteArray.empty, .string ByteArray.empty, .int .i64 0, .int .i64 0, .string ByteArray.empty, .int .i64 0, .int .i64 0, .int .i64 0, .int .i64 0, .string ByteArray.empty, .int .i64 0, .slice none 0 0, .string ByteArray.empty, .string ByteArray.empty, .int .i64 0, .int .i64 0, .string ByteArray.empty, .int .i64 0, .int .i64 0] 49) = wA at HK HG HP HZ
  clear h hg hr hn
  go_enter Tryd.func61, Tryd.ntmps61
  go_wp2_with fail
  rw [show w.alloc (.cells #[.int .i64 0, .int .i64 0, .int .i64 0, .int .i64 0, .string ⟨#[]⟩, .int .i64 0, .slice none 0 0, .string ⟨#[]⟩, .string ⟨#[]⟩, .int .i64 0, .int .i64 0, .string ⟨#[]⟩, .int .i64 0, .int .i64 0, .int .i64 0, .int .i64 0, .string ⟨#[]⟩, .int .i64 0, .slice none 0 0, .string ⟨#[]⟩, .string ⟨#[]⟩, .int .i64 0, .int .i64 0, .string ⟨#[]⟩, .int .i64 0, .int .i64 0] 49) = wA from hwA]
  clear hwA
  refine (must_any ⟨#[40]⟩ (by decide) wA u HP.out HL.out).mono ?_; intro en w1 ho
  rcases hm1 : Pr.must (l.map Pr.tk) ⟨#[40]⟩ u with n | ⟨a1, u1⟩
  · obtain ⟨p, rfl, g1⟩ := ho.of_err hm1
    exact ⟨rfl, Outc.err (by rw [HR.out]; simp only [Pr.held, Pr.th, hm1]) (grownBy_tr HG.out g1)⟩
  obtain ⟨v, rfl, ⟨x, rfl, hx⟩, h1, g1⟩ := ho.of_ok hm1
  have HM1 := Lib.hid hm1; have HP1 := Lib.hid h1; have HK1 := Lib.hid (HK.out.kept g1 HNE.out.1); have HG1 := Lib.hid (grownBy_tr HG.out g1)
  have HLE1 : Hid (w.heap.size < w1.heap.size) := Lib.hid (by have := HZ.out; have := g1.size; omega)
  clear h1 g1 ho hx hm1 HP HG HK
  go_wp2_with fail
  refine (cond_any w1 u1 HP1.out HL.out).mono ?_; intro en w2 ho
  rcases hm2 : Pr.cond (l.map Pr.tk) u1 with n | ⟨a2, u2⟩
  · obtain ⟨p, rfl, g2⟩ := ho.of_err hm2
    exact ⟨rfl, Outc.err (by rw [HR.out]; simp only [Pr.held, Pr.th, HM1.out, hm2]) (grownBy_tr HG1.out g2)⟩
  obtain ⟨v, rfl, ⟨c1, rfl, hz, hlie⟩, h2, g2⟩ := ho.of_ok hm2
  have HD := Lib.hid hz; have HM2 := Lib.hid hm2; have HP2 := Lib.hid h2; have HK2 := Lib.hid (HK1.out.kept g2 HNE.out.1); have HG2 := Lib.hid (grownBy_tr HG1.out g2)
  have HLI : Hid (kCd.R (fresh w1.heap.size w2) c1) := Lib.hid hlie
  clear h2 g2 ho hz hm2 hlie HP1 HG1 HK1
  go_upto_region 3 with (first | ((with_reducible show wpList _ _ _ (Oper.mk none (Op.store 49 _ _) _ _ _ _ :: _) _ _); refine wpList_store_new rfl 49 (.tmp 3) (.tmp 7) rfl _ (Cd.cells c1).toArray rfl rfl size49 rfl (kCd.one _) ?_))
  have hm : Below w2.heap.size w2 (w2.alloc (.cells (Cd.cells c1).toArray 49)) := (Below.refl _ _).alloc (Nat.le_refl _) _
  have HP3 := Lib.hid (HP2.out.below hm); have HK3 := Lib.hid (HK2.out.below hm HK2.out.lt); have HG3 := Lib.hid (grownBy_below HG2.out hm)
  have HLI3 : Hid (kCd.R (fresh w1.heap.size (w2.alloc (.cells (Cd.cells c1).toArray 49))) c1) := Lib.hid (kCd.ext c1 (fresh_below hm) HLI.out)
  have HC3 : Hid (Bk (w2.alloc (.cells (Cd.cells c1).toArray 49)) w2.heap.size 49 (Cd.cells c1).toArray) := Lib.hid (heap_alloc_new _ _)
  obtain ⟨C, hC⟩ : ∃ C, C = w2.heap.size := ⟨_, rfl⟩
  have HCN : Hid (C ≠ pb) := Lib.hid (by have := HP2.out.pb_lt; omega)
  rw [← hC] at HC3 ⊢
  clear hC hm HP2 HG2 HK2 HLI
  change Code.wp _ _ _ _ (w2.alloc (.cells (Cd.cells c1).toArray 49))
  generalize w2.alloc (.cells (Cd.cells c1).toArray 49) = w3 at HP3 HK3 HG3 HLI3 HC3 ⊢
  go_wp2_with fail
  refine (must_any ⟨#[41]⟩ (by decide) w3 u2 HP3.out HL.out).mono ?_; intro en w4 ho
  rcases hm3 : Pr.must (l.map Pr.tk) ⟨#[41]⟩ u2 with n | ⟨a3, u3⟩
  · obtain ⟨p, rfl, g4⟩ := ho.of_err hm3
    exact ⟨rfl, Outc.err (by rw [HR.out]; simp only [Pr.held, Pr.th, HM1.out, HM2.out, hm3]) (grownBy_tr HG3.out g4)⟩
  obtain ⟨v, rfl, ⟨x3, rfl, hx3⟩, h4, g4⟩ := ho.of_ok hm3
  have HM3 := Lib.hid hm3; have HP4 := Lib.hid h4; have HK4 := Lib.hid (HK3.out.kept g4 HNE.out.1); have HG4 := Lib.hid (grownBy_tr HG3.out g4); have HC4 := Lib.hid (HC3.out.kept g4 HCN.out)
  have HLI4 : Hid (kCd.R (fresh w1.heap.size w4) c1) := Lib.hid (kCd.ext c1 (fresh_par g4 (by have := HNE.out; have := HLE1.out; omega)) HLI3.out)
  clear h4 g4 ho hx3 hm3 HP3 HG3 HK3 HC3 HLI3
  go_wp2_with (first | ((with_reducible show wpList _ _ _ (Oper.mk (some 10) (Op.load 49 (Operand.tmp 3)) _ _ _ _ :: _) _ _); refine wpList_load_bk rfl 49 (.tmp 3) rfl C 49 (Cd.cells c1).toArray rfl _ HC4.out Tryd.underlying49 rfl size49 ?_) | ((with_reducible show wpList _ _ _ (Oper.mk none (Op.store 49 (Operand.tmp 2) (Operand.tmp 10)) _ _ _ _ :: _) _ _); refine wpList_store_bk rfl 49 (.tmp 2) (.tmp 10) rfl w.heap.size 49 _ (Cd.cells c1).toArray rfl rfl HK4.out size49 rfl (kCd.one _) ?_; intro wZ hB hF))
  exact bodyPost_ret (results_cell_row Tryd.results61 _ wZ w.heap.size 49 (Cd.cells c1).toArray (0, 0) _ rfl hB Tryd.underlying49 rfl size49) rfl (Outc.ok (u := u3) (a := a2) (by rw [HR.out]; simp only [Pr.held, Pr.th, HM1.out, HM2.out, HM3.out]) (grownBy_mine HG4.out hF) ⟨c1, rfl, HD.out, kCd.ext c1 ((fresh_par hF HLE1.out).trans (fresh_mono (Nat.le_of_lt HLE1.out) _)) HLI4.out⟩ (HP4.out.far hF HNE.out.1 HNE.out.2.1))
end
end Go.Proofs.YtlpnkllhpienhaaDoor
