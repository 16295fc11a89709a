/-
  The walks of the parser's conditions. Plain: how the plain parser moves on. Laws: an item goes to the end of a row of one's own. The walks of the parser's lists in parentheses. Plain: a statement in a block of one's own, part by part. Plain: the signs of a text as the parser wants them; what a readi
-/
import Derived.Test.YtdlchhimkelinaaGreatDoorP04
import Derived.Test.YtdlchhimkelinaaGreatDoorP02
import Derived.Great.BuildSlice
import Derived.Test.YtdlchhimkelinaaGreatDoorP01
set_option maxHeartbeats 6400000
set_option maxRecDepth 100000
namespace Go.Proofs.YtdlchhimkelinaaGreatDoor
open Go.RowKit Go.Sort
attribute [local go_sem] field79_0 field79_1 field79_2 field79_3
section
variable {pb sb cap : Nat} {l : List Tx.Sg}
/-- A condition's first end. -/
theorem cd_set0 {w : World} {C : Nat} {c : Cd} (h : Bk w C 51 (Cd.cells c).toArray) (k : Int) : Bk (w.setCell ⟨C, 0, none⟩ (.int .i64 k)) C 51 (Cd.cells { c with kind := k }).toArray := h.set_ 0 _
theorem cd_put1 {w : World} {C : Nat} {c : Cd} {y : Vl} (h : Bk w C 51 (putC (Cd.cells c) 2 (Vl.cells y)).toArray) : Bk w C 51 (Cd.cells { c with left := y }).toArray := h
theorem cd_put2 {w : World} {C : Nat} {c : Cd} {y : Vl} (h : Bk w C 51 (putC (Cd.cells c) 14 (Vl.cells y)).toArray) : Bk w C 51 (Cd.cells { c with right := y }).toArray := h
theorem cond_any (w : World) (u : Pr.St) (h : PS w pb sb cap l u.i u.o u.b) (hg : Good l) :
  Calls Tryz.prog 192 #[.pointer (some ⟨pb, 0, none⟩)] w (Outc (kCd.Val w.heap.size) w pb sb cap l (Pr.cond (l.map Pr.tk) u)) := by
 obtain ⟨r, hr⟩ : ∃ r, r = Pr.cond (l.map Pr.tk) u := ⟨_, rfl⟩
 rw [← hr]
 have HR := hdn hr
 have HL := hdn hg
 obtain ⟨x, hx⟩ := h.at
 have hn : Below w.heap.size w (w.alloc (.cells #[.int .i64 0, .int .i64 0, .int .i64 0, .int .i64 0, .string ByteArray.empty, .int .i64 0, .slice none 0 0, .string ByteArray.empty, .string ByteArray.empty, .int .i64 0, .int .i64 0, .string ByteArray.empty, .int .i64 0, .int .i64 0, .int .i64 0, .int .i64 0, .string ByteArray.empty, .int .i64 0, .slice none 0 0, .string ByteArray.empty, .string ByteArray.empty, .int .i64 0, .int .i64 0, .string ByteArray.empty, .int .i64 0, .int .i64 0] 51)) := (Below.refl _ _).alloc (Nat.le_refl _) _
 have HK : Hid (Bk (w.alloc (.cells #[.int .i64 0, .int .i64 0, .int .i64 0, .int .i64 0, .string ByteArray.empty, .int .i64 0, .slice none 0 0, .string ByteArray.empty, .string ByteArray.empty, .int .i64 0, .int .i64 0, .string ByteArray.empty, .int .i64 0, .int .i64 0, .int .i64 0, .int .i64 0, .string ByteArray.empty, .int .i64 0, .slice none 0 0, .string ByteArray.empty, .string ByteArray.empty, .int .i64 0, .int .i64 0, .string ByteArray.empty, .int .i64 0, .int .i64 0] 51)) w.heap.size 51 #[.int .i64 0, .int .i64 0, .int .i64 0, .int .i64 0, .string ByteArray.empty, .int .i64 0, .slice none 0 0, .string ByteArray.empty, .string ByteArray.empty, .int .i64 0, .int .i64 0, .string ByteArray.empty, .int .i64 0, .int .i64 0, .int .i64 0, .int .i64 0, .string ByteArray.empty, .int .i64 0, .slice none 0 0, .string ByteArray.empty, .string ByteArray.empty, .int .i64 0, .int .i64 0, .string ByteArray.empty, .int .i64 0, .int .i64 0]) := hdn (heap_alloc_new _ _)
 have HNE : Hid (w.heap.size ≠ pb ∧ w.heap.size ≠ sb ∧ pb < w.heap.size ∧ sb < w.heap.size) := hdn ⟨fun e => by have := h.pb_lt; omega, fun e => by have := h.sb_lt; omega, h.pb_lt, h.sb_lt⟩
 have HZ : Hid ((w.alloc (.cells #[.int .i64 0, .int .i64 0, .int .i64 0, .int .i64 0, .string ByteArray.empty, .int .i64 0, .slice none 0 0, .string ByteArray.empty, .string ByteArray.empty, .int .i64 0, .int .i64 0, .string ByteArray.empty, .int .i64 0, .int .i64 0, .int .i64 0, .int .i64 0, .string ByteArray.empty, .int .i64 0, .slice none 0 0, .string ByteArray.empty, .string ByteArray.empty, .int .i64 0, .int .i64 0, .string ByteArray.empty, .int .i64 0, .int .i64 0] 51)).heap.size = w.heap.size + 1) := hdn (by simp)
 have HG : Hid (w.grownBy (w.alloc (.cells #[.int .i64 0, .int .i64 0, .int .i64 0, .int .i64 0, .string ByteArray.empty, .int .i64 0, .slice none 0 0, .string ByteArray.empty, .string ByteArray.empty, .int .i64 0, .int .i64 0, .string ByteArray.empty, .int .i64 0, .int .i64 0, .int .i64 0, .int .i64 0, .string ByteArray.empty, .int .i64 0, .slice none 0 0, .string ByteArray.empty, .string ByteArray.empty, .int .i64 0, .int .i64 0, .string ByteArray.empty, .int .i64 0, .int .i64 0] 51)) (some pb)) := hdn (grownBy_of hn _)
 have HP := hdn (h.below hn)
 generalize hwA : w.alloc (.cells #[.int .i64 0, .int .i64 0, .int .i64 0, .int .i64 0, .string ByteArray.empty, .int .i64 0, .slice none 0 0, .string ByteArray.empty, .string ByteArray.empty, .int .i64 0, .int .i64 0, .string ByteArray.empty, .int .i64 0, .int .i64 0, .int .i64 0, .int .i64 0, .string ByteArray.empty, .int .i64 0, .slice none 0 0, .string ByteArray.empty, .string ByteArray.empty, .int .i64 0, .int .i64 0, .string ByteArray.empty, .int .i64 0, .int .i64 0] 51) = wA at HK HG HP HZ
 have HX := hdn hx
 have HA := hdn (ahead_any x wA HP.out hg hx)
 clear h hg hr hn hx
 go_enter Tryz.func192, Tryz.ntmps192
 go_wp2_with fail
 rw [show w.alloc (.cells #[.int .i64 0, .int .i64 0, .int .i64 0, .int .i64 0, .string ⟨#[]⟩, .int .i64 0, .slice none 0 0, .string ⟨#[]⟩, .string ⟨#[]⟩, .int .i64 0, .int .i64 0, .string ⟨#[]⟩, .int .i64 0, .int .i64 0, .int .i64 0, .int .i64 0, .string ⟨#[]⟩, .int .i64 0, .slice none 0 0, .string ⟨#[]⟩, .string ⟨#[]⟩, .int .i64 0, .int .i64 0, .string ⟨#[]⟩, .int .i64 0, .int .i64 0] 51) = wA from hwA]
 clear hwA
 refine (HA.out).mono ?_; rintro en w1 ⟨rfl, hb⟩
 have HP1 := hdn (HP.out.below hb); have HG1 := hdn (grownBy_below HG.out hb); have HK1 := hdn (HK.out.below hb HK.out.lt)
 clear hb HA
 go_upto_region 2 with (first | ((with_reducible show wpList _ _ _ (Oper.mk none (Op.store 51 _ _) _ _ _ _ :: _) _ _); refine wpList_store_new rfl 51 (.tmp 3) (.tmp 7) rfl _ #[.int .i64 0, .int .i64 x.pos, .int .i64 0, .int .i64 0, .string ⟨#[]⟩, .int .i64 0, .slice none 0 0, .string ⟨#[]⟩, .string ⟨#[]⟩, .int .i64 0, .int .i64 0, .string ⟨#[]⟩, .int .i64 0, .int .i64 0, .int .i64 0, .int .i64 0, .string ⟨#[]⟩, .int .i64 0, .slice none 0 0, .string ⟨#[]⟩, .string ⟨#[]⟩, .int .i64 0, .int .i64 0, .string ⟨#[]⟩, .int .i64 0, .int .i64 0] rfl rfl size49 rfl (kCd.one ⟨0, x.pos, ⟨0, 0, ⟨ByteArray.empty, 0, ⟨none, 0, []⟩⟩, ByteArray.empty, ⟨ByteArray.empty, 0, 0⟩, ⟨ByteArray.empty, 0, 0⟩⟩, ⟨0, 0, ⟨ByteArray.empty, 0, ⟨none, 0, []⟩⟩, ByteArray.empty, ⟨ByteArray.empty, 0, 0⟩, ⟨ByteArray.empty, 0, 0⟩⟩⟩) ?_))
 have hm : Below w1.heap.size w1 (w1.alloc (.cells #[.int .i64 0, .int .i64 x.pos, .int .i64 0, .int .i64 0, .string ByteArray.empty, .int .i64 0, .slice none 0 0, .string ByteArray.empty, .string ByteArray.empty, .int .i64 0, .int .i64 0, .string ByteArray.empty, .int .i64 0, .int .i64 0, .int .i64 0, .int .i64 0, .string ByteArray.empty, .int .i64 0, .slice none 0 0, .string ByteArray.empty, .string ByteArray.empty, .int .i64 0, .int .i64 0, .string ByteArray.empty, .int .i64 0, .int .i64 0] 51)) := (Below.refl _ _).alloc (Nat.le_refl _) _
 have HP2 := hdn (HP1.out.below hm)
 have HK2 := hdn (HK1.out.below hm HK1.out.lt)
 have HC : Hid (Bk (w1.alloc (.cells #[.int .i64 0, .int .i64 x.pos, .int .i64 0, .int .i64 0, .string ByteArray.empty, .int .i64 0, .slice none 0 0, .string ByteArray.empty, .string ByteArray.empty, .int .i64 0, .int .i64 0, .string ByteArray.empty, .int .i64 0, .int .i64 0, .int .i64 0, .int .i64 0, .string ByteArray.empty, .int .i64 0, .slice none 0 0, .string ByteArray.empty, .string ByteArray.empty, .int .i64 0, .int .i64 0, .string ByteArray.empty, .int .i64 0, .int .i64 0] 51)) w1.heap.size 51 #[.int .i64 0, .int .i64 x.pos, .int .i64 0, .int .i64 0, .string ByteArray.empty, .int .i64 0, .slice none 0 0, .string ByteArray.empty, .string ByteArray.empty, .int .i64 0, .int .i64 0, .string ByteArray.empty, .int .i64 0, .int .i64 0, .int .i64 0, .int .i64 0, .string ByteArray.empty, .int .i64 0, .slice none 0 0, .string ByteArray.empty, .string ByteArray.empty, .int .i64 0, .int .i64 0, .string ByteArray.empty, .int .i64 0, .int .i64 0]) := hdn (heap_alloc_new _ _)
 have HG2 : Hid (w.grownBy (w1.alloc (.cells #[.int .i64 0, .int .i64 x.pos, .int .i64 0, .int .i64 0, .string ByteArray.empty, .int .i64 0, .slice none 0 0, .string ByteArray.empty, .string ByteArray.empty, .int .i64 0, .int .i64 0, .string ByteArray.empty, .int .i64 0, .int .i64 0, .int .i64 0, .int .i64 0, .string ByteArray.empty, .int .i64 0, .slice none 0 0, .string ByteArray.empty, .string ByteArray.empty, .int .i64 0, .int .i64 0, .string ByteArray.empty, .int .i64 0, .int .i64 0] 51)) (some pb)) := hdn (grownBy_below HG1.out hm)
 obtain ⟨C, hC⟩ : ∃ C, C = w1.heap.size := ⟨_, rfl⟩
 have HCN : Hid (C ≠ pb ∧ C ≠ sb ∧ w.heap.size ≠ C ∧ w.heap.size ≤ C) := hdn ⟨by have := HP1.out.pb_lt; omega, by have := HP1.out.sb_lt; omega, by have := HK1.out.lt; omega, by have := HK1.out.lt; omega⟩
 rw [← hC] at HC ⊢
 clear hC hm HP1 HG1 HK1
 change Code.wp _ _ _ _ (w1.alloc (.cells #[.int .i64 0, .int .i64 x.pos, .int .i64 0, .int .i64 0, .string ByteArray.empty, .int .i64 0, .slice none 0 0, .string ByteArray.empty, .string ByteArray.empty, .int .i64 0, .int .i64 0, .string ByteArray.empty, .int .i64 0, .int .i64 0, .int .i64 0, .int .i64 0, .string ByteArray.empty, .int .i64 0, .slice none 0 0, .string ByteArray.empty, .string ByteArray.empty, .int .i64 0, .int .i64 0, .string ByteArray.empty, .int .i64 0, .int .i64 0] 51))
 generalize w1.alloc (.cells #[.int .i64 0, .int .i64 x.pos, .int .i64 0, .int .i64 0, .string ByteArray.empty, .int .i64 0, .slice none 0 0, .string ByteArray.empty, .string ByteArray.empty, .int .i64 0, .int .i64 0, .string ByteArray.empty, .int .i64 0, .int .i64 0, .int .i64 0, .int .i64 0, .string ByteArray.empty, .int .i64 0, .slice none 0 0, .string ByteArray.empty, .string ByteArray.empty, .int .i64 0, .int .i64 0, .string ByteArray.empty, .int .i64 0, .int .i64 0] 51) = w2 at HP2 HK2 HC HG2 ⊢
 obtain ⟨c0, hc0⟩ : ∃ c : Cd, c = ⟨0, x.pos, ⟨0, 0, ⟨ByteArray.empty, 0, ⟨none, 0, []⟩⟩, ByteArray.empty, ⟨ByteArray.empty, 0, 0⟩, ⟨ByteArray.empty, 0, 0⟩⟩, ⟨0, 0, ⟨ByteArray.empty, 0, ⟨none, 0, []⟩⟩, ByteArray.empty, ⟨ByteArray.empty, 0, 0⟩, ⟨ByteArray.empty, 0, 0⟩⟩⟩ := ⟨_, rfl⟩
 have HC2 : Hid (Bk w2 C 51 (Cd.cells c0).toArray) := hdn (by rw [hc0]; exact HC.out)
 have HC0 := hdn hc0
 clear hc0 HC
 go_wp2_with fail
 refine (may_any ⟨#[63]⟩ (by decide) w2 u HP2.out HL.out).mono ?_; rintro en w3 ⟨q, hq, rfl, h3, g3⟩
 have HP3 := hdn h3; have HG3 := hdn (grownBy_tr HG2.out g3); have HK3 := hdn (HK2.out.kept g3 HNE.out.1); have HC3 := hdn (HC2.out.kept g3 HCN.out.1)
 have HQ := hdn hq
 clear h3 g3 hq HP2 HG2 HK2 HC2
 have c0c : w3.cell? ⟨C, 0, none⟩ = some (.int .i64 c0.kind) := HC3.out.cell 0
 have c0f := HC3.out.frozen 0
 cases q with
 | true =>
  have HC4 : Hid (Bk (w3.setCell ⟨C, 0, none⟩ (.int .i64 0)) C 51 (Cd.cells { c0 with kind := 0 }).toArray) := hdn (cd_set0 HC3.out 0)
  have gC := grownBy_setC w3 ⟨C, 0, none⟩ (.int .i64 0)
  have HP4 := hdn (HP3.out.far gC HCN.out.1 HCN.out.2.1); have HK4 := hdn (HK3.out.kept gC HCN.out.2.2.1); have HG4 := hdn (grownBy_under HG3.out gC HCN.out.2.2.2)
  clear gC
  go_upto_region 4 with fail
  clear c0c c0f
  generalize w3.setCell ⟨C, 0, none⟩ (.int .i64 0) = w4 at HC4 HP4 HK4 HG4 ⊢
  obtain ⟨c1, hc1⟩ : ∃ c : Cd, c = { c0 with kind := 0 } := ⟨_, rfl⟩
  rw [← hc1] at HC4
  have HC1 := hdn hc1
  clear hc1
  go_wp2_with (first | ((with_reducible show wpList _ _ _ (Oper.mk (some 11) (Op.load 51 (Operand.tmp 3)) _ _ _ _ :: _) _ _); refine wpList_load_bk rfl 51 (.tmp 3) rfl C 51 (Cd.cells c1).toArray rfl _ HC4.out Tryz.underlying51 rfl size49 ?_) | ((with_reducible show wpList _ _ _ (Oper.mk none (Op.store 51 (Operand.tmp 2) (Operand.tmp 11)) _ _ _ _ :: _) _ _); refine wpList_store_bk rfl 51 (.tmp 2) (.tmp 11) rfl w.heap.size 51 _ (Cd.cells c1).toArray rfl rfl HK4.out size49 rfl (kCd.one _) ?_; intro wZ hB hF))
  exact bodyPost_ret (results_cell_row Tryz.results192 _ wZ w.heap.size 51 (Cd.cells c1).toArray (0, 0) _ rfl hB Tryz.underlying51 rfl size49) rfl (Outc.ok (u := u.go) (a := Pr.noCd) (by rw [HR.out]; simp only [Pr.cond, HQ.out, if_true]) (grownBy_mine HG4.out hF) ⟨c1, rfl, by rw [HC1.out, HC0.out]; rfl, by rw [HC1.out, HC0.out]; exact ⟨⟨(show 0 * 24 ≤ 140737488351232 by decide), .inl rfl⟩, ⟨(show 0 * 24 ≤ 140737488351232 by decide), .inl rfl⟩⟩⟩ (HP4.out.far hF HNE.out.1 HNE.out.2.1))
 | false =>
 clear c0c c0f
 have HLT : Hid (C < w3.heap.size) := hdn HC3.out.lt
 go_wp2_with fail
 refine (side_any w3 u HP3.out HL.out).mono ?_; intro en w4 ho
 rcases hm1 : Pr.side (l.map Pr.tk) u with n | ⟨a1, u1⟩
 ·obtain ⟨p, rfl, g4⟩ := ho.of_err hm1
  exact ⟨rfl, Outc.err (by rw [HR.out]; simp only [Pr.cond, HQ.out, Bool.false_eq_true, if_false, Pr.th, hm1]) (grownBy_tr HG3.out g4)⟩
 obtain ⟨v, rfl, ⟨y, rfl, hz, hlie⟩, h4, g4⟩ := ho.of_ok hm1
 have HLE4 := hdn g4.size
 have HD := hdn hz; have HM1 := hdn hm1; have HP4 := hdn h4; have HK4 := hdn (HK3.out.kept g4 HNE.out.1); have HC4 := hdn (HC3.out.kept g4 HCN.out.1); have HG4 := hdn (grownBy_tr HG3.out g4)
 have HLI : Hid (kVl.R (fresh w3.heap.size w4) y) := hdn hlie
 clear h4 g4 ho hz hm1 hlie HP3 HG3 HK3 HC3
 go_upto_region 6 with (first | ((with_reducible show wpList _ _ _ (Oper.mk none (Op.store 49 (Operand.tmp 14) (Operand.tmp 13)) _ _ _ _ :: _) _ _); refine wpList_store_part rfl 49 (.tmp 14) (.tmp 13) rfl C 2 51 (Cd.cells c0) (Vl.cells y) rfl rfl HC4.out size47 (by show 14 ≤ 26; decide) (kVl.one y) ?_; intro wY hB hF))
 have HC5 : Hid (Bk wY C 51 (Cd.cells { c0 with left := y }).toArray) := hdn (cd_put1 hB)
 have HP5 := hdn (HP4.out.far hF HCN.out.1 HCN.out.2.1); have HK5 := hdn (HK4.out.kept hF HCN.out.2.2.1); have HG5 := hdn (grownBy_under HG4.out hF HCN.out.2.2.2)
 have HLE5 := hdn (Nat.le_trans HLE4.out hF.size)
 have HLI5 : Hid (kVl.R (fresh w3.heap.size wY) y) := hdn (kVl.ext y (fresh_par hF HLT.out) HLI.out)
 clear hB hF HP4 HG4 HK4 HC4 HLI
 go_wp2_with fail
 refine (relation_any wY u1 HP5.out HL.out).mono ?_; intro en w6 ho
 rcases hm2 : Pr.relation (l.map Pr.tk) u1 with n | ⟨a2, u2⟩
 ·obtain ⟨p, rfl, g6⟩ := ho.of_err hm2
  exact ⟨rfl, Outc.err (by rw [HR.out]; simp only [Pr.cond, HQ.out, Bool.false_eq_true, if_false, Pr.th, HM1.out, hm2]) (grownBy_tr HG5.out g6)⟩
 obtain ⟨v, rfl, rfl, h6, g6⟩ := ho.of_ok hm2
 have HM2 := hdn hm2; have HP6 := hdn h6; have HK6 := hdn (HK5.out.kept g6 HNE.out.1); have HC6 := hdn (HC5.out.kept g6 HCN.out.1); have HG6 := hdn (grownBy_tr HG5.out g6)
 have HLE6 := hdn (Nat.le_trans HLE5.out g6.size)
 have HPB : Hid (pb < w3.heap.size) := hdn (Nat.lt_of_lt_of_le HNE.out.2.2.1 (Nat.le_trans HCN.out.2.2.2 (Nat.le_of_lt HLT.out)))
 have HLI6 : Hid (kVl.R (fresh w3.heap.size w6) y) := hdn (kVl.ext y (fresh_par g6 HPB.out) HLI5.out)
 clear h6 g6 ho hm2 HP5 HG5 HK5 HC5 HLI5
 have c0c : w6.cell? ⟨C, 0, none⟩ = some (.int .i64 c0.kind) := HC6.out.cell 0
 have c0f := HC6.out.frozen 0
 have HC7 : Hid (Bk (w6.setCell ⟨C, 0, none⟩ (.int .i64 a2)) C 51 (Cd.cells { c0 with kind := a2, left := y }).toArray) := hdn (cd_set0 HC6.out a2)
 have gC := grownBy_setC w6 ⟨C, 0, none⟩ (.int .i64 a2)
 have HP7 := hdn (HP6.out.far gC HCN.out.1 HCN.out.2.1); have HK7 := hdn (HK6.out.kept gC HCN.out.2.2.1); have HG7 := hdn (grownBy_under HG6.out gC HCN.out.2.2.2)
 have HLI7 : Hid (kVl.R (fresh w3.heap.size (w6.setCell ⟨C, 0, none⟩ (.int .i64 a2))) y) := hdn (kVl.ext y (fresh_par gC HLT.out) HLI6.out)
 have HLE7 : Hid (w3.heap.size ≤ (w6.setCell ⟨C, 0, none⟩ (.int .i64 a2)).heap.size) := hdn (Nat.le_trans HLE6.out gC.size)
 clear gC
 go_upto_region 7 with fail
 clear c0c c0f HP6 HG6 HK6 HC6 HLI6
 generalize w6.setCell ⟨C, 0, none⟩ (.int .i64 a2) = w7 at HC7 HP7 HK7 HG7 HLI7 HLE7 ⊢
 go_wp2_with fail
 refine (side_any w7 u2 HP7.out HL.out).mono ?_; intro en w8 ho
 rcases hm3 : Pr.side (l.map Pr.tk) u2 with n | ⟨a3, u3⟩
 ·obtain ⟨p, rfl, g8⟩ := ho.of_err hm3
  exact ⟨rfl, Outc.err (by rw [HR.out]; simp only [Pr.cond, HQ.out, Bool.false_eq_true, if_false, Pr.th, HM1.out, HM2.out, hm3]) (grownBy_tr HG7.out g8)⟩
 obtain ⟨v, rfl, ⟨z, rfl, hz, hlie⟩, h8, g8⟩ := ho.of_ok hm3
 have HW37 : Hid (w3.heap.size ≤ w7.heap.size ∧ w3.heap.size ≤ w8.heap.size) := hdn ⟨HLE7.out, Nat.le_trans HLE7.out g8.size⟩
 have HE := hdn hz; have HM3 := hdn hm3; have HP8 := hdn h8; have HK8 := hdn (HK7.out.kept g8 HNE.out.1); have HC8 := hdn (HC7.out.kept g8 HCN.out.1); have HG8 := hdn (grownBy_tr HG7.out g8)
 have HLI8 : Hid (kVl.R (fresh w3.heap.size w8) y) := hdn (kVl.ext y (fresh_par g8 HPB.out) HLI7.out)
 have HLZ8 : Hid (kVl.R (fresh w3.heap.size w8) z) := hdn (kVl.ext z (fresh_mono HW37.out.1 _) hlie)
 clear h8 g8 ho hz hm3 hlie HP7 HG7 HK7 HC7 HLI7
 go_upto_region 8 with (first | ((with_reducible show wpList _ _ _ (Oper.mk none (Op.store 49 (Operand.tmp 20) (Operand.tmp 19)) _ _ _ _ :: _) _ _); refine wpList_store_part rfl 49 (.tmp 20) (.tmp 19) rfl C 14 51 (Cd.cells { c0 with kind := a2, left := y }) (Vl.cells z) rfl rfl HC8.out size47 (by show 26 ≤ 26; decide) (kVl.one z) ?_; intro wX hB hF))
 have HC9 : Hid (Bk wX C 51 (Cd.cells { c0 with kind := a2, left := y, right := z }).toArray) := hdn (cd_put2 hB)
 have HP9 := hdn (HP8.out.far hF HCN.out.1 HCN.out.2.1); have HK9 := hdn (HK8.out.kept hF HCN.out.2.2.1); have HG9 := hdn (grownBy_under HG8.out hF HCN.out.2.2.2)
 have HLI9 : Hid (kVl.R (fresh w3.heap.size wX) y) := hdn (kVl.ext y (fresh_par hF HLT.out) HLI8.out)
 have HLZ9 : Hid (kVl.R (fresh w3.heap.size wX) z) := hdn (kVl.ext z (fresh_par hF HLT.out) HLZ8.out)
 clear hB hF HP8 HG8 HK8 HC8 HLI8 HLZ8
 obtain ⟨c1, hc1⟩ : ∃ c : Cd, c = { c0 with kind := a2, left := y, right := z } := ⟨_, rfl⟩
 rw [← hc1] at HC9
 have HC1 := hdn hc1
 clear hc1
 go_wp2_with (first | ((with_reducible show wpList _ _ _ (Oper.mk (some 21) (Op.load 51 (Operand.tmp 3)) _ _ _ _ :: _) _ _); refine wpList_load_bk rfl 51 (.tmp 3) rfl C 51 (Cd.cells c1).toArray rfl _ HC9.out Tryz.underlying51 rfl size49 ?_) | ((with_reducible show wpList _ _ _ (Oper.mk none (Op.store 51 (Operand.tmp 2) (Operand.tmp 21)) _ _ _ _ :: _) _ _); refine wpList_store_bk rfl 51 (.tmp 2) (.tmp 21) rfl w.heap.size 51 _ (Cd.cells c1).toArray rfl rfl HK9.out size49 rfl (kCd.one _) ?_; intro wZ hB hF))
 exact bodyPost_ret (results_cell_row Tryz.results192 _ wZ w.heap.size 51 (Cd.cells c1).toArray (0, 0) _ rfl hB Tryz.underlying51 rfl size49) rfl (Outc.ok (u := u3) (a := ⟨a2, 0, a1, a3⟩) (by rw [HR.out]; simp only [Pr.cond, HQ.out, Bool.false_eq_true, if_false, Pr.th, HM1.out, HM2.out, HM3.out]) (grownBy_mine HG9.out hF) ⟨c1, rfl, by rw [HC1.out, ← HD.out, ← HE.out]; rfl, by rw [HC1.out]; exact ⟨kVl.ext y ((fresh_par hF (Nat.lt_of_le_of_lt HCN.out.2.2.2 HLT.out)).trans (fresh_mono (Nat.le_trans HCN.out.2.2.2 (Nat.le_of_lt HLT.out)) _)) HLI9.out, kVl.ext z ((fresh_par hF (Nat.lt_of_le_of_lt HCN.out.2.2.2 HLT.out)).trans (fresh_mono (Nat.le_trans HCN.out.2.2.2 (Nat.le_of_lt HLT.out)) _)) HLZ9.out⟩⟩ (HP9.out.far hF HNE.out.1 HNE.out.2.1))
theorem held_any (w : World) (u : Pr.St) (h : PS w pb sb cap l u.i u.o u.b) (hg : Good l) :
  Calls Tryz.prog 180 #[.pointer (some ⟨pb, 0, none⟩)] w (Outc (kCd.Val w.heap.size) w pb sb cap l (Pr.held (l.map Pr.tk) u)) := by
 obtain ⟨r, hr⟩ : ∃ r, r = Pr.held (l.map Pr.tk) u := ⟨_, rfl⟩
 rw [← hr]
 have HR := hdn hr
 have HL := hdn hg
 have hn : Below w.heap.size w (w.alloc (.cells #[.int .i64 0, .int .i64 0, .int .i64 0, .int .i64 0, .string ByteArray.empty, .int .i64 0, .slice none 0 0, .string ByteArray.empty, .string ByteArray.empty, .int .i64 0, .int .i64 0, .string ByteArray.empty, .int .i64 0, .int .i64 0, .int .i64 0, .int .i64 0, .string ByteArray.empty, .int .i64 0, .slice none 0 0, .string ByteArray.empty, .string ByteArray.empty, .int .i64 0, .int .i64 0, .string ByteArray.empty, .int .i64 0, .int .i64 0] 51)) := (Below.refl _ _).alloc (Nat.le_refl _) _
 have HK : Hid (Bk (w.alloc (.cells #[.int .i64 0, .int .i64 0, .int .i64 0, .int .i64 0, .string ByteArray.empty, .int .i64 0, .slice none 0 0, .string ByteArray.empty, .string ByteArray.empty, .int .i64 0, .int .i64 0, .string ByteArray.empty, .int .i64 0, .int .i64 0, .int .i64 0, .int .i64 0, .string ByteArray.empty, .int .i64 0, .slice none 0 0, .string ByteArray.empty, .string ByteArray.empty, .int .i64 0, .int .i64 0, .string ByteArray.empty, .int .i64 0, .int .i64 0] 51)) w.heap.size 51 #[.int .i64 0, .int .i64 0, .int .i64 0, .int .i64 0, .string ByteArray.empty, .int .i64 0, .slice none 0 0, .string ByteArray.empty, .string ByteArray.empty, .int .i64 0, .int .i64 0, .string ByteArray.empty, .int .i64 0, .int .i64 0, .int .i64 0, .int .i64 0, .string ByteArray.empty, .int .i64 0, .slice none 0 0, .string ByteArray.empty, .string ByteArray.empty, .int .i64 0, .int .i64 0, .string ByteArray.empty, .int .i64 0, .int .i64 0]) := hdn (heap_alloc_new _ _)
 have HNE : Hid (w.heap.size ≠ pb ∧ w.heap.size ≠ sb ∧ pb < w.heap.size ∧ sb < w.heap.size) := hdn ⟨fun e => by have := h.pb_lt; omega, fun e => by have := h.sb_lt; omega, h.pb_lt, h.sb_lt⟩
 have HZ : Hid ((w.alloc (.cells #[.int .i64 0, .int .i64 0, .int .i64 0, .int .i64 0, .string ByteArray.empty, .int .i64 0, .slice none 0 0, .string ByteArray.empty, .string ByteArray.empty, .int .i64 0, .int .i64 0, .string ByteArray.empty, .int .i64 0, .int .i64 0, .int .i64 0, .int .i64 0, .string ByteArray.empty, .int .i64 0, .slice none 0 0, .string ByteArray.empty, .string ByteArray.empty, .int .i64 0, .int .i64 0, .string ByteArray.empty, .int .i64 0, .int .i64 0] 51)).heap.size = w.heap.size + 1) := hdn (by simp)
 have HG : Hid (w.grownBy (w.alloc (.cells #[.int .i64 0, .int .i64 0, .int .i64 0, .int .i64 0, .string ByteArray.empty, .int .i64 0, .slice none 0 0, .string ByteArray.empty, .string ByteArray.empty, .int .i64 0, .int .i64 0, .string ByteArray.empty, .int .i64 0, .int .i64 0, .int .i64 0, .int .i64 0, .string ByteArray.empty, .int .i64 0, .slice none 0 0, .string ByteArray.empty, .string ByteArray.empty, .int .i64 0, .int .i64 0, .string ByteArray.empty, .int .i64 0, .int .i64 0] 51)) (some pb)) := hdn (grownBy_of hn _)
 have HP := hdn (h.below hn)
 generalize hwA : w.alloc (.cells #[.int .i64 0, .int .i64 0, .int .i64 0, .int .i64 0, .string ByteArray.empty, .int .i64 0, .slice none 0 0, .string ByteArray.empty, .string ByteArray.empty, .int .i64 0, .int .i64 0, .string ByteArray.empty, .int .i64 0, .int .i64 0, .int .i64 0, .int .i64 0, .string ByteArray.empty, .int .i64 0, .slice none 0 0, .string ByteArray.empty, .string ByteArray.empty, .int .i64 0, .int .i64 0, .string ByteArray.empty, .int .i64 0, .int .i64 0] 51) = wA at HK HG HP HZ
 clear h hg hr hn
 go_enter Tryz.func180, Tryz.ntmps180
 go_wp2_with fail
 rw [show w.alloc (.cells #[.int .i64 0, .int .i64 0, .int .i64 0, .int .i64 0, .string ⟨#[]⟩, .int .i64 0, .slice none 0 0, .string ⟨#[]⟩, .string ⟨#[]⟩, .int .i64 0, .int .i64 0, .string ⟨#[]⟩, .int .i64 0, .int .i64 0, .int .i64 0, .int .i64 0, .string ⟨#[]⟩, .int .i64 0, .slice none 0 0, .string ⟨#[]⟩, .string ⟨#[]⟩, .int .i64 0, .int .i64 0, .string ⟨#[]⟩, .int .i64 0, .int .i64 0] 51) = wA from hwA]
 clear hwA
 refine (must_any ⟨#[40]⟩ (by decide) wA u HP.out HL.out).mono ?_; intro en w1 ho
 rcases hm1 : Pr.must (l.map Pr.tk) ⟨#[40]⟩ u with n | ⟨a1, u1⟩
 ·obtain ⟨p, rfl, g1⟩ := ho.of_err hm1
  exact ⟨rfl, Outc.err (by rw [HR.out]; simp only [Pr.held, Pr.th, hm1]) (grownBy_tr HG.out g1)⟩
 obtain ⟨v, rfl, ⟨x, rfl, hx⟩, h1, g1⟩ := ho.of_ok hm1
 have HM1 := hdn hm1; have HP1 := hdn h1; have HK1 := hdn (HK.out.kept g1 HNE.out.1); have HG1 := hdn (grownBy_tr HG.out g1)
 have HLE1 : Hid (w.heap.size < w1.heap.size) := hdn (by have := HZ.out; have := g1.size; omega)
 clear h1 g1 ho hx hm1 HP HG HK
 go_wp2_with fail
 refine (cond_any w1 u1 HP1.out HL.out).mono ?_; intro en w2 ho
 rcases hm2 : Pr.cond (l.map Pr.tk) u1 with n | ⟨a2, u2⟩
 ·obtain ⟨p, rfl, g2⟩ := ho.of_err hm2
  exact ⟨rfl, Outc.err (by rw [HR.out]; simp only [Pr.held, Pr.th, HM1.out, hm2]) (grownBy_tr HG1.out g2)⟩
 obtain ⟨v, rfl, ⟨c1, rfl, hz, hlie⟩, h2, g2⟩ := ho.of_ok hm2
 have HD := hdn hz; have HM2 := hdn hm2; have HP2 := hdn h2; have HK2 := hdn (HK1.out.kept g2 HNE.out.1); have HG2 := hdn (grownBy_tr HG1.out g2)
 have HLI : Hid (kCd.R (fresh w1.heap.size w2) c1) := hdn hlie
 clear h2 g2 ho hz hm2 hlie HP1 HG1 HK1
 go_upto_region 3 with (first | ((with_reducible show wpList _ _ _ (Oper.mk none (Op.store 51 _ _) _ _ _ _ :: _) _ _); refine wpList_store_new rfl 51 (.tmp 3) (.tmp 7) rfl _ (Cd.cells c1).toArray rfl rfl size49 rfl (kCd.one _) ?_))
 have hm : Below w2.heap.size w2 (w2.alloc (.cells (Cd.cells c1).toArray 51)) := (Below.refl _ _).alloc (Nat.le_refl _) _
 have HP3 := hdn (HP2.out.below hm); have HK3 := hdn (HK2.out.below hm HK2.out.lt); have HG3 := hdn (grownBy_below HG2.out hm)
 have HLI3 : Hid (kCd.R (fresh w1.heap.size (w2.alloc (.cells (Cd.cells c1).toArray 51))) c1) := hdn (kCd.ext c1 (fresh_below hm) HLI.out)
 have HC3 : Hid (Bk (w2.alloc (.cells (Cd.cells c1).toArray 51)) w2.heap.size 51 (Cd.cells c1).toArray) := hdn (heap_alloc_new _ _)
 obtain ⟨C, hC⟩ : ∃ C, C = w2.heap.size := ⟨_, rfl⟩
 have HCN : Hid (C ≠ pb) := hdn (by have := HP2.out.pb_lt; omega)
 rw [← hC] at HC3 ⊢
 clear hC hm HP2 HG2 HK2 HLI
 change Code.wp _ _ _ _ (w2.alloc (.cells (Cd.cells c1).toArray 51))
 generalize w2.alloc (.cells (Cd.cells c1).toArray 51) = w3 at HP3 HK3 HG3 HLI3 HC3 ⊢
 go_wp2_with fail
 refine (must_any ⟨#[41]⟩ (by decide) w3 u2 HP3.out HL.out).mono ?_; intro en w4 ho
 rcases hm3 : Pr.must (l.map Pr.tk) ⟨#[41]⟩ u2 with n | ⟨a3, u3⟩
 ·obtain ⟨p, rfl, g4⟩ := ho.of_err hm3
  exact ⟨rfl, Outc.err (by rw [HR.out]; simp only [Pr.held, Pr.th, HM1.out, HM2.out, hm3]) (grownBy_tr HG3.out g4)⟩
 obtain ⟨v, rfl, ⟨x3, rfl, hx3⟩, h4, g4⟩ := ho.of_ok hm3
 have HM3 := hdn hm3; have HP4 := hdn h4; have HK4 := hdn (HK3.out.kept g4 HNE.out.1); have HG4 := hdn (grownBy_tr HG3.out g4); have HC4 := hdn (HC3.out.kept g4 HCN.out)
 have HLI4 : Hid (kCd.R (fresh w1.heap.size w4) c1) := hdn (kCd.ext c1 (fresh_par g4 (by have := HNE.out; have := HLE1.out; omega)) HLI3.out)
 clear h4 g4 ho hx3 hm3 HP3 HG3 HK3 HC3 HLI3
 go_wp2_with (first | ((with_reducible show wpList _ _ _ (Oper.mk (some 10) (Op.load 51 (Operand.tmp 3)) _ _ _ _ :: _) _ _); refine wpList_load_bk rfl 51 (.tmp 3) rfl C 51 (Cd.cells c1).toArray rfl _ HC4.out Tryz.underlying51 rfl size49 ?_) | ((with_reducible show wpList _ _ _ (Oper.mk none (Op.store 51 (Operand.tmp 2) (Operand.tmp 10)) _ _ _ _ :: _) _ _); refine wpList_store_bk rfl 51 (.tmp 2) (.tmp 10) rfl w.heap.size 51 _ (Cd.cells c1).toArray rfl rfl HK4.out size49 rfl (kCd.one _) ?_; intro wZ hB hF))
 exact bodyPost_ret (results_cell_row Tryz.results180 _ wZ w.heap.size 51 (Cd.cells c1).toArray (0, 0) _ rfl hB Tryz.underlying51 rfl size49) rfl (Outc.ok (u := u3) (a := a2) (by rw [HR.out]; simp only [Pr.held, Pr.th, HM1.out, HM2.out, HM3.out]) (grownBy_mine HG4.out hF) ⟨c1, rfl, HD.out, kCd.ext c1 ((fresh_par hF HLE1.out).trans (fresh_mono (Nat.le_of_lt HLE1.out) _)) HLI4.out⟩ (HP4.out.far hF HNE.out.1 HNE.out.2.1))
end
end Go.Proofs.YtdlchhimkelinaaGreatDoor
namespace Go.Proofs.YtdlchhimkelinaaGreatDoor
open Go.RowKit Go.Sort
namespace Pr
theorem th_ok {α β : Type} {r : Res α} {f : α → St → Res β} {b : β} {v : St} (h : th r f = .ok (b, v)) : ∃ a u, r = .ok (a, u) ∧ f a u = .ok (b, v) := by
 unfold th at h
 split at h
 ·cases h
 ·rename_i x u; exact ⟨x, u, rfl, h⟩
/-- A part of the parser goes n signs on at least, and leaves the counts as they are. -/
def Fwd (n : Nat) (u v : St) : Prop := u.i + n ≤ v.i ∧ v.o = u.o ∧ v.b = u.b
theorem Fwd.tr {n m : Nat} {u v w : St} (h : Fwd n u v) (k : Fwd m v w) : Fwd (n + m) u w := ⟨by have := h.1; have := k.1; omega, k.2.1.trans h.2.1, k.2.2.trans h.2.2⟩
theorem Fwd.le {n m : Nat} {u v : St} (h : Fwd n u v) (hm : m ≤ n) : Fwd m u v := ⟨by have := h.1; omega, h.2⟩
theorem Fwd.go (u : St) : Fwd 1 u u.go := ⟨Nat.le_refl _, rfl, rfl⟩
theorem Fwd.refl (u : St) : Fwd 0 u u := ⟨Nat.le_refl _, rfl, rfl⟩
section
variable {t : List Tk}
theorem must_fwd {s : ByteArray} {u v : St} {x : Tk} (h : must t s u = .ok (x, v)) : Fwd 1 u v := by
 unfold must at h
 split at h
 ·injection h with h; injection h with _ h; subst h; exact Fwd.go u
 ·cases h
theorem name_fwd {u v : St} {x : Tk} (h : name t u = .ok (x, v)) : Fwd 1 u v := by
 unfold name at h
 split at h
 ·injection h with h; injection h with _ h; subst h; exact Fwd.go u
 ·cases h
theorem hops_fwd : ∀ (n : Nat) (acc : List Hp) (u : St) {l : List Hp} {v : St}, hops t n acc u = .ok (l, v) → Fwd 0 u v
 | 0, acc, u, l, v, h => by
  unfold hops at h
  split at h
  ·cases h
  ·injection h with h; injection h with _ h; subst h; exact Fwd.refl u
 | n + 1, acc, u, l, v, h => by
  unfold hops at h
  split at h
  ·obtain ⟨x, w, h1, h2⟩ := th_ok h
   exact (((Fwd.go u).tr (name_fwd h1)).tr (hops_fwd n _ w h2)).le (Nat.zero_le _)
  ·injection h with h; injection h with _ h; subst h; exact Fwd.refl u
theorem path_fwd {u v : St} {x : Pth} (h : path t u = .ok (x, v)) : Fwd 1 u v := by
 obtain ⟨a, u1, h1, h⟩ := th_ok h
 obtain ⟨b, u2, h2, h⟩ := th_ok h
 injection h with h; injection h with _ h; subst h
 exact (name_fwd h1).tr (hops_fwd _ _ _ h2)
theorem term_fwd {u v : St} {x : Tm} (h : term t u = .ok (x, v)) : Fwd 1 u v := by
 unfold term at h
 split at h
 ·injection h with h; injection h with _ h; subst h; exact Fwd.go u
 ·obtain ⟨a, u1, h1, h⟩ := th_ok h
  injection h with h; injection h with _ h; subst h
  exact name_fwd h1
theorem side_fwd {u v : St} {x : Vl} (h : side t u = .ok (x, v)) : Fwd 1 u v := by
 unfold side at h
 split at h
 ·injection h with h; injection h with _ h; subst h; exact Fwd.go u
 ·split at h
  ·obtain ⟨a, u1, h1, h⟩ := th_ok h
   injection h with h; injection h with _ h; subst h
   exact term_fwd h1
  ·obtain ⟨a, u1, h1, h⟩ := th_ok h
   injection h with h; injection h with _ h; subst h
   exact path_fwd h1
theorem sum_fwd {u v : St} {x : Vl} (h : sum t u = .ok (x, v)) : Fwd 1 u v := by
 obtain ⟨a, u1, h1, h⟩ := th_ok h
 obtain ⟨b, u2, h2, h⟩ := th_ok h
 injection h with h; injection h with _ h; subst h
 exact (((term_fwd h1).tr (Fwd.go u1)).tr (term_fwd h2)).le (by omega)
theorem value_fwd {u v : St} {x : Vl} (h : value t u = .ok (x, v)) : Fwd 1 u v := by
 unfold value at h
 split at h
 ·obtain ⟨a, u1, h1, h⟩ := th_ok h
  injection h with h; injection h with _ h; subst h
  exact ((Fwd.go u).tr (name_fwd h1)).le (by omega)
 ·split at h
  ·injection h with h; injection h with _ h; subst h; exact Fwd.go u
  ·split at h
   ·exact sum_fwd h
   ·exact side_fwd h
theorem relation_fwd {u v : St} {x : Int} (h : relation t u = .ok (x, v)) : Fwd 1 u v := by
 unfold relation at h
 split at h
 ·injection h with h; injection h with _ h; subst h; exact Fwd.go u
 ·split at h
  ·injection h with h; injection h with _ h; subst h; exact Fwd.go u
  ·split at h
   ·injection h with h; injection h with _ h; subst h; exact Fwd.go u
   ·obtain ⟨a, u1, h1, h⟩ := th_ok h
    injection h with h; injection h with _ h; subst h
    exact must_fwd h1
theorem cond_fwd {u v : St} {x : Cd} (h : cond t u = .ok (x, v)) : Fwd 1 u v := by
 unfold cond at h
 split at h
 ·injection h with h; injection h with _ h; subst h; exact Fwd.go u
 ·obtain ⟨a, u1, h1, h⟩ := th_ok h
  obtain ⟨b, u2, h2, h⟩ := th_ok h
  obtain ⟨c, u3, h3, h⟩ := th_ok h
  injection h with h; injection h with _ h; subst h
  exact (((side_fwd h1).tr (relation_fwd h2)).tr (side_fwd h3)).le (by omega)
theorem held_fwd {u v : St} {x : Cd} (h : held t u = .ok (x, v)) : Fwd 1 u v := by
 obtain ⟨a, u1, h1, h⟩ := th_ok h
 obtain ⟨b, u2, h2, h⟩ := th_ok h
 obtain ⟨c, u3, h3, h⟩ := th_ok h
 injection h with h; injection h with _ h; subst h
 exact (((must_fwd h1).tr (cond_fwd h2)).tr (must_fwd h3)).le (by omega)
theorem more_fwd {α : Type} {item : St → Res α} (hi : ∀ u x v, item u = .ok (x, v) → Fwd 1 u v) : ∀ (n : Nat) (acc : List α) (u : St) {l : List α} {v : St}, more t item n acc u = .ok (l, v) → Fwd 1 u v
 | 0, acc, u, l, v, h => by cases h
 | n + 1, acc, u, l, v, h => by
  unfold more at h
  split at h
  ·obtain ⟨x, w, h1, h2⟩ := th_ok h
   exact (((Fwd.go u).tr (hi _ _ _ h1)).tr (more_fwd hi n _ w h2)).le (by omega)
  ·obtain ⟨a, u1, h1, h⟩ := th_ok h
   injection h with h; injection h with _ h; subst h
   exact must_fwd h1
theorem listed_fwd {α : Type} {item : St → Res α} (hi : ∀ u x v, item u = .ok (x, v) → Fwd 1 u v) {u v : St} {l : List α} (h : listed t item u = .ok (l, v)) : Fwd 1 u v := by
 obtain ⟨a, u1, h1, h⟩ := th_ok h
 split at h
 ·injection h with h; injection h with _ h; subst h
  exact ((must_fwd h1).tr (Fwd.go u1)).le (by omega)
 ·obtain ⟨b, u2, h2, h⟩ := th_ok h
  exact (((must_fwd h1).tr (hi _ _ _ h2)).tr (more_fwd hi _ _ _ h)).le (by omega)
theorem pointer_fwd {u v : St} {x : Dc} (h : pointer t u = .ok (x, v)) : Fwd 1 u v := by
 obtain ⟨a, u1, h1, h⟩ := th_ok h
 obtain ⟨b, u2, h2, h⟩ := th_ok h
 obtain ⟨c, u3, h3, h⟩ := th_ok h
 injection h with h; injection h with _ h; subst h
 exact (((name_fwd h1).tr (must_fwd h2)).tr (name_fwd h3)).le (by omega)
theorem variable_fwd {u v : St} {x : Dc} (h : variable_ t u = .ok (x, v)) : Fwd 1 u v := by
 unfold variable_ at h
 split at h
 ·obtain ⟨a, u1, h1, h⟩ := th_ok h
  injection h with h; injection h with _ h; subst h
  exact ((Fwd.go u).tr (name_fwd h1)).le (by omega)
 ·exact pointer_fwd h
theorem decl_fwd {u v : St} {x : Dc} (h : decl t u = .ok (x, v)) : Fwd 1 u v := by
 obtain ⟨a, u1, h1, h⟩ := th_ok h
 obtain ⟨b, u2, h2, h⟩ := th_ok h
 injection h with h; injection h with _ h; subst h
 exact ((variable_fwd h1).tr (must_fwd h2)).le (by omega)
/-- The counts within their bounds. -/
def Inv (u : St) : Prop := 0 ≤ u.o ∧ u.o ≤ 20 ∧ 0 ≤ u.b ∧ u.b ≤ 400
/-- Statements go n signs on at least, leave as many braces open, and the counts within their bounds. -/
def Stp (n : Nat) (u v : St) : Prop := u.i + n ≤ v.i ∧ v.o = u.o ∧ (Inv u → Inv v)
theorem Fwd.stp {n : Nat} {u v : St} (h : Fwd n u v) : Stp n u v := ⟨h.1, h.2.1, fun hi => ⟨by rw [h.2.1]; exact hi.1, by rw [h.2.1]; exact hi.2.1, by rw [h.2.2]; exact hi.2.2.1, by rw [h.2.2]; exact hi.2.2.2⟩⟩
theorem Fwd.inv {n : Nat} {u v : St} (h : Fwd n u v) (hi : Inv u) : Inv v := h.stp.2.2 hi
theorem Stp.tr {n m : Nat} {u v w : St} (h : Stp n u v) (k : Stp m v w) : Stp (n + m) u w := ⟨by have := h.1; have := k.1; omega, k.2.1.trans h.2.1, fun hi => k.2.2 (h.2.2 hi)⟩
theorem Stp.le {n m : Nat} {u v : St} (h : Stp n u v) (hm : m ≤ n) : Stp m u v := ⟨by have := h.1; omega, h.2⟩
theorem mustHold_ok {u v : St} {x : Unit} (h : mustHold t u = .ok (x, v)) : v = u ∧ (is t u.i ⟨#[123]⟩ = true → u.o ≠ 20) := by
 unfold mustHold at h
 split at h
 ·cases h
 ·rename_i hn
  injection h with h; injection h with _ h; subst h
  exact ⟨rfl, fun h1 h2 => hn (by rw [h1, h2]; rfl)⟩
theorem count_ok {u v : St} {x : Unit} (h : count t u = .ok (x, v)) : v = ⟨u.i, u.o, u.b + 1⟩ ∧ u.b ≠ 400 := by
 obtain ⟨a, u1, h1, h2⟩ := th_ok h
 clear h
 obtain ⟨rfl, _⟩ := mustHold_ok h1
 split at h2
 ·cases h2
 ·rename_i hn
  injection h2 with h2; injection h2 with _ h2; subst h2
  exact ⟨rfl, hn⟩
theorem must_is {s : ByteArray} {u v : St} {x : Tk} (h : must t s u = .ok (x, v)) : is t u.i s = true ∧ v = u.go := by
 unfold must at h
 split at h
 ·rename_i hn; injection h with h; injection h with _ h; subst h; exact ⟨hn, rfl⟩
 ·cases h
theorem block_stp {rec : St → Res SL} (hr : ∀ u l v, rec u = .ok (l, v) → Stp 0 u v) {u v : St} {l : SL} (h : block t rec u = .ok (l, v)) : Stp 1 u v := by
 obtain ⟨a, u1, h1, h⟩ := th_ok h
 obtain ⟨b, u2, h2, h⟩ := th_ok h
 obtain ⟨c, u3, h3, h⟩ := th_ok h
 obtain ⟨d, u4, h4, h⟩ := th_ok h
 injection h with h; injection h with _ h; subst h
 obtain ⟨rfl, ho⟩ := mustHold_ok h1
 obtain ⟨hs, rfl⟩ := must_is h2
 have hS := hr _ _ _ h3
 have hF := must_fwd h4
 have ho20 := ho hs
 refine ⟨?_, ?_, fun hi => ?_⟩
 ·have := hS.1; have := hF.1; simp only [St.go] at *; omega
 ·have := hS.2.1; have := hF.2.1; simp only [St.go] at *; omega
 ·have hi2 : Inv ⟨u1.go.i, u1.go.o + 1, u1.go.b⟩ := ⟨by have := hi.1; simp only [St.go]; omega, by have := hi.2.1; simp only [St.go]; omega, hi.2.2⟩
  have hi3 := hF.inv (hS.2.2 hi2)
  have h5 := hF.2.1; have h6 := hS.2.1
  simp only [St.go] at h5 h6
  exact ⟨by have := hi.1; simp only; omega, by have := hi.2.1; simp only; omega, hi3.2.2⟩
theorem free_fwd {u v : St} {x : Hd} (h : free t u = .ok (x, v)) : Fwd 1 u v := by
 obtain ⟨a, u1, h1, h⟩ := th_ok h
 obtain ⟨b, u2, h2, h⟩ := th_ok h
 obtain ⟨c, u3, h3, h⟩ := th_ok h
 obtain ⟨d, u4, h4, h⟩ := th_ok h
 obtain ⟨e, u5, h5, h⟩ := th_ok h
 injection h with h; injection h with _ h; subst h
 exact (((((must_fwd h1).tr (must_fwd h2)).tr (path_fwd h3)).tr (must_fwd h4)).tr (must_fwd h5)).le (by omega)
theorem named_fwd {u v : St} {x : Hd} (h : named t u = .ok (x, v)) : Fwd 1 u v := by
 unfold named at h
 split at h
 ·obtain ⟨a, u1, h1, h⟩ := th_ok h
  obtain ⟨b, u2, h2, h⟩ := th_ok h
  obtain ⟨c, u3, h3, h⟩ := th_ok h
  injection h with h; injection h with _ h; subst h
  exact (((name_fwd h1).tr (listed_fwd (fun _ _ _ h => side_fwd h) h2)).tr (must_fwd h3)).le (by omega)
 ·obtain ⟨a, u1, h1, h⟩ := th_ok h
  obtain ⟨b, u2, h2, h⟩ := th_ok h
  obtain ⟨c, u3, h3, h⟩ := th_ok h
  obtain ⟨d, u4, h4, h⟩ := th_ok h
  injection h with h; injection h with _ h; subst h
  exact ((((path_fwd h1).tr (must_fwd h2)).tr (value_fwd h3)).tr (must_fwd h4)).le (by omega)
theorem branch_stp {rec : St → Res SL} (hr : ∀ u l v, rec u = .ok (l, v) → Stp 0 u v) {u v : St} {x : Hd × SL × SL} (h : branch t rec u = .ok (x, v)) : Stp 1 u v := by
 obtain ⟨a, u1, h1, h⟩ := th_ok h
 obtain ⟨b, u2, h2, h⟩ := th_ok h
 obtain ⟨c, u3, h3, h⟩ := th_ok h
 have hs := (((must_fwd h1).tr (held_fwd h2)).stp).tr (block_stp hr h3)
 split at h
 ·obtain ⟨d, u4, h4, h⟩ := th_ok h
  injection h with h; injection h with _ h; subst h
  exact ((hs.tr (Fwd.go u3).stp).tr (block_stp hr h4)).le (by omega)
 ·injection h with h; injection h with _ h; subst h
  exact hs.le (by omega)
theorem loop_stp {rec : St → Res SL} (hr : ∀ u l v, rec u = .ok (l, v) → Stp 0 u v) {u v : St} {x : Hd × SL × SL} (h : loop t rec u = .ok (x, v)) : Stp 1 u v := by
 obtain ⟨a, u1, h1, h⟩ := th_ok h
 obtain ⟨b, u2, h2, h⟩ := th_ok h
 obtain ⟨c, u3, h3, h⟩ := th_ok h
 injection h with h; injection h with _ h; subst h
 exact ((((must_fwd h1).tr (held_fwd h2)).stp).tr (block_stp hr h3)).le (by omega)
theorem count_stp {u v : St} {x : Unit} (h : count t u = .ok (x, v)) : Stp 0 u v := by
 obtain ⟨rfl, hn⟩ := count_ok h
 exact ⟨Nat.le_refl _, rfl, fun hi => ⟨hi.1, hi.2.1, by have := hi.2.2.1; simp only; omega, by have := hi.2.2.2; simp only; omega⟩⟩
theorem stmt_stp {rec : St → Res SL} (hr : ∀ u l v, rec u = .ok (l, v) → Stp 0 u v) {u v : St} {x : Hd × SL × SL} (h : stmt t rec u = .ok (x, v)) : Stp 1 u v := by
 obtain ⟨a, u1, h1, h⟩ := th_ok h
 have hc := count_stp h1
 have key : Stp 1 u1 v := by
  split at h
  ·injection h with h; injection h with _ h; subst h; exact (Fwd.go u1).stp
  ·split at h
   ·obtain ⟨b, u2, h2, h⟩ := th_ok h
    injection h with h; injection h with _ h; subst h; exact block_stp hr h2
   ·split at h
    ·obtain ⟨b, u2, h2, h⟩ := th_ok h
     injection h with h; injection h with _ h; subst h; exact (free_fwd h2).stp
    ·split at h
     ·exact branch_stp hr h
     ·split at h
      ·exact loop_stp hr h
      ·obtain ⟨b, u2, h2, h⟩ := th_ok h
       injection h with h; injection h with _ h; subst h; exact (named_fwd h2).stp
 exact (hc.tr key).le (by omega)
theorem stmts_stp : ∀ (n : Nat) (u : St) (l : SL) (v : St), stmts t n u = .ok (l, v) → Stp 0 u v
 | 0, u, l, v, h => by cases h
 | n + 1, u, l, v, h => by
  unfold stmts at h
  split at h
  ·obtain ⟨⟨hd, a, e⟩, u1, h1, h⟩ := th_ok h
   obtain ⟨r, u2, h2, h⟩ := th_ok h
   injection h with h; injection h with _ h; subst h
   exact ((stmt_stp (fun u l v h => stmts_stp n u l v h) h1).tr (stmts_stp n _ _ _ h2)).le (by omega)
  ·injection h with h; injection h with _ h; subst h
   exact (Fwd.refl u).stp
end
end Pr
end Go.Proofs.YtdlchhimkelinaaGreatDoor
namespace Go.Proofs.YtdlchhimkelinaaGreatDoor
open Go.RowKit Go.Sort
/-- A slice literal of one struct, its cells not looked at. -/
theorem wpList_one {P : Program} {ops : Array Oper} {rest : List Oper} {o : Oper} {a : Act} {w : World} {Q : Exit → Act → World → Prop} (hg : o.guard = none) (t e : TypeId) (x : Operand) (ho : o.op = .buildSlice t 1 #[(0, x)])
  (cs : Array Value) (hx : a.eval x = .agg cs) (hu : P.underlying t = some (.slice e)) (ie : TypeInfo) (z : Value) (n : Nat) (hie : P.info? e = some ie) (hz : ie.zero = some z) (hn : ie.size = n) (h0 : 0 < n) (h24 : n ≤ 16777216) (hcs : n = cs.size)
  (h : wpList P ops Q rest (a.put o.dst (.slice (some ⟨w.heap.size, 0, none⟩) 1 1)) (w.alloc (.cells cs e))) : wpList P ops Q (o :: rest) a w := by
 subst hn
 refine wpList_buildSlice hg t e 1 #[(0, x)] ho cs ie z hu hie hz (by omega) (by omega) ?_ h
 have hf := Great.fill_whole h0 [Value.agg cs] ((Array.range (1 * ie.size)).map (z.cells[· % z.cells.size]!)) (by intro v hv; rw [List.mem_singleton.1 hv]; exact hcs.symm) (by simp)
 simp only [List.zipIdx_cons, List.zipIdx_nil, List.map_cons, List.map_nil] at hf
 simp only [List.map_toArray, List.map_cons, List.map_nil, hx]
 rw [hf]
 simp [Value.cells]
theorem own_one {w : World} {B g : Nat} {e : TypeId} {cs : List Value} (hk : Bk w g e cs.toArray) (hB : B ≤ g) {n : Nat} (hn : cs.length = n) : w.ownsRow B e n (.slice (some ⟨g, 0, none⟩) 1 1) 1 cs :=
 ⟨by rw [hn, Nat.one_mul], .inr ⟨g, 1, cs.toArray, rfl, hB, hk, Nat.le_refl _, by decide, by simp [hn], by rw [Nat.one_mul, ← hn]; simp⟩⟩
theorem one_of {cs : List Value} (h : cs.toArray.all (·.oneCell') = true) : ∀ u ∈ cs, u.oneCell' = true := fun u hu => (Array.all_eq_true_iff_forall_mem.1 h) u (by simpa using hu)
/-- What a list read from parentheses, or a list of parts, is handed back as. -/
def Kd.Lst {α : Type} (K : Kd α) (B : Nat) (w : World) (v : Value) (xs : List α) : Prop := ∃ s : Sl α, v = .slice s.p s.l.length s.cap ∧ s.l.map K.er = xs ∧ K.Ly (fresh B w) s.p s.l
namespace Kd
variable {α : Type} (K : Kd α)
/-- The first item of a row of one's own. -/
theorem Gr.one {B g : Nat} {w : World} {y : α} (hk : Bk w g K.T (K.cells y).toArray) (hB : B ≤ g) (hR : K.R (rest B (some g) w) y) : K.Gr B [K.er y] (.slice (some ⟨g, 0, none⟩) 1 1) w :=
 ⟨[y], rfl, by rw [List.flatMap_singleton]; exact own_one hk hB (K.len y), by intro z hz; rw [List.mem_singleton.1 hz]; exact hR⟩
/-- What is known of a kind of items' type. -/
structure Inf (P : Program) (t : TypeId) (i : TypeInfo) (z : Value) : Prop where
 und : P.underlying t = some (.slice K.T)
 info : P.info? K.T = some i
 zero : i.zero = some z
 size : i.size = K.size
 bytes : i.bytes = K.bytes
 cells : z.cells.size = K.size
 pos : 0 < K.size
theorem wp_push {P : Program} {o : Oper} {a : Act} {w : World} {R : Act → World → Prop} {Q : Exit → Act → World → Prop} (t : TypeId) (i : TypeInfo) (z : Value) (hI : K.Inf P t i z) (s x : Operand)
  (ho : o.op = .call { callee := .builtin .append, args := #[s, x], argTypes := #[t, t] })
  (B : Nat) (xs : List α) (v : Value) (hs : a.eval s = v) (hG : K.Gr B xs v w) (hB : B ≤ w.heap.size) (y : α) (hx : a.eval x = .slice (some ⟨w.heap.size, 0, none⟩) 1 1)
  (hR : K.R (rest B v.ownBlock w) y) (h63 : xs.length + 1 ≤ maxLen) (hb : (xs.length + 1) * K.bytes ≤ 140737488355328)
  (h : ∀ v' w', K.Gr B (xs ++ [K.er y]) v' w' → (∃ g cap, v' = .slice (some ⟨g, 0, none⟩) (xs.length + 1) cap) → w.grownBy w' v.ownBlock → (∀ q, v.ownBlock = some q → B ≤ q) → R (a.put o.dst v') w') : o.wp P a (w.alloc (.cells (K.cells y).toArray K.T)) R Q := by
 obtain ⟨ys, h1, h2, h3⟩ := hG
 have hm : Below w.heap.size w (w.alloc (.cells (K.cells y).toArray K.T)) := (Below.refl _ _).alloc (Nat.le_refl _) _
 refine wp_append_lies _ s x t ho B K.T i z K.size K.bytes hI.und hI.info hI.zero hI.size hI.bytes hI.cells hI.pos v xs.length _ hs (h2.alloc _) ⟨w.heap.size, 0, none⟩ 1 1 (K.cells y) hx (by rw [K.len, Nat.one_mul]) ?_ (one_of (K.one y)) (by decide) h63 hb (Nat.le_trans hB hm.size) _ rfl ?_
 ·have := World.news_of_block (heap_alloc_new w (.cells (K.cells y).toArray K.T))
  simpa using this
 ·intro g cap w' ho2 hg2 hat hlt
  have hg := below_grown hm hg2
  refine h _ w' (Kd.add K h1 (fun q hq => K.ext q (rest_below hm) (h3 q hq)) hg2 hat ho2 (K.ext y (rest_below hm) hR)) ⟨g, cap, rfl⟩ hg (fun q hq => (h2.lt q hq).1)
theorem wpList_push {P : Program} {ops : Array Oper} {rest : List Oper} {o : Oper} {a : Act} {w : World} {Q : Exit → Act → World → Prop} (hgd : o.guard = none) (t : TypeId) (i : TypeInfo) (z : Value) (hI : K.Inf P t i z) (s x : Operand)
  (ho : o.op = .call { callee := .builtin .append, args := #[s, x], argTypes := #[t, t] })
  (B : Nat) (xs : List α) (v : Value) (hs : a.eval s = v) (hG : K.Gr B xs v w) (hB : B ≤ w.heap.size) (y : α) (hx : a.eval x = .slice (some ⟨w.heap.size, 0, none⟩) 1 1)
  (hR : K.R (YtdlchhimkelinaaGreatDoor.rest B v.ownBlock w) y) (h63 : xs.length + 1 ≤ maxLen) (hb : (xs.length + 1) * K.bytes ≤ 140737488355328)
  (h : ∀ v' w', K.Gr B (xs ++ [K.er y]) v' w' → (∃ g cap, v' = .slice (some ⟨g, 0, none⟩) (xs.length + 1) cap) → w.grownBy w' v.ownBlock → (∀ q, v.ownBlock = some q → B ≤ q) → wpList P ops Q rest (a.put o.dst v') w') : wpList P ops Q (o :: rest) a (w.alloc (.cells (K.cells y).toArray K.T)) :=
 wpList_plain hgd fun _ hK => K.wp_push t i z hI s x ho B xs v hs hG hB y hx hR h63 hb fun v' w' a b c d => hK _ _ (h v' w' a b c d)
theorem step_push {P : Program} {ops : Array Oper} {o : Oper} {a : Act} {w : World} {R : Act → World → Prop} {Q : Exit → Act → World → Prop} {E : Prop} (hgd : o.guard = none) (t : TypeId) (i : TypeInfo) (z : Value) (hI : K.Inf P t i z) (s x : Operand)
  (ho : o.op = .call { callee := .builtin .append, args := #[s, x], argTypes := #[t, t] })
  (B : Nat) (xs : List α) (v : Value) (hs : a.eval s = v) (hG : K.Gr B xs v w) (hB : B ≤ w.heap.size) (y : α) (hx : a.eval x = .slice (some ⟨w.heap.size, 0, none⟩) 1 1)
  (hR : K.R (YtdlchhimkelinaaGreatDoor.rest B v.ownBlock w) y) (h63 : xs.length + 1 ≤ maxLen) (hb : (xs.length + 1) * K.bytes ≤ 140737488355328)
  (h : ∀ v' w', K.Gr B (xs ++ [K.er y]) v' w' → (∃ g cap, v' = .slice (some ⟨g, 0, none⟩) (xs.length + 1) cap) → w.grownBy w' v.ownBlock → (∀ q, v.ownBlock = some q → B ≤ q) → R (a.put o.dst v') w') :
  if Region.wanted o (yielded ops a.tmps) = true then Oper.wp P o a (w.alloc (.cells (K.cells y).toArray K.T)) R Q else E := by
 have hw : Region.wanted o (yielded ops a.tmps) = true := by simp [Region.wanted, hgd]
 rw [if_pos hw]
 exact K.wp_push t i z hI s x ho B xs v hs hG hB y hx hR h63 hb h
end Kd
theorem zinfoVl : (Tryz.prog.info? 49).map (fun i => (i.zero, i.size, i.bytes)) = some (some (.agg #[.int .i64 0, .int .i64 0, .string ByteArray.empty, .int .i64 0, .slice none 0 0, .string ByteArray.empty, .string ByteArray.empty, .int .i64 0, .int .i64 0, .string ByteArray.empty, .int .i64 0, .int .i64 0]), 12, 144) := by kernel_rfl
theorem infVl : ∃ i, kVl.Inf Tryz.prog 52 i (.agg #[.int .i64 0, .int .i64 0, .string ByteArray.empty, .int .i64 0, .slice none 0 0, .string ByteArray.empty, .string ByteArray.empty, .int .i64 0, .int .i64 0, .string ByteArray.empty, .int .i64 0, .int .i64 0]) := by
 obtain ⟨i, h1, h2, h3, h4⟩ := info_parts zinfoVl
 exact ⟨i, Tryz.underlying52, h1, h2, h3, h4, rfl, by decide⟩
theorem zinfoDc : (Tryz.prog.info? 77).map (fun i => (i.zero, i.size, i.bytes)) = some (some (.agg #[.string ByteArray.empty, .string ByteArray.empty, .int .i64 0]), 3, 40) := by kernel_rfl
theorem infDc : ∃ i, kDc.Inf Tryz.prog 23 i (.agg #[.string ByteArray.empty, .string ByteArray.empty, .int .i64 0]) := by
 obtain ⟨i, h1, h2, h3, h4⟩ := info_parts zinfoDc
 exact ⟨i, Tryz.underlying23, h1, h2, h3, h4, rfl, by decide⟩
theorem zinfoIt : (Tryz.prog.info? 54).map (fun i => (i.zero, i.size, i.bytes)) = some (some (.agg #[.int .i64 0, .int .i64 0, .string ByteArray.empty, .int .i64 0, .slice none 0 0, .int .i64 0, .int .i64 0, .string ByteArray.empty, .int .i64 0, .slice none 0 0, .string ByteArray.empty, .string ByteArray.empty, .int .i64 0, .int .i64 0, .string ByteArray.empty, .int .i64 0, .int .i64 0, .int .i64 0, .int .i64 0, .int .i64 0, .int .i64 0, .string ByteArray.empty, .int .i64 0, .slice none 0 0, .string ByteArray.empty, .string ByteArray.empty, .int .i64 0, .int .i64 0, .string ByteArray.empty, .int .i64 0, .int .i64 0, .int .i64 0, .int .i64 0, .string ByteArray.empty, .int .i64 0, .slice none 0 0, .string ByteArray.empty, .string ByteArray.empty, .int .i64 0, .int .i64 0, .string ByteArray.empty, .int .i64 0, .int .i64 0, .string ByteArray.empty, .slice none 0 0, .slice none 0 0, .slice none 0 0, .bool false]), 48, 608) := by kernel_rfl
theorem infIt : ∃ i, kIt.Inf Tryz.prog 38 i (.agg #[.int .i64 0, .int .i64 0, .string ByteArray.empty, .int .i64 0, .slice none 0 0, .int .i64 0, .int .i64 0, .string ByteArray.empty, .int .i64 0, .slice none 0 0, .string ByteArray.empty, .string ByteArray.empty, .int .i64 0, .int .i64 0, .string ByteArray.empty, .int .i64 0, .int .i64 0, .int .i64 0, .int .i64 0, .int .i64 0, .int .i64 0, .string ByteArray.empty, .int .i64 0, .slice none 0 0, .string ByteArray.empty, .string ByteArray.empty, .int .i64 0, .int .i64 0, .string ByteArray.empty, .int .i64 0, .int .i64 0, .int .i64 0, .int .i64 0, .string ByteArray.empty, .int .i64 0, .slice none 0 0, .string ByteArray.empty, .string ByteArray.empty, .int .i64 0, .int .i64 0, .string ByteArray.empty, .int .i64 0, .int .i64 0, .string ByteArray.empty, .slice none 0 0, .slice none 0 0, .slice none 0 0, .bool false]) := by
 obtain ⟨i, h1, h2, h3, h4⟩ := info_parts zinfoIt
 exact ⟨i, Tryz.underlying38, h1, h2, h3, h4, rfl, by decide⟩
theorem zinfoSr : (Tryz.prog.info? 37).map (fun i => (i.zero, i.size, i.bytes)) = some (some (.agg #[.string ByteArray.empty, .int .i64 0, .slice none 0 0]), 3, 48) := by kernel_rfl
theorem infSr : ∃ i, kSr.Inf Tryz.prog 22 i (.agg #[.string ByteArray.empty, .int .i64 0, .slice none 0 0]) := by
 obtain ⟨i, h1, h2, h3, h4⟩ := info_parts zinfoSr
 exact ⟨i, Tryz.underlying22, h1, h2, h3, h4, rfl, by decide⟩
theorem zinfoPc : (Tryz.prog.info? 40).map (fun i => (i.zero, i.size, i.bytes)) = some (some (.agg #[.string ByteArray.empty, .int .i64 0, .int .i64 0, .slice none 0 0, .slice none 0 0, .slice none 0 0]), 6, 104) := by kernel_rfl
theorem infPc : ∃ i, kPc.Inf Tryz.prog 24 i (.agg #[.string ByteArray.empty, .int .i64 0, .int .i64 0, .slice none 0 0, .slice none 0 0, .slice none 0 0]) := by
 obtain ⟨i, h1, h2, h3, h4⟩ := info_parts zinfoPc
 exact ⟨i, Tryz.underlying24, h1, h2, h3, h4, rfl, by decide⟩
end Go.Proofs.YtdlchhimkelinaaGreatDoor
namespace Go.Proofs.YtdlchhimkelinaaGreatDoor
open Go.RowKit Go.Sort
theorem fresh_new {B X : Nat} {w w' : World} (h : Below w.heap.size w w') (hX : w.heap.size ≤ X) : Ext (fresh B w) (rest B (some X) w') := Ext.of_mask fun b hb hlt => by
 simp only [Bool.or_eq_false_iff, decide_eq_false_iff_not] at hb ⊢
 exact ⟨⟨hb, by intro e; injection e with e; omega⟩, h.block b hlt⟩
theorem Kd.Gr.lt {α : Type} {K : Kd α} {B : Nat} {xs : List α} {v : Value} {w : World} (h : K.Gr B xs v w) : ∀ g, v.ownBlock = some g → B ≤ g ∧ g < w.heap.size := by
 obtain ⟨ys, h1, h2, h3⟩ := h
 exact fun g hg => h2.lt g hg
attribute [local go_sem] field79_0 field79_1 field79_2 field79_3
section
variable {pb sb cap : Nat} {l : List Tx.Sg}
theorem args_any (w : World) (u : Pr.St) (h : PS w pb sb cap l u.i u.o u.b) (hg : Good l) :
  Calls Tryz.prog 181 #[.pointer (some ⟨pb, 0, none⟩), .func (.func 182) #[] #[]] w (Outc (kVl.Lst w.heap.size) w pb sb cap l (Pr.listed (l.map Pr.tk) (Pr.side (l.map Pr.tk)) u)) := by
 obtain ⟨r, hr⟩ : ∃ r, r = Pr.listed (l.map Pr.tk) (Pr.side (l.map Pr.tk)) u := ⟨_, rfl⟩
 rw [← hr]
 have HR := hdn hr
 have HL := hdn hg
 have HP := hdn h
 have HLT : Hid (pb < w.heap.size ∧ sb < w.heap.size) := hdn ⟨h.pb_lt, h.sb_lt⟩
 have HLL : Hid ((l.map Pr.tk).length = l.length ∧ l.length ≤ 6000000) := hdn ⟨List.length_map _, hg.len⟩
 obtain ⟨i0, hI⟩ := infVl
 have HI := hdn hI
 clear h hg hr hI
 go_enter Tryz.func181, Tryz.ntmps181
 go_wp2_with fail
 refine (must_any ⟨#[40]⟩ (by decide) w u HP.out HL.out).mono ?_; intro en w1 ho
 rcases hm1 : Pr.must (l.map Pr.tk) ⟨#[40]⟩ u with n | ⟨a1, u1⟩
 ·obtain ⟨p, rfl, g1⟩ := ho.of_err hm1
  exact ⟨rfl, Outc.err (by rw [HR.out]; simp only [Pr.listed, Pr.th, hm1]) g1⟩
 obtain ⟨v, rfl, ⟨x1, rfl, hx1⟩, h1, g1⟩ := ho.of_ok hm1
 have HM1 := hdn hm1; have HP1 := hdn h1; have HG1 := hdn g1
 clear h1 g1 ho hx1 hm1 HP
 go_wp2_with fail
 refine (may_any ⟨#[41]⟩ (by decide) w1 u1 HP1.out HL.out).mono ?_; rintro en w2 ⟨q, hq, rfl, h2, g2⟩
 have HP2 := hdn h2; have HG2 := hdn (grownBy_tr HG1.out g2); have HQ := hdn hq
 clear h2 g2 hq HP1 HG1
 cases q with
 | true =>
  go_wp2_with fail
  exact bodyPost_ret (results_tmp rfl _ _ _) rfl (Outc.ok (u := u1.go) (a := []) (by rw [HR.out]; simp only [Pr.listed, Pr.th, HM1.out, HQ.out, if_true]) HG2.out ⟨⟨none, 0, []⟩, rfl, rfl, (show 0 * _ ≤ 140737488351232 by simp), .inl rfl⟩ HP2.out)
 | false =>
 go_wp2_with fail
 refine (side_any w2 u1 HP2.out HL.out).mono ?_; intro en w3 ho
 rcases hm3 : Pr.side (l.map Pr.tk) u1 with n | ⟨a3, u3⟩
 ·obtain ⟨p, rfl, g3⟩ := ho.of_err hm3
  exact ⟨rfl, Outc.err (by rw [HR.out]; simp only [Pr.listed, Pr.th, HM1.out, HQ.out, Bool.false_eq_true, if_false, hm3]) (grownBy_tr HG2.out g3)⟩
 have HF3 := hdn (Pr.side_fwd hm3)
 have HU1 : Hid (u.i + 1 ≤ u1.i) := hdn (Pr.must_fwd HM1.out).1
 obtain ⟨v, rfl, ⟨y, rfl, hz, hlie⟩, h3, g3⟩ := ho.of_ok hm3
 have HLI : Hid (kVl.R (fresh w2.heap.size w3) y) := hdn hlie
 have HZ : Hid (kVl.er y = a3) := hdn hz
 have HM3 := hdn hm3; have HP3 := hdn h3; have HG3 := hdn (grownBy_tr HG2.out g3)
 have HW23 : Hid (w2.heap.size ≤ w3.heap.size) := hdn g3.size
 have HPB2 : Hid (pb < w2.heap.size) := hdn HP2.out.pb_lt
 have HWW : Hid (w.heap.size ≤ w2.heap.size) := hdn HG2.out.size
 clear h3 g3 ho hz hm3 HP2 HG2 hlie
 go_wp2_with (first | ((with_reducible show wpList _ _ _ (Oper.mk (some 13) _ _ _ _ _ :: _) _ _); refine wpList_one rfl 52 49 (.tmp 12) rfl (kVl.cells y).toArray rfl HI.out.und i0 _ kVl.size HI.out.info HI.out.zero HI.out.size HI.out.pos (by decide) rfl ?_))
 have hm : Below w3.heap.size w3 (w3.alloc (.cells (kVl.cells y).toArray 49)) := (Below.refl _ _).alloc (Nat.le_refl _) _
 have HP4 := hdn (HP3.out.below hm); have HG4 := hdn (grownBy_below HG3.out hm)
 have HGr : Hid (kVl.Gr w.heap.size [a3] (.slice (some ⟨w3.heap.size, 0, none⟩) 1 1) (w3.alloc (.cells (kVl.cells y).toArray 49))) := hdn (by rw [← HZ.out]; exact Kd.Gr.one kVl (heap_alloc_new _ _) (Nat.le_trans HWW.out HW23.out) (kVl.ext y ((fresh_mono HWW.out _).trans (fresh_new hm (Nat.le_refl _))) HLI.out))
 clear hm HP3 HG3 HLI HW23 HPB2 HWW
 generalize w3.alloc (.cells (kVl.cells y).toArray 49) = w4 at HP4 HG4 HGr ⊢
 go_loopg [5] ((l.map Pr.tk).length + 1) (fun g v wr => ∃ (acc : List Vl) (un : Pr.St), l.length < un.i + g ∧ acc.length ≤ un.i ∧ Hid (Pr.more (l.map Pr.tk) (Pr.side (l.map Pr.tk)) g acc un = Pr.more (l.map Pr.tk) (Pr.side (l.map Pr.tk)) ((l.map Pr.tk).length + 1) [a3] u3) ∧ Hid (kVl.Gr w.heap.size acc v wr) ∧ Hid (PS wr pb sb cap l un.i un.o un.b) ∧ Hid (w.grownBy wr (some pb)))
 case atStart => exact ⟨[a3], u3, by rw [HLL.out.1]; omega, by have := HF3.out.1; simp only [List.length_singleton]; omega, hdn rfl, HGr, HP4, HG4⟩
 case round =>
  obtain ⟨acc, un, hlt, hacc, HH, HGr, HPr, HGw⟩ := hrel
  have HUL : Hid (un.i < l.length) := hdn HPr.out.lt
  obtain ⟨gj, hgj⟩ : ∃ k, gk = k + 1 := ⟨gk - 1, by have := HUL.out; omega⟩
  have HGJ := hdn hgj
  clear hgj
  go_wp2_with fail
  refine (may_any ⟨#[44]⟩ (by decide) wr un HPr.out HL.out).mono ?_; rintro en w5 ⟨q, hq, rfl, h5, g5⟩
  have HP5 := hdn h5; have HG5 := hdn (grownBy_tr HGw.out g5); have HGr5 := hdn (HGr.out.par g5 HLT.out.1); have HQ5 := hdn hq
  clear h5 g5 hq
  cases q with
  | false =>
   go_wp2_with fail
   refine (must_any ⟨#[41]⟩ (by decide) w5 un HP5.out HL.out).mono ?_; intro en w6 ho
   have hmore : Pr.more (l.map Pr.tk) (Pr.side (l.map Pr.tk)) gk acc un = Pr.th (Pr.must (l.map Pr.tk) ⟨#[41]⟩ un) fun _ u => .ok (acc, u) := by rw [HGJ.out]; simp only [Pr.more, HQ5.out, Bool.false_eq_true, if_false]
   have hres : r = Pr.th (Pr.must (l.map Pr.tk) ⟨#[41]⟩ un) fun _ u => .ok (acc, u) := by rw [HR.out]; simp only [Pr.listed, Pr.th, HM1.out, HQ.out, Bool.false_eq_true, if_false, HM3.out]; rw [← HH.out, hmore]; rfl
   rcases hm6 : Pr.must (l.map Pr.tk) ⟨#[41]⟩ un with n | ⟨a6, u6⟩
   ·obtain ⟨p, rfl, g6⟩ := ho.of_err hm6
    exact ⟨rfl, Outc.err (by rw [hres, hm6]; rfl) (grownBy_tr HG5.out g6)⟩
   obtain ⟨v, rfl, ⟨x6, rfl, hx6⟩, h6, g6⟩ := ho.of_ok hm6
   have HRS : Hid (r = .ok (acc, u6)) := hdn (by rw [hres, hm6]; rfl)
   have HP6 := hdn h6; have HG6 := hdn (grownBy_tr HG5.out g6); have HGr6 := hdn (HGr5.out.par g6 HLT.out.1)
   clear h6 g6 ho hx6 hm6 hres hmore
   go_wp2_with fail
   obtain ⟨sl, hv, hsl, hly⟩ := Kd.fin kVl (by have := HLL.out.2; have := HUL.out; show acc.length * 144 ≤ _; omega) HGr6.out
   exact bodyPost_ret (v := u5) (results_tmp (t := 4) rfl _ _ _) rfl (Outc.ok (u := u6) (a := acc) HRS.out HG6.out ⟨sl, hv, hsl, hly⟩ HP6.out)
  | true =>
   go_wp2_with fail
   refine (side_any w5 un.go HP5.out HL.out).mono ?_; intro en w6 ho
   have hmore : Pr.more (l.map Pr.tk) (Pr.side (l.map Pr.tk)) gk acc un = Pr.th (Pr.side (l.map Pr.tk) un.go) fun x u => Pr.more (l.map Pr.tk) (Pr.side (l.map Pr.tk)) gj (acc ++ [x]) u := by rw [HGJ.out]; simp only [Pr.more, HQ5.out, if_true]
   rcases hm6 : Pr.side (l.map Pr.tk) un.go with n | ⟨a6, u6⟩
   ·obtain ⟨p, rfl, g6⟩ := ho.of_err hm6
    exact ⟨rfl, Outc.err (by rw [HR.out]; simp only [Pr.listed, Pr.th, HM1.out, HQ.out, Bool.false_eq_true, if_false, HM3.out]; rw [← HH.out, hmore, hm6]; rfl) (grownBy_tr HG5.out g6)⟩
   have HF6 := hdn (Pr.side_fwd hm6)
   have HMO : Hid (Pr.more (l.map Pr.tk) (Pr.side (l.map Pr.tk)) gk acc un = Pr.more (l.map Pr.tk) (Pr.side (l.map Pr.tk)) gj (acc ++ [a6]) u6) := hdn (by rw [hmore, hm6]; rfl)
   obtain ⟨v, rfl, ⟨z, rfl, hz, hlie⟩, h6, g6⟩ := ho.of_ok hm6
   have HLZ : Hid (kVl.R (rest w.heap.size u5.ownBlock w6) z) := hdn (kVl.ext z (fresh_rest HG5.out.size (fun g hg => (HGr5.out.lt g hg).2)) hlie)
   have HZ6 : Hid (kVl.er z = a6) := hdn hz
   have HP6 := hdn h6; have HG6 := hdn (grownBy_tr HG5.out g6); have HGr6 := hdn (HGr5.out.par g6 HLT.out.1)
   have HB1 : Hid (acc.length + 1 ≤ maxLen ∧ (acc.length + 1) * 144 ≤ 140737488355328) := hdn ⟨by have := HLL.out.2; have := HUL.out; unfold maxLen; omega, by have := HLL.out.2; have := HUL.out; omega⟩
   clear h6 g6 ho hz hm6 hmore HP5 HG5 HGr5 hlie
   go_wp2_with (first | ((with_reducible show wpList _ _ _ (Oper.mk (some 20) _ _ _ _ _ :: _) _ _); refine wpList_one rfl 52 49 (.tmp 19) rfl (kVl.cells z).toArray rfl HI.out.und i0 _ kVl.size HI.out.info HI.out.zero HI.out.size HI.out.pos (by decide) rfl ?_) | ((with_reducible show wpList _ _ _ (Oper.mk (some 21) _ _ _ _ _ :: _) _ _); refine Kd.wpList_push kVl rfl 52 i0 _ HI.out (.tmp 16) (.tmp 20) rfl w.heap.size acc u5 rfl HGr6.out HG6.out.size z rfl HLZ.out HB1.out.1 HB1.out.2 ?_; rintro v' w7 hG7 ⟨gg, cc, rfl⟩ hgr7 hown7; have HGr7 := hdn hG7; have HP7 := hdn (HP6.out.grown hgr7 (fun q hq => by have := hown7 q hq; have := HLT.out; omega)); have HG7 := hdn (grownBy_up HG6.out hgr7 hown7); clear hG7 hgr7 hown7))
   go_roundg gj
   case measure => have := HGJ.out; omega
   case rel => exact ⟨acc ++ [a6], u6, by have := HF6.out.1; have := HGJ.out; simp only [Pr.St.go] at *; omega, by have := HF6.out.1; simp only [Pr.St.go, List.length_append, List.length_singleton] at *; omega, hdn (by rw [← HMO.out, HH.out]), by rw [← HZ6.out]; exact HGr7, HP7, HG7⟩
theorem params_any (w : World) (u : Pr.St) (h : PS w pb sb cap l u.i u.o u.b) (hg : Good l) :
  Calls Tryz.prog 102 #[.pointer (some ⟨pb, 0, none⟩), .func (.func 103) #[] #[]] w (Outc (kDc.Lst w.heap.size) w pb sb cap l (Pr.listed (l.map Pr.tk) (Pr.variable_ (l.map Pr.tk)) u)) := by
 obtain ⟨r, hr⟩ : ∃ r, r = Pr.listed (l.map Pr.tk) (Pr.variable_ (l.map Pr.tk)) u := ⟨_, rfl⟩
 rw [← hr]
 have HR := hdn hr
 have HL := hdn hg
 have HP := hdn h
 have HLT : Hid (pb < w.heap.size ∧ sb < w.heap.size) := hdn ⟨h.pb_lt, h.sb_lt⟩
 have HLL : Hid ((l.map Pr.tk).length = l.length ∧ l.length ≤ 6000000) := hdn ⟨List.length_map _, hg.len⟩
 obtain ⟨i0, hI⟩ := infDc
 have HI := hdn hI
 clear h hg hr hI
 go_enter Tryz.func102, Tryz.ntmps102
 go_wp2_with fail
 refine (must_any ⟨#[40]⟩ (by decide) w u HP.out HL.out).mono ?_; intro en w1 ho
 rcases hm1 : Pr.must (l.map Pr.tk) ⟨#[40]⟩ u with n | ⟨a1, u1⟩
 ·obtain ⟨p, rfl, g1⟩ := ho.of_err hm1
  exact ⟨rfl, Outc.err (by rw [HR.out]; simp only [Pr.listed, Pr.th, hm1]) g1⟩
 obtain ⟨v, rfl, ⟨x1, rfl, hx1⟩, h1, g1⟩ := ho.of_ok hm1
 have HM1 := hdn hm1; have HP1 := hdn h1; have HG1 := hdn g1
 clear h1 g1 ho hx1 hm1 HP
 go_wp2_with fail
 refine (may_any ⟨#[41]⟩ (by decide) w1 u1 HP1.out HL.out).mono ?_; rintro en w2 ⟨q, hq, rfl, h2, g2⟩
 have HP2 := hdn h2; have HG2 := hdn (grownBy_tr HG1.out g2); have HQ := hdn hq
 clear h2 g2 hq HP1 HG1
 cases q with
 | true =>
  go_wp2_with fail
  exact bodyPost_ret (results_tmp rfl _ _ _) rfl (Outc.ok (u := u1.go) (a := []) (by rw [HR.out]; simp only [Pr.listed, Pr.th, HM1.out, HQ.out, if_true]) HG2.out ⟨⟨none, 0, []⟩, rfl, rfl, (show 0 * _ ≤ 140737488351232 by simp), .inl rfl⟩ HP2.out)
 | false =>
 go_wp2_with fail
 refine (variable__any w2 u1 HP2.out HL.out).mono ?_; intro en w3 ho
 rcases hm3 : Pr.variable_ (l.map Pr.tk) u1 with n | ⟨a3, u3⟩
 ·obtain ⟨p, rfl, g3⟩ := ho.of_err hm3
  exact ⟨rfl, Outc.err (by rw [HR.out]; simp only [Pr.listed, Pr.th, HM1.out, HQ.out, Bool.false_eq_true, if_false, hm3]) (grownBy_tr HG2.out g3)⟩
 have HF3 := hdn (Pr.variable_fwd hm3)
 have HU1 : Hid (u.i + 1 ≤ u1.i) := hdn (Pr.must_fwd HM1.out).1
 obtain ⟨v, rfl, ⟨y, rfl, hz⟩, h3, g3⟩ := ho.of_ok hm3
 have HLI : Hid (kDc.R (fresh w2.heap.size w3) y) := hdn trivial
 have HZ : Hid (kDc.er y = a3) := hdn hz
 have HM3 := hdn hm3; have HP3 := hdn h3; have HG3 := hdn (grownBy_tr HG2.out g3)
 have HW23 : Hid (w2.heap.size ≤ w3.heap.size) := hdn g3.size
 have HPB2 : Hid (pb < w2.heap.size) := hdn HP2.out.pb_lt
 have HWW : Hid (w.heap.size ≤ w2.heap.size) := hdn HG2.out.size
 clear h3 g3 ho hz hm3 HP2 HG2
 go_wp2_with (first | ((with_reducible show wpList _ _ _ (Oper.mk (some 13) _ _ _ _ _ :: _) _ _); refine wpList_one rfl 23 77 (.tmp 12) rfl (kDc.cells y).toArray rfl HI.out.und i0 _ kDc.size HI.out.info HI.out.zero HI.out.size HI.out.pos (by decide) rfl ?_))
 have hm : Below w3.heap.size w3 (w3.alloc (.cells (kDc.cells y).toArray 77)) := (Below.refl _ _).alloc (Nat.le_refl _) _
 have HP4 := hdn (HP3.out.below hm); have HG4 := hdn (grownBy_below HG3.out hm)
 have HGr : Hid (kDc.Gr w.heap.size [a3] (.slice (some ⟨w3.heap.size, 0, none⟩) 1 1) (w3.alloc (.cells (kDc.cells y).toArray 77))) := hdn (by rw [← HZ.out]; exact Kd.Gr.one kDc (heap_alloc_new _ _) (Nat.le_trans HWW.out HW23.out) (kDc.ext y ((fresh_mono HWW.out _).trans (fresh_new hm (Nat.le_refl _))) HLI.out))
 clear hm HP3 HG3 HLI HW23 HPB2 HWW
 generalize w3.alloc (.cells (kDc.cells y).toArray 77) = w4 at HP4 HG4 HGr ⊢
 go_loopg [5] ((l.map Pr.tk).length + 1) (fun g v wr => ∃ (acc : List Dc) (un : Pr.St), l.length < un.i + g ∧ acc.length ≤ un.i ∧ Hid (Pr.more (l.map Pr.tk) (Pr.variable_ (l.map Pr.tk)) g acc un = Pr.more (l.map Pr.tk) (Pr.variable_ (l.map Pr.tk)) ((l.map Pr.tk).length + 1) [a3] u3) ∧ Hid (kDc.Gr w.heap.size acc v wr) ∧ Hid (PS wr pb sb cap l un.i un.o un.b) ∧ Hid (w.grownBy wr (some pb)))
 case atStart => exact ⟨[a3], u3, by rw [HLL.out.1]; omega, by have := HF3.out.1; simp only [List.length_singleton]; omega, hdn rfl, HGr, HP4, HG4⟩
 case round =>
  obtain ⟨acc, un, hlt, hacc, HH, HGr, HPr, HGw⟩ := hrel
  have HUL : Hid (un.i < l.length) := hdn HPr.out.lt
  obtain ⟨gj, hgj⟩ : ∃ k, gk = k + 1 := ⟨gk - 1, by have := HUL.out; omega⟩
  have HGJ := hdn hgj
  clear hgj
  go_wp2_with fail
  refine (may_any ⟨#[44]⟩ (by decide) wr un HPr.out HL.out).mono ?_; rintro en w5 ⟨q, hq, rfl, h5, g5⟩
  have HP5 := hdn h5; have HG5 := hdn (grownBy_tr HGw.out g5); have HGr5 := hdn (HGr.out.par g5 HLT.out.1); have HQ5 := hdn hq
  clear h5 g5 hq
  cases q with
  | false =>
   go_wp2_with fail
   refine (must_any ⟨#[41]⟩ (by decide) w5 un HP5.out HL.out).mono ?_; intro en w6 ho
   have hmore : Pr.more (l.map Pr.tk) (Pr.variable_ (l.map Pr.tk)) gk acc un = Pr.th (Pr.must (l.map Pr.tk) ⟨#[41]⟩ un) fun _ u => .ok (acc, u) := by rw [HGJ.out]; simp only [Pr.more, HQ5.out, Bool.false_eq_true, if_false]
   have hres : r = Pr.th (Pr.must (l.map Pr.tk) ⟨#[41]⟩ un) fun _ u => .ok (acc, u) := by rw [HR.out]; simp only [Pr.listed, Pr.th, HM1.out, HQ.out, Bool.false_eq_true, if_false, HM3.out]; rw [← HH.out, hmore]; rfl
   rcases hm6 : Pr.must (l.map Pr.tk) ⟨#[41]⟩ un with n | ⟨a6, u6⟩
   ·obtain ⟨p, rfl, g6⟩ := ho.of_err hm6
    exact ⟨rfl, Outc.err (by rw [hres, hm6]; rfl) (grownBy_tr HG5.out g6)⟩
   obtain ⟨v, rfl, ⟨x6, rfl, hx6⟩, h6, g6⟩ := ho.of_ok hm6
   have HRS : Hid (r = .ok (acc, u6)) := hdn (by rw [hres, hm6]; rfl)
   have HP6 := hdn h6; have HG6 := hdn (grownBy_tr HG5.out g6); have HGr6 := hdn (HGr5.out.par g6 HLT.out.1)
   clear h6 g6 ho hx6 hm6 hres hmore
   go_wp2_with fail
   obtain ⟨sl, hv, hsl, hly⟩ := Kd.fin kDc (by have := HLL.out.2; have := HUL.out; show acc.length * 40 ≤ _; omega) HGr6.out
   exact bodyPost_ret (v := u5) (results_tmp (t := 4) rfl _ _ _) rfl (Outc.ok (u := u6) (a := acc) HRS.out HG6.out ⟨sl, hv, hsl, hly⟩ HP6.out)
  | true =>
   go_wp2_with fail
   refine (variable__any w5 un.go HP5.out HL.out).mono ?_; intro en w6 ho
   have hmore : Pr.more (l.map Pr.tk) (Pr.variable_ (l.map Pr.tk)) gk acc un = Pr.th (Pr.variable_ (l.map Pr.tk) un.go) fun x u => Pr.more (l.map Pr.tk) (Pr.variable_ (l.map Pr.tk)) gj (acc ++ [x]) u := by rw [HGJ.out]; simp only [Pr.more, HQ5.out, if_true]
   rcases hm6 : Pr.variable_ (l.map Pr.tk) un.go with n | ⟨a6, u6⟩
   ·obtain ⟨p, rfl, g6⟩ := ho.of_err hm6
    exact ⟨rfl, Outc.err (by rw [HR.out]; simp only [Pr.listed, Pr.th, HM1.out, HQ.out, Bool.false_eq_true, if_false, HM3.out]; rw [← HH.out, hmore, hm6]; rfl) (grownBy_tr HG5.out g6)⟩
   have HF6 := hdn (Pr.variable_fwd hm6)
   have HMO : Hid (Pr.more (l.map Pr.tk) (Pr.variable_ (l.map Pr.tk)) gk acc un = Pr.more (l.map Pr.tk) (Pr.variable_ (l.map Pr.tk)) gj (acc ++ [a6]) u6) := hdn (by rw [hmore, hm6]; rfl)
   obtain ⟨v, rfl, ⟨z, rfl, hz⟩, h6, g6⟩ := ho.of_ok hm6
   have HLZ : Hid (kDc.R (rest w.heap.size u5.ownBlock w6) z) := hdn (kDc.ext z (fresh_rest HG5.out.size (fun g hg => (HGr5.out.lt g hg).2)) trivial)
   have HZ6 : Hid (kDc.er z = a6) := hdn hz
   have HP6 := hdn h6; have HG6 := hdn (grownBy_tr HG5.out g6); have HGr6 := hdn (HGr5.out.par g6 HLT.out.1)
   have HB1 : Hid (acc.length + 1 ≤ maxLen ∧ (acc.length + 1) * 40 ≤ 140737488355328) := hdn ⟨by have := HLL.out.2; have := HUL.out; unfold maxLen; omega, by have := HLL.out.2; have := HUL.out; omega⟩
   clear h6 g6 ho hz hm6 hmore HP5 HG5 HGr5
   go_wp2_with (first | ((with_reducible show wpList _ _ _ (Oper.mk (some 20) _ _ _ _ _ :: _) _ _); refine wpList_one rfl 23 77 (.tmp 19) rfl (kDc.cells z).toArray rfl HI.out.und i0 _ kDc.size HI.out.info HI.out.zero HI.out.size HI.out.pos (by decide) rfl ?_) | ((with_reducible show wpList _ _ _ (Oper.mk (some 21) _ _ _ _ _ :: _) _ _); refine Kd.wpList_push kDc rfl 23 i0 _ HI.out (.tmp 16) (.tmp 20) rfl w.heap.size acc u5 rfl HGr6.out HG6.out.size z rfl HLZ.out HB1.out.1 HB1.out.2 ?_; rintro v' w7 hG7 ⟨gg, cc, rfl⟩ hgr7 hown7; have HGr7 := hdn hG7; have HP7 := hdn (HP6.out.grown hgr7 (fun q hq => by have := hown7 q hq; have := HLT.out; omega)); have HG7 := hdn (grownBy_up HG6.out hgr7 hown7); clear hG7 hgr7 hown7))
   go_roundg gj
   case measure => have := HGJ.out; omega
   case rel => exact ⟨acc ++ [a6], u6, by have := HF6.out.1; have := HGJ.out; simp only [Pr.St.go] at *; omega, by have := HF6.out.1; simp only [Pr.St.go, List.length_append, List.length_singleton] at *; omega, hdn (by rw [← HMO.out, HH.out]), by rw [← HZ6.out]; exact HGr7, HP7, HG7⟩
end
end Go.Proofs.YtdlchhimkelinaaGreatDoor
namespace Go.Proofs.YtdlchhimkelinaaGreatDoor
open Go.RowKit Go.Sort
/-- Of the blocks that were there only two have turned. -/
structure Gr2 (w w' : World) (a b : Nat) : Prop where
 os : w'.os = w.os
 tape : w'.tape = w.tape
 output : w'.output = w.output
 size : w.heap.size ≤ w'.heap.size
 block : ∀ i, i < w.heap.size → i ≠ a → i ≠ b → w'.heap[i]? = w.heap[i]?
theorem Gr2.refl (w : World) (a b : Nat) : Gr2 w w a b := ⟨rfl, rfl, rfl, Nat.le_refl _, fun _ _ _ _ => rfl⟩
theorem Gr2.one {w w1 w2 : World} {a b : Nat} (h : Gr2 w w1 a b) (k : w1.grownBy w2 (some a)) : Gr2 w w2 a b :=
 ⟨k.os.trans h.os, k.tape.trans h.tape, k.output.trans h.output, Nat.le_trans h.size k.size, fun i hi h1 h2 => (k.block i (Nat.lt_of_lt_of_le hi h.size) (by intro e; injection e with e; exact h1 e)).trans (h.block i hi h1 h2)⟩
theorem Gr2.two {w w1 w2 : World} {a b : Nat} (h : Gr2 w w1 a b) (k : w1.grownBy w2 (some b)) : Gr2 w w2 a b :=
 ⟨k.os.trans h.os, k.tape.trans h.tape, k.output.trans h.output, Nat.le_trans h.size k.size, fun i hi h1 h2 => (k.block i (Nat.lt_of_lt_of_le hi h.size) (by intro e; injection e with e; exact h2 e)).trans (h.block i hi h1 h2)⟩
theorem Gr2.own {w0 w w' : World} {a b : Nat} (h : w0.grownBy w (some a)) (k : Gr2 w w' a b) (hb : w0.heap.size ≤ b) : w0.grownBy w' (some a) :=
 ⟨k.os.trans h.os, k.tape.trans h.tape, k.output.trans h.output, Nat.le_trans h.size k.size, fun i hi hne => (k.block i (Nat.lt_of_lt_of_le hi h.size) (by intro e; exact hne (by rw [e])) (by omega)).trans (h.block i hi hne)⟩
theorem Gr2.bk {w w' : World} {a b g : Nat} {t : TypeId} {cs : Array Value} (h : Gr2 w w' a b) (k : Bk w g t cs) (h1 : g ≠ a) (h2 : g ≠ b) : Bk w' g t cs := (h.block g k.lt h1 h2).trans k
theorem putC_eq : ∀ (vs l : List Value) (o : Nat), o + vs.length ≤ l.length → putC l o vs = l.take o ++ vs ++ l.drop (o + vs.length)
 | [], l, o, _ => by simp [putC]
 | v :: r, l, o, h => by
  simp only [List.length_cons] at h
  have ho : o < l.length := by omega
  have hA : (l.take o).length = o := by rw [List.length_take]; omega
  have hs : l.set o v = l.take o ++ v :: l.drop (o + 1) := by rw [List.set_eq_take_append_cons_drop, if_pos ho]
  have e1 : (l.set o v).take (o + 1) = l.take o ++ [v] := by
   rw [hs, List.take_append, hA, List.take_of_length_le (by omega), show o + 1 - o = 1 by omega]; rfl
  have e2 : (l.set o v).drop (o + 1 + r.length) = l.drop (o + (r.length + 1)) := by
   rw [hs, List.drop_append, hA, List.drop_of_length_le (by omega), List.nil_append, show o + 1 + r.length - o = r.length + 1 by omega, List.drop_succ_cons, List.drop_drop, show o + 1 + r.length = o + (r.length + 1) by omega]
  rw [putC, putC_eq r (l.set o v) (o + 1) (by rw [List.length_set]; omega), e1, e2]
  simp only [List.length_cons, List.append_assoc, List.singleton_append]
theorem put_place (x : It) (p : Pth) : putC x.cells 2 p.cells = It.cells { x with h := { x.h with place := p } } := (putC_eq _ _ _ (show 5 ≤ 48 by decide)).trans rfl
theorem put_value (x : It) (p : Vl) : putC x.cells 5 p.cells = It.cells { x with h := { x.h with value := p } } := (putC_eq _ _ _ (show 17 ≤ 48 by decide)).trans rfl
theorem put_cond (x : It) (p : Cd) : putC x.cells 17 p.cells = It.cells { x with h := { x.h with cond := p } } := (putC_eq _ _ _ (show 43 ≤ 48 by decide)).trans rfl
/-- A statement in block S; what it leads to is new. -/
def Stc (w0 w : World) (S : Nat) (x : It) : Prop := Bk w S 54 x.cells.toArray ∧ itLies (fresh w0.heap.size w) x
/-- The statement as it begins. -/
def it0 (p : Int) : It := ⟨{ Pr.noHd with pos := p }, none, 0, .nil, none, 0, .nil⟩
section
variable {w0 w w' : World} {S pb : Nat} {x : It}
theorem Stc.par (h : Stc w0 w S x) (g : w.grownBy w' (some pb)) (h1 : S ≠ pb) (h2 : pb < w0.heap.size) : Stc w0 w' S x :=
 ⟨h.1.kept g h1, itLies_ext (fresh_par g h2) h.2⟩
theorem Stc.kind (h : Stc w0 w S x) (hS : S < w0.heap.size) (k : Int) : Stc w0 (w.setCell ⟨S, 0, none⟩ (.int .i64 k)) S { x with h := { x.h with kind := k } } :=
 ⟨h.1.set_ 0 _, itLies_ext (fresh_par (grownBy_setC w ⟨S, 0, none⟩ _) hS) h.2⟩
theorem Stc.name (h : Stc w0 w S x) (hS : S < w0.heap.size) (s : ByteArray) (hs : s.size ≤ maxLen) : Stc w0 (w.setCell ⟨S, 43, none⟩ (.string s)) S { x with h := { x.h with name := s } } :=
 ⟨h.1.set_ 43 _, by
  have h2 := itLies_ext (fresh_par (grownBy_setC w ⟨S, 43, none⟩ (.string s)) hS) h.2
  exact ⟨⟨h2.1.1, h2.1.2.1, h2.1.2.2.1, h2.1.2.2.2.1, h2.1.2.2.2.2.1, hs⟩, h2.2⟩⟩
theorem Stc.both (h : Stc w0 w S x) (hS : S < w0.heap.size) (b : Bool) : Stc w0 (w.setCell ⟨S, 47, none⟩ (.bool b)) S { x with h := { x.h with both := b } } :=
 ⟨h.1.set_ 47 _, itLies_ext (fresh_par (grownBy_setC w ⟨S, 47, none⟩ _) hS) h.2⟩
theorem Stc.args (h : Stc w0 w S x) (hS : S < w0.heap.size) (s : Sl Vl) (hs : argsLie (fresh w0.heap.size w) s) : Stc w0 (w.setCell ⟨S, 44, none⟩ (.slice s.p s.l.length s.cap)) S { x with h := { x.h with args := s } } :=
 ⟨h.1.set_ 44 _, by
  have he := fresh_par (B := w0.heap.size) (grownBy_setC w ⟨S, 44, none⟩ (.slice s.p s.l.length s.cap)) hS
  have h2 := itLies_ext he h.2
  exact ⟨⟨h2.1.1, h2.1.2.1, h2.1.2.2.1, h2.1.2.2.2.1, argsLie_ext he hs, h2.1.2.2.2.2.2⟩, h2.2⟩⟩
theorem Stc.then_ (h : Stc w0 w S x) (hS : S < w0.heap.size) (p : Option Addr) (c : Nat) (s : SL) (hs : sLies (fresh w0.heap.size w) p s) : Stc w0 (w.setCell ⟨S, 45, none⟩ (.slice p s.len c)) S { x with tp := p, tc := c, t := s } :=
 ⟨h.1.set_ 45 _, by
  have he := fresh_par (B := w0.heap.size) (grownBy_setC w ⟨S, 45, none⟩ (.slice p s.len c)) hS
  have h2 := itLies_ext he h.2
  exact ⟨h2.1, sLies_ext he hs, h2.2.2⟩⟩
theorem Stc.else_ (h : Stc w0 w S x) (hS : S < w0.heap.size) (p : Option Addr) (c : Nat) (s : SL) (hs : sLies (fresh w0.heap.size w) p s) : Stc w0 (w.setCell ⟨S, 46, none⟩ (.slice p s.len c)) S { x with ep := p, ec := c, e := s } :=
 ⟨h.1.set_ 46 _, by
  have he := fresh_par (B := w0.heap.size) (grownBy_setC w ⟨S, 46, none⟩ (.slice p s.len c)) hS
  have h2 := itLies_ext he h.2
  exact ⟨h2.1, h2.2.1, sLies_ext he hs⟩⟩
theorem Stc.place (h : Stc w0 w S x) (hS : S < w0.heap.size) {p : Pth} (hB : Bk w' S 54 (putC x.cells 2 p.cells).toArray) (hF : w.grownBy w' (some S)) (hs : hopsLie (fresh w0.heap.size w) p.hops) : Stc w0 w' S { x with h := { x.h with place := p } } :=
 ⟨by rw [← put_place]; exact hB, by
  have he := fresh_par (B := w0.heap.size) hF hS
  have h2 := itLies_ext he h.2
  exact ⟨⟨hopsLie_ext he hs, h2.1.2⟩, h2.2⟩⟩
theorem Stc.value (h : Stc w0 w S x) (hS : S < w0.heap.size) {p : Vl} (hB : Bk w' S 54 (putC x.cells 5 p.cells).toArray) (hF : w.grownBy w' (some S)) (hs : vlLies (fresh w0.heap.size w) p) : Stc w0 w' S { x with h := { x.h with value := p } } :=
 ⟨by rw [← put_value]; exact hB, by
  have he := fresh_par (B := w0.heap.size) hF hS
  have h2 := itLies_ext he h.2
  exact ⟨⟨h2.1.1, vlLies_ext he hs, h2.1.2.2⟩, h2.2⟩⟩
theorem Stc.cond (h : Stc w0 w S x) (hS : S < w0.heap.size) {p : Cd} (hB : Bk w' S 54 (putC x.cells 17 p.cells).toArray) (hF : w.grownBy w' (some S)) (hs : kCd.R (fresh w0.heap.size w) p) : Stc w0 w' S { x with h := { x.h with cond := p } } :=
 ⟨by rw [← put_cond]; exact hB, by
  have he := fresh_par (B := w0.heap.size) hF hS
  have h2 := itLies_ext he h.2
  exact ⟨⟨h2.1.1, h2.1.2.1, vlLies_ext he hs.1, vlLies_ext he hs.2, h2.1.2.2.2.2⟩, h2.2⟩⟩
theorem Stc.zero (p : Int) (hB : Bk w S 54 (it0 p).cells.toArray) : Stc w0 w S (it0 p) :=
 ⟨hB, ⟨⟨(show 0 * 24 ≤ 140737488351232 by decide), .inl rfl⟩, ⟨(show 0 * 24 ≤ 140737488351232 by decide), .inl rfl⟩, ⟨(show 0 * 24 ≤ 140737488351232 by decide), .inl rfl⟩, ⟨(show 0 * 24 ≤ 140737488351232 by decide), .inl rfl⟩, ⟨(show 0 * 144 ≤ 140737488351232 by decide), .inl rfl⟩, (show 0 ≤ maxLen from Nat.zero_le _)⟩, ⟨(show 0 * 608 ≤ 140737488351232 by decide), .inl rfl⟩, ⟨(show 0 * 608 ≤ 140737488351232 by decide), .inl rfl⟩⟩
end
/-- What a part that fills in a statement ends in. -/
def OutS {α : Type} (f : α → It) (w : World) (pb sb cap S : Nat) (l : List Tx.Sg) (r : Pr.Res α) (e : Ending) (w' : World) : Prop :=
 Gr2 w w' pb S ∧ match r with
 | .ok (a, u) => e = .returned (.tuple #[]) ∧ (∃ x : It, x.er = f a ∧ Stc w w' S x) ∧ PS w' pb sb cap l u.i u.o u.b
 | .error n => ∃ _ : Unit, e = faultN l n
theorem OutS.err {α : Type} {f : α → It} {w w' : World} {pb sb cap S : Nat} {l : List Tx.Sg} {r : Pr.Res α} {n : Int × Nat} (hr : r = .error n) (hg : Gr2 w w' pb S) : OutS f w pb sb cap S l r (faultN l n) w' := by
 subst hr; exact ⟨hg, (), rfl⟩
theorem OutS.ok {α : Type} {f : α → It} {w w' : World} {pb sb cap S : Nat} {l : List Tx.Sg} {r : Pr.Res α} {a : α} {u : Pr.St} {x : It} (hr : r = .ok (a, u)) (hg : Gr2 w w' pb S) (hx : x.er = f a) (hs : Stc w w' S x) (hp : PS w' pb sb cap l u.i u.o u.b) : OutS f w pb sb cap S l r (.returned (.tuple #[])) w' := by
 subst hr; exact ⟨hg, rfl, ⟨x, hx, hs⟩, hp⟩
theorem OutS.of_err {α : Type} {f : α → It} {w w' : World} {pb sb cap S : Nat} {l : List Tx.Sg} {r : Pr.Res α} {n : Int × Nat} {e : Ending} (h : OutS f w pb sb cap S l r e w') (hr : r = .error n) : ∃ _ : Unit, e = faultN l n ∧ Gr2 w w' pb S := by
 subst hr; exact ⟨h.2.choose, h.2.choose_spec, h.1⟩
theorem OutS.of_ok {α : Type} {f : α → It} {w w' : World} {pb sb cap S : Nat} {l : List Tx.Sg} {r : Pr.Res α} {a : α} {u : Pr.St} {e : Ending} (h : OutS f w pb sb cap S l r e w') (hr : r = .ok (a, u)) : e = .returned (.tuple #[]) ∧ (∃ x : It, x.er = f a ∧ Stc w w' S x) ∧ PS w' pb sb cap l u.i u.o u.b ∧ Gr2 w w' pb S := by
 subst hr; exact ⟨h.2.1, h.2.2.1, h.2.2.2, h.1⟩
/-- A statement that leads to no others; one that does. -/
def itH (h : Hd) : It := ⟨h, none, 0, .nil, none, 0, .nil⟩
def itB (x : Hd × SL × SL) : It := ⟨x.1, none, 0, x.2.1, none, 0, x.2.2⟩
/-- No sign's text is longer than a text may be. -/
def Tex (l : List Tx.Sg) : Prop := ∀ (k : Nat) (x : Tx.Sg), l[k]? = some x → x.text.size ≤ maxLen
theorem size43 : (Tryz.prog.info? 45).map (·.size) = some 3 := by kernel_rfl
end Go.Proofs.YtdlchhimkelinaaGreatDoor
namespace Go.Proofs.YtdlchhimkelinaaGreatDoor
open Go.RowKit Go.Sort
namespace Tx
theorem tok_fin (s : ByteArray) (k : Nat) (he : (tok s k).err = 0) (hn : (tok s k).sg.kind = 0) : (tok s k).sg.text = ByteArray.empty := by
 unfold tok at he hn ⊢
 split at hn
 ·rename_i h
  rw [dif_pos h] at he ⊢
  split at hn
  ·rename_i hl
   rw [if_pos hl] at he ⊢
   unfold wordA at he hn ⊢
   split at he
   ·exact absurd (show (3 : Int) = 0 from he) (by decide)
   ·rename_i h16
    rw [if_neg h16] at hn
    exfalso
    have : (if isKey (s.extract k (wend wrd s k)) = true then (3 : Int) else 1) = 0 := hn
    split at this <;> exact absurd this (by decide)
  ·rename_i hl
   rw [if_neg hl] at he ⊢
   split at hn
   ·rename_i hd
    rw [if_pos hd] at he ⊢
    unfold numA at he hn ⊢
    split at he
    ·exact absurd (show (3 : Int) = 0 from he) (by decide)
    ·rename_i h9
     rw [if_neg h9] at hn
     exact absurd (show (2 : Int) = 0 from hn) (by decide)
   ·rename_i hd
    rw [if_neg hd] at he ⊢
    unfold markA at he hn ⊢
    split at he
    ·exact absurd (show (4 : Int) = 0 from he) (by decide)
    ·rename_i hm
     rw [if_neg hm] at hn
     exact absurd (show (4 : Int) = 0 from hn) (by decide)
 ·rename_i h
  rw [dif_neg h]; rfl
theorem ext_size (s : ByteArray) (a b : Nat) : (s.extract a b).size ≤ s.size := by
 rw [ByteArray.size_extract]; omega
theorem tok_text (s : ByteArray) (k : Nat) : (tok s k).sg.text.size ≤ s.size := by
 unfold tok
 split
 ·split
  ·unfold wordA; split
   ·exact Nat.zero_le _
   ·exact ext_size _ _ _
  ·split
   ·unfold numA; split
    ·exact Nat.zero_le _
    ·exact ext_size _ _ _
   ·unfold markA; split
    ·exact Nat.zero_le _
    ·exact ext_size _ _ _
 ·exact Nat.zero_le _
theorem go_shape : ∀ (f : Nat) (s : ByteArray) (i : Nat) (acc : List Sg), i ≤ s.size → s.size < i + f → (go f s i acc).2.2 = 0 →
  ∃ m x, (go f s i acc).1 = acc ++ (m ++ [x]) ∧ x.kind = 0 ∧ x.text = ByteArray.empty ∧ (∀ y ∈ m, y.kind ≠ 0) ∧ (∀ y ∈ m, y.text.size ≤ s.size) ∧ m.length + i ≤ s.size
 | 0, s, i, acc, hi, hf, _ => by omega
 | f + 1, s, i, acc, hi, hf, he => by
  unfold go at he ⊢
  split at he
  ·rename_i h0
   rw [if_pos h0]
   split at he
   ·rename_i hk
    rw [if_pos hk]
    exact ⟨[], (nx s i).sg, rfl, hk, tok_fin s _ h0 hk, by simp, by simp, by simpa using hi⟩
   ·rename_i hk
    rw [if_neg hk]
    have hadv := nx_adv s i h0 hk
    obtain ⟨m, x, h1, h2, h3, h4, h5, h6⟩ := go_shape f s (nx s i).stop (acc ++ [(nx s i).sg]) (nx_stop_le s i hi) (by omega) he
    refine ⟨(nx s i).sg :: m, x, by rw [h1]; simp, h2, h3, ?_, ?_, by simp only [List.length_cons]; omega⟩
    ·intro y hy
     rcases List.mem_cons.1 hy with rfl | hy
     ·exact hk
     ·exact h4 y hy
    ·intro y hy
     rcases List.mem_cons.1 hy with rfl | hy
     ·exact tok_text s _
     ·exact h5 y hy
  ·rename_i h0
   exact absurd he h0
theorem alls_shape (s : ByteArray) (he : (alls s).2.2 = 0) : ∃ m x, (alls s).1 = m ++ [x] ∧ x.kind = 0 ∧ x.text = ByteArray.empty ∧ (∀ y ∈ m, y.kind ≠ 0) ∧ (∀ y ∈ m, y.text.size ≤ s.size) ∧ m.length ≤ s.size ∧ s.size ≤ 65536 := by
 unfold alls at he ⊢
 split at he
 ·exact absurd (show (3 : Int) = 0 from he) (by decide)
 ·rename_i h
  rw [if_neg h]
  obtain ⟨m, x, h1, h2, h3, h4, h5, h6⟩ := go_shape (s.size + 1) s 0 [] (Nat.zero_le _) (by omega) he
  exact ⟨m, x, by rw [h1]; rfl, h2, h3, h4, h5, by omega, by omega⟩
end Tx
theorem alls_good (s : ByteArray) (he : (Tx.alls s).2.2 = 0) : Good (Tx.alls s).1 ∧ Tex (Tx.alls s).1 ∧ 0 < (Tx.alls s).1.length := by
 obtain ⟨m, x, h1, h2, h3, h4, h5, h6, h7⟩ := Tx.alls_shape s he
 rw [h1]
 have hat : ∀ (k : Nat) (y : Tx.Sg), (m ++ [x])[k]? = some y → (k < m.length ∧ y ∈ m) ∨ (k = m.length ∧ y = x) := by
  intro k y hk
  by_cases hl : k < m.length
  ·rw [List.getElem?_append_left hl] at hk
   exact .inl ⟨hl, List.mem_of_getElem? hk⟩
  ·rw [List.getElem?_append_right (by omega)] at hk
   have hkl : k = m.length := by
    have := (List.getElem?_eq_some_iff.1 hk).1
    simp at this; omega
   subst hkl
   rw [Nat.sub_self] at hk
   injection hk with hk
   exact .inr ⟨rfl, hk.symm⟩
 refine ⟨⟨fun k y hk => ?_, fun k y hk hl => ?_, by simp; omega⟩, fun k y hk => ?_, by simp⟩
 ·rcases hat k y hk with ⟨hl, hm⟩ | ⟨rfl, rfl⟩
  ·exact ⟨fun h0 => absurd h0 (h4 y hm), fun h0 => by simp at h0; omega⟩
  ·exact ⟨fun _ => by simp, fun _ => h2⟩
 ·rcases hat k y hk with ⟨hl', hm⟩ | ⟨rfl, rfl⟩
  ·simp at hl; omega
  ·exact h3
 ·rcases hat k y hk with ⟨hl, hm⟩ | ⟨rfl, rfl⟩
  ·have := h5 y hm; unfold maxLen; omega
  ·rw [h3]; exact Nat.zero_le _
namespace Pr
def noPg : Pg := ⟨⟨none, 0, []⟩, ⟨none, 0, []⟩, ⟨none, 0, []⟩⟩
/-- What a reading of a text comes to: an error's number, or none, and the program without its places. -/
def rd (s : ByteArray) : Int × Pg :=
 if (Tx.alls s).2.2 = 0 then
  match whole ((Tx.alls s).1.map tk) (program ((Tx.alls s).1.map tk) (((Tx.alls s).1.map tk).length + 1) [] [] []) with
  | .error e => (e.1, noPg)
  | .ok a => (0, a)
 else ((Tx.alls s).2.2, noPg)
end Pr
/-- The signs of a text, in a row of one's own. -/
theorem ps_start {w : World} {B : Nat} {v : Value} {l : List Tx.Sg} (h : w.ownsRow B 106 4 v l.length (l.flatMap Tx.cells)) (hl : 0 < l.length) :
  ∃ sb cap, v = .slice (some ⟨sb, 0, none⟩) l.length cap ∧ sb < w.heap.size ∧ B ≤ sb ∧ ∀ k x, l[k]? = some x → w.rangeAt sb (k * 4) [.int .i64 x.kind, .int .i64 x.pos, .string x.text, .int .i64 x.num] := by
 rcases h.2 with ⟨rfl, h0⟩ | ⟨g, cap, cur, rfl, hg, hr, _⟩
 ·omega
 ·refine ⟨g, cap, rfl, (Array.getElem?_eq_some_iff.1 hr).1, hg, fun k x hx j u hu => ?_⟩
  have hk := (List.getElem?_eq_some_iff.1 hx).1
  have hj : j < 4 := (List.getElem?_eq_some_iff.1 hu).1
  rw [h.cellAt (k * 4 + j) (by omega), Tx.cells_at l k hk j hj]
  obtain ⟨_, he⟩ := List.getElem?_eq_some_iff.1 hx
  rw [he]; exact hu
end Go.Proofs.YtdlchhimkelinaaGreatDoor
