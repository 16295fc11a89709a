/-
  The walk of the parser's procedures. Plain: three rows of one's own that grow by turns. The walk of the parser's program.
-/
import Derived.Test.YtdlchhimkelinaaGreatDoorP17
set_option maxHeartbeats 6400000
set_option maxRecDepth 100000
namespace Go.Proofs.YtdlchhimkelinaaGreatDoor
open Go.RowKit Go.Sort
/-! What was made between two moments. -/
theorem mid_start (B : Nat) (w : World) : Ext (fresh B w) (mask (fun b => decide (b < B) || decide (w.heap.size ≤ b)) w) := Ext.of_mask fun b hb hlt => by
 simp only [Bool.or_eq_false_iff, decide_eq_false_iff_not] at hb ⊢
 exact ⟨⟨hb, by omega⟩, trivial⟩
theorem mid_below {B C : Nat} {w w' : World} (h : Below w.heap.size w w') : Ext (mask (fun b => decide (b < B) || decide (C ≤ b)) w) (mask (fun b => decide (b < B) || decide (C ≤ b)) w') := Ext.of_mask fun b hb hlt => ⟨hb, h.block b hlt⟩
theorem mid_fresh (B C : Nat) (w : World) : Ext (mask (fun b => decide (b < B) || decide (C ≤ b)) w) (fresh B w) := Ext.of_mask fun b hb hlt => by
 simp only [Bool.or_eq_false_iff, decide_eq_false_iff_not] at hb ⊢
 exact ⟨hb.1, trivial⟩
theorem mid_par {B C g : Nat} {w w' : World} (h : w.grownBy w' (some g)) (hg : g < B ∨ C ≤ g) : Ext (mask (fun b => decide (b < B) || decide (C ≤ b)) w) (mask (fun b => decide (b < B) || decide (C ≤ b)) w') := Ext.of_mask fun b hb hlt => by
 simp only [Bool.or_eq_false_iff, decide_eq_false_iff_not] at hb ⊢
 exact ⟨hb, h.block b hlt (by intro e; injection e with e; omega)⟩
theorem mid_grown {B C : Nat} {r : Option Nat} {w w' : World} (h : w.grownBy w' r) (hr : ∀ q, r = some q → C ≤ q) : Ext (mask (fun b => decide (b < B) || decide (C ≤ b)) w) (mask (fun b => decide (b < B) || decide (C ≤ b)) w') := Ext.of_mask fun b hb hlt => by
 simp only [Bool.or_eq_false_iff, decide_eq_false_iff_not] at hb ⊢
 exact ⟨hb, h.block b hlt (by intro e; have := hr b e.symm; omega)⟩
attribute [local go_sem] field79_0 field79_1 field79_2 field79_3
section
variable {pb sb cap : Nat} {l : List Tx.Sg}
theorem proc_any (w : World) (u : Pr.St) (h : PS w pb sb cap l u.i u.o u.b) (hg : Good l) (hT : Tex l) (hi : Pr.Inv u) :
  Calls Tryz.prog 61 #[.pointer (some ⟨pb, 0, none⟩)] w (Outc (kPc.Val w.heap.size) w pb sb cap l (Pr.proc (l.map Pr.tk) u)) := by
 obtain ⟨r, hr⟩ : ∃ r, r = Pr.proc (l.map Pr.tk) u := ⟨_, rfl⟩
 rw [← hr]
 have HR := hdn hr
 have HL := hdn hg
 have HTX := hdn hT
 have HI0 := hdn hi
 have hn : Below w.heap.size w (w.alloc (.cells #[.string ByteArray.empty, .int .i64 0, .int .i64 0, .slice none 0 0, .slice none 0 0, .slice none 0 0] 40)) := (Below.refl _ _).alloc (Nat.le_refl _) _
 have HK : Hid (Bk (w.alloc (.cells #[.string ByteArray.empty, .int .i64 0, .int .i64 0, .slice none 0 0, .slice none 0 0, .slice none 0 0] 40)) w.heap.size 40 #[.string ByteArray.empty, .int .i64 0, .int .i64 0, .slice none 0 0, .slice none 0 0, .slice none 0 0]) := hdn (heap_alloc_new _ _)
 have HNE : Hid (w.heap.size ≠ pb ∧ w.heap.size ≠ sb ∧ pb < w.heap.size ∧ sb < w.heap.size) := hdn ⟨fun e => by have := h.pb_lt; omega, fun e => by have := h.sb_lt; omega, h.pb_lt, h.sb_lt⟩
 have HZ : Hid ((w.alloc (.cells #[.string ByteArray.empty, .int .i64 0, .int .i64 0, .slice none 0 0, .slice none 0 0, .slice none 0 0] 40)).heap.size = w.heap.size + 1) := hdn (by simp)
 have HG : Hid (w.grownBy (w.alloc (.cells #[.string ByteArray.empty, .int .i64 0, .int .i64 0, .slice none 0 0, .slice none 0 0, .slice none 0 0] 40)) (some pb)) := hdn (grownBy_of hn _)
 have HP := hdn (h.below hn)
 have HLL : Hid ((l.map Pr.tk).length = l.length ∧ l.length ≤ 6000000) := hdn ⟨List.length_map _, hg.len⟩
 generalize hwA : w.alloc (.cells #[.string ByteArray.empty, .int .i64 0, .int .i64 0, .slice none 0 0, .slice none 0 0, .slice none 0 0] 40) = wA at HK HG HP HZ
 clear h hg hr hn hT hi
 go_enter Tryz.func61, Tryz.ntmps61
 go_wp2_with fail
 rw [show w.alloc (.cells #[.string ⟨#[]⟩, .int .i64 0, .int .i64 0, .slice none 0 0, .slice none 0 0, .slice none 0 0] 40) = wA from hwA]
 clear hwA
 refine (must_any ⟨#[118, 111, 105, 100]⟩ (by decide) wA u HP.out HL.out).mono ?_; intro en w1 ho
 rcases hm1 : Pr.must (l.map Pr.tk) ⟨#[118, 111, 105, 100]⟩ u with n | ⟨a1, u1⟩
 ·obtain ⟨p, rfl, g⟩ := ho.of_err hm1
  exact ⟨rfl, Outc.err (by rw [HR.out]; simp only [Pr.proc, Pr.th, hm1]) (grownBy_tr HG.out g)⟩
 obtain ⟨v, rfl, ⟨xx1, rfl, hxx1⟩, h, g⟩ := ho.of_ok hm1
 have HF1 := hdn (Pr.must_fwd hm1)
 have HM1 := hdn hm1; have HP1 := hdn h; have HK1 := hdn (HK.out.kept g HNE.out.1); have HG1 := hdn (grownBy_tr HG.out g)
 clear h g ho hm1 hxx1 HP HK HG
 go_wp2_with fail
 refine (name_any w1 u1 HP1.out HL.out).mono ?_; intro en w2 ho
 rcases hm2 : Pr.name (l.map Pr.tk) u1 with n | ⟨a2, u2⟩
 ·obtain ⟨p, rfl, g⟩ := ho.of_err hm2
  exact ⟨rfl, Outc.err (by rw [HR.out]; simp only [Pr.proc, Pr.th, HM1.out, hm2]) (grownBy_tr HG1.out g)⟩
 obtain ⟨v, rfl, ⟨x, rfl, hx⟩, h, g⟩ := ho.of_ok hm2
 have HF2 := hdn (HF1.out.tr (Pr.name_fwd hm2))
 have HX := hdn hx; have HM2 := hdn hm2; have HP2 := hdn h; have HK2 := hdn (HK1.out.kept g HNE.out.1); have HG2 := hdn (grownBy_tr HG1.out g)
 clear h g ho hm2 hx HP1 HK1 HG1
 go_upto_region 3 with fail
 have hm : Below w2.heap.size w2 (w2.alloc (.cells #[.int .i64 x.kind, .int .i64 x.pos, .string x.text, .int .i64 x.num] 106)) := (Below.refl _ _).alloc (Nat.le_refl _) _
 have HP3 := hdn (HP2.out.below hm)
 have HK3 := hdn (HK2.out.below hm HK2.out.lt)
 have HF : Hid (Bk (w2.alloc (.cells #[.int .i64 x.kind, .int .i64 x.pos, .string x.text, .int .i64 x.num] 106)) w2.heap.size 106 #[.int .i64 x.kind, .int .i64 x.pos, .string x.text, .int .i64 x.num]) := hdn (heap_alloc_new _ _)
 have HG3 : Hid (w.grownBy (w2.alloc (.cells #[.int .i64 x.kind, .int .i64 x.pos, .string x.text, .int .i64 x.num] 106)) (some pb)) := hdn (grownBy_below HG2.out hm)
 obtain ⟨F, hF⟩ : ∃ F, F = w2.heap.size := ⟨_, rfl⟩
 rw [← hF] at HF ⊢
 clear hF hm HP2 HK2 HG2
 generalize w2.alloc (.cells #[.int .i64 x.kind, .int .i64 x.pos, .string x.text, .int .i64 x.num] 106) = w3 at HP3 HK3 HF HG3 ⊢
 have t1 : w3.cell? ⟨F, 1, none⟩ = some (.int .i64 x.pos) := HF.out.cell 1
 have t2 : w3.cell? ⟨F, 2, none⟩ = some (.string x.text) := HF.out.cell 2
 go_upto_region 4 with fail
 clear t1 t2
 have hm : Below w3.heap.size w3 (w3.alloc (.cells #[.string x.text, .int .i64 x.pos, .int .i64 0, .slice none 0 0, .slice none 0 0, .slice none 0 0] 40)) := (Below.refl _ _).alloc (Nat.le_refl _) _
 have HP4 := hdn (HP3.out.below hm)
 have HK4 := hdn (HK3.out.below hm HK3.out.lt)
 have HS : Hid (Bk (w3.alloc (.cells #[.string x.text, .int .i64 x.pos, .int .i64 0, .slice none 0 0, .slice none 0 0, .slice none 0 0] 40)) w3.heap.size 40 #[.string x.text, .int .i64 x.pos, .int .i64 0, .slice none 0 0, .slice none 0 0, .slice none 0 0]) := hdn (heap_alloc_new _ _)
 have HG4 : Hid (w.grownBy (w3.alloc (.cells #[.string x.text, .int .i64 x.pos, .int .i64 0, .slice none 0 0, .slice none 0 0, .slice none 0 0] 40)) (some pb)) := hdn (grownBy_below HG3.out hm)
 have HSZ : Hid ((w3.alloc (.cells #[.string x.text, .int .i64 x.pos, .int .i64 0, .slice none 0 0, .slice none 0 0, .slice none 0 0] 40)).heap.size = w3.heap.size + 1) := hdn (by simp)
 obtain ⟨S, hS⟩ : ∃ S, S = w3.heap.size := ⟨_, rfl⟩
 have HSN : Hid (S ≠ pb ∧ S ≠ sb ∧ w.heap.size ≠ S ∧ w.heap.size ≤ S ∧ pb < S ∧ sb < S) := hdn ⟨by have := HP3.out.pb_lt; omega, by have := HP3.out.sb_lt; omega, by have := HK3.out.lt; omega, by have := HK3.out.lt; omega, by have := HP3.out.pb_lt; omega, by have := HP3.out.sb_lt; omega⟩
 rw [← hS] at HS HSZ ⊢
 clear hS hm HF HP3 HK3 HG3
 change Code.wp _ _ _ _ (w3.alloc (.cells #[.string x.text, .int .i64 x.pos, .int .i64 0, .slice none 0 0, .slice none 0 0, .slice none 0 0] 40))
 generalize w3.alloc (.cells #[.string x.text, .int .i64 x.pos, .int .i64 0, .slice none 0 0, .slice none 0 0, .slice none 0 0] 40) = w4 at HP4 HK4 HS HG4 HSZ ⊢
 go_wp2_with fail
 refine (params_any w4 u2 HP4.out HL.out).mono ?_; intro en w5 ho
 rcases hm3 : Pr.listed (l.map Pr.tk) (Pr.variable_ (l.map Pr.tk)) u2 with n | ⟨a3, u3⟩
 ·obtain ⟨p, rfl, g⟩ := ho.of_err hm3
  exact ⟨rfl, Outc.err (by rw [HR.out]; simp only [Pr.proc, Pr.th, HM1.out, HM2.out, hm3]) (grownBy_tr HG4.out g)⟩
 obtain ⟨v, rfl, ⟨ps, rfl, hps, hply⟩, h, g⟩ := ho.of_ok hm3
 have HF3 := hdn (HF2.out.tr (Pr.listed_fwd (fun _ _ _ h => Pr.variable_fwd h) hm3))
 have HPS := hdn hps
 have HPL : Hid (declsLie (fresh w4.heap.size w5) ps) := hdn hply
 have HM3 := hdn hm3; have HP5 := hdn h; have HK5 := hdn (HK4.out.kept g HNE.out.1); have HS5 := hdn (HS.out.kept g HSN.out.1); have HG5 := hdn (grownBy_tr HG4.out g); have HLE5 := hdn g.size
 clear h g ho hm3 hps hply HP4 HK4 HS HG4
 have s3 : w5.cell? ⟨S, 3, none⟩ = some (.slice none 0 0) := HS5.out.cell 3
 have f3 := HS5.out.frozen 3
 have gS := grownBy_setC w5 ⟨S, 3, none⟩ (.slice ps.p ps.l.length ps.cap)
 have HP6 := hdn (HP5.out.far gS HSN.out.1 HSN.out.2.1); have HK6 := hdn (HK5.out.kept gS HSN.out.2.2.1); have HG6 := hdn (grownBy_under HG5.out gS HSN.out.2.2.2.1); have HLE6 := hdn (Nat.le_trans HLE5.out gS.size)
 have HS6 : Hid (Bk (w5.setCell ⟨S, 3, none⟩ (.slice ps.p ps.l.length ps.cap)) S 40 #[.string x.text, .int .i64 x.pos, .int .i64 0, .slice ps.p ps.l.length ps.cap, .slice none 0 0, .slice none 0 0]) := hdn (HS5.out.set_ 3 _)
 have HPL6 : Hid (declsLie (fresh w4.heap.size (w5.setCell ⟨S, 3, none⟩ (.slice ps.p ps.l.length ps.cap))) ps) := hdn (declsLie_ext (fresh_par gS (by have := HSZ.out; have := HSN.out; show S < _; omega)) HPL.out)
 clear gS
 go_upto_region 5 with fail
 clear s3 f3 HP5 HK5 HS5 HG5 HLE5 HPL
 generalize w5.setCell ⟨S, 3, none⟩ (.slice ps.p ps.l.length ps.cap) = w6 at HP6 HK6 HS6 HG6 HLE6 HPL6 ⊢
 go_wp2_with fail
 refine (must_any ⟨#[123]⟩ (by decide) w6 u3 HP6.out HL.out).mono ?_; intro en w7 ho
 rcases hm4 : Pr.must (l.map Pr.tk) ⟨#[123]⟩ u3 with n | ⟨a4, u4⟩
 ·obtain ⟨p, rfl, g⟩ := ho.of_err hm4
  exact ⟨rfl, Outc.err (by rw [HR.out]; simp only [Pr.proc, Pr.th, HM1.out, HM2.out, HM3.out, hm4]) (grownBy_tr HG6.out g)⟩
 obtain ⟨v, rfl, ⟨xx4, rfl, hxx4⟩, h, g⟩ := ho.of_ok hm4
 have HF4 := hdn (HF3.out.tr (Pr.must_fwd hm4))
 have HM4 := hdn hm4; have HP7 := hdn h; have HK7 := hdn (HK6.out.kept g HNE.out.1); have HS7 := hdn (HS6.out.kept g HSN.out.1); have HG7 := hdn (grownBy_tr HG6.out g); have HLE7 := hdn (Nat.le_trans HLE6.out g.size)
 have HPL7 : Hid (declsLie (fresh w4.heap.size w7) ps) := hdn (declsLie_ext (fresh_par g (by have := HSZ.out; have := HSN.out; omega)) HPL6.out)
 have HI4 := hdn (HF4.out.inv HI0.out)
 clear h g ho hm4 hxx4 HP6 HK6 HS6 HG6 HLE6 HPL6
 obtain ⟨i0, hI⟩ := infDc
 have HI := hdn hI
 clear hI
 go_wp2_with fail
 go_loopg [] ((l.map Pr.tk).length + 1) (fun g wr => ∃ (acc : List Dc) (v : Value) (un : Pr.St), l.length < un.i + g ∧ acc.length ≤ un.i ∧ Hid (Pr.Inv un) ∧ Hid (Pr.locals (l.map Pr.tk) g acc un = Pr.locals (l.map Pr.tk) ((l.map Pr.tk).length + 1) [] u4) ∧ Hid (kDc.Gr w7.heap.size acc v wr) ∧ Hid (Bk wr S 40 #[.string x.text, .int .i64 x.pos, .int .i64 0, .slice ps.p ps.l.length ps.cap, v, .slice none 0 0]) ∧ Hid (PS wr pb sb cap l un.i un.o un.b) ∧ Hid (Bk wr w.heap.size 40 #[.string ByteArray.empty, .int .i64 0, .int .i64 0, .slice none 0 0, .slice none 0 0, .slice none 0 0]) ∧ Hid (w.grownBy wr (some pb)) ∧ Hid (w7.heap.size ≤ wr.heap.size) ∧ Hid (declsLie (fresh w4.heap.size w7) ps → declsLie (mask (fun b => decide (b < w4.heap.size) || decide (w7.heap.size ≤ b)) wr) ps))
 case atStart => exact ⟨[], .slice none 0 0, u4, by rw [HLL.out.1]; omega, Nat.zero_le _, HI4, hdn rfl, hdn (Kd.Gr.nil kDc (World.ownsRow_nil _ _ _ _)), HS7, HP7, HK7, HG7, hdn (Nat.le_refl _), hdn (fun hd => declsLie_ext (mid_start _ _) hd)⟩
 case round =>
  obtain ⟨acc, v, un, hlt, hacc, HIU, HH, HGr, HSr, HPr, HKr, HGw, HLE, HMD⟩ := hrel
  obtain ⟨a0, c0, rfl⟩ : ∃ a0 c0, v = .slice a0 acc.length c0 := by obtain ⟨ys, _, h2, _⟩ := HGr.out; exact own_shape h2
  have HUL : Hid (un.i < l.length) := hdn HPr.out.lt
  obtain ⟨gj, hgj⟩ : ∃ k, gk = k + 1 := ⟨gk - 1, by have := HUL.out; omega⟩
  have HGJ := hdn hgj
  clear hgj
  go_wp2_with fail
  refine (declares_any wr un HPr.out HL.out).mono ?_; rintro en w8 ⟨rfl, hb⟩
  have HP8 := hdn (HPr.out.below hb); have HK8 := hdn (HKr.out.below hb HKr.out.lt); have HS8 := hdn (HSr.out.below hb HSr.out.lt); have HG8 := hdn (grownBy_below HGw.out hb); have HGr8 := hdn (HGr.out.below hb); have HLE8 := hdn (Nat.le_trans HLE.out hb.size)
  have HMD8 : Hid (declsLie (fresh w4.heap.size w7) ps → declsLie (mask (fun b => decide (b < w4.heap.size) || decide (w7.heap.size ≤ b)) w8) ps) := hdn (fun hd => declsLie_ext (mid_below hb) (HMD.out hd))
  clear hb HPr HKr HSr HGw HGr HLE HMD
  rcases hq : Pr.declares (l.map Pr.tk) un with _ | _
  ·have HQ := hdn hq
   clear hq
   have HLS : Hid (Pr.locals (l.map Pr.tk) ((l.map Pr.tk).length + 1) [] u4 = .ok (acc, un)) := hdn (by rw [← HH.out, HGJ.out, locals_end HQ.out])
   obtain ⟨sl, hv, hsl, hly⟩ := Kd.fin kDc (by have := HLL.out.2; have := HUL.out; show acc.length * 40 ≤ _; omega) HGr8.out
   injection hv with e1 e2 e3
   have HSL := hdn hsl
   have HLY : Hid (declsLie (fresh w7.heap.size w8) sl) := hdn hly
   have HPL8 : Hid (declsLie (fresh w4.heap.size w8) ps) := hdn (declsLie_ext (mid_fresh _ _ _) (HMD8.out HPL7.out))
   have HS9 : Hid (Bk w8 S 40 #[.string x.text, .int .i64 x.pos, .int .i64 0, .slice ps.p ps.l.length ps.cap, .slice sl.p sl.l.length sl.cap, .slice none 0 0]) := hdn (by have := HS8.out; rw [e1, e2, e3] at this; exact this)
   have HPS8 : Hid (pb < w8.heap.size ∧ w4.heap.size ≤ w8.heap.size ∧ pb < w7.heap.size) := hdn ⟨HP8.out.pb_lt, Nat.le_trans HLE7.out HLE8.out, by have := HLE7.out; have := HSZ.out; have := HSN.out; omega⟩
   clear e1 e2 e3 hsl hly HS8 HGr8 HMD8 HPL7
   go_wp2_with fail
   refine (stmts_any HL.out HTX.out ((l.map Pr.tk).length + 1) w8 un HP8.out HIU.out (by rw [HLL.out.1]; omega)).mono ?_; intro en w9 ho
   rcases hm9 : Pr.stmts (l.map Pr.tk) ((l.map Pr.tk).length + 1) un with n | ⟨a9, u9⟩
   ·obtain ⟨p, rfl, g⟩ := ho.of_err hm9
    exact ⟨rfl, Outc.err (by rw [HR.out]; simp only [Pr.proc, Pr.th, HM1.out, HM2.out, HM3.out, HM4.out, HLS.out, hm9]) (grownBy_tr HG8.out g)⟩
   obtain ⟨v, rfl, ⟨sp, sc, s, rfl, hse, hsl⟩, h, g⟩ := ho.of_ok hm9
   have HM9 := hdn hm9; have HP9 := hdn h; have HK9 := hdn (HK8.out.kept g HNE.out.1); have HS10 := hdn (HS9.out.kept g HSN.out.1); have HG9 := hdn (grownBy_tr HG8.out g); have HSE := hdn hse
   have HB9 : Hid (sLies (fresh w4.heap.size w9) sp s) := hdn (sLies_ext (fresh_mono HPS8.out.2.1 _) hsl)
   have HLY9 : Hid (declsLie (fresh w4.heap.size w9) sl) := hdn (declsLie_ext ((fresh_par g HPS8.out.2.2).trans (fresh_mono HLE7.out _)) HLY.out)
   have HPL9 : Hid (declsLie (fresh w4.heap.size w9) ps) := hdn (declsLie_ext (fresh_par g (by have := HSZ.out; have := HSN.out; omega)) HPL8.out)
   clear h g ho hm9 hse hsl HP8 HK8 HS9 HG8 HLY HPL8
   have s5 : w9.cell? ⟨S, 5, none⟩ = some (.slice none 0 0) := HS10.out.cell 5
   have f5 := HS10.out.frozen 5
   have gS := grownBy_setC w9 ⟨S, 5, none⟩ (.slice sp s.len sc)
   have HP10 := hdn (HP9.out.far gS HSN.out.1 HSN.out.2.1); have HK10 := hdn (HK9.out.kept gS HSN.out.2.2.1); have HG10 := hdn (grownBy_under HG9.out gS HSN.out.2.2.2.1)
   have HS11 : Hid (Bk (w9.setCell ⟨S, 5, none⟩ (.slice sp s.len sc)) S 40 (Pc.cells ⟨x.text, x.pos, 0, ps, sl, sp, sc, s⟩).toArray) := hdn (HS10.out.set_ 5 _)
   have HLA : Hid (pcLies (fresh w4.heap.size (w9.setCell ⟨S, 5, none⟩ (.slice sp s.len sc))) ⟨x.text, x.pos, 0, ps, sl, sp, sc, s⟩) := hdn (pcLies_ext (fresh_par gS (by have := HSZ.out; have := HSN.out; show S < _; omega)) ⟨HPL9.out, HLY9.out, HB9.out⟩)
   clear gS
   go_upto_region 9 with fail
   clear s5 f5 HP9 HK9 HS10 HG9 HB9 HLY9 HPL9
   generalize w9.setCell ⟨S, 5, none⟩ (.slice sp s.len sc) = w10 at HP10 HK10 HS11 HG10 HLA ⊢
   go_wp2_with fail
   refine (must_any ⟨#[125]⟩ (by decide) w10 u9 HP10.out HL.out).mono ?_; intro en w11 ho
   rcases hm11 : Pr.must (l.map Pr.tk) ⟨#[125]⟩ u9 with n | ⟨a11, u11⟩
   ·obtain ⟨p, rfl, g⟩ := ho.of_err hm11
    exact ⟨rfl, Outc.err (by rw [HR.out]; simp only [Pr.proc, Pr.th, HM1.out, HM2.out, HM3.out, HM4.out, HLS.out, HM9.out, hm11]) (grownBy_tr HG10.out g)⟩
   obtain ⟨v, rfl, ⟨xe, rfl, hxe⟩, h, g⟩ := ho.of_ok hm11
   have HM11 := hdn hm11; have HP11 := hdn h; have HK11 := hdn (HK10.out.kept g HNE.out.1); have HS12 := hdn (HS11.out.kept g HSN.out.1); have HG11 := hdn (grownBy_tr HG10.out g)
   have HLA11 : Hid (pcLies (fresh w4.heap.size w11) ⟨x.text, x.pos, 0, ps, sl, sp, sc, s⟩) := hdn (pcLies_ext (fresh_par g (by have := HSZ.out; have := HSN.out; omega)) HLA.out)
   clear h g ho hm11 hxe HP10 HK10 HS11 HG10 HLA
   have s2 : w11.cell? ⟨S, 2, none⟩ = some (.int .i64 0) := HS12.out.cell 2
   have f2 := HS12.out.frozen 2
   have gS := grownBy_setC w11 ⟨S, 2, none⟩ (.int .i64 xe.pos)
   have HP12 := hdn (HP11.out.far gS HSN.out.1 HSN.out.2.1); have HK12 := hdn (HK11.out.kept gS HSN.out.2.2.1); have HG12 := hdn (grownBy_under HG11.out gS HSN.out.2.2.2.1)
   have HS13 : Hid (Bk (w11.setCell ⟨S, 2, none⟩ (.int .i64 xe.pos)) S 40 (Pc.cells ⟨x.text, x.pos, xe.pos, ps, sl, sp, sc, s⟩).toArray) := hdn (HS12.out.set_ 2 _)
   have HLA12 : Hid (pcLies (fresh w4.heap.size (w11.setCell ⟨S, 2, none⟩ (.int .i64 xe.pos))) ⟨x.text, x.pos, xe.pos, ps, sl, sp, sc, s⟩) := hdn (pcLies_ext (fresh_par gS (by have := HSZ.out; have := HSN.out; show S < _; omega)) HLA11.out)
   clear gS
   go_upto_region 10 with fail
   clear s2 f2 HP11 HK11 HS12 HG11 HLA11
   generalize w11.setCell ⟨S, 2, none⟩ (.int .i64 xe.pos) = w12 at HP12 HK12 HS13 HG12 HLA12 ⊢
   go_wp2_with (first | ((with_reducible show wpList _ _ _ (Oper.mk (some 35) (Op.load 40 (Operand.tmp 4)) _ _ _ _ :: _) _ _); refine wpList_load_bk rfl 40 (.tmp 4) rfl S 40 (Pc.cells ⟨x.text, x.pos, xe.pos, ps, sl, sp, sc, s⟩).toArray rfl _ HS13.out Tryz.underlying40 rfl size63 ?_) | ((with_reducible show wpList _ _ _ (Oper.mk none (Op.store 40 (Operand.tmp 2) (Operand.tmp 35)) _ _ _ _ :: _) _ _); refine wpList_store_bk rfl 40 (.tmp 2) (.tmp 35) rfl w.heap.size 40 _ (Pc.cells ⟨x.text, x.pos, xe.pos, ps, sl, sp, sc, s⟩).toArray rfl rfl HK12.out size63 rfl (kPc.one _) ?_; intro wZ hB hF))
   exact bodyPost_ret (results_cell_row Tryz.results61 _ wZ w.heap.size 40 (Pc.cells ⟨x.text, x.pos, xe.pos, ps, sl, sp, sc, s⟩).toArray (0, 0) _ rfl hB Tryz.underlying40 rfl size63) rfl (Outc.ok (u := u11) (a := ⟨a2.text, 0, 0, ⟨none, 0, a3⟩, ⟨none, 0, acc⟩, none, 0, a9⟩) (by rw [HR.out]; simp only [Pr.proc, Pr.th, HM1.out, HM2.out, HM3.out, HM4.out, HLS.out, HM9.out, HM11.out]) (grownBy_mine HG12.out hF) ⟨⟨x.text, x.pos, xe.pos, ps, sl, sp, sc, s⟩, rfl, by show Pc.er _ = _; rw [← HX.out, ← HSE.out]; simp only [Pc.er, Sl.er, Pr.tk]; rw [show sl.l.map Dc.er = acc from HSL.out, show ps.l.map Dc.er = a3 from HPS.out], pcLies_ext ((fresh_par hF (by have := HSZ.out; have := HSN.out; omega)).trans (fresh_mono (by have := HSZ.out; have := HSN.out; omega) _)) HLA12.out⟩ (HP12.out.far hF HNE.out.1 HNE.out.2.1))
  ·have HQ := hdn hq
   clear hq
   have s2 : w8.cell? ⟨S, 4, none⟩ = some (.slice a0 acc.length c0) := HS8.out.cell 4
   go_wp2_with fail
   have HPD : Hid (PS w8.drew pb sb cap l un.i un.o un.b) := hdn (HP8.out.below (below_drew (Below.refl _ _)))
   have HKD : Hid (Bk w8.drew w.heap.size 40 #[.string ByteArray.empty, .int .i64 0, .int .i64 0, .slice none 0 0, .slice none 0 0, .slice none 0 0]) := hdn HK8.out
   have HSD : Hid (Bk w8.drew S 40 #[.string x.text, .int .i64 x.pos, .int .i64 0, .slice ps.p ps.l.length ps.cap, .slice a0 acc.length c0, .slice none 0 0]) := hdn HS8.out
   have HGD : Hid (w.grownBy w8.drew (some pb)) := hdn (grownBy_drew HG8.out)
   have HGrD := hdn (HGr8.out.below (below_drew (Below.refl _ _)))
   have HLED : Hid (w7.heap.size ≤ w8.drew.heap.size) := hdn HLE8.out
   have HMDD : Hid (declsLie (fresh w4.heap.size w7) ps → declsLie (mask (fun b => decide (b < w4.heap.size) || decide (w7.heap.size ≤ b)) w8.drew) ps) := hdn (fun hd => declsLie_ext (mid_below (below_drew (Below.refl _ _))) (HMD8.out hd))
   have HB1 : Hid (acc.length + 1 ≤ maxLen ∧ (acc.length + 1) * 40 ≤ 140737488355328) := hdn ⟨by have := HLL.out.2; have := HUL.out; unfold maxLen; omega, by have := HLL.out.2; have := HUL.out; omega⟩
   have HPB : Hid (pb < w4.heap.size ∧ S < w4.heap.size ∧ w4.heap.size ≤ w7.heap.size) := hdn ⟨(by have := HSZ.out; have := HSN.out; omega), (by have := HSZ.out; have := HSN.out; omega), HLE7.out⟩
   clear HP8 HK8 HS8 HG8 HGr8 HLE8 HMD8
   go_region_law (first
    | (go_simp; go_at_call 62; (with_reducible refine (decl_any _ un HPD.out HL.out).mono ?_); intro en w9 ho; rcases hm9 : Pr.decl (l.map Pr.tk) un with n | ⟨a9, u9⟩; (· obtain ⟨p, rfl, g⟩ := ho.of_err hm9; exact ⟨rfl, Outc.err (by rw [HR.out]; simp only [Pr.proc, Pr.th, HM1.out, HM2.out, HM3.out, HM4.out]; rw [← HH.out, HGJ.out, locals_step HQ.out, hm9]; rfl) (grownBy_tr HGD.out g)⟩); obtain ⟨v, rfl, ⟨z, rfl, hz⟩, h, g⟩ := ho.of_ok hm9; have HZE : Hid (kDc.er z = a9) := hdn hz; have HM9 := hdn hm9; have HP9 := hdn h; have HK9 := hdn (HKD.out.kept g HNE.out.1); have HS9 := hdn (HSD.out.kept g HSN.out.1); have HG9 := hdn (grownBy_tr HGD.out g); have HGr9 := hdn (HGrD.out.par g (by have := HPB.out; omega)); have HLE9 := hdn (Nat.le_trans HLED.out g.size); have HMD9 : Hid (declsLie (fresh w4.heap.size w7) ps → declsLie (mask (fun b => decide (b < w4.heap.size) || decide (w7.heap.size ≤ b)) w9) ps) := hdn (fun hd => declsLie_ext (mid_par g (.inl HPB.out.1)) (HMDD.out hd)); have s27 : w9.cell? ⟨S, 4, none⟩ = some (.slice a0 acc.length c0) := HS9.out.cell 4; have s27a : ∀ ob, (w9.alloc ob).cell? ⟨S, 4, none⟩ = some (.slice a0 acc.length c0) := (fun ob => (World.cell?_alloc_lt _ _ _ HS9.out.lt).trans s27); clear h g ho hz hm9; (try dsimp only))
    | (refine Kd.step_push kDc rfl 23 i0 _ HI.out (.tmp 22) (.tmp 25) rfl w7.heap.size acc (.slice a0 acc.length c0) rfl HGr9.out HLE9.out z rfl trivial HB1.out.1 HB1.out.2 ?_; rintro v' w10 hG8 ⟨gg, cc, rfl⟩ hgr8 hown8; have HGr10 := hdn hG8; have HP10 := hdn (HP9.out.grown hgr8 (fun q hq => by have := hown8 q hq; have := HPB.out; have := HSN.out; have := HSZ.out; omega)); have HK10 := hdn (HK9.out.grown hgr8 (fun q hq => by have := hown8 q hq; have := HPB.out; have := HSN.out; omega)); have HS10 := hdn (HS9.out.grown hgr8 (fun q hq => by have := hown8 q hq; have := HPB.out; omega)); have HG10 := hdn (grownBy_up HG9.out hgr8 (fun q hq => by have := hown8 q hq; have := HPB.out; have := HSN.out; omega)); have HLE10 : Hid (w7.heap.size ≤ w10.heap.size) := hdn (Nat.le_trans HLE9.out hgr8.size); have HMD10 : Hid (declsLie (fresh w4.heap.size w7) ps → declsLie (mask (fun b => decide (b < w4.heap.size) || decide (w7.heap.size ≤ b)) w10) ps) := hdn (fun hd => declsLie_ext (mid_grown hgr8 hown8) (HMD9.out hd)); have s28 : w10.cell? ⟨S, 4, none⟩ = some (.slice a0 acc.length c0) := HS10.out.cell 4; have f28 : w10.frozen? ⟨S, 4, none⟩ = false := HS10.out.frozen 4; clear hG8 hgr8 hown8))
   all_goals
    have gS := grownBy_setC w10 ⟨S, 4, none⟩ (.slice (some ⟨gg, 0, none⟩) (acc.length + 1) cc)
    have HP11 := hdn (HP10.out.far gS HSN.out.1 HSN.out.2.1)
    have HK11 := hdn (HK10.out.kept gS HSN.out.2.2.1)
    have HS11 : Hid (Bk (w10.setCell ⟨S, 4, none⟩ (.slice (some ⟨gg, 0, none⟩) (acc.length + 1) cc)) S 40 #[.string x.text, .int .i64 x.pos, .int .i64 0, .slice ps.p ps.l.length ps.cap, .slice (some ⟨gg, 0, none⟩) (acc.length + 1) cc, .slice none 0 0]) := hdn (HS10.out.set_ 4 _)
    have HG11 := hdn (grownBy_under HG10.out gS HSN.out.2.2.2.1)
    have HGr11 := hdn (HGr10.out.par gS (by have := HPB.out; show S < _; omega))
    have HLE11 := hdn (Nat.le_trans HLE10.out gS.size)
    have HMD11 : Hid (declsLie (fresh w4.heap.size w7) ps → declsLie (mask (fun b => decide (b < w4.heap.size) || decide (w7.heap.size ≤ b)) (w10.setCell ⟨S, 4, none⟩ (.slice (some ⟨gg, 0, none⟩) (acc.length + 1) cc))) ps) := hdn (fun hd => declsLie_ext (mid_par gS (.inl HPB.out.2.1)) (HMD10.out hd))
    clear gS s28 f28 s27 s27a s2 HP10 HK10 HS10 HG10 HLE10 HGr10 HMD10 HP9 HK9 HS9 HG9 HLE9 HGr9 HMD9
    generalize w10.setCell ⟨S, 4, none⟩ (.slice (some ⟨gg, 0, none⟩) (acc.length + 1) cc) = w11 at HP11 HK11 HS11 HG11 HGr11 HLE11 HMD11 ⊢
    have HFE : Hid (Pr.locals (l.map Pr.tk) gk acc un = Pr.locals (l.map Pr.tk) gj (acc ++ [a9]) u9) := hdn (by rw [HGJ.out, locals_step HQ.out, HM9.out]; rfl)
    have HF9 := hdn (Pr.decl_fwd HM9.out)
    go_wp2_with fail
    go_roundg gj
    case measure => have := HGJ.out; omega
    case rel => exact ⟨acc ++ [a9], .slice (some ⟨gg, 0, none⟩) (acc.length + 1) cc, u9, by have := HF9.out.1; have := HGJ.out; omega, by have := HF9.out.1; simp only [List.length_append, List.length_singleton]; omega, hdn (HF9.out.inv HIU.out), hdn (by rw [← HFE.out, HH.out]), by rw [← HZE.out]; exact HGr11, HS11, HP11, HK11, HG11, HLE11, HMD11⟩
end
end Go.Proofs.YtdlchhimkelinaaGreatDoor
namespace Go.Proofs.YtdlchhimkelinaaGreatDoor
open Go.RowKit Go.Sort
namespace Pr
section
variable {t : List Tk}
theorem fields_fwd : ∀ (n : Nat) (acc : List Dc) (u : St) {l : List Dc} {v : St}, fields t n acc u = .ok (l, v) → Fwd 1 u v
 | 0, acc, u, l, v, h => by cases h
 | n + 1, acc, u, l, v, h => by
  unfold fields at h
  split at h
  ·injection h with h; injection h with _ h; subst h; exact Fwd.go u
  ·obtain ⟨a, u1, h1, h⟩ := th_ok h
   obtain ⟨b, u2, h2, h⟩ := th_ok h
   exact (((pointer_fwd h1).tr (must_fwd h2)).tr (fields_fwd n _ _ h)).le (by omega)
theorem structure_fwd {u v : St} {x : Sr} (h : structure_ t u = .ok (x, v)) : Fwd 1 u v := by
 obtain ⟨a, u1, h1, h⟩ := th_ok h
 obtain ⟨b, u2, h2, h⟩ := th_ok h
 obtain ⟨c, u3, h3, h⟩ := th_ok h
 obtain ⟨d, u4, h4, h⟩ := th_ok h
 injection h with h; injection h with _ h; subst h
 exact ((((must_fwd h1).tr (name_fwd h2)).tr (must_fwd h3)).tr (fields_fwd _ _ _ h4)).le (by omega)
theorem locals_fwd : ∀ (n : Nat) (acc : List Dc) (u : St) {l : List Dc} {v : St}, locals t n acc u = .ok (l, v) → Fwd 0 u v
 | 0, acc, u, l, v, h => by cases h
 | n + 1, acc, u, l, v, h => by
  unfold locals at h
  split at h
  ·obtain ⟨a, u1, h1, h⟩ := th_ok h
   exact ((decl_fwd h1).tr (locals_fwd n _ _ h)).le (by omega)
  ·injection h with h; injection h with _ h; subst h; exact Fwd.refl u
theorem proc_stp {u v : St} {x : Pc} (h : proc t u = .ok (x, v)) : Stp 1 u v := by
 obtain ⟨a, u1, h1, h⟩ := th_ok h
 obtain ⟨b, u2, h2, h⟩ := th_ok h
 obtain ⟨c, u3, h3, h⟩ := th_ok h
 obtain ⟨d, u4, h4, h⟩ := th_ok h
 obtain ⟨e, u5, h5, h⟩ := th_ok h
 obtain ⟨f, u6, h6, h⟩ := th_ok h
 obtain ⟨g, u7, h7, h⟩ := th_ok h
 injection h with h; injection h with _ h; subst h
 exact ((((((must_fwd h1).tr (name_fwd h2)).tr (listed_fwd (fun _ _ _ h => variable_fwd h) h3)).tr (must_fwd h4)).tr (locals_fwd _ _ _ h5)).stp.tr ((stmts_stp _ _ _ _ h6).tr (must_fwd h7).stp)).le (by omega)
theorem program_end {n : Nat} {ss : List Sr} {gs : List Dc} {ps : List Pc} {u : St} (h : (sg t u.i).kind = 0) : program t (n + 1) ss gs ps u = .ok (⟨⟨none, 0, ss⟩, ⟨none, 0, gs⟩, ⟨none, 0, ps⟩⟩, u) := by rw [program, if_pos h]
theorem program_1 {n : Nat} {ss : List Sr} {gs : List Dc} {ps : List Pc} {u : St} (h : (sg t u.i).kind ≠ 0) (h1 : is t u.i ⟨#[115, 116, 114, 117, 99, 116]⟩ = true) : program t (n + 1) ss gs ps u = th (structure_ t u) fun x u => program t n (ss ++ [x]) gs ps u := by rw [program, if_neg h, if_pos h1]
theorem program_3 {n : Nat} {ss : List Sr} {gs : List Dc} {ps : List Pc} {u : St} (h : (sg t u.i).kind ≠ 0) (h1 : is t u.i ⟨#[115, 116, 114, 117, 99, 116]⟩ = false) (h2 : is t u.i ⟨#[118, 111, 105, 100]⟩ = true) : program t (n + 1) ss gs ps u = th (proc t u) fun x u => program t n ss gs (ps ++ [x]) u := by rw [program, if_neg h, if_neg (by rw [h1]; simp), if_pos h2]
theorem program_2 {n : Nat} {ss : List Sr} {gs : List Dc} {ps : List Pc} {u : St} (h : (sg t u.i).kind ≠ 0) (h1 : is t u.i ⟨#[115, 116, 114, 117, 99, 116]⟩ = false) (h2 : is t u.i ⟨#[118, 111, 105, 100]⟩ = false) : program t (n + 1) ss gs ps u = th (decl t u) fun x u => program t n ss (gs ++ [x]) ps u := by rw [program, if_neg h, if_neg (by rw [h1]; simp), if_neg (by rw [h2]; simp)]
end
end Pr
/-- All but what was there, and three blocks. -/
def M3 (B : Nat) (r1 r2 r3 : Option Nat) (w : World) : World := mask (fun b => decide (b < B) || (decide (some b = r1) || (decide (some b = r2) || decide (some b = r3)))) w
theorem M3.par {B g : Nat} {r1 r2 r3 : Option Nat} {w w' : World} (h : w.grownBy w' (some g)) (hg : g < B) : Ext (M3 B r1 r2 r3 w) (M3 B r1 r2 r3 w') := Ext.of_mask fun b hb hlt => by
 refine ⟨hb, h.block b hlt ?_⟩
 simp only [Bool.or_eq_false_iff, decide_eq_false_iff_not] at hb
 intro e; injection e with e; omega
theorem M3.below {B : Nat} {r1 r2 r3 : Option Nat} {w w' : World} (h : Below w.heap.size w w') : Ext (M3 B r1 r2 r3 w) (M3 B r1 r2 r3 w') := Ext.of_mask fun b hb hlt => ⟨hb, h.block b hlt⟩
theorem M3.of_fresh {B B' : Nat} {r1 r2 r3 : Option Nat} {w : World} (hB : B ≤ B') (h1 : ∀ q, r1 = some q → q < B') (h2 : ∀ q, r2 = some q → q < B') (h3 : ∀ q, r3 = some q → q < B') : Ext (fresh B' w) (M3 B r1 r2 r3 w) := Ext.of_mask fun b hb _ => by
 simp only [Bool.or_eq_false_iff, decide_eq_false_iff_not] at hb ⊢
 exact ⟨⟨by omega, fun e => by have := h1 b e.symm; omega, fun e => by have := h2 b e.symm; omega, fun e => by have := h3 b e.symm; omega⟩, trivial⟩
theorem M3.fresh {B : Nat} {r1 r2 r3 : Option Nat} {w : World} : Ext (M3 B r1 r2 r3 w) (YtdlchhimkelinaaGreatDoor.fresh B w) := Ext.of_mask fun b hb _ => by
 simp only [Bool.or_eq_false_iff, decide_eq_false_iff_not] at hb ⊢
 exact ⟨hb.1, trivial⟩
theorem M3.push1 {B g : Nat} {r1 r2 r3 : Option Nat} {w w' : World} (h : w.grownBy w' r1) (hat : r1 = some g ∨ w.heap.size ≤ g) : Ext (M3 B r1 r2 r3 w) (M3 B (some g) r2 r3 w') := Ext.of_mask fun b hb hlt => by
 simp only [Bool.or_eq_false_iff, decide_eq_false_iff_not] at hb ⊢
 obtain ⟨h0, h1, h2, h3⟩ := hb
 refine ⟨⟨h0, ?_, h2, h3⟩, h.block b hlt h1⟩
 rcases hat with rfl | hat
 ·exact h1
 ·intro e; injection e with e; omega
theorem M3.push2 {B g : Nat} {r1 r2 r3 : Option Nat} {w w' : World} (h : w.grownBy w' r2) (hat : r2 = some g ∨ w.heap.size ≤ g) : Ext (M3 B r1 r2 r3 w) (M3 B r1 (some g) r3 w') := Ext.of_mask fun b hb hlt => by
 simp only [Bool.or_eq_false_iff, decide_eq_false_iff_not] at hb ⊢
 obtain ⟨h0, h1, h2, h3⟩ := hb
 refine ⟨⟨h0, h1, ?_, h3⟩, h.block b hlt h2⟩
 rcases hat with rfl | hat
 ·exact h2
 ·intro e; injection e with e; omega
theorem M3.push3 {B g : Nat} {r1 r2 r3 : Option Nat} {w w' : World} (h : w.grownBy w' r3) (hat : r3 = some g ∨ w.heap.size ≤ g) : Ext (M3 B r1 r2 r3 w) (M3 B r1 r2 (some g) w') := Ext.of_mask fun b hb hlt => by
 simp only [Bool.or_eq_false_iff, decide_eq_false_iff_not] at hb ⊢
 obtain ⟨h0, h1, h2, h3⟩ := hb
 refine ⟨⟨h0, h1, h2, ?_⟩, h.block b hlt h3⟩
 rcases hat with rfl | hat
 ·exact h3
 ·intro e; injection e with e; omega
/-- A row of one's own, its items' parts in a world of their own. -/
def Kd.Row {α : Type} (K : Kd α) (B : Nat) (xs : List α) (v : Value) (wm w : World) : Prop := ∃ ys : List α, ys.map K.er = xs ∧ w.ownsRow B K.T K.size v xs.length (ys.flatMap K.cells) ∧ ∀ y ∈ ys, K.R wm y
theorem Kd.Row.lt {α : Type} {K : Kd α} {B : Nat} {xs : List α} {v : Value} {wm w : World} (h : K.Row B xs v wm w) : ∀ q, v.ownBlock = some q → B ≤ q ∧ q < w.heap.size := by obtain ⟨ys, _, h, _⟩ := h; exact fun q hq => h.lt q hq
theorem Kd.Row.shape {α : Type} {K : Kd α} {B : Nat} {xs : List α} {v : Value} {wm w : World} (h : K.Row B xs v wm w) : ∃ a c, v = .slice a xs.length c := by obtain ⟨ys, _, h, _⟩ := h; exact own_shape h
theorem Kd.Row.to {α : Type} {K : Kd α} {B : Nat} {xs : List α} {v : Value} {wm w wm' w' : World} (h : K.Row B xs v wm w) (hx : Ext wm wm') {r : Option Nat} (hg : w.grownBy w' r) (hr : ∀ q, v.ownBlock = some q → r ≠ some q) : K.Row B xs v wm' w' := by
 obtain ⟨ys, h1, h2, h3⟩ := h
 refine ⟨ys, h1, h2.kept hg ?_, fun y hy => K.ext y hx (h3 y hy)⟩
 cases hv : v.ownBlock with
 | none => exact .inl rfl
 | some q => right; intro e; exact hr q hv e.symm
theorem Kd.Row.add {α : Type} {K : Kd α} {B g cap : Nat} {xs ys : List α} {y : α} {wm' w' : World} (h1 : ys.map K.er = xs) (h3 : ∀ y ∈ ys, K.R wm' y) (hy : K.R wm' y)
  (ho : w'.ownsRow B K.T K.size (.slice (some ⟨g, 0, none⟩) (xs.length + 1) cap) (xs.length + 1) (ys.flatMap K.cells ++ K.cells y)) : K.Row B (xs ++ [K.er y]) (.slice (some ⟨g, 0, none⟩) (xs.length + 1) cap) wm' w' := by
 refine ⟨ys ++ [y], by rw [List.map_append, h1]; rfl, by rw [List.flatMap_append, List.flatMap_singleton, List.length_append, List.length_singleton]; exact ho, fun z hz => ?_⟩
 rcases List.mem_append.1 hz with hz | hz
 ·exact h3 z hz
 ·rw [List.mem_singleton.1 hz]; exact hy
theorem Kd.Row.fin {α : Type} {K : Kd α} {B : Nat} {xs : List α} {v : Value} {wm w : World} (hl : xs.length * K.bytes ≤ 140737488351232) (hx : Ext wm (YtdlchhimkelinaaGreatDoor.fresh B w)) (h : K.Row B xs v wm w) :
  ∃ s : Sl α, v = .slice s.p s.l.length s.cap ∧ s.l.map K.er = xs ∧ K.Ly (YtdlchhimkelinaaGreatDoor.fresh B w) s.p s.l := by
 obtain ⟨ys, h1, h2, h3⟩ := h
 subst h1
 rw [List.length_map] at h2 hl
 obtain ⟨p, c, rfl, hp⟩ := own_lies K.len h2
 refine ⟨⟨p, c, ys⟩, rfl, rfl, hl, ?_⟩
 rcases hp with hp | ⟨b, o, rfl, hB, _, hk⟩
 ·exact .inl hp
 ·exact .inr ⟨b, o, rfl, fun k x hj => ⟨hk k x hj, K.ext x hx (h3 x (List.mem_of_getElem? hj))⟩⟩
/-- At a step of a region that draws: an item goes to the end of a row; what is known is told raw. -/
theorem Kd.step_pushR {α : Type} (K : Kd α) {P : Program} {ops : Array Oper} {o : Oper} {a : Act} {w : World} {R : Act → World → Prop} {Q : Exit → Act → World → Prop} {E : Prop} (hgd : o.guard = none) (t : TypeId) (i : TypeInfo) (z : Value) (hI : K.Inf P t i z) (s x : Operand)
  (ho : o.op = .call { callee := .builtin .append, args := #[s, x], argTypes := #[t, t] })
  (B n : Nat) (cs : List Value) (v : Value) (hs : a.eval s = v) (h2 : w.ownsRow B K.T K.size v n cs) (hB : B ≤ w.heap.size) (y : α) (hx : a.eval x = .slice (some ⟨w.heap.size, 0, none⟩) 1 1)
  (h63 : n + 1 ≤ maxLen) (hb : (n + 1) * K.bytes ≤ 140737488355328)
  (h : ∀ g cap w', w'.ownsRow B K.T K.size (.slice (some ⟨g, 0, none⟩) (n + 1) cap) (n + 1) (cs ++ K.cells y) → w.grownBy w' v.ownBlock → (v.ownBlock = some g ∨ w.heap.size ≤ g) → R (a.put o.dst (.slice (some ⟨g, 0, none⟩) (n + 1) cap)) w') :
  if Region.wanted o (yielded ops a.tmps) = true then Oper.wp P o a (w.alloc (.cells (K.cells y).toArray K.T)) R Q else E := by
 have hw : Region.wanted o (yielded ops a.tmps) = true := by simp [Region.wanted, hgd]
 rw [if_pos hw]
 have hm : Below w.heap.size w (w.alloc (.cells (K.cells y).toArray K.T)) := (Below.refl _ _).alloc (Nat.le_refl _) _
 refine wp_append_lies _ s x t ho B K.T i z K.size K.bytes hI.und hI.info hI.zero hI.size hI.bytes hI.cells hI.pos v n _ hs (h2.alloc _) ⟨w.heap.size, 0, none⟩ 1 1 (K.cells y) hx (by rw [K.len, Nat.one_mul]) ?_ (one_of (K.one y)) (by decide) h63 hb (Nat.le_trans hB hm.size) _ rfl ?_
 ·have := World.news_of_block (heap_alloc_new w (.cells (K.cells y).toArray K.T))
  simpa using this
 ·intro g cap w' ho2 hg2 hat hlt
  exact h g cap w' ho2 (below_grown hm hg2) (hat.imp id (fun e => by rw [e]; simp))
/-- Three rows of one's own: structs, globals, procedures. -/
structure P3 (B : Nat) (w : World) (v1 v2 v3 : Value) (ss : List Sr) (gs : List Dc) (ps : List Pc) : Prop where
 a : kSr.Row B ss v1 (M3 B v1.ownBlock v2.ownBlock v3.ownBlock w) w
 b : kDc.Row B gs v2 (M3 B v1.ownBlock v2.ownBlock v3.ownBlock w) w
 c : kPc.Row B ps v3 (M3 B v1.ownBlock v2.ownBlock v3.ownBlock w) w
 d12 : ∀ q, v1.ownBlock = some q → v2.ownBlock ≠ some q
 d13 : ∀ q, v1.ownBlock = some q → v3.ownBlock ≠ some q
 d23 : ∀ q, v2.ownBlock = some q → v3.ownBlock ≠ some q
section
variable {B : Nat} {w w' : World} {v1 v2 v3 : Value} {ss : List Sr} {gs : List Dc} {ps : List Pc}
theorem P3.par {g : Nat} (h : P3 B w v1 v2 v3 ss gs ps) (hg : w.grownBy w' (some g)) (hB : g < B) : P3 B w' v1 v2 v3 ss gs ps :=
 ⟨h.a.to (M3.par hg hB) hg (fun q hq e => by have := (h.a.lt q hq).1; injection e with e; omega), h.b.to (M3.par hg hB) hg (fun q hq e => by have := (h.b.lt q hq).1; injection e with e; omega), h.c.to (M3.par hg hB) hg (fun q hq e => by have := (h.c.lt q hq).1; injection e with e; omega), h.d12, h.d13, h.d23⟩
theorem P3.below (h : P3 B w v1 v2 v3 ss gs ps) (hb : Below w.heap.size w w') : P3 B w' v1 v2 v3 ss gs ps :=
 ⟨h.a.to (M3.below hb) (grownBy_of hb none) (fun _ _ e => by cases e), h.b.to (M3.below hb) (grownBy_of hb none) (fun _ _ e => by cases e), h.c.to (M3.below hb) (grownBy_of hb none) (fun _ _ e => by cases e), h.d12, h.d13, h.d23⟩
theorem P3.nil (B : Nat) (w : World) : P3 B w (.slice none 0 0) (.slice none 0 0) (.slice none 0 0) [] [] [] :=
 ⟨⟨[], rfl, World.ownsRow_nil _ _ _ _, by simp⟩, ⟨[], rfl, World.ownsRow_nil _ _ _ _, by simp⟩, ⟨[], rfl, World.ownsRow_nil _ _ _ _, by simp⟩, (fun _ h => by cases h), (fun _ h => by cases h), (fun _ h => by cases h)⟩
theorem P3.fresh (h : P3 B w v1 v2 v3 ss gs ps) {B' : Nat} (hB : w.heap.size ≤ B') : Ext (YtdlchhimkelinaaGreatDoor.fresh B' w') (M3 B v1.ownBlock v2.ownBlock v3.ownBlock w') ∨ B' < B := by
 by_cases hl : B' < B
 ·exact .inr hl
 ·exact .inl (M3.of_fresh (by omega) (fun q hq => by have := (h.a.lt q hq).2; omega) (fun q hq => by have := (h.b.lt q hq).2; omega) (fun q hq => by have := (h.c.lt q hq).2; omega))
theorem P3.push1 {g cap : Nat} {y : Sr} {ys : List Sr} (h : P3 B w v1 v2 v3 ss gs ps) (h1 : ys.map Sr.er = ss) (h3 : ∀ y ∈ ys, kSr.R (M3 B v1.ownBlock v2.ownBlock v3.ownBlock w) y) (hy : kSr.R (M3 B v1.ownBlock v2.ownBlock v3.ownBlock w) y)
  (ho : w'.ownsRow B 37 3 (.slice (some ⟨g, 0, none⟩) (ss.length + 1) cap) (ss.length + 1) (ys.flatMap Sr.cells ++ y.cells)) (hg : w.grownBy w' v1.ownBlock) (hat : v1.ownBlock = some g ∨ w.heap.size ≤ g) : P3 B w' (.slice (some ⟨g, 0, none⟩) (ss.length + 1) cap) v2 v3 (ss ++ [y.er]) gs ps := by
 have hx : Ext (M3 B v1.ownBlock v2.ownBlock v3.ownBlock w) (M3 B (some g) v2.ownBlock v3.ownBlock w') := M3.push1 hg hat
 refine ⟨Kd.Row.add (K := kSr) h1 (fun z hz => kSr.ext z hx (h3 z hz)) (kSr.ext y hx hy) ho, h.b.to hx hg (fun q hq e => h.d12 q e hq), h.c.to hx hg (fun q hq e => h.d13 q e hq), ?_, ?_, h.d23⟩
 ·intro q hq e
  injection hq with hq; subst hq
  rcases hat with hat | hat
  ·exact h.d12 _ hat e
  ·have := (h.b.lt _ e).2; simp only at this; omega
 ·intro q hq e
  injection hq with hq; subst hq
  rcases hat with hat | hat
  ·exact h.d13 _ hat e
  ·have := (h.c.lt _ e).2; simp only at this; omega
theorem P3.push2 {g cap : Nat} {y : Dc} {ys : List Dc} (h : P3 B w v1 v2 v3 ss gs ps) (h1 : ys.map Dc.er = gs) (h3 : ∀ y ∈ ys, kDc.R (M3 B v1.ownBlock v2.ownBlock v3.ownBlock w) y) (hy : kDc.R (M3 B v1.ownBlock v2.ownBlock v3.ownBlock w) y)
  (ho : w'.ownsRow B 77 3 (.slice (some ⟨g, 0, none⟩) (gs.length + 1) cap) (gs.length + 1) (ys.flatMap Dc.cells ++ y.cells)) (hg : w.grownBy w' v2.ownBlock) (hat : v2.ownBlock = some g ∨ w.heap.size ≤ g) : P3 B w' v1 (.slice (some ⟨g, 0, none⟩) (gs.length + 1) cap) v3 ss (gs ++ [y.er]) ps := by
 have hx : Ext (M3 B v1.ownBlock v2.ownBlock v3.ownBlock w) (M3 B v1.ownBlock (some g) v3.ownBlock w') := M3.push2 hg hat
 refine ⟨h.a.to hx hg (fun q hq e => h.d12 q hq e), Kd.Row.add (K := kDc) h1 (fun z hz => kDc.ext z hx (h3 z hz)) (kDc.ext y hx hy) ho, h.c.to hx hg (fun q hq e => h.d23 q e hq), ?_, h.d13, ?_⟩
 ·intro q hq e
  injection e with e; subst e
  rcases hat with hat | hat
  ·exact h.d12 _ hq hat
  ·have := (h.a.lt _ hq).2; simp only at this; omega
 ·intro q hq e
  injection hq with hq; subst hq
  rcases hat with hat | hat
  ·exact h.d23 _ hat e
  ·have := (h.c.lt _ e).2; simp only at this; omega
theorem P3.push3 {g cap : Nat} {y : Pc} {ys : List Pc} (h : P3 B w v1 v2 v3 ss gs ps) (h1 : ys.map Pc.er = ps) (h3 : ∀ y ∈ ys, kPc.R (M3 B v1.ownBlock v2.ownBlock v3.ownBlock w) y) (hy : kPc.R (M3 B v1.ownBlock v2.ownBlock v3.ownBlock w) y)
  (ho : w'.ownsRow B 40 6 (.slice (some ⟨g, 0, none⟩) (ps.length + 1) cap) (ps.length + 1) (ys.flatMap Pc.cells ++ y.cells)) (hg : w.grownBy w' v3.ownBlock) (hat : v3.ownBlock = some g ∨ w.heap.size ≤ g) : P3 B w' v1 v2 (.slice (some ⟨g, 0, none⟩) (ps.length + 1) cap) ss gs (ps ++ [y.er]) := by
 have hx : Ext (M3 B v1.ownBlock v2.ownBlock v3.ownBlock w) (M3 B v1.ownBlock v2.ownBlock (some g) w') := M3.push3 hg hat
 refine ⟨h.a.to hx hg (fun q hq e => h.d13 q hq e), h.b.to hx hg (fun q hq e => h.d23 q hq e), Kd.Row.add (K := kPc) h1 (fun z hz => kPc.ext z hx (h3 z hz)) (kPc.ext y hx hy) ho, h.d12, ?_, ?_⟩
 ·intro q hq e
  injection e with e; subst e
  rcases hat with hat | hat
  ·exact h.d13 _ hq hat
  ·have := (h.a.lt _ hq).2; simp only at this; omega
 ·intro q hq e
  injection e with e; subst e
  rcases hat with hat | hat
  ·exact h.d23 _ hq hat
  ·have := (h.b.lt _ hq).2; simp only at this; omega
end
def kPg : Kd Pg := ⟨26, 3, 72, Pg.cells, Pg.er, pgLies, fun _ => rfl, fun _ => by simp [Value.oneCell'], fun _ h k => pgLies_ext h k⟩
theorem size33 : (Tryz.prog.info? 26).map (·.size) = some 3 := by kernel_rfl
end Go.Proofs.YtdlchhimkelinaaGreatDoor
namespace Go.Proofs.YtdlchhimkelinaaGreatDoor
open Go.RowKit Go.Sort
attribute [local go_sem] field79_0 field79_1 field79_2 field79_3
section
variable {pb sb cap : Nat} {l : List Tx.Sg}
theorem program_any (w : World) (u : Pr.St) (h : PS w pb sb cap l u.i u.o u.b) (hg : Good l) (hT : Tex l) (hi : Pr.Inv u) :
  Calls Tryz.prog 30 #[.pointer (some ⟨pb, 0, none⟩)] w (Outc (kPg.Val w.heap.size) w pb sb cap l (Pr.program (l.map Pr.tk) ((l.map Pr.tk).length + 1) [] [] [] u)) := by
 obtain ⟨r, hr⟩ : ∃ r, r = Pr.program (l.map Pr.tk) ((l.map Pr.tk).length + 1) [] [] [] u := ⟨_, rfl⟩
 rw [← hr]
 have HR := hdn hr
 have HL := hdn hg
 have HTX := hdn hT
 have HI0 := hdn hi
 have hn : Below w.heap.size w (w.alloc (.cells #[.slice none 0 0, .slice none 0 0, .slice none 0 0] 26)) := (Below.refl _ _).alloc (Nat.le_refl _) _
 have HK : Hid (Bk (w.alloc (.cells #[.slice none 0 0, .slice none 0 0, .slice none 0 0] 26)) w.heap.size 26 #[.slice none 0 0, .slice none 0 0, .slice none 0 0]) := hdn (heap_alloc_new _ _)
 have HNE : Hid (w.heap.size ≠ pb ∧ w.heap.size ≠ sb ∧ pb < w.heap.size ∧ sb < w.heap.size) := hdn ⟨fun e => by have := h.pb_lt; omega, fun e => by have := h.sb_lt; omega, h.pb_lt, h.sb_lt⟩
 have HZ : Hid ((w.alloc (.cells #[.slice none 0 0, .slice none 0 0, .slice none 0 0] 26)).heap.size = w.heap.size + 1) := hdn (by simp)
 have HG : Hid (w.grownBy (w.alloc (.cells #[.slice none 0 0, .slice none 0 0, .slice none 0 0] 26)) (some pb)) := hdn (grownBy_of hn _)
 have HP := hdn (h.below hn)
 have HLL : Hid ((l.map Pr.tk).length = l.length ∧ l.length ≤ 6000000) := hdn ⟨List.length_map _, hg.len⟩
 generalize hwA : w.alloc (.cells #[.slice none 0 0, .slice none 0 0, .slice none 0 0] 26) = wA at HK HG HP HZ
 have hm : Below wA.heap.size wA (wA.alloc (.cells #[.slice none 0 0, .slice none 0 0, .slice none 0 0] 26)) := (Below.refl _ _).alloc (Nat.le_refl _) _
 have HP1 := hdn (HP.out.below hm); have HK1 := hdn (HK.out.below hm HK.out.lt); have HG1 := hdn (grownBy_below HG.out hm)
 have HS1 : Hid (Bk (wA.alloc (.cells #[.slice none 0 0, .slice none 0 0, .slice none 0 0] 26)) wA.heap.size 26 #[.slice none 0 0, .slice none 0 0, .slice none 0 0]) := hdn (heap_alloc_new _ _)
 have HSZ : Hid ((wA.alloc (.cells #[.slice none 0 0, .slice none 0 0, .slice none 0 0] 26)).heap.size = wA.heap.size + 1) := hdn (by simp)
 obtain ⟨S, hS⟩ : ∃ S, S = wA.heap.size := ⟨_, rfl⟩
 have HSN : Hid (S ≠ pb ∧ S ≠ sb ∧ w.heap.size ≠ S ∧ w.heap.size ≤ S ∧ pb < S ∧ sb < S) := hdn ⟨by have := HP.out.pb_lt; omega, by have := HP.out.sb_lt; omega, by have := HK.out.lt; omega, by have := HK.out.lt; omega, by have := HP.out.pb_lt; omega, by have := HP.out.sb_lt; omega⟩
 generalize hwB : wA.alloc (.cells #[.slice none 0 0, .slice none 0 0, .slice none 0 0] 26) = wB at HP1 HK1 HG1 HS1 HSZ
 rw [← hS] at HS1 HSZ
 have HSE := hdn hS
 clear hm HP HK HG hS
 clear h hg hr hn hT hi
 go_enter Tryz.func30, Tryz.ntmps30
 go_wp2_with fail
 (try rw [show w.alloc (.cells #[.slice none 0 0, .slice none 0 0, .slice none 0 0] 26) = wA from hwA])
 (try rw [show wA.alloc (.cells #[.slice none 0 0, .slice none 0 0, .slice none 0 0] 26) = wB from hwB])
 rw [← HSE.out]
 clear hwA hwB
 obtain ⟨j1, hJ1⟩ := infSr
 obtain ⟨j2, hJ2⟩ := infDc
 obtain ⟨j3, hJ3⟩ := infPc
 have HJ1 := hdn hJ1; have HJ2 := hdn hJ2; have HJ3 := hdn hJ3
 clear hJ1 hJ2 hJ3
 go_loopg [] ((l.map Pr.tk).length + 1) (fun g wr => ∃ (ss : List Sr) (gs : List Dc) (ps : List Pc) (v1 v2 v3 : Value) (un : Pr.St), l.length < un.i + g ∧ ss.length + gs.length + ps.length ≤ un.i ∧ Hid (Pr.Inv un) ∧ Hid (Pr.program (l.map Pr.tk) g ss gs ps un = Pr.program (l.map Pr.tk) ((l.map Pr.tk).length + 1) [] [] [] u) ∧ Hid (P3 wB.heap.size wr v1 v2 v3 ss gs ps) ∧ Hid (Bk wr S 26 #[v1, v2, v3]) ∧ Hid (PS wr pb sb cap l un.i un.o un.b) ∧ Hid (Bk wr w.heap.size 26 #[.slice none 0 0, .slice none 0 0, .slice none 0 0]) ∧ Hid (w.grownBy wr (some pb)) ∧ Hid (wB.heap.size ≤ wr.heap.size))
 case atStart => exact ⟨[], [], [], .slice none 0 0, .slice none 0 0, .slice none 0 0, u, by rw [HLL.out.1]; omega, Nat.zero_le _, HI0, hdn rfl, hdn (P3.nil _ _), HS1, HP1, HK1, HG1, hdn (Nat.le_refl _)⟩
 case round =>
  obtain ⟨ss, gs, ps, v1, v2, v3, un, hlt, hacc, HIU, HH, HGr, HSr, HPr, HKr, HGw, HLE⟩ := hrel
  obtain ⟨b1, c1, rfl⟩ := HGr.out.a.shape
  obtain ⟨b2, c2, rfl⟩ := HGr.out.b.shape
  obtain ⟨b3, c3, rfl⟩ := HGr.out.c.shape
  have HUL : Hid (un.i < l.length) := hdn HPr.out.lt
  obtain ⟨gj, hgj⟩ : ∃ k, gk = k + 1 := ⟨gk - 1, by have := HUL.out; omega⟩
  have HGJ := hdn hgj
  clear hgj
  obtain ⟨x, hx⟩ := HPr.out.at
  have HX := hdn hx
  have HSG := hdn (Pr.sg_tk hx)
  have HT1 : Hid (Pr.is (l.map Pr.tk) un.i ⟨#[115, 116, 114, 117, 99, 116]⟩ = (x.text.toList == [115, 116, 114, 117, 99, 116])) := hdn (by rw [Pr.is_tk hx]; rw [show (⟨#[115, 116, 114, 117, 99, 116]⟩ : ByteArray).toList = [115, 116, 114, 117, 99, 116] from Lib.toList_data _])
  have HT2 : Hid (Pr.is (l.map Pr.tk) un.i ⟨#[118, 111, 105, 100]⟩ = (x.text.toList == [118, 111, 105, 100])) := hdn (by rw [Pr.is_tk hx]; rw [show (⟨#[118, 111, 105, 100]⟩ : ByteArray).toList = [118, 111, 105, 100] from Lib.toList_data _])
  clear hx
  go_wp2_with fail
  refine (ahead_any x wr HPr.out HL.out HX.out).mono ?_; rintro en w4 ⟨rfl, hb⟩
  have HP4 := hdn (HPr.out.below hb); have HK4 := hdn (HKr.out.below hb HKr.out.lt); have HS4 := hdn (HSr.out.below hb HSr.out.lt); have HG4 := hdn (grownBy_below HGw.out hb); have HGr4 := hdn (HGr.out.below hb); have HLE4 := hdn (Nat.le_trans HLE.out hb.size)
  clear hb HPr HKr HSr HGw HGr HLE
  by_cases hk : x.kind = 0
  ·have hkd : (x.kind != 0) = false := by rw [hk]; rfl
   have HRS : Hid (r = .ok (⟨⟨none, 0, ss⟩, ⟨none, 0, gs⟩, ⟨none, 0, ps⟩⟩, un)) := hdn (by rw [HR.out, ← HH.out, HGJ.out, Pr.program_end (by rw [HSG.out]; exact hk)])
   clear hk
   obtain ⟨s1, h1, e1, y1⟩ := HGr4.out.a.fin (by have := HLL.out.2; have := HUL.out; show ss.length * 48 ≤ _; omega) M3.fresh
   obtain ⟨s2, h2, e2, y2⟩ := HGr4.out.b.fin (by have := HLL.out.2; have := HUL.out; show gs.length * 40 ≤ _; omega) M3.fresh
   obtain ⟨s3, h3, e3, y3⟩ := HGr4.out.c.fin (by have := HLL.out.2; have := HUL.out; show ps.length * 104 ≤ _; omega) M3.fresh
   have HS5 : Hid (Bk w4 S 26 (Pg.cells ⟨s1, s2, s3⟩).toArray) := hdn (by have := HS4.out; rw [h1, h2, h3] at this; exact this)
   have HE1 := hdn e1; have HE2 := hdn e2; have HE3 := hdn e3
   have HLY : Hid (pgLies (fresh wB.heap.size w4) ⟨s1, s2, s3⟩) := hdn ⟨y1, y2, y3⟩
   clear h1 h2 h3 e1 e2 e3 y1 y2 y3 HS4 HGr4
   go_wp2_with (first | ((with_reducible show wpList _ _ _ (Oper.mk (some 36) (Op.load 26 (Operand.tmp 3)) _ _ _ _ :: _) _ _); refine wpList_load_bk rfl 26 (.tmp 3) rfl S 26 (Pg.cells ⟨s1, s2, s3⟩).toArray rfl _ HS5.out Tryz.underlying26 rfl size33 ?_) | ((with_reducible show wpList _ _ _ (Oper.mk none (Op.store 26 (Operand.tmp 2) (Operand.tmp 36)) _ _ _ _ :: _) _ _); refine wpList_store_bk rfl 26 (.tmp 2) (.tmp 36) rfl w.heap.size 26 _ (Pg.cells ⟨s1, s2, s3⟩).toArray rfl rfl HK4.out size33 rfl (kPg.one _) ?_; intro wZ hB hF))
   exact bodyPost_ret (results_cell_row Tryz.results30 _ wZ w.heap.size 26 (Pg.cells ⟨s1, s2, s3⟩).toArray (0, 0) _ rfl hB Tryz.underlying26 rfl size33) rfl (Outc.ok (u := un) (a := ⟨⟨none, 0, ss⟩, ⟨none, 0, gs⟩, ⟨none, 0, ps⟩⟩) HRS.out (grownBy_mine HG4.out hF) ⟨⟨s1, s2, s3⟩, rfl, by show Pg.er _ = _; simp only [Pg.er, Sl.er]; rw [show s1.l.map Sr.er = ss from HE1.out, show s2.l.map Dc.er = gs from HE2.out, show s3.l.map Pc.er = ps from HE3.out], pgLies_ext ((fresh_par hF (by have := HSZ.out; have := HSN.out; omega)).trans (fresh_mono (by have := HSZ.out; have := HSN.out; omega) _)) HLY.out⟩ (HP4.out.far hF HNE.out.1 HNE.out.2.1))
  have hkd : (x.kind != 0) = true := by rw [bne_iff_ne]; exact hk
  have HKD : Hid ((Pr.sg (l.map Pr.tk) un.i).kind ≠ 0) := hdn (by rw [HSG.out]; exact hk)
  clear hk
  go_wp2_with fail
  refine (ahead_any x w4 HP4.out HL.out HX.out).mono ?_; rintro en w5 ⟨rfl, hb⟩
  have HP5 := hdn (HP4.out.below hb); have HK5 := hdn (HK4.out.below hb HK4.out.lt); have HS5 := hdn (HS4.out.below hb HS4.out.lt); have HG5 := hdn (grownBy_below HG4.out hb); have HGr5 := hdn (HGr4.out.below hb); have HLE5 := hdn (Nat.le_trans HLE4.out hb.size)
  clear hb HP4 HK4 HS4 HG4 HGr4 HLE4 hkd
  have HB1 : Hid (ss.length + gs.length + ps.length + 1 ≤ 6000000) := hdn (by have := HLL.out.2; have := HUL.out; omega)
  rcases q1 : (x.text.toList == [115, 116, 114, 117, 99, 116]) with _ | _
  case true =>
   have HQ1 := hdn (HT1.out.trans q1)
   have s2 : w5.cell? ⟨S, 0, none⟩ = some (.slice b1 ss.length c1) := HS5.out.cell 0
   go_wp2_with fail
   have HPD : Hid (PS w5.drew pb sb cap l un.i un.o un.b) := hdn (HP5.out.below (below_drew (Below.refl _ _)))
   have HKK : Hid (Bk w5.drew w.heap.size 26 #[.slice none 0 0, .slice none 0 0, .slice none 0 0]) := hdn HK5.out
   have HSD : Hid (Bk w5.drew S 26 #[.slice b1 ss.length c1, .slice b2 gs.length c2, .slice b3 ps.length c3]) := hdn HS5.out
   have HGD : Hid (w.grownBy w5.drew (some pb)) := hdn (grownBy_drew HG5.out)
   have HGrD := hdn (HGr5.out.below (below_drew (Below.refl _ _)))
   have HLED : Hid (wB.heap.size ≤ w5.drew.heap.size) := hdn HLE5.out
   have HPB : Hid (pb < wB.heap.size ∧ S < wB.heap.size ∧ sb < wB.heap.size ∧ w.heap.size < wB.heap.size) := hdn (by have := HSZ.out; have := HSN.out; omega)
   clear HP5 HK5 HS5 HG5 HGr5 HLE5
   go_region_law (first
    | (go_simp; go_at_call 60; (with_reducible refine (structure_any _ un HPD.out HL.out).mono ?_); intro en w7 ho; rcases hm7 : Pr.structure_ (l.map Pr.tk) un with n | ⟨a7, u7⟩; (· obtain ⟨p, rfl, g⟩ := ho.of_err hm7; exact ⟨rfl, Outc.err (by rw [HR.out, ← HH.out, HGJ.out, Pr.program_1 HKD.out HQ1.out, hm7]; rfl) (grownBy_tr HGD.out g)⟩); obtain ⟨v, rfl, ⟨z, rfl, hz, hlie⟩, h, g⟩ := ho.of_ok hm7; have HZE : Hid (kSr.er z = a7) := hdn hz; have HM7 := hdn hm7; have HP7 := hdn h; have HK7 := hdn (HKK.out.kept g HNE.out.1); have HS7 := hdn (HSD.out.kept g HSN.out.1); have HG7 := hdn (grownBy_tr HGD.out g); have HGr7 := hdn (HGrD.out.par g HPB.out.1); have HLE7 := hdn (Nat.le_trans HLED.out g.size); have HZL : Hid (kSr.R (M3 wB.heap.size (.slice b1 ss.length c1 : Value).ownBlock (.slice b2 gs.length c2 : Value).ownBlock (.slice b3 ps.length c3 : Value).ownBlock w7) z) := hdn (kSr.ext z (M3.of_fresh HLED.out (fun q hq => (HGrD.out.a.lt q hq).2) (fun q hq => (HGrD.out.b.lt q hq).2) (fun q hq => (HGrD.out.c.lt q hq).2)) hlie); obtain ⟨ys, hy1, hy2, hy3⟩ := HGr7.out.a; have HY1 := hdn hy1; have HY2 := hdn hy2; have HY3 := hdn hy3; have s27 : w7.cell? ⟨S, 0, none⟩ = some (.slice b1 ss.length c1) := HS7.out.cell 0; have s27a : ∀ ob, (w7.alloc ob).cell? ⟨S, 0, none⟩ = some (.slice b1 ss.length c1) := (fun ob => (World.cell?_alloc_lt _ _ _ HS7.out.lt).trans s27); clear h g ho hz hm7 hy1 hy2 hy3 hlie; dsimp only [kSr, kPc]; (try dsimp only))
    | (refine Kd.step_pushR kSr rfl 22 j1 _ HJ1.out (.tmp 21) (.tmp 24) rfl wB.heap.size ss.length _ (.slice b1 ss.length c1) rfl HY2.out HLE7.out z rfl (by have := HB1.out; unfold maxLen; omega) (by have := HB1.out; show (ss.length + 1) * 48 ≤ _; omega) ?_; intro gg cc w8 ho8 hgr8 hat8; have hown8 : ∀ q, (.slice b1 ss.length c1 : Value).ownBlock = some q → wB.heap.size ≤ q := (fun q hq => (HGr7.out.a.lt q hq).1); have HGr8 := hdn (HGr7.out.push1 HY1.out HY3.out HZL.out ho8 hgr8 hat8); have HP8 := hdn (HP7.out.grown hgr8 (fun q hq => by have := hown8 q hq; have := HPB.out; omega)); have HK8 := hdn (HK7.out.grown hgr8 (fun q hq => by have := hown8 q hq; have := HPB.out; omega)); have HS8 := hdn (HS7.out.grown hgr8 (fun q hq => by have := hown8 q hq; have := HPB.out; omega)); have HG8 := hdn (grownBy_up HG7.out hgr8 (fun q hq => by have := hown8 q hq; have := HPB.out; omega)); have HLE8 : Hid (wB.heap.size ≤ w8.heap.size) := hdn (Nat.le_trans HLE7.out hgr8.size); have s28 : w8.cell? ⟨S, 0, none⟩ = some (.slice b1 ss.length c1) := HS8.out.cell 0; have f28 : w8.frozen? ⟨S, 0, none⟩ = false := HS8.out.frozen 0; clear ho8 hgr8 hat8 hown8))
   all_goals
    have gS := grownBy_setC w8 ⟨S, 0, none⟩ (.slice (some ⟨gg, 0, none⟩) (ss.length + 1) cc)
    have HP9 := hdn (HP8.out.far gS HSN.out.1 HSN.out.2.1)
    have HK9 := hdn (HK8.out.kept gS HSN.out.2.2.1)
    have HS9 : Hid (Bk (w8.setCell ⟨S, 0, none⟩ (.slice (some ⟨gg, 0, none⟩) (ss.length + 1) cc)) S 26 #[.slice (some ⟨gg, 0, none⟩) (ss.length + 1) cc, .slice b2 gs.length c2, .slice b3 ps.length c3]) := hdn (HS8.out.set_ 0 _)
    have HG9 := hdn (grownBy_under HG8.out gS HSN.out.2.2.2.1)
    have HGr9 := hdn (HGr8.out.par gS (by have := HPB.out; show S < _; omega))
    have HLE9 := hdn (Nat.le_trans HLE8.out gS.size)
    clear gS s28 f28 s27 s27a s2 HP8 HK8 HS8 HG8 HLE8 HGr8 HP7 HK7 HS7 HG7 HLE7 HGr7 HY1 HY2 HY3 HZL
    generalize w8.setCell ⟨S, 0, none⟩ (.slice (some ⟨gg, 0, none⟩) (ss.length + 1) cc) = w9 at HP9 HK9 HS9 HG9 HGr9 HLE9 ⊢
    have HFE : Hid (Pr.program (l.map Pr.tk) gk ss gs ps un = Pr.program (l.map Pr.tk) gj (ss ++ [a7]) gs ps u7) := hdn (by rw [HGJ.out, Pr.program_1 HKD.out HQ1.out, HM7.out]; rfl)
    have HF7 := hdn ((Pr.structure_fwd HM7.out).stp)
    go_wp2_with fail
    go_roundg gj
    case measure => have := HGJ.out; omega
    case rel => exact ⟨ss ++ [a7], gs, ps, .slice (some ⟨gg, 0, none⟩) (ss.length + 1) cc, .slice b2 gs.length c2, .slice b3 ps.length c3, u7, by have := HF7.out.1; have := HGJ.out; omega, by have := HF7.out.1; simp only [List.length_append, List.length_singleton]; omega, hdn (HF7.out.2.2 HIU.out), hdn (by rw [← HFE.out, HH.out]), by rw [← HZE.out]; exact HGr9, HS9, HP9, HK9, HG9, HLE9⟩
  have HQ1 := hdn (HT1.out.trans q1)
  rcases q2 : (x.text.toList == [118, 111, 105, 100]) with _ | _
  case true =>
   have HQ2 := hdn (HT2.out.trans q2)
   have s2 : w5.cell? ⟨S, 2, none⟩ = some (.slice b3 ps.length c3) := HS5.out.cell 2
   go_wp2_with fail
   have HPD : Hid (PS w5.drew pb sb cap l un.i un.o un.b) := hdn (HP5.out.below (below_drew (Below.refl _ _)))
   have HKK : Hid (Bk w5.drew w.heap.size 26 #[.slice none 0 0, .slice none 0 0, .slice none 0 0]) := hdn HK5.out
   have HSD : Hid (Bk w5.drew S 26 #[.slice b1 ss.length c1, .slice b2 gs.length c2, .slice b3 ps.length c3]) := hdn HS5.out
   have HGD : Hid (w.grownBy w5.drew (some pb)) := hdn (grownBy_drew HG5.out)
   have HGrD := hdn (HGr5.out.below (below_drew (Below.refl _ _)))
   have HLED : Hid (wB.heap.size ≤ w5.drew.heap.size) := hdn HLE5.out
   have HPB : Hid (pb < wB.heap.size ∧ S < wB.heap.size ∧ sb < wB.heap.size ∧ w.heap.size < wB.heap.size) := hdn (by have := HSZ.out; have := HSN.out; omega)
   clear HP5 HK5 HS5 HG5 HGr5 HLE5
   go_region_law (first
    | (go_simp; go_at_call 61; (with_reducible refine (proc_any _ un HPD.out HL.out HTX.out HIU.out).mono ?_); intro en w7 ho; rcases hm7 : Pr.proc (l.map Pr.tk) un with n | ⟨a7, u7⟩; (· obtain ⟨p, rfl, g⟩ := ho.of_err hm7; exact ⟨rfl, Outc.err (by rw [HR.out, ← HH.out, HGJ.out, Pr.program_3 HKD.out HQ1.out HQ2.out, hm7]; rfl) (grownBy_tr HGD.out g)⟩); obtain ⟨v, rfl, ⟨z, rfl, hz, hlie⟩, h, g⟩ := ho.of_ok hm7; have HZE : Hid (kPc.er z = a7) := hdn hz; have HM7 := hdn hm7; have HP7 := hdn h; have HK7 := hdn (HKK.out.kept g HNE.out.1); have HS7 := hdn (HSD.out.kept g HSN.out.1); have HG7 := hdn (grownBy_tr HGD.out g); have HGr7 := hdn (HGrD.out.par g HPB.out.1); have HLE7 := hdn (Nat.le_trans HLED.out g.size); have HZL : Hid (kPc.R (M3 wB.heap.size (.slice b1 ss.length c1 : Value).ownBlock (.slice b2 gs.length c2 : Value).ownBlock (.slice b3 ps.length c3 : Value).ownBlock w7) z) := hdn (kPc.ext z (M3.of_fresh HLED.out (fun q hq => (HGrD.out.a.lt q hq).2) (fun q hq => (HGrD.out.b.lt q hq).2) (fun q hq => (HGrD.out.c.lt q hq).2)) hlie); obtain ⟨ys, hy1, hy2, hy3⟩ := HGr7.out.c; have HY1 := hdn hy1; have HY2 := hdn hy2; have HY3 := hdn hy3; have s27 : w7.cell? ⟨S, 2, none⟩ = some (.slice b3 ps.length c3) := HS7.out.cell 2; have s27a : ∀ ob, (w7.alloc ob).cell? ⟨S, 2, none⟩ = some (.slice b3 ps.length c3) := (fun ob => (World.cell?_alloc_lt _ _ _ HS7.out.lt).trans s27); clear h g ho hz hm7 hy1 hy2 hy3 hlie; dsimp only [kSr, kPc]; (try dsimp only))
    | (refine Kd.step_pushR kPc rfl 24 j3 _ HJ3.out (.tmp 30) (.tmp 33) rfl wB.heap.size ps.length _ (.slice b3 ps.length c3) rfl HY2.out HLE7.out z rfl (by have := HB1.out; unfold maxLen; omega) (by have := HB1.out; show (ps.length + 1) * 104 ≤ _; omega) ?_; intro gg cc w8 ho8 hgr8 hat8; have hown8 : ∀ q, (.slice b3 ps.length c3 : Value).ownBlock = some q → wB.heap.size ≤ q := (fun q hq => (HGr7.out.c.lt q hq).1); have HGr8 := hdn (HGr7.out.push3 HY1.out HY3.out HZL.out ho8 hgr8 hat8); have HP8 := hdn (HP7.out.grown hgr8 (fun q hq => by have := hown8 q hq; have := HPB.out; omega)); have HK8 := hdn (HK7.out.grown hgr8 (fun q hq => by have := hown8 q hq; have := HPB.out; omega)); have HS8 := hdn (HS7.out.grown hgr8 (fun q hq => by have := hown8 q hq; have := HPB.out; omega)); have HG8 := hdn (grownBy_up HG7.out hgr8 (fun q hq => by have := hown8 q hq; have := HPB.out; omega)); have HLE8 : Hid (wB.heap.size ≤ w8.heap.size) := hdn (Nat.le_trans HLE7.out hgr8.size); have s28 : w8.cell? ⟨S, 2, none⟩ = some (.slice b3 ps.length c3) := HS8.out.cell 2; have f28 : w8.frozen? ⟨S, 2, none⟩ = false := HS8.out.frozen 2; clear ho8 hgr8 hat8 hown8))
   all_goals
    have gS := grownBy_setC w8 ⟨S, 2, none⟩ (.slice (some ⟨gg, 0, none⟩) (ps.length + 1) cc)
    have HP9 := hdn (HP8.out.far gS HSN.out.1 HSN.out.2.1)
    have HK9 := hdn (HK8.out.kept gS HSN.out.2.2.1)
    have HS9 : Hid (Bk (w8.setCell ⟨S, 2, none⟩ (.slice (some ⟨gg, 0, none⟩) (ps.length + 1) cc)) S 26 #[.slice b1 ss.length c1, .slice b2 gs.length c2, .slice (some ⟨gg, 0, none⟩) (ps.length + 1) cc]) := hdn (HS8.out.set_ 2 _)
    have HG9 := hdn (grownBy_under HG8.out gS HSN.out.2.2.2.1)
    have HGr9 := hdn (HGr8.out.par gS (by have := HPB.out; show S < _; omega))
    have HLE9 := hdn (Nat.le_trans HLE8.out gS.size)
    clear gS s28 f28 s27 s27a s2 HP8 HK8 HS8 HG8 HLE8 HGr8 HP7 HK7 HS7 HG7 HLE7 HGr7 HY1 HY2 HY3 HZL
    generalize w8.setCell ⟨S, 2, none⟩ (.slice (some ⟨gg, 0, none⟩) (ps.length + 1) cc) = w9 at HP9 HK9 HS9 HG9 HGr9 HLE9 ⊢
    have HFE : Hid (Pr.program (l.map Pr.tk) gk ss gs ps un = Pr.program (l.map Pr.tk) gj ss gs (ps ++ [a7]) u7) := hdn (by rw [HGJ.out, Pr.program_3 HKD.out HQ1.out HQ2.out, HM7.out]; rfl)
    have HF7 := hdn (Pr.proc_stp HM7.out)
    go_wp2_with fail
    go_roundg gj
    case measure => have := HGJ.out; omega
    case rel => exact ⟨ss, gs, ps ++ [a7], .slice b1 ss.length c1, .slice b2 gs.length c2, .slice (some ⟨gg, 0, none⟩) (ps.length + 1) cc, u7, by have := HF7.out.1; have := HGJ.out; omega, by have := HF7.out.1; simp only [List.length_append, List.length_singleton]; omega, hdn (HF7.out.2.2 HIU.out), hdn (by rw [← HFE.out, HH.out]), by rw [← HZE.out]; exact HGr9, HS9, HP9, HK9, HG9, HLE9⟩
  have HQ2 := hdn (HT2.out.trans q2)
  have s2 : w5.cell? ⟨S, 1, none⟩ = some (.slice b2 gs.length c2) := HS5.out.cell 1
  go_wp2_with fail
  have HPD : Hid (PS w5.drew pb sb cap l un.i un.o un.b) := hdn (HP5.out.below (below_drew (Below.refl _ _)))
  have HKK : Hid (Bk w5.drew w.heap.size 26 #[.slice none 0 0, .slice none 0 0, .slice none 0 0]) := hdn HK5.out
  have HSD : Hid (Bk w5.drew S 26 #[.slice b1 ss.length c1, .slice b2 gs.length c2, .slice b3 ps.length c3]) := hdn HS5.out
  have HGD : Hid (w.grownBy w5.drew (some pb)) := hdn (grownBy_drew HG5.out)
  have HGrD := hdn (HGr5.out.below (below_drew (Below.refl _ _)))
  have HLED : Hid (wB.heap.size ≤ w5.drew.heap.size) := hdn HLE5.out
  have HPB : Hid (pb < wB.heap.size ∧ S < wB.heap.size ∧ sb < wB.heap.size ∧ w.heap.size < wB.heap.size) := hdn (by have := HSZ.out; have := HSN.out; omega)
  clear HP5 HK5 HS5 HG5 HGr5 HLE5
  go_region_law (first
   | (go_simp; go_at_call 62; (with_reducible refine (decl_any _ un HPD.out HL.out).mono ?_); intro en w7 ho; rcases hm7 : Pr.decl (l.map Pr.tk) un with n | ⟨a7, u7⟩; (· obtain ⟨p, rfl, g⟩ := ho.of_err hm7; exact ⟨rfl, Outc.err (by rw [HR.out, ← HH.out, HGJ.out, Pr.program_2 HKD.out HQ1.out HQ2.out, hm7]; rfl) (grownBy_tr HGD.out g)⟩); obtain ⟨v, rfl, ⟨z, rfl, hz⟩, h, g⟩ := ho.of_ok hm7; have HZE : Hid (kDc.er z = a7) := hdn hz; have HM7 := hdn hm7; have HP7 := hdn h; have HK7 := hdn (HKK.out.kept g HNE.out.1); have HS7 := hdn (HSD.out.kept g HSN.out.1); have HG7 := hdn (grownBy_tr HGD.out g); have HGr7 := hdn (HGrD.out.par g HPB.out.1); have HLE7 := hdn (Nat.le_trans HLED.out g.size); have HZL : Hid (kDc.R (M3 wB.heap.size (.slice b1 ss.length c1 : Value).ownBlock (.slice b2 gs.length c2 : Value).ownBlock (.slice b3 ps.length c3 : Value).ownBlock w7) z) := hdn (kDc.ext z (M3.of_fresh HLED.out (fun q hq => (HGrD.out.a.lt q hq).2) (fun q hq => (HGrD.out.b.lt q hq).2) (fun q hq => (HGrD.out.c.lt q hq).2)) trivial); obtain ⟨ys, hy1, hy2, hy3⟩ := HGr7.out.b; have HY1 := hdn hy1; have HY2 := hdn hy2; have HY3 := hdn hy3; have s27 : w7.cell? ⟨S, 1, none⟩ = some (.slice b2 gs.length c2) := HS7.out.cell 1; have s27a : ∀ ob, (w7.alloc ob).cell? ⟨S, 1, none⟩ = some (.slice b2 gs.length c2) := (fun ob => (World.cell?_alloc_lt _ _ _ HS7.out.lt).trans s27); clear h g ho hz hm7 hy1 hy2 hy3 ; (try dsimp only))
   | (refine Kd.step_pushR kDc rfl 23 j2 _ HJ2.out (.tmp 12) (.tmp 15) rfl wB.heap.size gs.length _ (.slice b2 gs.length c2) rfl HY2.out HLE7.out z rfl (by have := HB1.out; unfold maxLen; omega) (by have := HB1.out; show (gs.length + 1) * 40 ≤ _; omega) ?_; intro gg cc w8 ho8 hgr8 hat8; have hown8 : ∀ q, (.slice b2 gs.length c2 : Value).ownBlock = some q → wB.heap.size ≤ q := (fun q hq => (HGr7.out.b.lt q hq).1); have HGr8 := hdn (HGr7.out.push2 HY1.out HY3.out HZL.out ho8 hgr8 hat8); have HP8 := hdn (HP7.out.grown hgr8 (fun q hq => by have := hown8 q hq; have := HPB.out; omega)); have HK8 := hdn (HK7.out.grown hgr8 (fun q hq => by have := hown8 q hq; have := HPB.out; omega)); have HS8 := hdn (HS7.out.grown hgr8 (fun q hq => by have := hown8 q hq; have := HPB.out; omega)); have HG8 := hdn (grownBy_up HG7.out hgr8 (fun q hq => by have := hown8 q hq; have := HPB.out; omega)); have HLE8 : Hid (wB.heap.size ≤ w8.heap.size) := hdn (Nat.le_trans HLE7.out hgr8.size); have s28 : w8.cell? ⟨S, 1, none⟩ = some (.slice b2 gs.length c2) := HS8.out.cell 1; have f28 : w8.frozen? ⟨S, 1, none⟩ = false := HS8.out.frozen 1; clear ho8 hgr8 hat8 hown8))
  all_goals
   have gS := grownBy_setC w8 ⟨S, 1, none⟩ (.slice (some ⟨gg, 0, none⟩) (gs.length + 1) cc)
   have HP9 := hdn (HP8.out.far gS HSN.out.1 HSN.out.2.1)
   have HK9 := hdn (HK8.out.kept gS HSN.out.2.2.1)
   have HS9 : Hid (Bk (w8.setCell ⟨S, 1, none⟩ (.slice (some ⟨gg, 0, none⟩) (gs.length + 1) cc)) S 26 #[.slice b1 ss.length c1, .slice (some ⟨gg, 0, none⟩) (gs.length + 1) cc, .slice b3 ps.length c3]) := hdn (HS8.out.set_ 1 _)
   have HG9 := hdn (grownBy_under HG8.out gS HSN.out.2.2.2.1)
   have HGr9 := hdn (HGr8.out.par gS (by have := HPB.out; show S < _; omega))
   have HLE9 := hdn (Nat.le_trans HLE8.out gS.size)
   clear gS s28 f28 s27 s27a s2 HP8 HK8 HS8 HG8 HLE8 HGr8 HP7 HK7 HS7 HG7 HLE7 HGr7 HY1 HY2 HY3 HZL
   generalize w8.setCell ⟨S, 1, none⟩ (.slice (some ⟨gg, 0, none⟩) (gs.length + 1) cc) = w9 at HP9 HK9 HS9 HG9 HGr9 HLE9 ⊢
   have HFE : Hid (Pr.program (l.map Pr.tk) gk ss gs ps un = Pr.program (l.map Pr.tk) gj ss (gs ++ [a7]) ps u7) := hdn (by rw [HGJ.out, Pr.program_2 HKD.out HQ1.out HQ2.out, HM7.out]; rfl)
   have HF7 := hdn ((Pr.decl_fwd HM7.out).stp)
   go_wp2_with fail
   go_roundg gj
   case measure => have := HGJ.out; omega
   case rel => exact ⟨ss, gs ++ [a7], ps, .slice b1 ss.length c1, .slice (some ⟨gg, 0, none⟩) (gs.length + 1) cc, .slice b3 ps.length c3, u7, by have := HF7.out.1; have := HGJ.out; omega, by have := HF7.out.1; simp only [List.length_append, List.length_singleton]; omega, hdn (HF7.out.2.2 HIU.out), hdn (by rw [← HFE.out, HH.out]), by rw [← HZE.out]; exact HGr9, HS9, HP9, HK9, HG9, HLE9⟩
end
end Go.Proofs.YtdlchhimkelinaaGreatDoor
