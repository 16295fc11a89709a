/-
  DERIVED. The walk of the parser's procedures.
-/
import Derived.Test.YtlpnkllhpienhaaDoorQk
namespace Go.Proofs.YtlpnkllhpienhaaDoor
open Go.RowKit Go.Sort

/-! What was made between two moments. -/
theorem mid_start (B : Nat) (w : World) : Ext (fresh B w) (mask (fun b => decide (b < B) || decide (w.heap.size ≤ b)) w) := Ext.of_mask fun b hb hlt => by
  simp only [Bool.or_eq_false_iff, decide_eq_false_iff_not] at hb ⊢
  exact ⟨⟨hb, by omega⟩, trivial⟩
theorem mid_below {B C : Nat} {w w' : World} (h : Below w.heap.size w w') : Ext (mask (fun b => decide (b < B) || decide (C ≤ b)) w) (mask (fun b => decide (b < B) || decide (C ≤ b)) w') := Ext.of_mask fun b hb hlt => ⟨hb, h.block b hlt⟩
theorem mid_fresh (B C : Nat) (w : World) : Ext (mask (fun b => decide (b < B) || decide (C ≤ b)) w) (fresh B w) := Ext.of_mask fun b hb hlt => by
  simp only [Bool.or_eq_false_iff, decide_eq_false_iff_not] at hb ⊢
  exact ⟨hb.1, trivial⟩
theorem mid_par {B C g : Nat} {w w' : World} (h : w.grownBy w' (some g)) (hg : g < B ∨ C ≤ g) : Ext (mask (fun b => decide (b < B) || decide (C ≤ b)) w) (mask (fun b => decide (b < B) || decide (C ≤ b)) w') := Ext.of_mask fun b hb hlt => by
  simp only [Bool.or_eq_false_iff, decide_eq_false_iff_not] at hb ⊢
  exact ⟨hb, h.block b hlt (by intro e; injection e with e; omega)⟩
theorem mid_grown {B C : Nat} {r : Option Nat} {w w' : World} (h : w.grownBy w' r) (hr : ∀ q, r = some q → C ≤ q) : Ext (mask (fun b => decide (b < B) || decide (C ≤ b)) w) (mask (fun b => decide (b < B) || decide (C ≤ b)) w') := Ext.of_mask fun b hb hlt => by
  simp only [Bool.or_eq_false_iff, decide_eq_false_iff_not] at hb ⊢
  exact ⟨hb, h.block b hlt (by intro e; have := hr b e.symm; omega)⟩
attribute [local go_sem] field79_0 field79_1 field79_2 field79_3
section
variable {pb sb cap : Nat} {l : List Tx.Sg}
set_option maxHeartbeats 6400000 in
set_option maxRecDepth 100000 in
theorem proc_any (w : World) (u : Pr.St) (h : PS w pb sb cap l u.i u.o u.b) (hg : Good l) (hT : Tex l) (hi : Pr.Inv u) :
    Calls Tryd.prog 26 #[.pointer (some ⟨pb, 0, none⟩)] w (Outc (kPc.Val w.heap.size) w pb sb cap l (Pr.proc (l.map Pr.tk) u)) := by
  obtain ⟨r, hr⟩ : ∃ r, r = Pr.proc (l.map Pr.tk) u := ⟨_, rfl⟩
  rw [← hr]
  have HR := Lib.hid hr
  have HL := Lib.hid hg
  have HTX := Lib.hid hT
  have HI0 := Lib.hid hi
  have hn : Below w.heap.size w (w.alloc (.cells #[.string ByteArray.empty, .int .i64 0, .int .i64 0, .slice none 0 0, .slice none 0 0, .slice none 0 0] 63)) := (Below.refl _ _).alloc (Nat.le_refl _) _
  have HK : Hid (Bk (w.alloc (.cells #[.string ByteArray.empty, .int .i64 0, .int .i64 0, .slice none 0 0, .slice none 0 0, .slice none 0 0] 63)) w.heap.size 63 #[.string ByteArray.empty, .int .i64 0, .int .i64 0, .slice none 0 0, .slice none 0 0, .slice none 0 0]) := Lib.hid (heap_alloc_new _ _)
  have HNE : Hid (w.heap.size ≠ pb ∧ w.heap.size ≠ sb ∧ pb < w.heap.size ∧ sb < w.heap.size) := Lib.hid ⟨fun e => by have := h.pb_lt; omega, fun e => by have := h.sb_lt; omega, h.pb_lt, h.sb_lt⟩
  have HZ : Hid ((w.alloc (.cells #[.string ByteArray.empty, .int .i64 0, .int .i64 0, .slice none 0 0, .slice none 0 0, .slice none 0 0] 63)).heap.size = w.heap.size + 1) := Lib.hid (by simp)
  have HG : Hid (w.grownBy (w.alloc (.cells #[.string ByteArray.empty, .int .i64 0, .int .i64 0, .slice none 0 0, .slice none 0 0, .slice none 0 0] 63)) (some pb)) := Lib.hid (grownBy_of hn _)
  have HP := Lib.hid (h.below hn)
  have HLL : Hid ((l.map Pr.tk).length = l.length ∧ l.length ≤ 6000000) := Lib.hid ⟨List.length_map _, hg.len⟩
  generalize hwA : w.alloc (.cells #[.string ByteArray.empty, .int .i64 0, .int .i64 0, .slice none 0 0, .slice none 0 0, .slice none 0 0] 63) = wA at HK HG HP HZ
  clear h hg hr hn hT hi
  go_enter Tryd.func26, Tryd.ntmps26
  go_wp2_with fail
  rw [show w.alloc (.cells #[.string ⟨#[]⟩, .int .i64 0, .int .i64 0, .slice none 0 0, .slice none 0 0, .slice none 0 0] 63) = wA from hwA]
  clear hwA
  refine (must_any ⟨#[118, 111, 105, 100]⟩ (by decide) wA u HP.out HL.out).mono ?_; intro en w1 ho
  rcases hm1 : Pr.must (l.map Pr.tk) ⟨#[118, 111, 105, 100]⟩ u with n | ⟨a1, u1⟩
  · obtain ⟨p, rfl, g⟩ := ho.of_err hm1
    exact ⟨rfl, Outc.err (by rw [HR.out]; simp only [Pr.proc, Pr.th, hm1]) (grownBy_tr HG.out g)⟩
  obtain ⟨v, rfl, ⟨xx1, rfl, hxx1⟩, h, g⟩ := ho.of_ok hm1
  have HF1 := Lib.hid (Pr.must_fwd hm1)
  have HM1 := Lib.hid hm1; have HP1 := Lib.hid h; have HK1 := Lib.hid (HK.out.kept g HNE.out.1); have HG1 := Lib.hid (grownBy_tr HG.out g)
  clear h g ho hm1 hxx1 HP HK HG
  go_wp2_with fail
  refine (name_any w1 u1 HP1.out HL.out).mono ?_; intro en w2 ho
  rcases hm2 : Pr.name (l.map Pr.tk) u1 with n | ⟨a2, u2⟩
  · obtain ⟨p, rfl, g⟩ := ho.of_err hm2
    exact ⟨rfl, Outc.err (by rw [HR.out]; simp only [Pr.proc, Pr.th, HM1.out, hm2]) (grownBy_tr HG1.out g)⟩
  obtain ⟨v, rfl, ⟨x, rfl, hx⟩, h, g⟩ := ho.of_ok hm2
  have HF2 := Lib.hid (HF1.out.tr (Pr.name_fwd hm2))
  have HX := Lib.hid hx; have HM2 := Lib.hid hm2; have HP2 := Lib.hid h; have HK2 := Lib.hid (HK1.out.kept g HNE.out.1); have HG2 := Lib.hid (grownBy_tr HG1.out g)
  clear h g ho hm2 hx HP1 HK1 HG1
  go_upto_region 3 with fail
  have hm : Below w2.heap.size w2 (w2.alloc (.cells #[.int .i64 x.kind, .int .i64 x.pos, .string x.text, .int .i64 x.num] 79)) := (Below.refl _ _).alloc (Nat.le_refl _) _
  have HP3 := Lib.hid (HP2.out.below hm)
  have HK3 := Lib.hid (HK2.out.below hm HK2.out.lt)
  have HF : Hid (Bk (w2.alloc (.cells #[.int .i64 x.kind, .int .i64 x.pos, .string x.text, .int .i64 x.num] 79)) w2.heap.size 79 #[.int .i64 x.kind, .int .i64 x.pos, .string x.text, .int .i64 x.num]) := Lib.hid (heap_alloc_new _ _)
  have HG3 : Hid (w.grownBy (w2.alloc (.cells #[.int .i64 x.kind, .int .i64 x.pos, .string x.text, .int .i64 x.num] 79)) (some pb)) := Lib.hid (grownBy_below HG2.out hm)
  obtain ⟨F, hF⟩ : ∃ F, F = w2.heap.size := ⟨_, rfl⟩
  rw [← hF] at HF ⊢
  clear hF hm HP2 HK2 HG2
  generalize w2.alloc (.cells #[.int .i64 x.kind, .int .i64 x.pos, .string x.text, .int .i64 x.num] 79) = w3 at HP3 HK3 HF HG3 ⊢
  have t1 : w3.cell? ⟨F, 1, none⟩ = some (.int .i64 x.pos) := HF.out.cell 1
  have t2 : w3.cell? ⟨F, 2, none⟩ = some (.string x.text) := HF.out.cell 2
  go_upto_region 4 with fail
  clear t1 t2
  have hm : Below w3.heap.size w3 (w3.alloc (.cells #[.string x.text, .int .i64 x.pos, .int .i64 0, .slice none 0 0, .slice none 0 0, .slice none 0 0] 63)) := (Below.refl _ _).alloc (Nat.le_refl _) _
  have HP4 := Lib.hid (HP3.out.below hm)
  have HK4 := Lib.hid (HK3.out.below hm HK3.out.lt)
  have HS : Hid (Bk (w3.alloc (.cells #[.string x.text, .int .i64 x.pos, .int .i64 0, .slice none 0 0, .slice none 0 0, .slice none 0 0] 63)) w3.heap.size 63 #[.string x.text, .int .i64 x.pos, .int .i64 0, .slice none 0 0, .slice none 0 0, .slice none 0 0]) := Lib.hid (heap_alloc_new _ _)
  have HG4 : Hid (w.grownBy (w3.alloc (.cells #[.string x.text, .int .i64 x.pos, .int .i64 0, .slice none 0 0, .slice none 0 0, .slice none 0 0] 63)) (some pb)) := Lib.hid (grownBy_below HG3.out hm)
  have HSZ : Hid ((w3.alloc (.cells #[.string x.text, .int .i64 x.pos, .int .i64 0, .slice none 0 0, .slice none 0 0, .slice none 0 0] 63)).heap.size = w3.heap.size + 1) := Lib.hid (by simp)
  obtain ⟨S, hS⟩ : ∃ S, S = w3.heap.size := ⟨_, rfl⟩
  have HSN : Hid (S ≠ pb ∧ S ≠ sb ∧ w.heap.size ≠ S ∧ w.heap.size ≤ S ∧ pb < S ∧ sb < S) := Lib.hid ⟨by have := HP3.out.pb_lt; omega, by have := HP3.out.sb_lt; omega, by have := HK3.out.lt; omega, by have := HK3.out.lt; omega, by have := HP3.out.pb_lt; omega, by have := HP3.out.sb_lt; omega⟩
  rw [← hS] at HS HSZ ⊢
  clear hS hm HF HP3 HK3 HG3
  change Code.wp _ _ _ _ (w3.alloc (.cells #[.string x.text, .int .i64 x.pos, .int .i64 0, .slice none 0 0, .slice none 0 0, .slice none 0 0] 63))
  generalize w3.alloc (.cells #[.string x.text, .int .i64 x.pos, .int .i64 0, .slice none 0 0, .slice none 0 0, .slice none 0 0] 63) = w4 at HP4 HK4 HS HG4 HSZ ⊢
  go_wp2_with fail
  refine (params_any w4 u2 HP4.out HL.out).mono ?_; intro en w5 ho
  rcases hm3 : Pr.listed (l.map Pr.tk) (Pr.variable_ (l.map Pr.tk)) u2 with n | ⟨a3, u3⟩
  · obtain ⟨p, rfl, g⟩ := ho.of_err hm3
    exact ⟨rfl, Outc.err (by rw [HR.out]; simp only [Pr.proc, Pr.th, HM1.out, HM2.out, hm3]) (grownBy_tr HG4.out g)⟩
  obtain ⟨v, rfl, ⟨ps, rfl, hps, hply⟩, h, g⟩ := ho.of_ok hm3
  have HF3 := Lib.hid (HF2.out.tr (Pr.listed_fwd (fun _ _ _ h => Pr.variable_fwd h) hm3))
  have HPS := Lib.hid hps
  have HPL : Hid (declsLie (fresh w4.heap.size w5) ps) := Lib.hid hply
  have HM3 := Lib.hid hm3; have HP5 := Lib.hid h; have HK5 := Lib.hid (HK4.out.kept g HNE.out.1); have HS5 := Lib.hid (HS.out.kept g HSN.out.1); have HG5 := Lib.hid (grownBy_tr HG4.out g); have HLE5 := Lib.hid g.size
  clear h g ho hm3 hps hply HP4 HK4 HS HG4
  have s3 : w5.cell? ⟨S, 3, none⟩ = some (.slice none 0 0) := HS5.out.cell 3
  have f3 := HS5.out.frozen 3
  have gS := grownBy_setC w5 ⟨S, 3, none⟩ (.slice ps.p ps.l.length ps.cap)
  have HP6 := Lib.hid (HP5.out.far gS HSN.out.1 HSN.out.2.1); have HK6 := Lib.hid (HK5.out.kept gS HSN.out.2.2.1); have HG6 := Lib.hid (grownBy_under HG5.out gS HSN.out.2.2.2.1); have HLE6 := Lib.hid (Nat.le_trans HLE5.out gS.size)
  have HS6 : Hid (Bk (w5.setCell ⟨S, 3, none⟩ (.slice ps.p ps.l.length ps.cap)) S 63 #[.string x.text, .int .i64 x.pos, .int .i64 0, .slice ps.p ps.l.length ps.cap, .slice none 0 0, .slice none 0 0]) := Lib.hid (HS5.out.set_ 3 _)
  have HPL6 : Hid (declsLie (fresh w4.heap.size (w5.setCell ⟨S, 3, none⟩ (.slice ps.p ps.l.length ps.cap))) ps) := Lib.hid (declsLie_ext (fresh_par gS (by have := HSZ.out; have := HSN.out; show S < _; omega)) HPL.out)
  clear gS
  go_upto_region 5 with fail
  clear s3 f3 HP5 HK5 HS5 HG5 HLE5 HPL
  generalize w5.setCell ⟨S, 3, none⟩ (.slice ps.p ps.l.length ps.cap) = w6 at HP6 HK6 HS6 HG6 HLE6 HPL6 ⊢
  go_wp2_with fail
  refine (must_any ⟨#[123]⟩ (by decide) w6 u3 HP6.out HL.out).mono ?_; intro en w7 ho
  rcases hm4 : Pr.must (l.map Pr.tk) ⟨#[123]⟩ u3 with n | ⟨a4, u4⟩
  · obtain ⟨p, rfl, g⟩ := ho.of_err hm4
    exact ⟨rfl, Outc.err (by rw [HR.out]; simp only [Pr.proc, Pr.th, HM1.out, HM2.out, HM3.out, hm4]) (grownBy_tr HG6.out g)⟩
  obtain ⟨v, rfl, ⟨xx4, rfl, hxx4⟩, h, g⟩ := ho.of_ok hm4
  have HF4 := Lib.hid (HF3.out.tr (Pr.must_fwd hm4))
  have HM4 := Lib.hid hm4; have HP7 := Lib.hid h; have HK7 := Lib.hid (HK6.out.kept g HNE.out.1); have HS7 := Lib.hid (HS6.out.kept g HSN.out.1); have HG7 := Lib.hid (grownBy_tr HG6.out g); have HLE7 := Lib.hid (Nat.le_trans HLE6.out g.size)
  have HPL7 : Hid (declsLie (fresh w4.heap.size w7) ps) := Lib.hid (declsLie_ext (fresh_par g (by have := HSZ.out; have := HSN.out; omega)) HPL6.out)
  have HI4 := Lib.hid (HF4.out.inv HI0.out)
  clear h g ho hm4 hxx4 HP6 HK6 HS6 HG6 HLE6 HPL6
  obtain ⟨i0, hI⟩ := infDc
  have HI := Lib.hid hI
  clear hI
  go_wp2_with fail
  go_loopg [] ((l.map Pr.tk).length + 1) (fun g wr => ∃ (acc : List Dc) (v : Value) (un : Pr.St), l.length < un.i + g ∧ acc.length ≤ un.i ∧ Hid (Pr.Inv un) ∧ Hid (Pr.locals (l.map Pr.tk) g acc un = Pr.locals (l.map Pr.tk) ((l.map Pr.tk).length + 1) [] u4) ∧ Hid (kDc.Gr w7.heap.size acc v wr) ∧ Hid (Bk wr S 63 #[.string x.text, .int .i64 x.pos, .int .i64 0, .slice ps.p ps.l.length ps.cap, v, .slice none 0 0]) ∧ Hid (PS wr pb sb cap l un.i un.o un.b) ∧ Hid (Bk wr w.heap.size 63 #[.string ByteArray.empty, .int .i64 0, .int .i64 0, .slice none 0 0, .slice none 0 0, .slice none 0 0]) ∧ Hid (w.grownBy wr (some pb)) ∧ Hid (w7.heap.size ≤ wr.heap.size) ∧ Hid (declsLie (fresh w4.heap.size w7) ps → declsLie (mask (fun b => decide (b < w4.heap.size) || decide (w7.heap.size ≤ b)) wr) ps))
  case atStart => exact ⟨[], .slice none 0 0, u4, by rw [HLL.out.1]; omega, Nat.zero_le _, HI4, Lib.hid rfl, Lib.hid (Kd.Gr.nil kDc (World.ownsRow_nil _ _ _ _)), HS7, HP7, HK7, HG7, Lib.hid (Nat.le_refl _), Lib.hid (fun hd => declsLie_ext (mid_start _ _) hd)⟩
  case round =>
    obtain ⟨acc, v, un, hlt, hacc, HIU, HH, HGr, HSr, HPr, HKr, HGw, HLE, HMD⟩ := hrel
    obtain ⟨a0, c0, rfl⟩ : ∃ a0 c0, v = .slice a0 acc.length c0 := by obtain ⟨ys, _, h2, _⟩ := HGr.out; exact own_shape h2
    have HUL : Hid (un.i < l.length) := Lib.hid HPr.out.lt
    obtain ⟨gj, hgj⟩ : ∃ k, gk = k + 1 := ⟨gk - 1, by have := HUL.out; omega⟩
    have HGJ := Lib.hid hgj
    clear hgj
    go_wp2_with fail
    refine (declares_any wr un HPr.out HL.out).mono ?_; rintro en w8 ⟨rfl, hb⟩
    have HP8 := Lib.hid (HPr.out.below hb); have HK8 := Lib.hid (HKr.out.below hb HKr.out.lt); have HS8 := Lib.hid (HSr.out.below hb HSr.out.lt); have HG8 := Lib.hid (grownBy_below HGw.out hb); have HGr8 := Lib.hid (HGr.out.below hb); have HLE8 := Lib.hid (Nat.le_trans HLE.out hb.size)
    have HMD8 : Hid (declsLie (fresh w4.heap.size w7) ps → declsLie (mask (fun b => decide (b < w4.heap.size) || decide (w7.heap.size ≤ b)) w8) ps) := Lib.hid (fun hd => declsLie_ext (mid_below hb) (HMD.out hd))
    clear hb HPr HKr HSr HGw HGr HLE HMD
    rcases hq : Pr.declares (l.map Pr.tk) un with _ | _
    · have HQ := Lib.hid hq
      clear hq
      have HLS : Hid (Pr.locals (l.map Pr.tk) ((l.map Pr.tk).length + 1) [] u4 = .ok (acc, un)) := Lib.hid (by rw [← HH.out, HGJ.out, locals_end HQ.out])
      obtain ⟨sl, hv, hsl, hly⟩ := Kd.fin kDc (by have := HLL.out.2; have := HUL.out; show acc.length * 40 ≤ _; omega) HGr8.out
      injection hv with e1 e2 e3
      have HSL := Lib.hid hsl
      have HLY : Hid (declsLie (fresh w7.heap.size w8) sl) := Lib.hid hly
      have HPL8 : Hid (declsLie (fresh w4.heap.size w8) ps) := Lib.hid (declsLie_ext (mid_fresh _ _ _) (HMD8.out HPL7.out))
      have HS9 : Hid (Bk w8 S 63 #[.string x.text, .int .i64 x.pos, .int .i64 0, .slice ps.p ps.l.length ps.cap, .slice sl.p sl.l.length sl.cap, .slice none 0 0]) := Lib.hid (by have := HS8.out; rw [e1, e2, e3] at this; exact this)
      have HPS8 : Hid (pb < w8.heap.size ∧ w4.heap.size ≤ w8.heap.size ∧ pb < w7.heap.size) := Lib.hid ⟨HP8.out.pb_lt, Nat.le_trans HLE7.out HLE8.out, by have := HLE7.out; have := HSZ.out; have := HSN.out; omega⟩
      clear e1 e2 e3 hsl hly HS8 HGr8 HMD8 HPL7
      go_wp2_with fail
      refine (stmts_any HL.out HTX.out ((l.map Pr.tk).length + 1) w8 un HP8.out HIU.out (by rw [HLL.out.1]; omega)).mono ?_; intro en w9 ho
      rcases hm9 : Pr.stmts (l.map Pr.tk) ((l.map Pr.tk).length + 1) un with n | ⟨a9, u9⟩
      · obtain ⟨p, rfl, g⟩ := ho.of_err hm9
        exact ⟨rfl, Outc.err (by rw [HR.out]; simp only [Pr.proc, Pr.th, HM1.out, HM2.out, HM3.out, HM4.out, HLS.out, hm9]) (grownBy_tr HG8.out g)⟩
      obtain ⟨v, rfl, ⟨sp, sc, s, rfl, hse, hsl⟩, h, g⟩ := ho.of_ok hm9
      have HM9 := Lib.hid hm9; have HP9 := Lib.hid h; have HK9 := Lib.hid (HK8.out.kept g HNE.out.1); have HS10 := Lib.hid (HS9.out.kept g HSN.out.1); have HG9 := Lib.hid (grownBy_tr HG8.out g); have HSE := Lib.hid hse
      have HB9 : Hid (sLies (fresh w4.heap.size w9) sp s) := Lib.hid (sLies_ext (fresh_mono HPS8.out.2.1 _) hsl)
      have HLY9 : Hid (declsLie (fresh w4.heap.size w9) sl) := Lib.hid (declsLie_ext ((fresh_par g HPS8.out.2.2).trans (fresh_mono HLE7.out _)) HLY.out)
      have HPL9 : Hid (declsLie (fresh w4.heap.size w9) ps) := Lib.hid (declsLie_ext (fresh_par g (by have := HSZ.out; have := HSN.out; omega)) HPL8.out)
      clear h g ho hm9 hse hsl HP8 HK8 HS9 HG8 HLY HPL8
      have s5 : w9.cell? ⟨S, 5, none⟩ = some (.slice none 0 0) := HS10.out.cell 5
      have f5 := HS10.out.frozen 5
      have gS := grownBy_setC w9 ⟨S, 5, none⟩ (.slice sp s.len sc)
      have HP10 := Lib.hid (HP9.out.far gS HSN.out.1 HSN.out.2.1); have HK10 := Lib.hid (HK9.out.kept gS HSN.out.2.2.1); have HG10 := Lib.hid (grownBy_under HG9.out gS HSN.out.2.2.2.1)
      have HS11 : Hid (Bk (w9.setCell ⟨S, 5, none⟩ (.slice sp s.len sc)) S 63 (Pc.cells ⟨x.text, x.pos, 0, ps, sl, sp, sc, s⟩).toArray) := Lib.hid (HS10.out.set_ 5 _)
      have HLA : Hid (pcLies (fresh w4.heap.size (w9.setCell ⟨S, 5, none⟩ (.slice sp s.len sc))) ⟨x.text, x.pos, 0, ps, sl, sp, sc, s⟩) := Lib.hid (pcLies_ext (fresh_par gS (by have := HSZ.out; have := HSN.out; show S < _; omega)) ⟨HPL9.out, HLY9.out, HB9.out⟩)
      clear gS
      go_upto_region 9 with fail
      clear s5 f5 HP9 HK9 HS10 HG9 HB9 HLY9 HPL9
      generalize w9.setCell ⟨S, 5, none⟩ (.slice sp s.len sc) = w10 at HP10 HK10 HS11 HG10 HLA ⊢
      go_wp2_with fail
      refine (must_any ⟨#[125]⟩ (by decide) w10 u9 HP10.out HL.out).mono ?_; intro en w11 ho
      rcases hm11 : Pr.must (l.map Pr.tk) ⟨#[125]⟩ u9 with n | ⟨a11, u11⟩
      · obtain ⟨p, rfl, g⟩ := ho.of_err hm11
        exact ⟨rfl, Outc.err (by rw [HR.out]; simp only [Pr.proc, Pr.th, HM1.out, HM2.out, HM3.out, HM4.out, HLS.out, HM9.out, hm11]) (grownBy_tr HG10.out g)⟩
      obtain ⟨v, rfl, ⟨xe, rfl, hxe⟩, h, g⟩ := ho.of_ok hm11
      have HM11 := Lib.hid hm11; have HP11 := Lib.hid h; have HK11 := Lib.hid (HK10.out.kept g HNE.out.1); have HS12 := Lib.hid (HS11.out.kept g HSN.out.1); have HG11 := Lib.hid (grownBy_tr HG10.out g)
      have HLA11 : Hid (pcLies (fresh w4.heap.size w11) ⟨x.text, x.pos, 0, ps, sl, sp, sc, s⟩) := Lib.hid (pcLies_ext (fresh_par g (by have := HSZ.out; have := HSN.out; omega)) HLA.out)
      clear h g ho hm11 hxe HP10 HK10 HS11 HG10 HLA
      have s2 : w11.cell? ⟨S, 2, none⟩ = some (.int .i64 0) := HS12.out.cell 2
      have f2 := HS12.out.frozen 2
      have gS := grownBy_setC w11 ⟨S, 2, none⟩ (.int .i64 xe.pos)
      have HP12 := Lib.hid (HP11.out.far gS HSN.out.1 HSN.out.2.1); have HK12 := Lib.hid (HK11.out.kept gS HSN.out.2.2.1); have HG12 := Lib.hid (grownBy_under HG11.out gS HSN.out.2.2.2.1)
      have HS13 : Hid (Bk (w11.setCell ⟨S, 2, none⟩ (.int .i64 xe.pos)) S 63 (Pc.cells ⟨x.text, x.pos, xe.pos, ps, sl, sp, sc, s⟩).toArray) := Lib.hid (HS12.out.set_ 2 _)
      have HLA12 : Hid (pcLies (fresh w4.heap.size (w11.setCell ⟨S, 2, none⟩ (.int .i64 xe.pos))) ⟨x.text, x.pos, xe.pos, ps, sl, sp, sc, s⟩) := Lib.hid (pcLies_ext (fresh_par gS (by have := HSZ.out; have := HSN.out; show S < _; omega)) HLA11.out)
      clear gS
      go_upto_region 10 with fail
      clear s2 f2 HP11 HK11 HS12 HG11 HLA11
      generalize w11.setCell ⟨S, 2, none⟩ (.int .i64 xe.pos) = w12 at HP12 HK12 HS13 HG12 HLA12 ⊢
      go_wp2_with (first | ((with_reducible show wpList _ _ _ (Oper.mk (some 35) (Op.load 63 (Operand.tmp 4)) _ _ _ _ :: _) _ _); refine wpList_load_bk rfl 63 (.tmp 4) rfl S 63 (Pc.cells ⟨x.text, x.pos, xe.pos, ps, sl, sp, sc, s⟩).toArray rfl _ HS13.out Tryd.underlying63 rfl size63 ?_) | ((with_reducible show wpList _ _ _ (Oper.mk none (Op.store 63 (Operand.tmp 2) (Operand.tmp 35)) _ _ _ _ :: _) _ _); refine wpList_store_bk rfl 63 (.tmp 2) (.tmp 35) rfl w.heap.size 63 _ (Pc.cells ⟨x.text, x.pos, xe.pos, ps, sl, sp, sc, s⟩).toArray rfl rfl HK12.out size63 rfl (kPc.one _) ?_; intro wZ hB hF))
      exact bodyPost_ret (results_cell_row Tryd.results26 _ wZ w.heap.size 63 (Pc.cells ⟨x.text, x.pos, xe.pos, ps, sl, sp, sc, s⟩).toArray (0, 0) _ rfl hB Tryd.underlying63 rfl size63) rfl (Outc.ok (u := u11) (a := ⟨a2.text, 0, 0, ⟨none, 0, a3⟩, ⟨none, 0, acc⟩, none, 0, a9⟩) (by rw [HR.out]; simp only [Pr.proc, Pr.th, HM1.out, HM2.out, HM3.out, HM4.out, HLS.out, HM9.out, HM11.out]) (grownBy_mine HG12.out hF) ⟨⟨x.text, x.pos, xe.pos, ps, sl, sp, sc, s⟩, rfl, by show Pc.er _ = _; rw [← HX.out, ← HSE.out]; simp only [Pc.er, Sl.er, Pr.tk]; rw [show sl.l.map Dc.er = acc from HSL.out, show ps.l.map Dc.er = a3 from HPS.out], pcLies_ext ((fresh_par hF (by have := HSZ.out; have := HSN.out; omega)).trans (fresh_mono (by have := HSZ.out; have := HSN.out; omega) _)) HLA12.out⟩ (HP12.out.far hF HNE.out.1 HNE.out.2.1))
    · have HQ := Lib.hid hq
      clear hq
      have s2 : w8.cell? ⟨S, 4, none⟩ = some (.slice a0 acc.length c0) := HS8.out.cell 4
      go_wp2_with fail
      have HPD : Hid (PS w8.drew pb sb cap l un.i un.o un.b) := Lib.hid (HP8.out.below (below_drew (Below.refl _ _)))
      have HKD : Hid (Bk w8.drew w.heap.size 63 #[.string ByteArray.empty, .int .i64 0, .int .i64 0, .slice none 0 0, .slice none 0 0, .slice none 0 0]) := Lib.hid HK8.out
      have HSD : Hid (Bk w8.drew S 63 #[.string x.text, .int .i64 x.pos, .int .i64 0, .slice ps.p ps.l.length ps.cap, .slice a0 acc.length c0, .slice none 0 0]) := Lib.hid HS8.out
      have HGD : Hid (w.grownBy w8.drew (some pb)) := Lib.hid (grownBy_drew HG8.out)
      have HGrD := Lib.hid (HGr8.out.below (below_drew (Below.refl _ _)))
      have HLED : Hid (w7.heap.size ≤ w8.drew.heap.size) := Lib.hid HLE8.out
      have HMDD : Hid (declsLie (fresh w4.heap.size w7) ps → declsLie (mask (fun b => decide (b < w4.heap.size) || decide (w7.heap.size ≤ b)) w8.drew) ps) := Lib.hid (fun hd => declsLie_ext (mid_below (below_drew (Below.refl _ _))) (HMD8.out hd))
      have HB1 : Hid (acc.length + 1 ≤ maxLen ∧ (acc.length + 1) * 40 ≤ 140737488355328) := Lib.hid ⟨by have := HLL.out.2; have := HUL.out; unfold maxLen; omega, by have := HLL.out.2; have := HUL.out; omega⟩
      have HPB : Hid (pb < w4.heap.size ∧ S < w4.heap.size ∧ w4.heap.size ≤ w7.heap.size) := Lib.hid ⟨(by have := HSZ.out; have := HSN.out; omega), (by have := HSZ.out; have := HSN.out; omega), HLE7.out⟩
      clear HP8 HK8 HS8 HG8 HGr8 HLE8 HMD8
      go_region_law (first
        | (go_simp; go_at_call 27; (with_reducible refine (decl_any _ un HPD.out HL.out).mono ?_); intro en w9 ho; rcases hm9 : Pr.decl (l.map Pr.tk) un with n | ⟨a9, u9⟩; (· obtain ⟨p, rfl, g⟩ := ho.of_err hm9; exact ⟨rfl, Outc.err (by rw [HR.out]; simp only [Pr.proc, Pr.th, HM1.out, HM2.out, HM3.out, HM4.out]; rw [← HH.out, HGJ.out, locals_step HQ.out, hm9]; rfl) (grownBy_tr HGD.out g)⟩); obtain ⟨v, rfl, ⟨z, rfl, hz⟩, h, g⟩ := ho.of_ok hm9; have HZE : Hid (kDc.er z = a9) := Lib.hid hz; have HM9 := Lib.hid hm9; have HP9 := Lib.hid h; have HK9 := Lib.hid (HKD.out.kept g HNE.out.1); have HS9 := Lib.hid (HSD.out.kept g HSN.out.1); have HG9 := Lib.hid (grownBy_tr HGD.out g); have HGr9 := Lib.hid (HGrD.out.par g (by have := HPB.out; omega)); have HLE9 := Lib.hid (Nat.le_trans HLED.out g.size); have HMD9 : Hid (declsLie (fresh w4.heap.size w7) ps → declsLie (mask (fun b => decide (b < w4.heap.size) || decide (w7.heap.size ≤ b)) w9) ps) := Lib.hid (fun hd => declsLie_ext (mid_par g (.inl HPB.out.1)) (HMDD.out hd)); have s27 : w9.cell? ⟨S, 4, none⟩ = some (.slice a0 acc.length c0) := HS9.out.cell 4; have s27a : ∀ ob, (w9.alloc ob).cell? ⟨S, 4, none⟩ = some (.slice a0 acc.length c0) := (fun ob => (World.cell?_alloc_lt _ _ _ HS9.out.lt).trans s27); clear h g ho hz hm9; (try dsimp only))
        | (refine Kd.step_push kDc rfl 30 i0 _ HI.out (.tmp 22) (.tmp 25) rfl w7.heap.size acc (.slice a0 acc.length c0) rfl HGr9.out HLE9.out z rfl trivial HB1.out.1 HB1.out.2 ?_; rintro v' w10 hG8 ⟨gg, cc, rfl⟩ hgr8 hown8; have HGr10 := Lib.hid hG8; have HP10 := Lib.hid (HP9.out.grown hgr8 (fun q hq => by have := hown8 q hq; have := HPB.out; have := HSN.out; have := HSZ.out; omega)); have HK10 := Lib.hid (HK9.out.grown hgr8 (fun q hq => by have := hown8 q hq; have := HPB.out; have := HSN.out; omega)); have HS10 := Lib.hid (HS9.out.grown hgr8 (fun q hq => by have := hown8 q hq; have := HPB.out; omega)); have HG10 := Lib.hid (grownBy_up HG9.out hgr8 (fun q hq => by have := hown8 q hq; have := HPB.out; have := HSN.out; omega)); have HLE10 : Hid (w7.heap.size ≤ w10.heap.size) := Lib.hid (Nat.le_trans HLE9.out hgr8.size); have HMD10 : Hid (declsLie (fresh w4.heap.size w7) ps → declsLie (mask (fun b => decide (b < w4.heap.size) || decide (w7.heap.size ≤ b)) w10) ps) := Lib.hid (fun hd => declsLie_ext (mid_grown hgr8 hown8) (HMD9.out hd)); have s28 : w10.cell? ⟨S, 4, none⟩ = some (.slice a0 acc.length c0) := HS10.out.cell 4; have f28 : w10.frozen? ⟨S, 4, none⟩ = false := HS10.out.frozen 4; clear hG8 hgr8 hown8))
      all_goals
        have gS := grownBy_setC w10 ⟨S, 4, none⟩ (.slice (some ⟨gg, 0, none⟩) (acc.length + 1) cc)
        have HP11 := Lib.hid (HP10.out.far gS HSN.out.1 HSN.out.2.1)
        have HK11 := Lib.hid (HK10.out.kept gS HSN.out.2.2.1)
        have HS11 : Hid (Bk (w10.setCell ⟨S, 4, none⟩ (.slice (some ⟨gg, 0, none⟩) (acc.length + 1) cc)) S 63 #[.string x.text, .int .i64 x.pos, .int .i64 0, .slice ps.p ps.l.length ps.cap, .slice (some ⟨gg, 0, none⟩) (acc.length + 1) cc, .slice none 0 0]) := Lib.hid (HS10.out.set_ 4 _)
        have HG11 := Lib.hid (grownBy_under HG10.out gS HSN.out.2.2.2.1)
        have HGr11 := Lib.hid (HGr10.out.par gS (by have := HPB.out; show S < _; omega))
        have HLE11 := Lib.hid (Nat.le_trans HLE10.out gS.size)
        have HMD11 : Hid (declsLie (fresh w4.heap.size w7) ps → declsLie (mask (fun b => decide (b < w4.heap.size) || decide (w7.heap.size ≤ b)) (w10.setCell ⟨S, 4, none⟩ (.slice (some ⟨gg, 0, none⟩) (acc.length + 1) cc))) ps) := Lib.hid (fun hd => declsLie_ext (mid_par gS (.inl HPB.out.2.1)) (HMD10.out hd))
        clear gS s28 f28 s27 s27a s2 HP10 HK10 HS10 HG10 HLE10 HGr10 HMD10 HP9 HK9 HS9 HG9 HLE9 HGr9 HMD9
        generalize w10.setCell ⟨S, 4, none⟩ (.slice (some ⟨gg, 0, none⟩) (acc.length + 1) cc) = w11 at HP11 HK11 HS11 HG11 HGr11 HLE11 HMD11 ⊢
        have HFE : Hid (Pr.locals (l.map Pr.tk) gk acc un = Pr.locals (l.map Pr.tk) gj (acc ++ [a9]) u9) := Lib.hid (by rw [HGJ.out, locals_step HQ.out, HM9.out]; rfl)
        have HF9 := Lib.hid (Pr.decl_fwd HM9.out)
        go_wp2_with fail
        go_roundg gj
        case measure => have := HGJ.out; omega
        case rel => exact ⟨acc ++ [a9], .slice (some ⟨gg, 0, none⟩) (acc.length + 1) cc, u9, by have := HF9.out.1; have := HGJ.out; omega, by have := HF9.out.1; simp only [List.length_append, List.length_singleton]; omega, Lib.hid (HF9.out.inv HIU.out), Lib.hid (by rw [← HFE.out, HH.out]), by rw [← HZE.out]; exact HGr11, HS11, HP11, HK11, HG11, HLE11, HMD11⟩
end
end Go.Proofs.YtlpnkllhpienhaaDoor
