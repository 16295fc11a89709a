/-
  DERIVED. The walks of the parser's lists in parentheses.
-/
import Derived.Test.YtlpnkllhpienhaaDoorQp
namespace Go.Proofs.YtlpnkllhpienhaaDoor
open Go.RowKit Go.Sort

theorem fresh_new {B X : Nat} {w w' : World} (h : Below w.heap.size w w') (hX : w.heap.size ≤ X) : Ext (fresh B w) (rest B (some X) w') := Ext.of_mask fun b hb hlt => by
  simp only [Bool.or_eq_false_iff, decide_eq_false_iff_not] at hb ⊢
  exact ⟨⟨hb, by intro e; injection e with e; omega⟩, h.block b hlt⟩
theorem Kd.Gr.lt {α : Type} {K : Kd α} {B : Nat} {xs : List α} {v : Value} {w : World} (h : K.Gr B xs v w) : ∀ g, v.ownBlock = some g → B ≤ g ∧ g < w.heap.size := by
  obtain ⟨ys, h1, h2, h3⟩ := h
  exact fun g hg => h2.lt g hg
attribute [local go_sem] field79_0 field79_1 field79_2 field79_3
section
variable {pb sb cap : Nat} {l : List Tx.Sg}
set_option maxHeartbeats 3200000 in
set_option maxRecDepth 100000 in
theorem args_any (w : World) (u : Pr.St) (h : PS w pb sb cap l u.i u.o u.b) (hg : Good l) :
    Calls Tryd.prog 62 #[.pointer (some ⟨pb, 0, none⟩), .func (.func 63) #[] #[]] w (Outc (kVl.Lst w.heap.size) w pb sb cap l (Pr.listed (l.map Pr.tk) (Pr.side (l.map Pr.tk)) u)) := by
  obtain ⟨r, hr⟩ : ∃ r, r = Pr.listed (l.map Pr.tk) (Pr.side (l.map Pr.tk)) u := ⟨_, rfl⟩
  rw [← hr]
  have HR := Lib.hid hr
  have HL := Lib.hid hg
  have HP := Lib.hid h
  have HLT : Hid (pb < w.heap.size ∧ sb < w.heap.size) := Lib.hid ⟨h.pb_lt, h.sb_lt⟩
  have HLL : Hid ((l.map Pr.tk).length = l.length ∧ l.length ≤ 6000000) := Lib.hid ⟨List.length_map _, hg.len⟩
  obtain ⟨i0, hI⟩ := infVl
  have HI := Lib.hid hI
  clear h hg hr hI
  go_enter Tryd.func62, Tryd.ntmps62
  go_wp2_with fail
  refine (must_any ⟨#[40]⟩ (by decide) w u HP.out HL.out).mono ?_; intro en w1 ho
  rcases hm1 : Pr.must (l.map Pr.tk) ⟨#[40]⟩ u with n | ⟨a1, u1⟩
  · obtain ⟨p, rfl, g1⟩ := ho.of_err hm1
    exact ⟨rfl, Outc.err (by rw [HR.out]; simp only [Pr.listed, Pr.th, hm1]) g1⟩
  obtain ⟨v, rfl, ⟨x1, rfl, hx1⟩, h1, g1⟩ := ho.of_ok hm1
  have HM1 := Lib.hid hm1; have HP1 := Lib.hid h1; have HG1 := Lib.hid g1
  clear h1 g1 ho hx1 hm1 HP
  go_wp2_with fail
  refine (may_any ⟨#[41]⟩ (by decide) w1 u1 HP1.out HL.out).mono ?_; rintro en w2 ⟨q, hq, rfl, h2, g2⟩
  have HP2 := Lib.hid h2; have HG2 := Lib.hid (grownBy_tr HG1.out g2); have HQ := Lib.hid hq
  clear h2 g2 hq HP1 HG1
  cases q with
  | true =>
    go_wp2_with fail
    exact bodyPost_ret (results_tmp rfl _ _ _) rfl (Outc.ok (u := u1.go) (a := []) (by rw [HR.out]; simp only [Pr.listed, Pr.th, HM1.out, HQ.out, if_true]) HG2.out ⟨⟨none, 0, []⟩, rfl, rfl, (show 0 * _ ≤ 140737488351232 by simp), .inl rfl⟩ HP2.out)
  | false =>
  go_wp2_with fail
  refine (side_any w2 u1 HP2.out HL.out).mono ?_; intro en w3 ho
  rcases hm3 : Pr.side (l.map Pr.tk) u1 with n | ⟨a3, u3⟩
  · obtain ⟨p, rfl, g3⟩ := ho.of_err hm3
    exact ⟨rfl, Outc.err (by rw [HR.out]; simp only [Pr.listed, Pr.th, HM1.out, HQ.out, Bool.false_eq_true, if_false, hm3]) (grownBy_tr HG2.out g3)⟩
  have HF3 := Lib.hid (Pr.side_fwd hm3)
  have HU1 : Hid (u.i + 1 ≤ u1.i) := Lib.hid (Pr.must_fwd HM1.out).1
  obtain ⟨v, rfl, ⟨y, rfl, hz, hlie⟩, h3, g3⟩ := ho.of_ok hm3
  have HLI : Hid (kVl.R (fresh w2.heap.size w3) y) := Lib.hid hlie
  have HZ : Hid (kVl.er y = a3) := Lib.hid hz
  have HM3 := Lib.hid hm3; have HP3 := Lib.hid h3; have HG3 := Lib.hid (grownBy_tr HG2.out g3)
  have HW23 : Hid (w2.heap.size ≤ w3.heap.size) := Lib.hid g3.size
  have HPB2 : Hid (pb < w2.heap.size) := Lib.hid HP2.out.pb_lt
  have HWW : Hid (w.heap.size ≤ w2.heap.size) := Lib.hid HG2.out.size
  clear h3 g3 ho hz hm3 HP2 HG2 hlie
  go_wp2_with (first | ((with_reducible show wpList _ _ _ (Oper.mk (some 13) _ _ _ _ _ :: _) _ _); refine wpList_one rfl 50 47 (.tmp 12) rfl (kVl.cells y).toArray rfl HI.out.und i0 _ kVl.size HI.out.info HI.out.zero HI.out.size HI.out.pos (by decide) rfl ?_))
  have hm : Below w3.heap.size w3 (w3.alloc (.cells (kVl.cells y).toArray 47)) := (Below.refl _ _).alloc (Nat.le_refl _) _
  have HP4 := Lib.hid (HP3.out.below hm); have HG4 := Lib.hid (grownBy_below HG3.out hm)
  have HGr : Hid (kVl.Gr w.heap.size [a3] (.slice (some ⟨w3.heap.size, 0, none⟩) 1 1) (w3.alloc (.cells (kVl.cells y).toArray 47))) := Lib.hid (by rw [← HZ.out]; exact Kd.Gr.one kVl (heap_alloc_new _ _) (Nat.le_trans HWW.out HW23.out) (kVl.ext y ((fresh_mono HWW.out _).trans (fresh_new hm (Nat.le_refl _))) HLI.out))
  clear hm HP3 HG3 HLI HW23 HPB2 HWW
  generalize w3.alloc (.cells (kVl.cells y).toArray 47) = w4 at HP4 HG4 HGr ⊢
  go_loopg [5] ((l.map Pr.tk).length + 1) (fun g v wr => ∃ (acc : List Vl) (un : Pr.St), l.length < un.i + g ∧ acc.length ≤ un.i ∧ Hid (Pr.more (l.map Pr.tk) (Pr.side (l.map Pr.tk)) g acc un = Pr.more (l.map Pr.tk) (Pr.side (l.map Pr.tk)) ((l.map Pr.tk).length + 1) [a3] u3) ∧ Hid (kVl.Gr w.heap.size acc v wr) ∧ Hid (PS wr pb sb cap l un.i un.o un.b) ∧ Hid (w.grownBy wr (some pb)))
  case atStart => exact ⟨[a3], u3, by rw [HLL.out.1]; omega, by have := HF3.out.1; simp only [List.length_singleton]; omega, Lib.hid rfl, HGr, HP4, HG4⟩
  case round =>
    obtain ⟨acc, un, hlt, hacc, HH, HGr, HPr, HGw⟩ := hrel
    have HUL : Hid (un.i < l.length) := Lib.hid HPr.out.lt
    obtain ⟨gj, hgj⟩ : ∃ k, gk = k + 1 := ⟨gk - 1, by have := HUL.out; omega⟩
    have HGJ := Lib.hid hgj
    clear hgj
    go_wp2_with fail
    refine (may_any ⟨#[44]⟩ (by decide) wr un HPr.out HL.out).mono ?_; rintro en w5 ⟨q, hq, rfl, h5, g5⟩
    have HP5 := Lib.hid h5; have HG5 := Lib.hid (grownBy_tr HGw.out g5); have HGr5 := Lib.hid (HGr.out.par g5 HLT.out.1); have HQ5 := Lib.hid hq
    clear h5 g5 hq
    cases q with
    | false =>
      go_wp2_with fail
      refine (must_any ⟨#[41]⟩ (by decide) w5 un HP5.out HL.out).mono ?_; intro en w6 ho
      have hmore : Pr.more (l.map Pr.tk) (Pr.side (l.map Pr.tk)) gk acc un = Pr.th (Pr.must (l.map Pr.tk) ⟨#[41]⟩ un) fun _ u => .ok (acc, u) := by rw [HGJ.out]; simp only [Pr.more, HQ5.out, Bool.false_eq_true, if_false]
      have hres : r = Pr.th (Pr.must (l.map Pr.tk) ⟨#[41]⟩ un) fun _ u => .ok (acc, u) := by rw [HR.out]; simp only [Pr.listed, Pr.th, HM1.out, HQ.out, Bool.false_eq_true, if_false, HM3.out]; rw [← HH.out, hmore]; rfl
      rcases hm6 : Pr.must (l.map Pr.tk) ⟨#[41]⟩ un with n | ⟨a6, u6⟩
      · obtain ⟨p, rfl, g6⟩ := ho.of_err hm6
        exact ⟨rfl, Outc.err (by rw [hres, hm6]; rfl) (grownBy_tr HG5.out g6)⟩
      obtain ⟨v, rfl, ⟨x6, rfl, hx6⟩, h6, g6⟩ := ho.of_ok hm6
      have HRS : Hid (r = .ok (acc, u6)) := Lib.hid (by rw [hres, hm6]; rfl)
      have HP6 := Lib.hid h6; have HG6 := Lib.hid (grownBy_tr HG5.out g6); have HGr6 := Lib.hid (HGr5.out.par g6 HLT.out.1)
      clear h6 g6 ho hx6 hm6 hres hmore
      go_wp2_with fail
      obtain ⟨sl, hv, hsl, hly⟩ := Kd.fin kVl (by have := HLL.out.2; have := HUL.out; show acc.length * 144 ≤ _; omega) HGr6.out
      exact bodyPost_ret (v := u5) (results_tmp (t := 4) rfl _ _ _) rfl (Outc.ok (u := u6) (a := acc) HRS.out HG6.out ⟨sl, hv, hsl, hly⟩ HP6.out)
    | true =>
      go_wp2_with fail
      refine (side_any w5 un.go HP5.out HL.out).mono ?_; intro en w6 ho
      have hmore : Pr.more (l.map Pr.tk) (Pr.side (l.map Pr.tk)) gk acc un = Pr.th (Pr.side (l.map Pr.tk) un.go) fun x u => Pr.more (l.map Pr.tk) (Pr.side (l.map Pr.tk)) gj (acc ++ [x]) u := by rw [HGJ.out]; simp only [Pr.more, HQ5.out, if_true]
      rcases hm6 : Pr.side (l.map Pr.tk) un.go with n | ⟨a6, u6⟩
      · obtain ⟨p, rfl, g6⟩ := ho.of_err hm6
        exact ⟨rfl, Outc.err (by rw [HR.out]; simp only [Pr.listed, Pr.th, HM1.out, HQ.out, Bool.false_eq_true, if_false, HM3.out]; rw [← HH.out, hmore, hm6]; rfl) (grownBy_tr HG5.out g6)⟩
      have HF6 := Lib.hid (Pr.side_fwd hm6)
      have HMO : Hid (Pr.more (l.map Pr.tk) (Pr.side (l.map Pr.tk)) gk acc un = Pr.more (l.map Pr.tk) (Pr.side (l.map Pr.tk)) gj (acc ++ [a6]) u6) := Lib.hid (by rw [hmore, hm6]; rfl)
      obtain ⟨v, rfl, ⟨z, rfl, hz, hlie⟩, h6, g6⟩ := ho.of_ok hm6
      have HLZ : Hid (kVl.R (rest w.heap.size u5.ownBlock w6) z) := Lib.hid (kVl.ext z (fresh_rest HG5.out.size (fun g hg => (HGr5.out.lt g hg).2)) hlie)
      have HZ6 : Hid (kVl.er z = a6) := Lib.hid hz
      have HP6 := Lib.hid h6; have HG6 := Lib.hid (grownBy_tr HG5.out g6); have HGr6 := Lib.hid (HGr5.out.par g6 HLT.out.1)
      have HB1 : Hid (acc.length + 1 ≤ maxLen ∧ (acc.length + 1) * 144 ≤ 140737488355328) := Lib.hid ⟨by have := HLL.out.2; have := HUL.out; unfold maxLen; omega, by have := HLL.out.2; have := HUL.out; omega⟩
      clear h6 g6 ho hz hm6 hmore HP5 HG5 HGr5 hlie
      go_wp2_with (first | ((with_reducible show wpList _ _ _ (Oper.mk (some 20) _ _ _ _ _ :: _) _ _); refine wpList_one rfl 50 47 (.tmp 19) rfl (kVl.cells z).toArray rfl HI.out.und i0 _ kVl.size HI.out.info HI.out.zero HI.out.size HI.out.pos (by decide) rfl ?_) | ((with_reducible show wpList _ _ _ (Oper.mk (some 21) _ _ _ _ _ :: _) _ _); refine Kd.wpList_push kVl rfl 50 i0 _ HI.out (.tmp 16) (.tmp 20) rfl w.heap.size acc u5 rfl HGr6.out HG6.out.size z rfl HLZ.out HB1.out.1 HB1.out.2 ?_; rintro v' w7 hG7 ⟨gg, cc, rfl⟩ hgr7 hown7; have HGr7 := Lib.hid hG7; have HP7 := Lib.hid (HP6.out.grown hgr7 (fun q hq => by have := hown7 q hq; have := HLT.out; omega)); have HG7 := Lib.hid (grownBy_up HG6.out hgr7 hown7); clear hG7 hgr7 hown7))
      go_roundg gj
      case measure => have := HGJ.out; omega
      case rel => exact ⟨acc ++ [a6], u6, by have := HF6.out.1; have := HGJ.out; simp only [Pr.St.go] at *; omega, by have := HF6.out.1; simp only [Pr.St.go, List.length_append, List.length_singleton] at *; omega, Lib.hid (by rw [← HMO.out, HH.out]), by rw [← HZ6.out]; exact HGr7, HP7, HG7⟩
set_option maxHeartbeats 3200000 in
set_option maxRecDepth 100000 in
theorem params_any (w : World) (u : Pr.St) (h : PS w pb sb cap l u.i u.o u.b) (hg : Good l) :
    Calls Tryd.prog 37 #[.pointer (some ⟨pb, 0, none⟩), .func (.func 38) #[] #[]] w (Outc (kDc.Lst w.heap.size) w pb sb cap l (Pr.listed (l.map Pr.tk) (Pr.variable_ (l.map Pr.tk)) u)) := by
  obtain ⟨r, hr⟩ : ∃ r, r = Pr.listed (l.map Pr.tk) (Pr.variable_ (l.map Pr.tk)) u := ⟨_, rfl⟩
  rw [← hr]
  have HR := Lib.hid hr
  have HL := Lib.hid hg
  have HP := Lib.hid h
  have HLT : Hid (pb < w.heap.size ∧ sb < w.heap.size) := Lib.hid ⟨h.pb_lt, h.sb_lt⟩
  have HLL : Hid ((l.map Pr.tk).length = l.length ∧ l.length ≤ 6000000) := Lib.hid ⟨List.length_map _, hg.len⟩
  obtain ⟨i0, hI⟩ := infDc
  have HI := Lib.hid hI
  clear h hg hr hI
  go_enter Tryd.func37, Tryd.ntmps37
  go_wp2_with fail
  refine (must_any ⟨#[40]⟩ (by decide) w u HP.out HL.out).mono ?_; intro en w1 ho
  rcases hm1 : Pr.must (l.map Pr.tk) ⟨#[40]⟩ u with n | ⟨a1, u1⟩
  · obtain ⟨p, rfl, g1⟩ := ho.of_err hm1
    exact ⟨rfl, Outc.err (by rw [HR.out]; simp only [Pr.listed, Pr.th, hm1]) g1⟩
  obtain ⟨v, rfl, ⟨x1, rfl, hx1⟩, h1, g1⟩ := ho.of_ok hm1
  have HM1 := Lib.hid hm1; have HP1 := Lib.hid h1; have HG1 := Lib.hid g1
  clear h1 g1 ho hx1 hm1 HP
  go_wp2_with fail
  refine (may_any ⟨#[41]⟩ (by decide) w1 u1 HP1.out HL.out).mono ?_; rintro en w2 ⟨q, hq, rfl, h2, g2⟩
  have HP2 := Lib.hid h2; have HG2 := Lib.hid (grownBy_tr HG1.out g2); have HQ := Lib.hid hq
  clear h2 g2 hq HP1 HG1
  cases q with
  | true =>
    go_wp2_with fail
    exact bodyPost_ret (results_tmp rfl _ _ _) rfl (Outc.ok (u := u1.go) (a := []) (by rw [HR.out]; simp only [Pr.listed, Pr.th, HM1.out, HQ.out, if_true]) HG2.out ⟨⟨none, 0, []⟩, rfl, rfl, (show 0 * _ ≤ 140737488351232 by simp), .inl rfl⟩ HP2.out)
  | false =>
  go_wp2_with fail
  refine (variable__any w2 u1 HP2.out HL.out).mono ?_; intro en w3 ho
  rcases hm3 : Pr.variable_ (l.map Pr.tk) u1 with n | ⟨a3, u3⟩
  · obtain ⟨p, rfl, g3⟩ := ho.of_err hm3
    exact ⟨rfl, Outc.err (by rw [HR.out]; simp only [Pr.listed, Pr.th, HM1.out, HQ.out, Bool.false_eq_true, if_false, hm3]) (grownBy_tr HG2.out g3)⟩
  have HF3 := Lib.hid (Pr.variable_fwd hm3)
  have HU1 : Hid (u.i + 1 ≤ u1.i) := Lib.hid (Pr.must_fwd HM1.out).1
  obtain ⟨v, rfl, ⟨y, rfl, hz⟩, h3, g3⟩ := ho.of_ok hm3
  have HLI : Hid (kDc.R (fresh w2.heap.size w3) y) := Lib.hid trivial
  have HZ : Hid (kDc.er y = a3) := Lib.hid hz
  have HM3 := Lib.hid hm3; have HP3 := Lib.hid h3; have HG3 := Lib.hid (grownBy_tr HG2.out g3)
  have HW23 : Hid (w2.heap.size ≤ w3.heap.size) := Lib.hid g3.size
  have HPB2 : Hid (pb < w2.heap.size) := Lib.hid HP2.out.pb_lt
  have HWW : Hid (w.heap.size ≤ w2.heap.size) := Lib.hid HG2.out.size
  clear h3 g3 ho hz hm3 HP2 HG2 
  go_wp2_with (first | ((with_reducible show wpList _ _ _ (Oper.mk (some 13) _ _ _ _ _ :: _) _ _); refine wpList_one rfl 30 85 (.tmp 12) rfl (kDc.cells y).toArray rfl HI.out.und i0 _ kDc.size HI.out.info HI.out.zero HI.out.size HI.out.pos (by decide) rfl ?_))
  have hm : Below w3.heap.size w3 (w3.alloc (.cells (kDc.cells y).toArray 85)) := (Below.refl _ _).alloc (Nat.le_refl _) _
  have HP4 := Lib.hid (HP3.out.below hm); have HG4 := Lib.hid (grownBy_below HG3.out hm)
  have HGr : Hid (kDc.Gr w.heap.size [a3] (.slice (some ⟨w3.heap.size, 0, none⟩) 1 1) (w3.alloc (.cells (kDc.cells y).toArray 85))) := Lib.hid (by rw [← HZ.out]; exact Kd.Gr.one kDc (heap_alloc_new _ _) (Nat.le_trans HWW.out HW23.out) (kDc.ext y ((fresh_mono HWW.out _).trans (fresh_new hm (Nat.le_refl _))) HLI.out))
  clear hm HP3 HG3 HLI HW23 HPB2 HWW
  generalize w3.alloc (.cells (kDc.cells y).toArray 85) = w4 at HP4 HG4 HGr ⊢
  go_loopg [5] ((l.map Pr.tk).length + 1) (fun g v wr => ∃ (acc : List Dc) (un : Pr.St), l.length < un.i + g ∧ acc.length ≤ un.i ∧ Hid (Pr.more (l.map Pr.tk) (Pr.variable_ (l.map Pr.tk)) g acc un = Pr.more (l.map Pr.tk) (Pr.variable_ (l.map Pr.tk)) ((l.map Pr.tk).length + 1) [a3] u3) ∧ Hid (kDc.Gr w.heap.size acc v wr) ∧ Hid (PS wr pb sb cap l un.i un.o un.b) ∧ Hid (w.grownBy wr (some pb)))
  case atStart => exact ⟨[a3], u3, by rw [HLL.out.1]; omega, by have := HF3.out.1; simp only [List.length_singleton]; omega, Lib.hid rfl, HGr, HP4, HG4⟩
  case round =>
    obtain ⟨acc, un, hlt, hacc, HH, HGr, HPr, HGw⟩ := hrel
    have HUL : Hid (un.i < l.length) := Lib.hid HPr.out.lt
    obtain ⟨gj, hgj⟩ : ∃ k, gk = k + 1 := ⟨gk - 1, by have := HUL.out; omega⟩
    have HGJ := Lib.hid hgj
    clear hgj
    go_wp2_with fail
    refine (may_any ⟨#[44]⟩ (by decide) wr un HPr.out HL.out).mono ?_; rintro en w5 ⟨q, hq, rfl, h5, g5⟩
    have HP5 := Lib.hid h5; have HG5 := Lib.hid (grownBy_tr HGw.out g5); have HGr5 := Lib.hid (HGr.out.par g5 HLT.out.1); have HQ5 := Lib.hid hq
    clear h5 g5 hq
    cases q with
    | false =>
      go_wp2_with fail
      refine (must_any ⟨#[41]⟩ (by decide) w5 un HP5.out HL.out).mono ?_; intro en w6 ho
      have hmore : Pr.more (l.map Pr.tk) (Pr.variable_ (l.map Pr.tk)) gk acc un = Pr.th (Pr.must (l.map Pr.tk) ⟨#[41]⟩ un) fun _ u => .ok (acc, u) := by rw [HGJ.out]; simp only [Pr.more, HQ5.out, Bool.false_eq_true, if_false]
      have hres : r = Pr.th (Pr.must (l.map Pr.tk) ⟨#[41]⟩ un) fun _ u => .ok (acc, u) := by rw [HR.out]; simp only [Pr.listed, Pr.th, HM1.out, HQ.out, Bool.false_eq_true, if_false, HM3.out]; rw [← HH.out, hmore]; rfl
      rcases hm6 : Pr.must (l.map Pr.tk) ⟨#[41]⟩ un with n | ⟨a6, u6⟩
      · obtain ⟨p, rfl, g6⟩ := ho.of_err hm6
        exact ⟨rfl, Outc.err (by rw [hres, hm6]; rfl) (grownBy_tr HG5.out g6)⟩
      obtain ⟨v, rfl, ⟨x6, rfl, hx6⟩, h6, g6⟩ := ho.of_ok hm6
      have HRS : Hid (r = .ok (acc, u6)) := Lib.hid (by rw [hres, hm6]; rfl)
      have HP6 := Lib.hid h6; have HG6 := Lib.hid (grownBy_tr HG5.out g6); have HGr6 := Lib.hid (HGr5.out.par g6 HLT.out.1)
      clear h6 g6 ho hx6 hm6 hres hmore
      go_wp2_with fail
      obtain ⟨sl, hv, hsl, hly⟩ := Kd.fin kDc (by have := HLL.out.2; have := HUL.out; show acc.length * 40 ≤ _; omega) HGr6.out
      exact bodyPost_ret (v := u5) (results_tmp (t := 4) rfl _ _ _) rfl (Outc.ok (u := u6) (a := acc) HRS.out HG6.out ⟨sl, hv, hsl, hly⟩ HP6.out)
    | true =>
      go_wp2_with fail
      refine (variable__any w5 un.go HP5.out HL.out).mono ?_; intro en w6 ho
      have hmore : Pr.more (l.map Pr.tk) (Pr.variable_ (l.map Pr.tk)) gk acc un = Pr.th (Pr.variable_ (l.map Pr.tk) un.go) fun x u => Pr.more (l.map Pr.tk) (Pr.variable_ (l.map Pr.tk)) gj (acc ++ [x]) u := by rw [HGJ.out]; simp only [Pr.more, HQ5.out, if_true]
      rcases hm6 : Pr.variable_ (l.map Pr.tk) un.go with n | ⟨a6, u6⟩
      · obtain ⟨p, rfl, g6⟩ := ho.of_err hm6
        exact ⟨rfl, Outc.err (by rw [HR.out]; simp only [Pr.listed, Pr.th, HM1.out, HQ.out, Bool.false_eq_true, if_false, HM3.out]; rw [← HH.out, hmore, hm6]; rfl) (grownBy_tr HG5.out g6)⟩
      have HF6 := Lib.hid (Pr.variable_fwd hm6)
      have HMO : Hid (Pr.more (l.map Pr.tk) (Pr.variable_ (l.map Pr.tk)) gk acc un = Pr.more (l.map Pr.tk) (Pr.variable_ (l.map Pr.tk)) gj (acc ++ [a6]) u6) := Lib.hid (by rw [hmore, hm6]; rfl)
      obtain ⟨v, rfl, ⟨z, rfl, hz⟩, h6, g6⟩ := ho.of_ok hm6
      have HLZ : Hid (kDc.R (rest w.heap.size u5.ownBlock w6) z) := Lib.hid (kDc.ext z (fresh_rest HG5.out.size (fun g hg => (HGr5.out.lt g hg).2)) trivial)
      have HZ6 : Hid (kDc.er z = a6) := Lib.hid hz
      have HP6 := Lib.hid h6; have HG6 := Lib.hid (grownBy_tr HG5.out g6); have HGr6 := Lib.hid (HGr5.out.par g6 HLT.out.1)
      have HB1 : Hid (acc.length + 1 ≤ maxLen ∧ (acc.length + 1) * 40 ≤ 140737488355328) := Lib.hid ⟨by have := HLL.out.2; have := HUL.out; unfold maxLen; omega, by have := HLL.out.2; have := HUL.out; omega⟩
      clear h6 g6 ho hz hm6 hmore HP5 HG5 HGr5 
      go_wp2_with (first | ((with_reducible show wpList _ _ _ (Oper.mk (some 20) _ _ _ _ _ :: _) _ _); refine wpList_one rfl 30 85 (.tmp 19) rfl (kDc.cells z).toArray rfl HI.out.und i0 _ kDc.size HI.out.info HI.out.zero HI.out.size HI.out.pos (by decide) rfl ?_) | ((with_reducible show wpList _ _ _ (Oper.mk (some 21) _ _ _ _ _ :: _) _ _); refine Kd.wpList_push kDc rfl 30 i0 _ HI.out (.tmp 16) (.tmp 20) rfl w.heap.size acc u5 rfl HGr6.out HG6.out.size z rfl HLZ.out HB1.out.1 HB1.out.2 ?_; rintro v' w7 hG7 ⟨gg, cc, rfl⟩ hgr7 hown7; have HGr7 := Lib.hid hG7; have HP7 := Lib.hid (HP6.out.grown hgr7 (fun q hq => by have := hown7 q hq; have := HLT.out; omega)); have HG7 := Lib.hid (grownBy_up HG6.out hgr7 hown7); clear hG7 hgr7 hown7))
      go_roundg gj
      case measure => have := HGJ.out; omega
      case rel => exact ⟨acc ++ [a6], u6, by have := HF6.out.1; have := HGJ.out; simp only [Pr.St.go] at *; omega, by have := HF6.out.1; simp only [Pr.St.go, List.length_append, List.length_singleton] at *; omega, Lib.hid (by rw [← HMO.out, HH.out]), by rw [← HZ6.out]; exact HGr7, HP7, HG7⟩
end
end Go.Proofs.YtlpnkllhpienhaaDoor
