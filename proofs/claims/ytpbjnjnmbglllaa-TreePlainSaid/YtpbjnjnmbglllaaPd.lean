/-
  DERIVED. The walks of the program's Plain: one item, in place: statements, procedures; the whole.
-/
import Derived.Test.YtpbjnjnmbglllaaPc1
import Derived.Test.YtpbjnjnmbglllaaPpIt
import Derived.Test.YtpbjnjnmbglllaaPpPc
namespace Go.Proofs.Ytpbjnjnmbglllaa
open Go.RowKit Go.Sort

theorem lies_of {w : World} {b : Nat} : ∀ (l : List It) (o : Nat), (∀ k x, l[k]? = some x → w.rangeAt b (o + k * 48) x.cells ∧ itLies w x) → lies w (SL.of l) b o
  | [], _, _ => trivial
  | x :: l, o, h => by
    obtain ⟨h1, h2, h3, h4⟩ := h 0 x rfl
    rw [Nat.zero_mul, Nat.add_zero] at h1
    refine ⟨h1, h2, h3, h4, lies_of l (o + 48) fun k y hk => ?_⟩
    have := h (k + 1) y hk
    rwa [show o + (k + 1) * 48 = o + 48 + k * 48 by omega] at this
theorem SL.len_of (l : List It) : (SL.of l).len = l.length := by rw [← SL.items_len, SL.items_of]
theorem sLies_of {w : World} {p : Option Addr} {l : List It} (h : kIt.Ly w p l) : sLies w p (SL.of l) := by
  obtain ⟨h0, h⟩ := h
  refine ⟨by rw [SL.len_of]; exact h0, ?_⟩
  rcases h with rfl | ⟨b, o, hp, hx⟩
  · exact .inl rfl
  · exact .inr ⟨b, o, hp, lies_of l o hx⟩
theorem ly_of {w : World} {p : Option Addr} {l : SL} (h : sLies w p l) : kIt.Ly w p l.items := by
  obtain ⟨h0, h⟩ := h
  refine ⟨by rw [SL.items_len]; exact h0, ?_⟩
  rcases h with rfl | ⟨b, o, hp, hx⟩
  · exact .inl rfl
  · exact .inr ⟨b, o, hp, lies_items l o hx⟩
theorem er_of {l : List It} {s : SL} (h : l.map It.er = s.items.map It.er) : (SL.of l).er = s.er := by
  rw [SL.er_of, h, ← SL.er_items, SL.of_items]
theorem flat_of {l : List It} (h : ∀ y ∈ l, It.flat y) : (SL.of l).flat := by rw [SL.flat_items, SL.items_of]; exact h

/-- A list of statements made plain: said of statements. -/
def SAll (s : SL) : Prop := ∀ (p : Option Addr) (c : Nat) (w : World), sLies w p s →
  Calls Try.prog 75 #[.slice p s.len c, .func (.func 76) #[] #[]] w fun e w' => ∃ (p' : Option Addr) (c' : Nat) (s' : SL), e = .returned (.slice p' s'.len c') ∧ s'.er = s.er ∧ s'.flat ∧ sLies (fresh w.heap.size w') p' s' ∧ Below w.heap.size w w'
theorem sall_of {s : SL} (h : kIt.All 75 76 s.items) : SAll s := fun p c w hl => by
  have h1 := h p c w (ly_of hl)
  rw [SL.items_len] at h1
  exact h1.mono fun e w' ⟨p', c', l', he, h1, h2, h3, hb⟩ => ⟨p', c', SL.of l', by rw [SL.len_of]; exact he, er_of h1, flat_of h2, sLies_of h3, hb⟩

set_option maxHeartbeats 3200000 in
set_option maxRecDepth 100000 in
theorem bodyIt (x : It) (ht : SAll x.t) (he : SAll x.e) : kIt.Body 76 x := by
  intro g q w hm hr hR
  obtain ⟨⟨R1, R2, R3, R4, R5, R6⟩, R7, R8⟩ := hR
  obtain ⟨⟨kind, pos, place, value, cond, name, args, both⟩, tp, tc, t, ep, ec, e⟩ := x
  simp only at R1 R2 R3 R4 R5 R6 R7 R8 ht he
  have c1 := cell_at hr 1 _ rfl
  have f1 := hm.frozen (q + 1)
  have o : Only w g q 48 (w.setCell ⟨g, q + 1, none⟩ (.int .i64 0)) := Only.setCell hm (by omega) (by omega) _
  have r1 : (w.setCell ⟨g, q + 1, none⟩ (.int .i64 0)).rangeAt g q (scells ⟨kind, 0, place, value, cond, name, args, both⟩ tp t.len tc ep e.len ec) := set_range hr 1 (.int .i64 0) (show 1 < 48 by decide) rfl
  have HA := Lib.hid (bodyPth place g (q + 2) _ o.mine (rangeAt_sub r1 2 3 rfl) (hopsLie_ext o.hole R1))
  have HR1 := Lib.hid r1; have HO := Lib.hid o; have HM := Lib.hid hm
  have K2 := Lib.hid R2; have K3 := Lib.hid R3; have K4 := Lib.hid R4; have K5 := Lib.hid R5; have K6 := Lib.hid R6; have K7 := Lib.hid R7; have K8 := Lib.hid R8
  have HT := Lib.hid ht; have HE := Lib.hid he
  have HG := Lib.hid hm.lt
  clear hm hr o r1 R1 R2 R3 R4 R5 R6 R7 R8 ht he
  go_enter Try.func76, Try.ntmps76
  go_wp2_with fail
  refine (HA.out).mono ?_; rintro en w2 ⟨rfl, y, h1, h2, h3, h4, h5⟩
  have HY1 := Lib.hid h1; have HY2 := Lib.hid h2; have HY4 := Lib.hid h4
  have HR2 : Hid (w2.rangeAt g q (scells ⟨kind, 0, y, value, cond, name, args, both⟩ tp t.len tc ep e.len ec)) := Lib.hid (h5.put HR1.out h3 rfl (show 2 + 3 ≤ 48 by decide) rfl)
  have HO2 := Lib.hid (HO.out.trans (h5.wide (q' := q) (n' := 48) (by omega) (show q + 2 + 3 ≤ q + 48 by omega)))
  clear h1 h2 h3 h4 h5 c1 f1
  have HB := Lib.hid (bodyVl value g (q + 5) w2 HO2.out.mine (rangeAt_sub HR2.out 5 12 rfl) (vlLies_ext HO2.out.hole K2.out))
  go_wp2_with fail
  refine (HB.out).mono ?_; rintro en w3 ⟨rfl, z, h1, h2, h3, h4, h5⟩
  have HZ1 := Lib.hid h1; have HZ2 := Lib.hid h2; have HZ4 := Lib.hid h4
  have HR3 : Hid (w3.rangeAt g q (scells ⟨kind, 0, y, z, cond, name, args, both⟩ tp t.len tc ep e.len ec)) := Lib.hid (h5.put HR2.out h3 rfl (show 5 + 12 ≤ 48 by decide) rfl)
  have HP3 := Lib.hid (h5.wide (q' := q) (n' := 48) (by omega) (show q + 5 + 12 ≤ q + 48 by omega))
  have HO3 := Lib.hid (HO2.out.trans HP3.out)
  clear h1 h2 h3 h4 h5
  have HC := Lib.hid (bodyCd cond g (q + 17) w3 HO3.out.mine (rangeAt_sub HR3.out 17 26 rfl) ⟨vlLies_ext HO3.out.hole K3.out, vlLies_ext HO3.out.hole K4.out⟩)
  go_wp2_with fail
  refine (HC.out).mono ?_; rintro en w4 ⟨rfl, v, h1, h2, h3, h4, h5⟩
  have HV1 := Lib.hid h1; have HV2 := Lib.hid h2; have HV4 := Lib.hid h4
  have HR4 : Hid (w4.rangeAt g q (scells ⟨kind, 0, y, z, v, name, args, both⟩ tp t.len tc ep e.len ec)) := Lib.hid (h5.put HR3.out h3 rfl (show 17 + 26 ≤ 48 by decide) rfl)
  have HP4 := Lib.hid (h5.wide (q' := q) (n' := 48) (by omega) (show q + 17 + 26 ≤ q + 48 by omega))
  have HO4 := Lib.hid (HO3.out.trans HP4.out)
  clear h1 h2 h3 h4 h5
  have e44 := cell_at HR4.out 44 _ rfl
  have HD := Lib.hid (argsP args args.p args.cap w4 ((show kVl.Ly (hole (some g) w) args.p args.l from K5.out).ext (HO4.out.hole.trans (Ext.mask _ _))))
  go_wp2_with fail
  refine (HD.out).mono ?_; rintro en w5 ⟨p5, k5, l5, rfl, h1, h2, h3, hb5⟩
  have ho5 : Only w4 g q 48 w5 := Only.below HO4.out.mine hb5
  have HA1 := Lib.hid h1; have HA2 := Lib.hid h2; have HA3 := Lib.hid h3
  have HR5 := Lib.hid (rangeAt_below HR4.out hb5)
  have HP5 := Lib.hid ho5
  have HO5 := Lib.hid (HO4.out.trans ho5)
  clear h1 h2 h3 hb5 ho5 e44
  have e44 := cell_at HR5.out 44 _ rfl
  have f44 := HO5.out.mine.frozen (q + 44)
  have o6 : Only w5 g q 48 (w5.setCell ⟨g, q + 44, none⟩ (.slice p5 l5.length k5)) := Only.setCell HO5.out.mine (by omega) (by omega) _
  have r6 : (w5.setCell ⟨g, q + 44, none⟩ (.slice p5 l5.length k5)).rangeAt g q (scells ⟨kind, 0, y, z, v, name, ⟨p5, k5, l5⟩, both⟩ tp t.len tc ep e.len ec) := set_range HR5.out 44 _ (show 44 < 48 by decide) rfl
  have e45 := cell_at HR5.out 45 _ rfl
  have HR6 := Lib.hid r6; have HP6 := Lib.hid o6; have HO6 := Lib.hid (HO5.out.trans o6)
  clear r6 o6
  have HF := Lib.hid (HT.out tp tc _ (sLies_ext (HO6.out.hole.trans (Ext.mask _ _)) K7.out))
  go_wp2_with fail
  refine (HF.out).mono ?_; rintro en w7 ⟨p7, k7, l7, rfl, h1, h2, h3, hb7⟩
  have HB1 := Lib.hid h1; have HB2 := Lib.hid h2; have HB3 := Lib.hid h3
  have HR7 := Lib.hid (rangeAt_below HR6.out hb7)
  have HP7 := Lib.hid (Only.below (q := q) (n := 48) HO6.out.mine hb7)
  have HO7 := Lib.hid (HO6.out.trans HP7.out)
  clear h1 h2 h3 hb7 e44 e45 f44
  have e45 := cell_at HR7.out 45 _ rfl
  have f45 := HO7.out.mine.frozen (q + 45)
  have o8 : Only w7 g q 48 (w7.setCell ⟨g, q + 45, none⟩ (.slice p7 l7.len k7)) := Only.setCell HO7.out.mine (by omega) (by omega) _
  have r8 : (w7.setCell ⟨g, q + 45, none⟩ (.slice p7 l7.len k7)).rangeAt g q (scells ⟨kind, 0, y, z, v, name, ⟨p5, k5, l5⟩, both⟩ p7 l7.len k7 ep e.len ec) := set_range HR7.out 45 _ (show 45 < 48 by decide) rfl
  have e46 := cell_at HR7.out 46 _ rfl
  have HR8 := Lib.hid r8; have HP8 := Lib.hid o8; have HO8 := Lib.hid (HO7.out.trans o8)
  clear r8 o8
  have HH := Lib.hid (HE.out ep ec _ (sLies_ext (HO8.out.hole.trans (Ext.mask _ _)) K8.out))
  go_wp2_with fail
  refine (HH.out).mono ?_; rintro en w9 ⟨p9, k9, l9, rfl, h1, h2, h3, hb9⟩
  have HC1 := Lib.hid h1; have HC2 := Lib.hid h2; have HC3 := Lib.hid h3
  have HR9 := Lib.hid (rangeAt_below HR8.out hb9)
  have HP9 := Lib.hid (Only.below (q := q) (n := 48) HO8.out.mine hb9)
  have HO9 := Lib.hid (HO8.out.trans HP9.out)
  clear h1 h2 h3 hb9 e45 f45 e46
  have e46 := cell_at HR9.out 46 _ rfl
  have f46 := HO9.out.mine.frozen (q + 46)
  have oz : Only w9 g q 48 (w9.setCell ⟨g, q + 46, none⟩ (.slice p9 l9.len k9)) := Only.setCell HO9.out.mine (by omega) (by omega) _
  have rz : (w9.setCell ⟨g, q + 46, none⟩ (.slice p9 l9.len k9)).rangeAt g q (scells ⟨kind, 0, y, z, v, name, ⟨p5, k5, l5⟩, both⟩ p7 l7.len k7 p9 l9.len k9) := set_range HR9.out 46 _ (show 46 < 48 by decide) rfl
  have HPZ := Lib.hid oz; have HRZ := Lib.hid rz
  clear oz rz
  go_wp2_with fail
  go_end0
  have s2 := HO2.out.size
  have s3 := HO3.out.size
  have s4 := HO4.out.size
  have s6 := HO6.out.size
  have s8 := HO8.out.size
  have hg := HG.out
  have x9 := fresh_only (B := w.heap.size) HPZ.out hg
  have x8 := (fresh_only (B := w.heap.size) HP9.out hg).trans x9
  have x7 := (fresh_only (B := w.heap.size) HP8.out hg).trans x8
  have x6 := (fresh_only (B := w.heap.size) HP7.out hg).trans x7
  have x5 := (fresh_only (B := w.heap.size) HP6.out hg).trans x6
  have x4 := (fresh_only (B := w.heap.size) HP5.out hg).trans x5
  have x3 := (fresh_only (B := w.heap.size) HP4.out hg).trans x4
  have x2 := (fresh_only (B := w.heap.size) HP3.out hg).trans x3
  refine ⟨rfl, ⟨⟨kind, 0, y, z, v, name, ⟨p5, k5, l5⟩, both⟩, p7, k7, l7, p9, k9, l9⟩, ?_, ⟨⟨rfl, HY2.out, HZ2.out, HV2.out, HA2.out⟩, HB2.out, HC2.out⟩, HRZ.out, ⟨⟨?_, ?_, ?_, ?_, ?_, K6.out⟩, ?_, ?_⟩, HO9.out.trans HPZ.out⟩
  · show It.er _ = It.er _
    simp only [It.er, Hd.er, Sl.er, show y.er = place.er from HY1.out, show z.er = value.er from HZ1.out, show v.er = cond.er from HV1.out, show l5.map Vl.er = args.l.map Vl.er from HA1.out, show l7.er = t.er from HB1.out, show l9.er = e.er from HC1.out]
  · exact hopsLie_ext ((fresh_mono HO.out.size _).trans x2) HY4.out
  · exact vlLies_ext ((fresh_mono s2 _).trans x3) HZ4.out
  · exact vlLies_ext ((fresh_mono s3 _).trans x4) HV4.out.1
  · exact vlLies_ext ((fresh_mono s3 _).trans x4) HV4.out.2
  · exact (show kVl.Ly _ _ _ from HA3.out).ext ((fresh_mono s4 _).trans x5)
  · exact sLies_ext ((fresh_mono s6 _).trans x7) HB3.out
  · exact sLies_ext ((fresh_mono s8 _).trans x9) HC3.out

theorem sall (s : SL) : SAll s :=
  (SL.all (P := SAll) (fun l h => sall_of (allPIt l.items fun x hx => bodyIt x (SL.each_items h x hx).1 (SL.each_items h x hx).2)) s).1

end Go.Proofs.Ytpbjnjnmbglllaa
