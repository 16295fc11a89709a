/-
  DERIVED. The walks of the program's Plain: procedures; the whole.
-/
import Derived.Test.YtpbjnjnmbglllaaPd
import Derived.Test.YtpbjnjnmbglllaaRpL
import Derived.Deep.RegionHeld3
namespace Go.Proofs.Ytpbjnjnmbglllaa
open Go.RowKit Go.Sort

set_option maxHeartbeats 3200000 in
set_option maxRecDepth 100000 in
theorem bodyPc (x : Pc) : kPc.Body 47 x := by
  intro g q w hm hr hR
  obtain ⟨R1, R2, R3⟩ := hR
  obtain ⟨name, pos, fin, params, locals_, bp, bc, body⟩ := x
  simp only at R1 R2 R3
  have c1 := cell_at hr 1 _ rfl
  have c2 := cell_at hr 2 _ rfl
  have c3 := cell_at hr 3 _ rfl
  have f1 := hm.frozen (q + 1)
  have f2 := hm.frozen (q + 2)
  have o1 : Only w g q 6 (w.setCell ⟨g, q + 1, none⟩ (.int .i64 0)) := Only.setCell hm (by omega) (by omega) _
  have o2 : Only (w.setCell ⟨g, q + 1, none⟩ (.int .i64 0)) g q 6 ((w.setCell ⟨g, q + 1, none⟩ (.int .i64 0)).setCell ⟨g, q + 2, none⟩ (.int .i64 0)) := Only.setCell o1.mine (by omega) (by omega) _
  have o := o1.trans o2
  have r1 : (w.setCell ⟨g, q + 1, none⟩ (.int .i64 0)).rangeAt g q _ := set_range hr 1 (.int .i64 0) (show 1 < 6 by decide) rfl
  have r2 : ((w.setCell ⟨g, q + 1, none⟩ (.int .i64 0)).setCell ⟨g, q + 2, none⟩ (.int .i64 0)).rangeAt g q (Pc.cells ⟨name, 0, 0, params, locals_, bp, bc, body⟩) := set_range r1 2 (.int .i64 0) (show 2 < 6 by decide) rfl
  have HA := Lib.hid (declsP params params.p params.cap _ ((show kDc.Ly (hole (some g) w) params.p params.l from R1).ext (o.hole.trans (Ext.mask _ _))))
  have HR1 := Lib.hid r2; have HO := Lib.hid o; have HM := Lib.hid hm
  have K2 := Lib.hid R2; have K3 := Lib.hid R3
  have HG := Lib.hid hm.lt
  clear hm hr o r1 r2 R1 R2 R3 o1 o2
  go_enter Try.func47, Try.ntmps47
  go_wp2_with fail
  refine (HA.out).mono ?_; rintro en w3 ⟨p3, k3, l3, rfl, h1, h2, h3, hb3⟩
  have HA1 := Lib.hid h1; have HA2 := Lib.hid h2; have HA3 := Lib.hid h3
  have HR3 := Lib.hid (rangeAt_below HR1.out hb3)
  have HP3 := Lib.hid (Only.below (q := q) (n := 6) HO.out.mine hb3)
  have HO3 := Lib.hid (HO.out.trans HP3.out)
  clear h1 h2 h3 hb3 c1 c2 c3 f1 f2
  have c3 := cell_at HR3.out 3 _ rfl
  have c4 := cell_at HR3.out 4 _ rfl
  have f3 := HO3.out.mine.frozen (q + 3)
  have o4 : Only w3 g q 6 (w3.setCell ⟨g, q + 3, none⟩ (.slice p3 l3.length k3)) := Only.setCell HO3.out.mine (by omega) (by omega) _
  have r4 : (w3.setCell ⟨g, q + 3, none⟩ (.slice p3 l3.length k3)).rangeAt g q (Pc.cells ⟨name, 0, 0, ⟨p3, k3, l3⟩, locals_, bp, bc, body⟩) := set_range HR3.out 3 _ (show 3 < 6 by decide) rfl
  have HR4 := Lib.hid r4; have HP4 := Lib.hid o4; have HO4 := Lib.hid (HO3.out.trans o4)
  clear r4 o4
  have HB := Lib.hid (declsP locals_ locals_.p locals_.cap _ ((show kDc.Ly (hole (some g) w) locals_.p locals_.l from K2.out).ext (HO4.out.hole.trans (Ext.mask _ _))))
  go_wp2_with fail
  refine (HB.out).mono ?_; rintro en w5 ⟨p5, k5, l5, rfl, h1, h2, h3, hb5⟩
  have HB1 := Lib.hid h1; have HB2 := Lib.hid h2; have HB3 := Lib.hid h3
  have HR5 := Lib.hid (rangeAt_below HR4.out hb5)
  have HP5 := Lib.hid (Only.below (q := q) (n := 6) HO4.out.mine hb5)
  have HO5 := Lib.hid (HO4.out.trans HP5.out)
  clear h1 h2 h3 hb5 c3 c4 f3
  have c4 := cell_at HR5.out 4 _ rfl
  have c5 := cell_at HR5.out 5 _ rfl
  have f4 := HO5.out.mine.frozen (q + 4)
  have o6 : Only w5 g q 6 (w5.setCell ⟨g, q + 4, none⟩ (.slice p5 l5.length k5)) := Only.setCell HO5.out.mine (by omega) (by omega) _
  have r6 : (w5.setCell ⟨g, q + 4, none⟩ (.slice p5 l5.length k5)).rangeAt g q (Pc.cells ⟨name, 0, 0, ⟨p3, k3, l3⟩, ⟨p5, k5, l5⟩, bp, bc, body⟩) := set_range HR5.out 4 _ (show 4 < 6 by decide) rfl
  have HR6 := Lib.hid r6; have HP6 := Lib.hid o6; have HO6 := Lib.hid (HO5.out.trans o6)
  clear r6 o6
  have HC := Lib.hid (sall body bp bc _ (sLies_ext (HO6.out.hole.trans (Ext.mask _ _)) K3.out))
  go_wp2_with fail
  refine (HC.out).mono ?_; rintro en w7 ⟨p7, k7, l7, rfl, h1, h2, h3, hb7⟩
  have HC1 := Lib.hid h1; have HC2 := Lib.hid h2; have HC3 := Lib.hid h3
  have HR7 := Lib.hid (rangeAt_below HR6.out hb7)
  have HP7 := Lib.hid (Only.below (q := q) (n := 6) HO6.out.mine hb7)
  have HO7 := Lib.hid (HO6.out.trans HP7.out)
  clear h1 h2 h3 hb7 c4 c5 f4
  have c5 := cell_at HR7.out 5 _ rfl
  have f5 := HO7.out.mine.frozen (q + 5)
  have oz : Only w7 g q 6 (w7.setCell ⟨g, q + 5, none⟩ (.slice p7 l7.len k7)) := Only.setCell HO7.out.mine (by omega) (by omega) _
  have rz : (w7.setCell ⟨g, q + 5, none⟩ (.slice p7 l7.len k7)).rangeAt g q (Pc.cells ⟨name, 0, 0, ⟨p3, k3, l3⟩, ⟨p5, k5, l5⟩, p7, k7, l7⟩) := set_range HR7.out 5 _ (show 5 < 6 by decide) rfl
  have HPZ := Lib.hid oz; have HRZ := Lib.hid rz
  clear oz rz
  go_wp2_with fail
  go_end0
  have s4 := HO4.out.size
  have s6 := HO6.out.size
  have hg := HG.out
  have x7 := fresh_only (B := w.heap.size) HPZ.out hg
  have x6 := (fresh_only (B := w.heap.size) HP7.out hg).trans x7
  have x5 := (fresh_only (B := w.heap.size) HP6.out hg).trans x6
  have x4 := (fresh_only (B := w.heap.size) HP5.out hg).trans x5
  have x3 := (fresh_only (B := w.heap.size) HP4.out hg).trans x4
  refine ⟨rfl, ⟨name, 0, 0, ⟨p3, k3, l3⟩, ⟨p5, k5, l5⟩, p7, k7, l7⟩, ?_, ⟨rfl, rfl, HA2.out, HB2.out, HC2.out⟩, HRZ.out, ⟨?_, ?_, ?_⟩, HO7.out.trans HPZ.out⟩
  · show Pc.er _ = Pc.er _
    simp only [Pc.er, Sl.er, show l3.map Dc.er = params.l.map Dc.er from HA1.out, show l5.map Dc.er = locals_.l.map Dc.er from HB1.out, show l7.er = body.er from HC1.out]
  · exact (show kDc.Ly _ _ _ from HA3.out).ext ((fresh_mono HO.out.size _).trans x3)
  · exact (show kDc.Ly _ _ _ from HB3.out).ext ((fresh_mono s4 _).trans x5)
  · exact sLies_ext ((fresh_mono s6 _).trans x7) HC3.out
theorem procsP (s : Sl Pc) : kPc.All 46 47 s.l := allPPc s.l fun x _ => bodyPc x

/-- What 'without places' tells: a program of its own memory, the same but for places, and without them. -/
def Plained (x : Pg) (w : World) (e : Ending) (w' : World) : Prop :=
  ∃ y : Pg, e = .returned (.agg #[.slice y.structs.p y.structs.l.length y.structs.cap, .slice y.globals.p y.globals.l.length y.globals.cap, .slice y.procs.p y.procs.l.length y.procs.cap]) ∧ y.er = x.er ∧ y.flat ∧ pgLies (fresh w.heap.size w') y ∧ Below w.heap.size w w'

set_option maxHeartbeats 3200000 in
set_option maxRecDepth 100000 in
theorem plain_any (x : Pg) (w : World) (hx : pgLies w x) :
    Calls Try.prog 22 #[.agg #[.slice x.structs.p x.structs.l.length x.structs.cap, .slice x.globals.p x.globals.l.length x.globals.cap, .slice x.procs.p x.procs.l.length x.procs.cap]] w (Plained x w) := by
  obtain ⟨wA, hwA⟩ : ∃ wA : World, wA = ((w.alloc (.cells #[.slice x.structs.p x.structs.l.length x.structs.cap, .slice x.globals.p x.globals.l.length x.globals.cap, .slice x.procs.p x.procs.l.length x.procs.cap] 34)).alloc (.cells #[.slice none 0 0, .slice none 0 0, .slice none 0 0] 34)) := ⟨_, rfl⟩
  have HBA : Hid (Below w.heap.size w wA) := Lib.hid (by rw [hwA]; exact ((Below.refl _ _).alloc (Nat.le_refl _) _).alloc (by simp) _)
  have HSA : Hid (wA.heap.size = w.heap.size + 2) := Lib.hid (by rw [hwA]; simp)
  have HK0 : Hid (Bk wA w.heap.size 34 #[.slice x.structs.p x.structs.l.length x.structs.cap, .slice x.globals.p x.globals.l.length x.globals.cap, .slice x.procs.p x.procs.l.length x.procs.cap]) := Lib.hid (by rw [hwA]; exact heap_alloc2_old _ _ _)
  have HK1 : Hid (Bk wA (w.heap.size + 1) 34 #[.slice none 0 0, .slice none 0 0, .slice none 0 0]) := Lib.hid (by rw [hwA]; exact heap_alloc2_new _ _ _)
  have HS1 : Hid (w.heap.size + 1 ≤ wA.heap.size) := Lib.hid (by rw [HSA.out]; omega)
  have HD : Hid (∀ w', Below (w.heap.size + 1) wA w' → w'.cell? ⟨w.heap.size, 0, none⟩ = some (.slice x.structs.p x.structs.l.length x.structs.cap) ∧ w'.cell? ⟨w.heap.size, 1, none⟩ = some (.slice x.globals.p x.globals.l.length x.globals.cap) ∧ w'.cell? ⟨w.heap.size, 2, none⟩ = some (.slice x.procs.p x.procs.l.length x.procs.cap)) := Lib.hid (fun w' hb => by
    have h := HK0.out.below hb (by omega)
    exact ⟨h.cell 0, h.cell 1, h.cell 2⟩)
  have HE : Hid (∀ w', Below wA.heap.size wA w' → w'.cell? ⟨w.heap.size + 1, 0, none⟩ = some (.slice none 0 0) ∧ w'.cell? ⟨w.heap.size + 1, 1, none⟩ = some (.slice none 0 0) ∧ w'.cell? ⟨w.heap.size + 1, 2, none⟩ = some (.slice none 0 0) ∧ w'.frozen? ⟨w.heap.size + 1, 0, none⟩ = false ∧ w'.frozen? ⟨w.heap.size + 1, 1, none⟩ = false ∧ w'.frozen? ⟨w.heap.size + 1, 2, none⟩ = false) := Lib.hid (fun w' hb => by
    have h := HK1.out.below hb (by rw [HSA.out]; omega)
    exact ⟨h.cell 0, h.cell 1, h.cell 2, h.frozen 0, h.frozen 1, h.frozen 2⟩)
  have H1 : Hid (∀ w', Below wA.heap.size wA w' → Calls Try.prog 42 #[.slice x.structs.p x.structs.l.length x.structs.cap, .func (.func 43) #[] #[]] w' fun e w'' => ∃ s : Sl Sr, e = .returned (.slice s.p s.l.length s.cap) ∧ s.l.map Sr.er = x.structs.l.map Sr.er ∧ (∀ y ∈ s.l, y.flat) ∧ srsLie (fresh w'.heap.size w'') s ∧ Below w'.heap.size w' w'') := Lib.hid (fun w' hb => (structsP x.structs x.structs.p x.structs.cap w' ((show kSr.Ly w x.structs.p x.structs.l from hx.1).ext (ext_below (HBA.out.trans (hb.mono HBA.out.size))))).mono fun e w'' ⟨p', c', l', h1, h2, h3, h4, h5⟩ => ⟨⟨p', c', l'⟩, h1, h2, h3, h4, h5⟩)
  have H2 : Hid (∀ w', Below wA.heap.size wA w' → Calls Try.prog 44 #[.slice x.globals.p x.globals.l.length x.globals.cap, .func (.func 45) #[] #[]] w' fun e w'' => ∃ s : Sl Dc, e = .returned (.slice s.p s.l.length s.cap) ∧ s.l.map Dc.er = x.globals.l.map Dc.er ∧ (∀ y ∈ s.l, y.flat) ∧ declsLie (fresh w'.heap.size w'') s ∧ Below w'.heap.size w' w'') := Lib.hid (fun w' hb => (declsP x.globals x.globals.p x.globals.cap w' ((show kDc.Ly w x.globals.p x.globals.l from hx.2.1).ext (ext_below (HBA.out.trans (hb.mono HBA.out.size))))).mono fun e w'' ⟨p', c', l', h1, h2, h3, h4, h5⟩ => ⟨⟨p', c', l'⟩, h1, h2, h3, h4, h5⟩)
  have H3 : Hid (∀ w', Below wA.heap.size wA w' → Calls Try.prog 46 #[.slice x.procs.p x.procs.l.length x.procs.cap, .func (.func 47) #[] #[]] w' fun e w'' => ∃ s : Sl Pc, e = .returned (.slice s.p s.l.length s.cap) ∧ s.l.map Pc.er = x.procs.l.map Pc.er ∧ (∀ y ∈ s.l, y.flat) ∧ pcsLie (fresh w'.heap.size w'') s ∧ Below w'.heap.size w' w'') := Lib.hid (fun w' hb => (procsP x.procs x.procs.p x.procs.cap w' ((show kPc.Ly w x.procs.p x.procs.l from hx.2.2).ext (ext_below (HBA.out.trans (hb.mono HBA.out.size))))).mono fun e w'' ⟨p', c', l', h1, h2, h3, h4, h5⟩ => ⟨⟨p', c', l'⟩, h1, h2, h3, h4, h5⟩)
  clear hx
  go_enter Try.func22, Try.ntmps22
  go_wp2_with fail
  change Code.wp _ _ _ _ ((w.alloc (.cells #[.slice x.structs.p x.structs.l.length x.structs.cap, .slice x.globals.p x.globals.l.length x.globals.cap, .slice x.procs.p x.procs.l.length x.procs.cap] 34)).alloc (.cells #[.slice none 0 0, .slice none 0 0, .slice none 0 0] 34))
  rw [← hwA]
  clear hwA
  have HBD : Hid (Below wA.heap.size wA wA.drew) := Lib.hid (below_drew (Below.refl _ _))
  go_region_held3 (fun w' => w'.cell? ⟨w.heap.size, 0, none⟩ = some (.slice x.structs.p x.structs.l.length x.structs.cap) ∧ w'.cell? ⟨w.heap.size, 1, none⟩ = some (.slice x.globals.p x.globals.l.length x.globals.cap) ∧ w'.cell? ⟨w.heap.size, 2, none⟩ = some (.slice x.procs.p x.procs.l.length x.procs.cap)) (first | with_reducible exact HD.out _ (HB3.out.mono HS1.out) | with_reducible exact HD.out _ (HB2.out.mono HS1.out) | with_reducible exact HD.out _ (HB1.out.mono HS1.out) | with_reducible exact HD.out _ (HBD.out.mono HS1.out) | exact HD.out _ (((((HB3.out.mono HS1.out).setCell (p := ⟨w.heap.size + 1, 0, none⟩) (Nat.le_refl _) _).setCell (p := ⟨w.heap.size + 1, 1, none⟩) (Nat.le_refl _) _).setCell (p := ⟨w.heap.size + 1, 2, none⟩) (Nat.le_refl _) _)) | fail)
    ((first
      | (go_at_call 42; (with_reducible refine (H1.out _ HBD.out).mono ?_); rintro en w1 ⟨s1, rfl, a1, a2, a3, a4⟩; have A1 := Lib.hid a1; have A2 := Lib.hid a2; have A3 := Lib.hid a3; have HB1 := Lib.hid (HBD.out.trans (a4.mono HBD.out.size)); clear a1 a2 a3 a4)
      | (go_at_call 44; (with_reducible refine (H2.out _ HB1.out).mono ?_); rintro en w2 ⟨s2, rfl, a1, a2, a3, a4⟩; have B1 := Lib.hid a1; have B2 := Lib.hid a2; have B3 := Lib.hid a3; have B4 := Lib.hid a4; have HB2 := Lib.hid (HB1.out.trans (a4.mono HB1.out.size)); clear a1 a2 a3 a4)
      | (go_at_call 46; (with_reducible refine (H3.out _ HB2.out).mono ?_); rintro en w3 ⟨s3, rfl, a1, a2, a3, a4⟩; have C1 := Lib.hid a1; have C2 := Lib.hid a2; have C3 := Lib.hid a3; have C4 := Lib.hid a4; have HB3 := Lib.hid (HB2.out.trans (a4.mono HB2.out.size)); obtain ⟨z0, z1, z2, f0, f1, f2⟩ := HE.out _ HB3.out; clear a1 a2 a3 a4)))
  all_goals
    clear z0 z1 z2 f0 f1 f2
    have o0 : Only w3 (w.heap.size + 1) 0 3 (w3.setCell ⟨w.heap.size + 1, 0, none⟩ (.slice s1.p s1.l.length s1.cap)) := Only.setCell ⟨_, _, HK1.out.below HB3.out (by rw [HSA.out]; omega)⟩ (by omega) (by omega) _
    have o1 : Only (w3.setCell ⟨w.heap.size + 1, 0, none⟩ (.slice s1.p s1.l.length s1.cap)) (w.heap.size + 1) 0 3 ((w3.setCell ⟨w.heap.size + 1, 0, none⟩ (.slice s1.p s1.l.length s1.cap)).setCell ⟨w.heap.size + 1, 1, none⟩ (.slice s2.p s2.l.length s2.cap)) := Only.setCell o0.mine (by omega) (by omega) _
    have o2 : Only ((w3.setCell ⟨w.heap.size + 1, 0, none⟩ (.slice s1.p s1.l.length s1.cap)).setCell ⟨w.heap.size + 1, 1, none⟩ (.slice s2.p s2.l.length s2.cap)) (w.heap.size + 1) 0 3 (((w3.setCell ⟨w.heap.size + 1, 0, none⟩ (.slice s1.p s1.l.length s1.cap)).setCell ⟨w.heap.size + 1, 1, none⟩ (.slice s2.p s2.l.length s2.cap)).setCell ⟨w.heap.size + 1, 2, none⟩ (.slice s3.p s3.l.length s3.cap)) := Only.setCell o1.mine (by omega) (by omega) _
    have HOZ := Lib.hid (o0.trans (o1.trans o2))
    have hB : Bk (((w3.setCell ⟨w.heap.size + 1, 0, none⟩ (.slice s1.p s1.l.length s1.cap)).setCell ⟨w.heap.size + 1, 1, none⟩ (.slice s2.p s2.l.length s2.cap)).setCell ⟨w.heap.size + 1, 2, none⟩ (.slice s3.p s3.l.length s3.cap)) (w.heap.size + 1) 34 #[.slice s1.p s1.l.length s1.cap, .slice s2.p s2.l.length s2.cap, .slice s3.p s3.l.length s3.cap] := (((HK1.out.below HB3.out (by rw [HSA.out]; omega)).set_ 0 _).set_ 1 _).set_ 2 _
    have HBZ := Lib.hid hB
    clear o0 o1 o2 hB HD HE H1 H2 H3
    generalize ((w3.setCell ⟨w.heap.size + 1, 0, none⟩ (.slice s1.p s1.l.length s1.cap)).setCell ⟨w.heap.size + 1, 1, none⟩ (.slice s2.p s2.l.length s2.cap)).setCell ⟨w.heap.size + 1, 2, none⟩ (.slice s3.p s3.l.length s3.cap) = w4 at HOZ HBZ ⊢
    go_wp2_with fail
    have e0 := HBZ.out.cell 0
    have e1 := HBZ.out.cell 1
    have e2 := HBZ.out.cell 2
    refine bodyPost_ret (v := .agg #[.slice s1.p s1.l.length s1.cap, .slice s2.p s2.l.length s2.cap, .slice s3.p s3.l.length s3.cap]) (by simp [results, Try.results22, go_sem, e0, e1, e2]) rfl ?_
    have hA := HBA.out
    have hBZ : Below w.heap.size w3 w4 := HOZ.out.to_below (by omega) (Nat.le_trans hA.size HB3.out.size)
    have xx : Ext (fresh wA.heap.size w3) (fresh wA.heap.size w4) := fresh_only HOZ.out (by rw [HSA.out]; omega)
    have zA := hA.size
    have sD : wA.drew.heap.size = wA.heap.size := rfl
    refine ⟨⟨s1, s2, s3⟩, rfl, ?_, ⟨A2.out, B2.out, C2.out⟩, ⟨?_, ?_, ?_⟩, hA.trans ((HB3.out.mono zA).trans hBZ)⟩
    · show Pg.er _ = Pg.er _
      simp only [Pg.er, Sl.er, A1.out, B1.out, C1.out]
    · exact srsLie_ext ((fresh_mono (Nat.le_refl _) _).trans ((fresh_below (B4.out)).trans ((fresh_below C4.out).trans (xx.trans (fresh_mono zA _))))) A3.out
    · exact declsLie_ext ((fresh_mono HB1.out.size _).trans ((fresh_below C4.out).trans (xx.trans (fresh_mono zA _)))) B3.out
    · exact pcsLie_ext ((fresh_mono HB2.out.size _).trans (xx.trans (fresh_mono zA _))) C3.out

end Go.Proofs.Ytpbjnjnmbglllaa
