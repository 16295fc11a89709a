/-
  DERIVED. The walks of the program's Plain: one item, in place: values, conditions, structs.
-/
import Derived.Test.YtpbjnjnmbglllaaPb
import Derived.Test.YtpbjnjnmbglllaaPpVl
import Derived.Test.YtpbjnjnmbglllaaPpSr
namespace Go.Proofs.Ytpbjnjnmbglllaa
open Go.RowKit Go.Sort

set_option maxHeartbeats 800000 in
set_option maxRecDepth 100000 in
theorem bodyVl (x : Vl) : kVl.Body 89 x := by
  intro g q w hm hr hR
  have c1 := cell_at hr 1 _ rfl
  have c2 := cell_at hr 8 _ rfl
  have c3 := cell_at hr 11 _ rfl
  have f1 := hm.frozen (q + 1)
  have f2 := hm.frozen (q + 8)
  have f3 := hm.frozen (q + 11)
  have o1 : Only w g q 12 (w.setCell ⟨g, q + 1, none⟩ (.int .i64 0)) := Only.setCell hm (by omega) (by omega) _
  have o2 : Only (w.setCell ⟨g, q + 1, none⟩ (.int .i64 0)) g q 12 ((w.setCell ⟨g, q + 1, none⟩ (.int .i64 0)).setCell ⟨g, q + 8, none⟩ (.int .i64 0)) := Only.setCell o1.mine (by omega) (by omega) _
  have o3 : Only ((w.setCell ⟨g, q + 1, none⟩ (.int .i64 0)).setCell ⟨g, q + 8, none⟩ (.int .i64 0)) g q 12 (((w.setCell ⟨g, q + 1, none⟩ (.int .i64 0)).setCell ⟨g, q + 8, none⟩ (.int .i64 0)).setCell ⟨g, q + 11, none⟩ (.int .i64 0)) := Only.setCell o2.mine (by omega) (by omega) _
  have o := o1.trans (o2.trans o3)
  have r1 : (w.setCell ⟨g, q + 1, none⟩ (.int .i64 0)).rangeAt g q _ := set_range hr 1 (.int .i64 0) (show 1 < 12 by decide) rfl
  have r2 : ((w.setCell ⟨g, q + 1, none⟩ (.int .i64 0)).setCell ⟨g, q + 8, none⟩ (.int .i64 0)).rangeAt g q _ := set_range r1 8 (.int .i64 0) (show 8 < 12 by decide) rfl
  have r3 : (((w.setCell ⟨g, q + 1, none⟩ (.int .i64 0)).setCell ⟨g, q + 8, none⟩ (.int .i64 0)).setCell ⟨g, q + 11, none⟩ (.int .i64 0)).rangeAt g q (Vl.cells ⟨x.kind, 0, x.path, x.type, ⟨x.left.name, x.left.n, 0⟩, ⟨x.right.name, x.right.n, 0⟩⟩) := set_range r2 11 (.int .i64 0) (show 11 < 12 by decide) rfl
  have HA := Lib.hid (bodyPth x.path g (q + 2) _ o.mine (rangeAt_sub r3 2 3 rfl) (hopsLie_ext o.hole hR))
  have HR3 := Lib.hid r3; have HO := Lib.hid o; have HM := Lib.hid hm
  clear hm hr hR o1 o2 o3 o r1 r2 r3
  go_enter Try.func89, Try.ntmps89
  go_wp2_with fail
  refine (HA.out).mono ?_; rintro en w2 ⟨rfl, y, h1, h2, h3, h4, h5⟩
  have HY1 := Lib.hid h1; have HY2 := Lib.hid h2; have HY3 := Lib.hid h3; have HY4 := Lib.hid h4; have HY5 := Lib.hid h5
  clear h1 h2 h3 h4 h5 c1 c2 c3 f1 f2 f3
  go_wp2_with fail
  go_end0
  refine ⟨rfl, ⟨x.kind, 0, y, x.type, ⟨x.left.name, x.left.n, 0⟩, ⟨x.right.name, x.right.n, 0⟩⟩, ?_, ⟨rfl, HY2.out, rfl, rfl⟩, HY5.out.put HR3.out HY3.out rfl (show 2 + 3 ≤ 12 by decide) rfl, ?_, HO.out.trans (HY5.out.wide (by omega) (show q + 2 + 3 ≤ q + 12 by omega))⟩
  · show Vl.er _ = Vl.er _
    simp only [Vl.er, Tm.er, show y.er = x.path.er from HY1.out]
  · exact hopsLie_ext (fresh_mono (by simp [World.setCell]) _) HY4.out

set_option maxHeartbeats 800000 in
set_option maxRecDepth 100000 in
theorem bodyCd (x : Cd) : kCd.Body 90 x := by
  intro g q w hm hr hR
  have c1 := cell_at hr 1 _ rfl
  have f1 := hm.frozen (q + 1)
  have o : Only w g q 26 (w.setCell ⟨g, q + 1, none⟩ (.int .i64 0)) := Only.setCell hm (by omega) (by omega) _
  have r1 : (w.setCell ⟨g, q + 1, none⟩ (.int .i64 0)).rangeAt g q (Cd.cells ⟨x.kind, 0, x.left, x.right⟩) := set_range hr 1 (.int .i64 0) (show 1 < 26 by decide) rfl
  have HA := Lib.hid (bodyVl x.left g (q + 2) _ o.mine (rangeAt_sub r1 2 12 rfl) (vlLies_ext o.hole hR.1))
  have HR1 := Lib.hid r1; have HO := Lib.hid o; have HM := Lib.hid hm; have HRR := Lib.hid hR.2
  clear hm hr hR o r1
  go_enter Try.func90, Try.ntmps90
  go_wp2_with fail
  refine (HA.out).mono ?_; rintro en w2 ⟨rfl, y, h1, h2, h3, h4, h5⟩
  have HY1 := Lib.hid h1; have HY2 := Lib.hid h2; have HY4 := Lib.hid h4; have HY5 := Lib.hid h5
  have HR2 : Hid (w2.rangeAt g q (Cd.cells ⟨x.kind, 0, y, x.right⟩)) := Lib.hid (h5.put HR1.out h3 rfl (show 2 + 12 ≤ 26 by decide) rfl)
  have HO2 := Lib.hid (HO.out.trans (h5.wide (q' := q) (n' := 26) (by omega) (show q + 2 + 12 ≤ q + 26 by omega)))
  clear h1 h2 h3 h4 h5 c1 f1
  have HB := Lib.hid (bodyVl x.right g (q + 14) w2 HO2.out.mine (rangeAt_sub HR2.out 14 12 rfl) (vlLies_ext HO2.out.hole HRR.out))
  go_wp2_with fail
  refine (HB.out).mono ?_; rintro en w3 ⟨rfl, z, h1, h2, h3, h4, h5⟩
  have HZ1 := Lib.hid h1; have HZ2 := Lib.hid h2; have HZ4 := Lib.hid h4; have HZ5 := Lib.hid h5
  have HR3 : Hid (w3.rangeAt g q (Cd.cells ⟨x.kind, 0, y, z⟩)) := Lib.hid (h5.put HR2.out h3 rfl (show 14 + 12 ≤ 26 by decide) rfl)
  have HO3 := Lib.hid (HO2.out.trans (h5.wide (q' := q) (n' := 26) (by omega) (show q + 14 + 12 ≤ q + 26 by omega)))
  clear h1 h2 h3 h4 h5
  go_wp2_with fail
  go_end0
  refine ⟨rfl, ⟨x.kind, 0, y, z⟩, ?_, ⟨rfl, HY2.out, HZ2.out⟩, HR3.out, ⟨?_, ?_⟩, HO3.out⟩
  · show Cd.er _ = Cd.er _
    simp only [Cd.er, show y.er = x.left.er from HY1.out, show z.er = x.right.er from HZ1.out]
  · exact vlLies_ext ((fresh_mono (by simp [World.setCell]) _).trans (fresh_only HZ5.out HM.out.lt)) HY4.out
  · exact vlLies_ext (fresh_mono HO2.out.size _) HZ4.out

set_option maxHeartbeats 800000 in
set_option maxRecDepth 100000 in
theorem bodySr (x : Sr) : kSr.Body 43 x := by
  intro g q w hm hr hR
  have c1 := cell_at hr 1 _ rfl
  have c2 := cell_at hr 2 _ rfl
  have f1 := hm.frozen (q + 1)
  have ho1 : Only w g q 3 (w.setCell ⟨g, q + 1, none⟩ (.int .i64 0)) := Only.setCell hm (by omega) (by omega) _
  have HR1 : Hid ((w.setCell ⟨g, q + 1, none⟩ (.int .i64 0)).rangeAt g q [.string x.name, .int .i64 0, .slice x.fields.p x.fields.l.length x.fields.cap]) := Lib.hid (set_range hr 1 _ (show 1 < 3 by decide) rfl)
  have HA := Lib.hid (declsP x.fields x.fields.p x.fields.cap (w.setCell ⟨g, q + 1, none⟩ (.int .i64 0)) ((show kDc.Ly (hole (some g) w) x.fields.p x.fields.l from hR).ext (ho1.hole.trans (Ext.mask _ _))))
  have HO1 := Lib.hid ho1
  have HM := Lib.hid hm
  clear hm hr hR ho1
  go_enter Try.func43, Try.ntmps43
  go_wp2_with fail
  refine (HA.out).mono ?_; rintro en w2 ⟨p2, k2, l2, rfl, h1, h2, h3, hb2⟩
  have ho2 : Only (w.setCell ⟨g, q + 1, none⟩ (.int .i64 0)) g q 3 w2 := Only.below HO1.out.mine hb2
  have d2 : w2.cell? ⟨g, q + 2, none⟩ = some (.slice x.fields.p x.fields.l.length x.fields.cap) := (hb2.cell (p := ⟨g, q + 2, none⟩) HO1.out.mine.lt).trans (cell_at HR1.out 2 _ rfl)
  have f2 := ho2.mine.frozen (q + 2)
  have HR2 : Hid (w2.rangeAt g q [.string x.name, .int .i64 0, .slice x.fields.p x.fields.l.length x.fields.cap]) := Lib.hid (rangeAt_below HR1.out hb2)
  have H1 := Lib.hid h1; have H2 := Lib.hid h2; have H3 := Lib.hid h3; have HO2 := Lib.hid (HO1.out.trans ho2); have HB2 := Lib.hid hb2
  clear h1 h2 h3 ho2 hb2 c1 c2 f1
  go_wp2_with fail
  go_end0
  have ho3 : Only w2 g q 3 (w2.setCell ⟨g, q + 2, none⟩ (.slice p2 l2.length k2)) := Only.setCell HO2.out.mine (by omega) (by omega) _
  refine ⟨rfl, ⟨x.name, 0, ⟨p2, k2, l2⟩⟩, ?_, ⟨rfl, H2.out⟩, set_range HR2.out 2 _ (show 2 < 3 by decide) rfl, ?_, HO2.out.trans ho3⟩
  · show (⟨x.name, 0, ⟨none, 0, l2.map Dc.er⟩⟩ : Sr) = ⟨x.name, 0, ⟨none, 0, x.fields.l.map Dc.er⟩⟩
    rw [show l2.map Dc.er = x.fields.l.map Dc.er from H1.out]
  · exact H3.out.ext ((fresh_mono (by simp [World.setCell]) _).trans (fresh_only ho3 HM.out.lt))
theorem argsP (s : Sl Vl) : kVl.All 91 89 s.l := allPVl s.l fun x _ => bodyVl x
theorem structsP (s : Sl Sr) : kSr.All 42 43 s.l := allPSr s.l fun x _ => bodySr x

end Go.Proofs.Ytpbjnjnmbglllaa
