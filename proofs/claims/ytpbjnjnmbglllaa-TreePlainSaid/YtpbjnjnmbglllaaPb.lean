/-
  DERIVED. The walks of the program's Plain: one item, in place: hops, declarations, paths, values, conditions.
-/
import Derived.Test.YtpbjnjnmbglllaaPpHp
import Derived.Test.YtpbjnjnmbglllaaPpDc
namespace Go.Proofs.Ytpbjnjnmbglllaa
open Go.RowKit Go.Sort

theorem set_range {w : World} {g q : Nat} {cs cs' : List Value} (h : w.rangeAt g q cs) (i : Nat) (u : Value) (hi : i < cs.length) (e : cs.set i u = cs') : (w.setCell ⟨g, q + i, none⟩ u).rangeAt g q cs' := fun j v hv => by
  subst e
  by_cases hij : i = j
  · subst hij
    rw [List.getElem?_set_self (by omega)] at hv
    injection hv with hv
    subst hv
    exact World.cell?_setCell_same _ _ _ (h i _ (List.getElem?_eq_getElem hi))
  · rw [List.getElem?_set_ne hij] at hv
    rw [World.cell?_setCell_other _ _ _ _ (by intro e; injection e with _ e; omega)]
    exact h j v hv
theorem Only.put {w w' : World} {g q o n : Nat} {cs c' cs' : List Value} (h : Only w g (q + o) n w') (r : w.rangeAt g q cs) (r' : w'.rangeAt g (q + o) c') (hc : c'.length = n) (ho : o + n ≤ cs.length) (e : cs.take o ++ c' ++ cs.drop (o + n) = cs') : w'.rangeAt g q cs' := fun j v hv => by
  subst e
  have ht : (cs.take o).length = o := by rw [List.length_take]; omega
  by_cases h1 : j < o
  · rw [List.append_assoc, List.getElem?_append_left (by omega), List.getElem?_take, if_pos h1] at hv
    exact h.cell (r j v hv) (.inl (by omega))
  · rw [List.append_assoc, List.getElem?_append_right (by omega), ht] at hv
    by_cases h2 : j - o < n
    · rw [List.getElem?_append_left (by omega)] at hv
      have := r' (j - o) v hv
      rwa [show q + o + (j - o) = q + j by omega] at this
    · rw [List.getElem?_append_right (by omega), hc, List.getElem?_drop] at hv
      have := r _ v hv
      rw [show o + n + (j - o - n) = j by omega] at this
      exact h.cell this (.inr (by omega))
theorem fresh_only {B g q n : Nat} {w w' : World} (h : Only w g q n w') (hg : g < B) : Ext (fresh B w) (fresh B w') := Ext.of_mask fun b hb hlt => by
  simp only [decide_eq_false_iff_not] at hb ⊢
  exact ⟨hb, h.1.block b hlt (by intro e; injection e with e; omega)⟩

def kPth : Kd Pth := ⟨48, 3, 40, Pth.cells, Pth.er, Pth.flat, fun w x => hopsLie w x.hops, fun _ => rfl, fun _ => by simp [Value.oneCell'], fun _ h k => hopsLie_ext h k⟩
def kCd : Kd Cd := ⟨54, 26, 304, Cd.cells, Cd.er, Cd.flat, fun w x => vlLies w x.left ∧ vlLies w x.right, fun _ => rfl, fun _ => by simp [Value.oneCell'], fun _ h k => ⟨vlLies_ext h k.1, vlLies_ext h k.2⟩⟩

theorem bodyHp (x : Hp) : kHp.Body 95 x := by
  intro g q w hm hr _
  refine (plainHop_any g q _ w (cell_at hr 1 _ rfl) (hm.frozen _)).mono ?_
  rintro e w' ⟨rfl, rfl⟩
  exact ⟨rfl, ⟨x.name, 0⟩, rfl, rfl, set_range hr 1 _ (show 1 < 2 by decide) rfl, trivial, Only.setCell hm (by omega) (by show _ < q + 2; omega) _⟩
theorem bodyDc (x : Dc) : kDc.Body 45 x := by
  intro g q w hm hr _
  refine (plainDecl_any g q _ w (cell_at hr 2 _ rfl) (hm.frozen _)).mono ?_
  rintro e w' ⟨rfl, rfl⟩
  exact ⟨rfl, ⟨x.type, x.name, 0⟩, rfl, rfl, set_range hr 2 _ (show 2 < 3 by decide) rfl, trivial, Only.setCell hm (by omega) (by show _ < q + 3; omega) _⟩
theorem hopsP (s : Sl Hp) : kHp.All 94 95 s.l := allPHp s.l fun x _ => bodyHp x
theorem declsP (s : Sl Dc) : kDc.All 44 45 s.l := allPDc s.l fun x _ => bodyDc x

set_option maxHeartbeats 800000 in
set_option maxRecDepth 100000 in
theorem bodyPth (x : Pth) : kPth.Body 88 x := by
  intro g q w hm hr hR
  have c1 := cell_at hr 1 _ rfl
  have c2 := cell_at hr 2 _ rfl
  have f1 := hm.frozen (q + 1)
  have ho1 : Only w g q 3 (w.setCell ⟨g, q + 1, none⟩ (.int .i64 0)) := Only.setCell hm (by omega) (by omega) _
  have HR1 : Hid ((w.setCell ⟨g, q + 1, none⟩ (.int .i64 0)).rangeAt g q [.string x.name, .int .i64 0, .slice x.hops.p x.hops.l.length x.hops.cap]) := Lib.hid (set_range hr 1 _ (show 1 < 3 by decide) rfl)
  have HA := Lib.hid (hopsP x.hops x.hops.p x.hops.cap (w.setCell ⟨g, q + 1, none⟩ (.int .i64 0)) ((show kHp.Ly (hole (some g) w) x.hops.p x.hops.l from hR).ext (ho1.hole.trans (Ext.mask _ _))))
  have HO1 := Lib.hid ho1
  have HM := Lib.hid hm
  clear hm hr hR ho1
  go_enter Try.func88, Try.ntmps88
  go_wp2_with fail
  refine (HA.out).mono ?_; rintro en w2 ⟨p2, k2, l2, rfl, h1, h2, h3, hb2⟩
  have ho2 : Only (w.setCell ⟨g, q + 1, none⟩ (.int .i64 0)) g q 3 w2 := Only.below HO1.out.mine hb2
  have d2 : w2.cell? ⟨g, q + 2, none⟩ = some (.slice x.hops.p x.hops.l.length x.hops.cap) := (hb2.cell (p := ⟨g, q + 2, none⟩) HO1.out.mine.lt).trans (cell_at HR1.out 2 _ rfl)
  have f2 := ho2.mine.frozen (q + 2)
  have HR2 : Hid (w2.rangeAt g q [.string x.name, .int .i64 0, .slice x.hops.p x.hops.l.length x.hops.cap]) := Lib.hid (rangeAt_below HR1.out hb2)
  have H1 := Lib.hid h1; have H2 := Lib.hid h2; have H3 := Lib.hid h3; have HO2 := Lib.hid (HO1.out.trans ho2); have HB2 := Lib.hid hb2
  clear h1 h2 h3 ho2 hb2 c1 c2 f1
  go_wp2_with fail
  go_end0
  have ho3 : Only w2 g q 3 (w2.setCell ⟨g, q + 2, none⟩ (.slice p2 l2.length k2)) := Only.setCell HO2.out.mine (by omega) (by omega) _
  refine ⟨rfl, ⟨x.name, 0, ⟨p2, k2, l2⟩⟩, ?_, ⟨rfl, H2.out⟩, set_range HR2.out 2 _ (show 2 < 3 by decide) rfl, ?_, HO2.out.trans ho3⟩
  · show (⟨x.name, 0, ⟨none, 0, l2.map Hp.er⟩⟩ : Pth) = ⟨x.name, 0, ⟨none, 0, x.hops.l.map Hp.er⟩⟩
    rw [show l2.map Hp.er = x.hops.l.map Hp.er from H1.out]
  · exact H3.out.ext ((fresh_mono (by simp [World.setCell]) _).trans (fresh_only ho3 HM.out.lt))

end Go.Proofs.Ytpbjnjnmbglllaa
