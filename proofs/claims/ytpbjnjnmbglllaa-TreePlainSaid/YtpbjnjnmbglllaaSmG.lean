/-
  DERIVED. The walks of 'are they the same': programs.
-/
import Derived.Test.YtpbjnjnmbglllaaSmP
namespace Go.Proofs.Ytpbjnjnmbglllaa
open Go.RowKit Go.Sort

theorem srs_of {w : World} {s : Sl Sr} (h : srsLie w s) : slLies w 3 48 Sr.cells (srLies w) s := h

set_option maxHeartbeats 1600000 in
set_option maxRecDepth 100000 in
theorem programS_any (x y : Pg) (w : World) (rx : pgLies w x) (ry : pgLies w y) :
    Calls Try.prog 18 #[.agg #[.slice x.structs.p x.structs.l.length x.structs.cap, .slice x.globals.p x.globals.l.length x.globals.cap, .slice x.procs.p x.procs.l.length x.procs.cap], .agg #[.slice y.structs.p y.structs.l.length y.structs.cap, .slice y.globals.p y.globals.l.length y.globals.cap, .slice y.procs.p y.procs.l.length y.procs.cap]] w fun en w' => en = .returned (.bool (samePg x y)) ∧ Below w.heap.size w w' := by
  have ha : Below w.heap.size w ((w.alloc (.cells #[.slice x.structs.p x.structs.l.length x.structs.cap, .slice x.globals.p x.globals.l.length x.globals.cap, .slice x.procs.p x.procs.l.length x.procs.cap] 34)).alloc (.cells #[.slice y.structs.p y.structs.l.length y.structs.cap, .slice y.globals.p y.globals.l.length y.globals.cap, .slice y.procs.p y.procs.l.length y.procs.cap] 34)) := ((Below.refl _ _).alloc (Nat.le_refl _) _).alloc (by simp) _
  have D1 : ∀ w', Below ((w.alloc (.cells #[.slice x.structs.p x.structs.l.length x.structs.cap, .slice x.globals.p x.globals.l.length x.globals.cap, .slice x.procs.p x.procs.l.length x.procs.cap] 34)).alloc (.cells #[.slice y.structs.p y.structs.l.length y.structs.cap, .slice y.globals.p y.globals.l.length y.globals.cap, .slice y.procs.p y.procs.l.length y.procs.cap] 34)).heap.size ((w.alloc (.cells #[.slice x.structs.p x.structs.l.length x.structs.cap, .slice x.globals.p x.globals.l.length x.globals.cap, .slice x.procs.p x.procs.l.length x.procs.cap] 34)).alloc (.cells #[.slice y.structs.p y.structs.l.length y.structs.cap, .slice y.globals.p y.globals.l.length y.globals.cap, .slice y.procs.p y.procs.l.length y.procs.cap] 34)) w' → Calls Try.prog 32 #[.slice x.structs.p x.structs.l.length x.structs.cap, .slice y.structs.p y.structs.l.length y.structs.cap, .func (.func 33) #[] #[]] w' fun en w'' => en = .returned (.bool (sameL sameSr x.structs.l y.structs.l)) ∧ Below w'.heap.size w' w'' := fun w' hb =>
    have hb' := ha.trans (hb.mono ha.size)
    allSr _ _ _ _ _ _ w' (Lay.of_sl (srs_of (srsLie_below rx.1 hb')) (by decide)) (Lay.of_sl (srs_of (srsLie_below ry.1 hb')) (by decide)) (fun a _ b _ => okSr a b)
  have D2 : ∀ w', Below ((w.alloc (.cells #[.slice x.structs.p x.structs.l.length x.structs.cap, .slice x.globals.p x.globals.l.length x.globals.cap, .slice x.procs.p x.procs.l.length x.procs.cap] 34)).alloc (.cells #[.slice y.structs.p y.structs.l.length y.structs.cap, .slice y.globals.p y.globals.l.length y.globals.cap, .slice y.procs.p y.procs.l.length y.procs.cap] 34)).heap.size ((w.alloc (.cells #[.slice x.structs.p x.structs.l.length x.structs.cap, .slice x.globals.p x.globals.l.length x.globals.cap, .slice x.procs.p x.procs.l.length x.procs.cap] 34)).alloc (.cells #[.slice y.structs.p y.structs.l.length y.structs.cap, .slice y.globals.p y.globals.l.length y.globals.cap, .slice y.procs.p y.procs.l.length y.procs.cap] 34)) w' → Calls Try.prog 34 #[.slice x.globals.p x.globals.l.length x.globals.cap, .slice y.globals.p y.globals.l.length y.globals.cap, .func (.func 35) #[] #[]] w' fun en w'' => en = .returned (.bool (sameL sameDc x.globals.l y.globals.l)) ∧ Below w'.heap.size w' w'' := fun w' hb =>
    have hb' := ha.trans (hb.mono ha.size)
    allDc _ _ _ _ _ _ w' (Lay.of_sl (decls_of (declsLie_below rx.2.1 hb')) (by decide)) (Lay.of_sl (decls_of (declsLie_below ry.2.1 hb')) (by decide)) (fun a _ b _ => okDc a b)
  have D3 : ∀ w', Below ((w.alloc (.cells #[.slice x.structs.p x.structs.l.length x.structs.cap, .slice x.globals.p x.globals.l.length x.globals.cap, .slice x.procs.p x.procs.l.length x.procs.cap] 34)).alloc (.cells #[.slice y.structs.p y.structs.l.length y.structs.cap, .slice y.globals.p y.globals.l.length y.globals.cap, .slice y.procs.p y.procs.l.length y.procs.cap] 34)).heap.size ((w.alloc (.cells #[.slice x.structs.p x.structs.l.length x.structs.cap, .slice x.globals.p x.globals.l.length x.globals.cap, .slice x.procs.p x.procs.l.length x.procs.cap] 34)).alloc (.cells #[.slice y.structs.p y.structs.l.length y.structs.cap, .slice y.globals.p y.globals.l.length y.globals.cap, .slice y.procs.p y.procs.l.length y.procs.cap] 34)) w' → Calls Try.prog 36 #[.slice x.procs.p x.procs.l.length x.procs.cap, .slice y.procs.p y.procs.l.length y.procs.cap, .func (.func 37) #[] #[]] w' fun en w'' => en = .returned (.bool (sameL samePc x.procs.l y.procs.l)) ∧ Below w'.heap.size w' w'' := fun w' hb =>
    have hb' := ha.trans (hb.mono ha.size)
    allPc _ _ _ _ _ _ w' (Lay.of_sl (pcsLie_below rx.2.2 hb') (by decide)) (Lay.of_sl (pcsLie_below ry.2.2 hb') (by decide)) (fun a _ b _ => okPc a b)
  have K : ∀ w', Below ((w.alloc (.cells #[.slice x.structs.p x.structs.l.length x.structs.cap, .slice x.globals.p x.globals.l.length x.globals.cap, .slice x.procs.p x.procs.l.length x.procs.cap] 34)).alloc (.cells #[.slice y.structs.p y.structs.l.length y.structs.cap, .slice y.globals.p y.globals.l.length y.globals.cap, .slice y.procs.p y.procs.l.length y.procs.cap] 34)).heap.size ((w.alloc (.cells #[.slice x.structs.p x.structs.l.length x.structs.cap, .slice x.globals.p x.globals.l.length x.globals.cap, .slice x.procs.p x.procs.l.length x.procs.cap] 34)).alloc (.cells #[.slice y.structs.p y.structs.l.length y.structs.cap, .slice y.globals.p y.globals.l.length y.globals.cap, .slice y.procs.p y.procs.l.length y.procs.cap] 34)) w' → w'.cell? ⟨w.heap.size, 1, none⟩ = some (.slice x.globals.p x.globals.l.length x.globals.cap) ∧ w'.cell? ⟨w.heap.size + 1, 1, none⟩ = some (.slice y.globals.p y.globals.l.length y.globals.cap) ∧ w'.cell? ⟨w.heap.size, 2, none⟩ = some (.slice x.procs.p x.procs.l.length x.procs.cap) ∧ w'.cell? ⟨w.heap.size + 1, 2, none⟩ = some (.slice y.procs.p y.procs.l.length y.procs.cap) := fun w' hb =>
    ⟨(hb.cell (p := ⟨w.heap.size, 1, none⟩) (by simp; omega)).trans (cell_of_row _ _ 1 _ _ _ (heap_alloc2_old w _ _)), (hb.cell (p := ⟨w.heap.size + 1, 1, none⟩) (by simp)).trans (cell_of_row _ _ 1 _ _ _ (heap_alloc2_new w _ _)),
     (hb.cell (p := ⟨w.heap.size, 2, none⟩) (by simp; omega)).trans (cell_of_row _ _ 2 _ _ _ (heap_alloc2_old w _ _)), (hb.cell (p := ⟨w.heap.size + 1, 2, none⟩) (by simp)).trans (cell_of_row _ _ 2 _ _ _ (heap_alloc2_new w _ _))⟩
  have HA := Lib.hid ha
  have HK := Lib.hid K
  have HR0 := Lib.hid (Below.refl ((w.alloc (.cells #[.slice x.structs.p x.structs.l.length x.structs.cap, .slice x.globals.p x.globals.l.length x.globals.cap, .slice x.procs.p x.procs.l.length x.procs.cap] 34)).alloc (.cells #[.slice y.structs.p y.structs.l.length y.structs.cap, .slice y.globals.p y.globals.l.length y.globals.cap, .slice y.procs.p y.procs.l.length y.procs.cap] 34)).heap.size ((w.alloc (.cells #[.slice x.structs.p x.structs.l.length x.structs.cap, .slice x.globals.p x.globals.l.length x.globals.cap, .slice x.procs.p x.procs.l.length x.procs.cap] 34)).alloc (.cells #[.slice y.structs.p y.structs.l.length y.structs.cap, .slice y.globals.p y.globals.l.length y.globals.cap, .slice y.procs.p y.procs.l.length y.procs.cap] 34)))
  show Calls _ _ _ _ (fun en w' => en = .returned (.bool (sameL sameSr x.structs.l y.structs.l && (sameL sameDc x.globals.l y.globals.l && sameL samePc x.procs.l y.procs.l))) ∧ Below w.heap.size w w')
  generalize sameL sameSr x.structs.l y.structs.l = zb1 at D1 ⊢
  generalize sameL sameDc x.globals.l y.globals.l = zb2 at D2 ⊢
  generalize sameL samePc x.procs.l y.procs.l = zb3 at D3 ⊢
  have HD1 := Lib.hid D1
  have HD2 := Lib.hid D2
  have HD3 := Lib.hid D3
  clear ha K D1 D2 D3 rx ry
  cases zb1
  · go_enter Try.func18, Try.ntmps18
    go_wp2_with fail
    refine (HD1.out _ HR0.out).mono ?_; rintro en w1 ⟨rfl, hb1⟩
    have HW1 : Hid (Below ((w.alloc (.cells #[.slice x.structs.p x.structs.l.length x.structs.cap, .slice x.globals.p x.globals.l.length x.globals.cap, .slice x.procs.p x.procs.l.length x.procs.cap] 34)).alloc (.cells #[.slice y.structs.p y.structs.l.length y.structs.cap, .slice y.globals.p y.globals.l.length y.globals.cap, .slice y.procs.p y.procs.l.length y.procs.cap] 34)).heap.size ((w.alloc (.cells #[.slice x.structs.p x.structs.l.length x.structs.cap, .slice x.globals.p x.globals.l.length x.globals.cap, .slice x.procs.p x.procs.l.length x.procs.cap] 34)).alloc (.cells #[.slice y.structs.p y.structs.l.length y.structs.cap, .slice y.globals.p y.globals.l.length y.globals.cap, .slice y.procs.p y.procs.l.length y.procs.cap] 34)) w1) := Lib.hid (HR0.out.trans (hb1.mono HR0.out.size))
    obtain ⟨ka0, kb0, kc0, kd0⟩ := HK.out _ HW1.out
    clear hb1
    go_wp2_with fail
    go_ret
    exact ⟨rfl, HA.out.trans (HW1.out.mono HA.out.size)⟩
  · cases zb2
    · go_enter Try.func18, Try.ntmps18
      go_wp2_with fail
      refine (HD1.out _ HR0.out).mono ?_; rintro en w1 ⟨rfl, hb1⟩
      have HW1 : Hid (Below ((w.alloc (.cells #[.slice x.structs.p x.structs.l.length x.structs.cap, .slice x.globals.p x.globals.l.length x.globals.cap, .slice x.procs.p x.procs.l.length x.procs.cap] 34)).alloc (.cells #[.slice y.structs.p y.structs.l.length y.structs.cap, .slice y.globals.p y.globals.l.length y.globals.cap, .slice y.procs.p y.procs.l.length y.procs.cap] 34)).heap.size ((w.alloc (.cells #[.slice x.structs.p x.structs.l.length x.structs.cap, .slice x.globals.p x.globals.l.length x.globals.cap, .slice x.procs.p x.procs.l.length x.procs.cap] 34)).alloc (.cells #[.slice y.structs.p y.structs.l.length y.structs.cap, .slice y.globals.p y.globals.l.length y.globals.cap, .slice y.procs.p y.procs.l.length y.procs.cap] 34)) w1) := Lib.hid (HR0.out.trans (hb1.mono HR0.out.size))
      obtain ⟨ka0, kb0, kc0, kd0⟩ := HK.out _ HW1.out
      clear hb1
      go_wp2_with fail
      refine (HD2.out _ HW1.out).mono ?_; rintro en w2 ⟨rfl, hb2⟩
      have HW2 : Hid (Below ((w.alloc (.cells #[.slice x.structs.p x.structs.l.length x.structs.cap, .slice x.globals.p x.globals.l.length x.globals.cap, .slice x.procs.p x.procs.l.length x.procs.cap] 34)).alloc (.cells #[.slice y.structs.p y.structs.l.length y.structs.cap, .slice y.globals.p y.globals.l.length y.globals.cap, .slice y.procs.p y.procs.l.length y.procs.cap] 34)).heap.size ((w.alloc (.cells #[.slice x.structs.p x.structs.l.length x.structs.cap, .slice x.globals.p x.globals.l.length x.globals.cap, .slice x.procs.p x.procs.l.length x.procs.cap] 34)).alloc (.cells #[.slice y.structs.p y.structs.l.length y.structs.cap, .slice y.globals.p y.globals.l.length y.globals.cap, .slice y.procs.p y.procs.l.length y.procs.cap] 34)) w2) := Lib.hid (HW1.out.trans (hb2.mono HW1.out.size))
      obtain ⟨ka1, kb1, kc1, kd1⟩ := HK.out _ HW2.out
      clear hb2
      go_wp2_with fail
      go_ret
      exact ⟨rfl, HA.out.trans (HW2.out.mono HA.out.size)⟩
    · cases zb3
      · go_enter Try.func18, Try.ntmps18
        go_wp2_with fail
        refine (HD1.out _ HR0.out).mono ?_; rintro en w1 ⟨rfl, hb1⟩
        have HW1 : Hid (Below ((w.alloc (.cells #[.slice x.structs.p x.structs.l.length x.structs.cap, .slice x.globals.p x.globals.l.length x.globals.cap, .slice x.procs.p x.procs.l.length x.procs.cap] 34)).alloc (.cells #[.slice y.structs.p y.structs.l.length y.structs.cap, .slice y.globals.p y.globals.l.length y.globals.cap, .slice y.procs.p y.procs.l.length y.procs.cap] 34)).heap.size ((w.alloc (.cells #[.slice x.structs.p x.structs.l.length x.structs.cap, .slice x.globals.p x.globals.l.length x.globals.cap, .slice x.procs.p x.procs.l.length x.procs.cap] 34)).alloc (.cells #[.slice y.structs.p y.structs.l.length y.structs.cap, .slice y.globals.p y.globals.l.length y.globals.cap, .slice y.procs.p y.procs.l.length y.procs.cap] 34)) w1) := Lib.hid (HR0.out.trans (hb1.mono HR0.out.size))
        obtain ⟨ka0, kb0, kc0, kd0⟩ := HK.out _ HW1.out
        clear hb1
        go_wp2_with fail
        refine (HD2.out _ HW1.out).mono ?_; rintro en w2 ⟨rfl, hb2⟩
        have HW2 : Hid (Below ((w.alloc (.cells #[.slice x.structs.p x.structs.l.length x.structs.cap, .slice x.globals.p x.globals.l.length x.globals.cap, .slice x.procs.p x.procs.l.length x.procs.cap] 34)).alloc (.cells #[.slice y.structs.p y.structs.l.length y.structs.cap, .slice y.globals.p y.globals.l.length y.globals.cap, .slice y.procs.p y.procs.l.length y.procs.cap] 34)).heap.size ((w.alloc (.cells #[.slice x.structs.p x.structs.l.length x.structs.cap, .slice x.globals.p x.globals.l.length x.globals.cap, .slice x.procs.p x.procs.l.length x.procs.cap] 34)).alloc (.cells #[.slice y.structs.p y.structs.l.length y.structs.cap, .slice y.globals.p y.globals.l.length y.globals.cap, .slice y.procs.p y.procs.l.length y.procs.cap] 34)) w2) := Lib.hid (HW1.out.trans (hb2.mono HW1.out.size))
        obtain ⟨ka1, kb1, kc1, kd1⟩ := HK.out _ HW2.out
        clear hb2
        go_wp2_with fail
        refine (HD3.out _ HW2.out).mono ?_; rintro en w3 ⟨rfl, hb3⟩
        have HW3 : Hid (Below ((w.alloc (.cells #[.slice x.structs.p x.structs.l.length x.structs.cap, .slice x.globals.p x.globals.l.length x.globals.cap, .slice x.procs.p x.procs.l.length x.procs.cap] 34)).alloc (.cells #[.slice y.structs.p y.structs.l.length y.structs.cap, .slice y.globals.p y.globals.l.length y.globals.cap, .slice y.procs.p y.procs.l.length y.procs.cap] 34)).heap.size ((w.alloc (.cells #[.slice x.structs.p x.structs.l.length x.structs.cap, .slice x.globals.p x.globals.l.length x.globals.cap, .slice x.procs.p x.procs.l.length x.procs.cap] 34)).alloc (.cells #[.slice y.structs.p y.structs.l.length y.structs.cap, .slice y.globals.p y.globals.l.length y.globals.cap, .slice y.procs.p y.procs.l.length y.procs.cap] 34)) w3) := Lib.hid (HW2.out.trans (hb3.mono HW2.out.size))
        obtain ⟨ka2, kb2, kc2, kd2⟩ := HK.out _ HW3.out
        clear hb3
        go_wp2_with fail
        go_ret
        exact ⟨rfl, HA.out.trans (HW3.out.mono HA.out.size)⟩
      · go_enter Try.func18, Try.ntmps18
        go_wp2_with fail
        refine (HD1.out _ HR0.out).mono ?_; rintro en w1 ⟨rfl, hb1⟩
        have HW1 : Hid (Below ((w.alloc (.cells #[.slice x.structs.p x.structs.l.length x.structs.cap, .slice x.globals.p x.globals.l.length x.globals.cap, .slice x.procs.p x.procs.l.length x.procs.cap] 34)).alloc (.cells #[.slice y.structs.p y.structs.l.length y.structs.cap, .slice y.globals.p y.globals.l.length y.globals.cap, .slice y.procs.p y.procs.l.length y.procs.cap] 34)).heap.size ((w.alloc (.cells #[.slice x.structs.p x.structs.l.length x.structs.cap, .slice x.globals.p x.globals.l.length x.globals.cap, .slice x.procs.p x.procs.l.length x.procs.cap] 34)).alloc (.cells #[.slice y.structs.p y.structs.l.length y.structs.cap, .slice y.globals.p y.globals.l.length y.globals.cap, .slice y.procs.p y.procs.l.length y.procs.cap] 34)) w1) := Lib.hid (HR0.out.trans (hb1.mono HR0.out.size))
        obtain ⟨ka0, kb0, kc0, kd0⟩ := HK.out _ HW1.out
        clear hb1
        go_wp2_with fail
        refine (HD2.out _ HW1.out).mono ?_; rintro en w2 ⟨rfl, hb2⟩
        have HW2 : Hid (Below ((w.alloc (.cells #[.slice x.structs.p x.structs.l.length x.structs.cap, .slice x.globals.p x.globals.l.length x.globals.cap, .slice x.procs.p x.procs.l.length x.procs.cap] 34)).alloc (.cells #[.slice y.structs.p y.structs.l.length y.structs.cap, .slice y.globals.p y.globals.l.length y.globals.cap, .slice y.procs.p y.procs.l.length y.procs.cap] 34)).heap.size ((w.alloc (.cells #[.slice x.structs.p x.structs.l.length x.structs.cap, .slice x.globals.p x.globals.l.length x.globals.cap, .slice x.procs.p x.procs.l.length x.procs.cap] 34)).alloc (.cells #[.slice y.structs.p y.structs.l.length y.structs.cap, .slice y.globals.p y.globals.l.length y.globals.cap, .slice y.procs.p y.procs.l.length y.procs.cap] 34)) w2) := Lib.hid (HW1.out.trans (hb2.mono HW1.out.size))
        obtain ⟨ka1, kb1, kc1, kd1⟩ := HK.out _ HW2.out
        clear hb2
        go_wp2_with fail
        refine (HD3.out _ HW2.out).mono ?_; rintro en w3 ⟨rfl, hb3⟩
        have HW3 : Hid (Below ((w.alloc (.cells #[.slice x.structs.p x.structs.l.length x.structs.cap, .slice x.globals.p x.globals.l.length x.globals.cap, .slice x.procs.p x.procs.l.length x.procs.cap] 34)).alloc (.cells #[.slice y.structs.p y.structs.l.length y.structs.cap, .slice y.globals.p y.globals.l.length y.globals.cap, .slice y.procs.p y.procs.l.length y.procs.cap] 34)).heap.size ((w.alloc (.cells #[.slice x.structs.p x.structs.l.length x.structs.cap, .slice x.globals.p x.globals.l.length x.globals.cap, .slice x.procs.p x.procs.l.length x.procs.cap] 34)).alloc (.cells #[.slice y.structs.p y.structs.l.length y.structs.cap, .slice y.globals.p y.globals.l.length y.globals.cap, .slice y.procs.p y.procs.l.length y.procs.cap] 34)) w3) := Lib.hid (HW2.out.trans (hb3.mono HW2.out.size))
        obtain ⟨ka2, kb2, kc2, kd2⟩ := HK.out _ HW3.out
        clear hb3
        go_wp2_with fail
        go_ret
        exact ⟨rfl, HA.out.trans (HW3.out.mono HA.out.size)⟩

end Go.Proofs.Ytpbjnjnmbglllaa
