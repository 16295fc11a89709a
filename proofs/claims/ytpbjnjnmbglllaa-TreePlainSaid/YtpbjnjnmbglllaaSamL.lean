/-
  DERIVED. The walks of 'are they the same': the law.
-/
import Derived.Test.YtpbjnjnmbglllaaRsG
import Derived.Test.YtpbjnjnmbglllaaSmW
import Derived.Test.YtpbjnjnmbglllaaCntW
namespace Go.Proofs.Ytpbjnjnmbglllaa
open Go.RowKit Go.Sort

set_option maxHeartbeats 6400000 in
set_option maxRecDepth 100000 in
theorem same_law (x y : Pg) (l m : SL) (p1 p2 : Option Addr) (c1 c2 : Nat) (w : World) (rx : pgLies w x) (ry : pgLies w y) (h1 : sLies w p1 l) (h2 : sLies w p2 m) :
    Calls Try.prog 4 #[.agg #[.slice x.structs.p x.structs.l.length x.structs.cap, .slice x.globals.p x.globals.l.length x.globals.cap, .slice x.procs.p x.procs.l.length x.procs.cap], .agg #[.slice y.structs.p y.structs.l.length y.structs.cap, .slice y.globals.p y.globals.l.length y.globals.cap, .slice y.procs.p y.procs.l.length y.procs.cap], .agg #[.slice p1 l.len c1, .slice p2 m.len c2]] w fun e w' => e = .returned (.bool true) ∧ Below w.heap.size w w' := by
  have ha : Below w.heap.size w (((w.alloc (.cells #[.slice x.structs.p x.structs.l.length x.structs.cap, .slice x.globals.p x.globals.l.length x.globals.cap, .slice x.procs.p x.procs.l.length x.procs.cap] 34)).alloc (.cells #[.slice y.structs.p y.structs.l.length y.structs.cap, .slice y.globals.p y.globals.l.length y.globals.cap, .slice y.procs.p y.procs.l.length y.procs.cap] 34)).alloc (.cells #[.slice p1 l.len c1, .slice p2 m.len c2] 36)) := (((Below.refl _ _).alloc (Nat.le_refl _) _).alloc (by simp) _).alloc (by simp; omega) _
  have b1 : (((w.alloc (.cells #[.slice x.structs.p x.structs.l.length x.structs.cap, .slice x.globals.p x.globals.l.length x.globals.cap, .slice x.procs.p x.procs.l.length x.procs.cap] 34)).alloc (.cells #[.slice y.structs.p y.structs.l.length y.structs.cap, .slice y.globals.p y.globals.l.length y.globals.cap, .slice y.procs.p y.procs.l.length y.procs.cap] 34)).alloc (.cells #[.slice p1 l.len c1, .slice p2 m.len c2] 36)).heap[w.heap.size]? = some (.cells #[.slice x.structs.p x.structs.l.length x.structs.cap, .slice x.globals.p x.globals.l.length x.globals.cap, .slice x.procs.p x.procs.l.length x.procs.cap] 34 (0, 0)) := (Below.heap_alloc _ _ _ (by simp only [World.size_alloc]; omega)).trans (heap_alloc2_old w _ _)
  have b2 : (((w.alloc (.cells #[.slice x.structs.p x.structs.l.length x.structs.cap, .slice x.globals.p x.globals.l.length x.globals.cap, .slice x.procs.p x.procs.l.length x.procs.cap] 34)).alloc (.cells #[.slice y.structs.p y.structs.l.length y.structs.cap, .slice y.globals.p y.globals.l.length y.globals.cap, .slice y.procs.p y.procs.l.length y.procs.cap] 34)).alloc (.cells #[.slice p1 l.len c1, .slice p2 m.len c2] 36)).heap[w.heap.size + 1]? = some (.cells #[.slice y.structs.p y.structs.l.length y.structs.cap, .slice y.globals.p y.globals.l.length y.globals.cap, .slice y.procs.p y.procs.l.length y.procs.cap] 34 (0, 0)) := (Below.heap_alloc _ _ _ (by simp only [World.size_alloc]; omega)).trans (heap_alloc2_new w _ _)
  have K : ∀ w', Below (((w.alloc (.cells #[.slice x.structs.p x.structs.l.length x.structs.cap, .slice x.globals.p x.globals.l.length x.globals.cap, .slice x.procs.p x.procs.l.length x.procs.cap] 34)).alloc (.cells #[.slice y.structs.p y.structs.l.length y.structs.cap, .slice y.globals.p y.globals.l.length y.globals.cap, .slice y.procs.p y.procs.l.length y.procs.cap] 34)).alloc (.cells #[.slice p1 l.len c1, .slice p2 m.len c2] 36)).heap.size (((w.alloc (.cells #[.slice x.structs.p x.structs.l.length x.structs.cap, .slice x.globals.p x.globals.l.length x.globals.cap, .slice x.procs.p x.procs.l.length x.procs.cap] 34)).alloc (.cells #[.slice y.structs.p y.structs.l.length y.structs.cap, .slice y.globals.p y.globals.l.length y.globals.cap, .slice y.procs.p y.procs.l.length y.procs.cap] 34)).alloc (.cells #[.slice p1 l.len c1, .slice p2 m.len c2] 36)) w' → ∀ j, w'.cell? ⟨w.heap.size, j, none⟩ = (#[.slice x.structs.p x.structs.l.length x.structs.cap, .slice x.globals.p x.globals.l.length x.globals.cap, .slice x.procs.p x.procs.l.length x.procs.cap] : Array Value)[j]? ∧ w'.cell? ⟨w.heap.size + 1, j, none⟩ = (#[.slice y.structs.p y.structs.l.length y.structs.cap, .slice y.globals.p y.globals.l.length y.globals.cap, .slice y.procs.p y.procs.l.length y.procs.cap] : Array Value)[j]? := fun w' hb j =>
    ⟨(hb.cell (p := ⟨w.heap.size, j, none⟩) (by simp only [World.size_alloc]; omega)).trans (cell_of_row _ _ j _ _ _ b1), (hb.cell (p := ⟨w.heap.size + 1, j, none⟩) (by simp only [World.size_alloc]; omega)).trans (cell_of_row _ _ j _ _ _ b2)⟩
  have HA := Lib.hid ha
  have HK := Lib.hid K
  have HX := Lib.hid rx
  have HY := Lib.hid ry
  have H1 := Lib.hid h1
  have H2 := Lib.hid h2
  clear ha b1 b2 K rx ry h1 h2
  go_enter Try.func4, Try.ntmps4
  go_wp2_with fail
  go_quiet (fail)
  have HB0 : Hid (Below (((w.alloc (.cells #[.slice x.structs.p x.structs.l.length x.structs.cap, .slice x.globals.p x.globals.l.length x.globals.cap, .slice x.procs.p x.procs.l.length x.procs.cap] 34)).alloc (.cells #[.slice y.structs.p y.structs.l.length y.structs.cap, .slice y.globals.p y.globals.l.length y.globals.cap, .slice y.procs.p y.procs.l.length y.procs.cap] 34)).alloc (.cells #[.slice p1 l.len c1, .slice p2 m.len c2] 36)).heap.size (((w.alloc (.cells #[.slice x.structs.p x.structs.l.length x.structs.cap, .slice x.globals.p x.globals.l.length x.globals.cap, .slice x.procs.p x.procs.l.length x.procs.cap] 34)).alloc (.cells #[.slice y.structs.p y.structs.l.length y.structs.cap, .slice y.globals.p y.globals.l.length y.globals.cap, .slice y.procs.p y.procs.l.length y.procs.cap] 34)).alloc (.cells #[.slice p1 l.len c1, .slice p2 m.len c2] 36)) ((((w.alloc (.cells #[.slice x.structs.p x.structs.l.length x.structs.cap, .slice x.globals.p x.globals.l.length x.globals.cap, .slice x.procs.p x.procs.l.length x.procs.cap] 34)).alloc (.cells #[.slice y.structs.p y.structs.l.length y.structs.cap, .slice y.globals.p y.globals.l.length y.globals.cap, .slice y.procs.p y.procs.l.length y.procs.cap] 34)).alloc (.cells #[.slice p1 l.len c1, .slice p2 m.len c2] 36)).drewN nq)) := Lib.hid (below_drewN_ (Below.refl _ _) _)
  generalize (((w.alloc (.cells #[.slice x.structs.p x.structs.l.length x.structs.cap, .slice x.globals.p x.globals.l.length x.globals.cap, .slice x.procs.p x.procs.l.length x.procs.cap] 34)).alloc (.cells #[.slice y.structs.p y.structs.l.length y.structs.cap, .slice y.globals.p y.globals.l.length y.globals.cap, .slice y.procs.p y.procs.l.length y.procs.cap] 34)).alloc (.cells #[.slice p1 l.len c1, .slice p2 m.len c2] 36)).drewN nq = w0 at HB0 ⊢
  generalize (((w.alloc (.cells #[.slice x.structs.p x.structs.l.length x.structs.cap, .slice x.globals.p x.globals.l.length x.globals.cap, .slice x.procs.p x.procs.l.length x.procs.cap] 34)).alloc (.cells #[.slice y.structs.p y.structs.l.length y.structs.cap, .slice y.globals.p y.globals.l.length y.globals.cap, .slice y.procs.p y.procs.l.length y.procs.cap] 34)).alloc (.cells #[.slice p1 l.len c1, .slice p2 m.len c2] 36)) = wA at HA HK HB0 ⊢
  have k0 := (HK.out w0 HB0.out) 0
  have k1 := (HK.out w0 HB0.out) 1
  have k2 := (HK.out w0 HB0.out) 2
  obtain ⟨kx0, ky0⟩ := k0
  obtain ⟨kx1, ky1⟩ := k1
  obtain ⟨kx2, ky2⟩ := k2
  replace kx0 : w0.cell? ⟨w.heap.size, 0, none⟩ = some (.slice x.structs.p x.structs.l.length x.structs.cap) := kx0
  replace kx1 : w0.cell? ⟨w.heap.size, 1, none⟩ = some (.slice x.globals.p x.globals.l.length x.globals.cap) := kx1
  replace kx2 : w0.cell? ⟨w.heap.size, 2, none⟩ = some (.slice x.procs.p x.procs.l.length x.procs.cap) := kx2
  replace ky0 : w0.cell? ⟨w.heap.size + 1, 0, none⟩ = some (.slice y.structs.p y.structs.l.length y.structs.cap) := ky0
  replace ky1 : w0.cell? ⟨w.heap.size + 1, 1, none⟩ = some (.slice y.globals.p y.globals.l.length y.globals.cap) := ky1
  replace ky2 : w0.cell? ⟨w.heap.size + 1, 2, none⟩ = some (.slice y.procs.p y.procs.l.length y.procs.cap) := ky2
  go_wp2_with fail
  refine (small_any x _ (pgLies_below HX.out (HA.out.trans (HB0.out.mono HA.out.size)))).mono ?_; rintro en w1 ⟨b1, rfl, hb1⟩
  have HB1 : Hid (Below wA.heap.size wA w1) := Lib.hid (HB0.out.trans (hb1.mono HB0.out.size))
  clear hb1 kx0 kx1 kx2 ky0 ky1 ky2
  cases b1
  · go_wp2_with fail
    refine (lives_any _).mono ?_; rintro en wz ⟨rfl, hbz⟩
    have HBZ : Hid (Below w.heap.size w wz) := Lib.hid (HA.out.trans ((HB1.out.trans (hbz.mono HB1.out.size)).mono HA.out.size))
    clear hbz
    go_wp2_with fail
    go_ret
    exact ⟨rfl, HBZ.out⟩
  · have k0 := (HK.out w1 HB1.out) 0
    have k1 := (HK.out w1 HB1.out) 1
    have k2 := (HK.out w1 HB1.out) 2
    obtain ⟨kx0, ky0⟩ := k0
    obtain ⟨kx1, ky1⟩ := k1
    obtain ⟨kx2, ky2⟩ := k2
    replace kx0 : w1.cell? ⟨w.heap.size, 0, none⟩ = some (.slice x.structs.p x.structs.l.length x.structs.cap) := kx0
    replace kx1 : w1.cell? ⟨w.heap.size, 1, none⟩ = some (.slice x.globals.p x.globals.l.length x.globals.cap) := kx1
    replace kx2 : w1.cell? ⟨w.heap.size, 2, none⟩ = some (.slice x.procs.p x.procs.l.length x.procs.cap) := kx2
    replace ky0 : w1.cell? ⟨w.heap.size + 1, 0, none⟩ = some (.slice y.structs.p y.structs.l.length y.structs.cap) := ky0
    replace ky1 : w1.cell? ⟨w.heap.size + 1, 1, none⟩ = some (.slice y.globals.p y.globals.l.length y.globals.cap) := ky1
    replace ky2 : w1.cell? ⟨w.heap.size + 1, 2, none⟩ = some (.slice y.procs.p y.procs.l.length y.procs.cap) := ky2
    go_wp2_with fail
    refine (small_any y _ (pgLies_below HY.out (HA.out.trans (HB1.out.mono HA.out.size)))).mono ?_; rintro en w2 ⟨b2, rfl, hb2⟩
    have HB2 : Hid (Below wA.heap.size wA w2) := Lib.hid (HB1.out.trans (hb2.mono HB1.out.size))
    clear hb2 kx0 kx1 kx2 ky0 ky1 ky2
    cases b2
    · go_wp2_with fail
      refine (lives_any _).mono ?_; rintro en wz ⟨rfl, hbz⟩
      have HBZ : Hid (Below w.heap.size w wz) := Lib.hid (HA.out.trans ((HB2.out.trans (hbz.mono HB2.out.size)).mono HA.out.size))
      clear hbz
      go_wp2_with fail
      go_ret
      exact ⟨rfl, HBZ.out⟩
    · go_wp2_with fail
      refine (weight_any l p1 c1 0 _ (Int.le_refl _) (by omega) (sLies_below H1.out (HA.out.trans (HB2.out.mono HA.out.size)))).mono ?_; rintro en w3 ⟨rfl, hb3⟩
      have HB3 : Hid (Below wA.heap.size wA w3) := Lib.hid (HB2.out.trans (hb3.mono HB2.out.size))
      clear hb3
      generalize wt l 0 = n1
      by_cases hn1 : 1000 < n1
      · go_wp2_with fail
        refine (lives_any _).mono ?_; rintro en wz ⟨rfl, hbz⟩
        have HBZ : Hid (Below w.heap.size w wz) := Lib.hid (HA.out.trans ((HB3.out.trans (hbz.mono HB3.out.size)).mono HA.out.size))
        clear hbz
        go_wp2_with fail
        go_ret
        exact ⟨rfl, HBZ.out⟩
      · have hn1' : n1 ≤ 1000 := by omega
        clear hn1
        go_wp2_with fail
        refine (weight_any m p2 c2 0 _ (Int.le_refl _) (by omega) (sLies_below H2.out (HA.out.trans (HB3.out.mono HA.out.size)))).mono ?_; rintro en w4 ⟨rfl, hb4⟩
        have HB4 : Hid (Below wA.heap.size wA w4) := Lib.hid (HB3.out.trans (hb4.mono HB3.out.size))
        clear hb4
        generalize wt m 0 = n2
        by_cases hn2 : 1000 < n2
        · go_wp2_with fail
          refine (lives_any _).mono ?_; rintro en wz ⟨rfl, hbz⟩
          have HBZ : Hid (Below w.heap.size w wz) := Lib.hid (HA.out.trans ((HB4.out.trans (hbz.mono HB4.out.size)).mono HA.out.size))
          clear hbz
          go_wp2_with fail
          go_ret
          exact ⟨rfl, HBZ.out⟩
        · have hn2' : n2 ≤ 1000 := by omega
          clear hn2
          have k0 := (HK.out w4 HB4.out) 0
          have k1 := (HK.out w4 HB4.out) 1
          have k2 := (HK.out w4 HB4.out) 2
          obtain ⟨kx0, ky0⟩ := k0
          obtain ⟨kx1, ky1⟩ := k1
          obtain ⟨kx2, ky2⟩ := k2
          replace kx0 : w4.cell? ⟨w.heap.size, 0, none⟩ = some (.slice x.structs.p x.structs.l.length x.structs.cap) := kx0
          replace kx1 : w4.cell? ⟨w.heap.size, 1, none⟩ = some (.slice x.globals.p x.globals.l.length x.globals.cap) := kx1
          replace kx2 : w4.cell? ⟨w.heap.size, 2, none⟩ = some (.slice x.procs.p x.procs.l.length x.procs.cap) := kx2
          replace ky0 : w4.cell? ⟨w.heap.size + 1, 0, none⟩ = some (.slice y.structs.p y.structs.l.length y.structs.cap) := ky0
          replace ky1 : w4.cell? ⟨w.heap.size + 1, 1, none⟩ = some (.slice y.globals.p y.globals.l.length y.globals.cap) := ky1
          replace ky2 : w4.cell? ⟨w.heap.size + 1, 2, none⟩ = some (.slice y.procs.p y.procs.l.length y.procs.cap) := ky2
          have gx0 := cell_regrown kx0
          have gx1 := cell_regrown kx1
          have gx2 := cell_regrown kx2
          have gy0 := cell_regrown ky0
          have gy1 := cell_regrown ky1
          have gy2 := cell_regrown ky2
          have HB4W := Lib.hid (HA.out.trans (HB4.out.mono HA.out.size))
          have C1 : ∀ dd os, Calls Try.prog 18 #[.agg #[.slice x.structs.p x.structs.l.length x.structs.cap, .slice x.globals.p x.globals.l.length x.globals.cap, .slice x.procs.p x.procs.l.length x.procs.cap], .agg #[.slice y.structs.p y.structs.l.length y.structs.cap, .slice y.globals.p y.globals.l.length y.globals.cap, .slice y.procs.p y.procs.l.length y.procs.cap]] (grow (redrawn w4 dd) os) fun en w'' => en = .returned (.bool (samePg x y)) ∧ ∃ p : Regrown, w'' = grow (redrawn w4 p.d) p.os :=
            fun dd os => Calls.regrown_of (programS_any x y _ (pgLies_below (pgLies_below HX.out HB4W.out) (below_regrown _ _ _)) (pgLies_below (pgLies_below HY.out HB4W.out) (below_regrown _ _ _)))
          have C2 : ∀ dd os, Calls Try.prog 19 #[.agg #[.slice x.structs.p x.structs.l.length x.structs.cap, .slice x.globals.p x.globals.l.length x.globals.cap, .slice x.procs.p x.procs.l.length x.procs.cap], .agg #[.slice y.structs.p y.structs.l.length y.structs.cap, .slice y.globals.p y.globals.l.length y.globals.cap, .slice y.procs.p y.procs.l.length y.procs.cap]] (grow (redrawn w4 dd) os) fun en w'' => en = .returned (.bool (samePg x y)) ∧ ∃ p : Regrown, w'' = grow (redrawn w4 p.d) p.os :=
            fun dd os => Calls.regrown_of (refProgram_any x y _ (pgLies_below (pgLies_below HX.out HB4W.out) (below_regrown _ _ _)) (pgLies_below (pgLies_below HY.out HB4W.out) (below_regrown _ _ _)))
          have C3 : ∀ dd os, Calls Try.prog 20 #[.slice p1 l.len c1, .slice p2 m.len c2] (grow (redrawn w4 dd) os) fun en w'' => en = .returned (.bool (sameSL l m)) ∧ ∃ p : Regrown, w'' = grow (redrawn w4 p.d) p.os :=
            fun dd os => Calls.regrown_of (sameList_any l m _ _ _ _ _ (sLies_below (sLies_below H1.out HB4W.out) (below_regrown _ _ _)) (sLies_below (sLies_below H2.out HB4W.out) (below_regrown _ _ _)))
          have C4 : ∀ dd os, Calls Try.prog 21 #[.slice p1 l.len c1, .slice p2 m.len c2] (grow (redrawn w4 dd) os) fun en w'' => en = .returned (.bool (sameSL l m)) ∧ ∃ p : Regrown, w'' = grow (redrawn w4 p.d) p.os :=
            fun dd os => Calls.regrown_of (refList_any l m _ _ _ _ _ (sLies_below (sLies_below H1.out HB4W.out) (below_regrown _ _ _)) (sLies_below (sLies_below H2.out HB4W.out) (below_regrown _ _ _)))
          have C5 : ∀ dd os, Calls Try.prog 7 #[] (grow (redrawn w4 dd) os) fun en w'' => en = .returned (.bool true) ∧ ∃ p : Regrown, w'' = grow (redrawn w4 p.d) p.os :=
            fun dd os => Calls.regrown_of (lives_any _)
          generalize samePg x y = za at C1 C2
          generalize sameSL l m = zb at C3 C4
          cases za <;> cases zb
          all_goals
            go_wp2_with fail
            refine wp_region_quiet_below (by kernel_rfl) (by kernel_rfl) ?_
            repeat (go_big_quiet_step (first | (with_reducible exact C1 _ _) | (with_reducible exact C2 _ _) | (with_reducible exact C3 _ _) | (with_reducible exact C4 _ _) | (with_reducible exact C5 _ _)))
            refine wpQuiet_nil ?_
            intro _ hw'
            obtain ⟨⟨dq, osq⟩, hw''⟩ := hw'
            subst hw''
            have HBQ := Lib.hid (below_regrown w4 dq osq)
            generalize grow (redrawn w4 dq) osq = wq at HBQ ⊢
            go_wp2_with fail
            go_ret
            exact ⟨rfl, HB4W.out.trans (HBQ.out.mono HB4W.out.size)⟩

end Go.Proofs.Ytpbjnjnmbglllaa
