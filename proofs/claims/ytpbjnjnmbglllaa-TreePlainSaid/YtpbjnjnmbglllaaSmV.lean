/-
  DERIVED. The walks of 'are they the same': hops, terms, paths, values, conditions, declarations.
-/
import Derived.Test.YtpbjnjnmbglllaaSmH
namespace Go.Proofs.Ytpbjnjnmbglllaa
open Go.RowKit Go.Sort

set_option maxHeartbeats 1600000 in
set_option maxRecDepth 100000 in
theorem hop_any (x y : Hp) (b1 q1 b2 q2 : Nat) (w : World) (hx : w.rangeAt b1 q1 (Hp.cells x)) (hy : w.rangeAt b2 q2 (Hp.cells y)) (_rx : triv w x) (_ry : triv w y) :
    Calls Try.prog 80 #[.pointer (some ⟨b1, q1, none⟩), .pointer (some ⟨b2, q2, none⟩)] w fun en w' => en = .returned (.bool (sameHp x y)) ∧ Below w.heap.size w w' := by
  have cx0 := cell_at hx 0 _ rfl
  have cy0 := cell_at hy 0 _ rfl
  rw [Nat.add_zero] at cx0 cy0
  have kx0 := cell_regrown cx0
  have ky0 := cell_regrown cy0
  show Calls _ _ _ _ (fun en w' => en = .returned (.bool ((x.name.toList == y.name.toList))) ∧ Below w.heap.size w w')
  generalize e0 : (x.name.toList == y.name.toList) = v0
  clear hx hy _rx _ry
  cases v0
  · go_enter Try.func80, Try.ntmps80
    go_wp2_with fail
    refine wp_region_quiet_below (by kernel_rfl) (by kernel_rfl) ?_
    repeat (go_big_quiet_step (fail))
    refine wpQuiet_nil ?_
    intro _ hw'
    obtain ⟨⟨dq, osq⟩, hw''⟩ := hw'
    subst hw''
    have HB3 := Lib.hid (below_regrown w dq osq)
    generalize grow (redrawn w dq) osq = w3 at HB3 ⊢
    go_wp2_with fail
    go_ret
    exact ⟨rfl, HB3.out⟩
  · go_enter Try.func80, Try.ntmps80
    go_wp2_with fail
    refine wp_region_quiet_below (by kernel_rfl) (by kernel_rfl) ?_
    repeat (go_big_quiet_step (fail))
    refine wpQuiet_nil ?_
    intro _ hw'
    obtain ⟨⟨dq, osq⟩, hw''⟩ := hw'
    subst hw''
    have HB3 := Lib.hid (below_regrown w dq osq)
    generalize grow (redrawn w dq) osq = w3 at HB3 ⊢
    go_wp2_with fail
    go_ret
    exact ⟨rfl, HB3.out⟩
theorem okHp (x y : Hp) : OkHp x y := fun b1 q1 b2 q2 w hx hy rx ry => hop_any x y b1 q1 b2 q2 w hx hy rx ry

set_option maxHeartbeats 1600000 in
set_option maxRecDepth 100000 in
theorem termS_any (x y : Tm) (b1 q1 b2 q2 : Nat) (w : World) (hx : w.rangeAt b1 q1 (Tm.cells x)) (hy : w.rangeAt b2 q2 (Tm.cells y)) (_rx : triv w x) (_ry : triv w y) :
    Calls Try.prog 81 #[.pointer (some ⟨b1, q1, none⟩), .pointer (some ⟨b2, q2, none⟩)] w fun en w' => en = .returned (.bool (sameTm x y)) ∧ Below w.heap.size w w' := by
  have cx0 := cell_at hx 0 _ rfl
  have cy0 := cell_at hy 0 _ rfl
  rw [Nat.add_zero] at cx0 cy0
  have kx0 := cell_regrown cx0
  have ky0 := cell_regrown cy0
  have cx1 := cell_at hx 1 _ rfl
  have cy1 := cell_at hy 1 _ rfl
  have kx1 := cell_regrown cx1
  have ky1 := cell_regrown cy1
  show Calls _ _ _ _ (fun en w' => en = .returned (.bool ((x.name.toList == y.name.toList) && ((x.n == y.n)))) ∧ Below w.heap.size w w')
  generalize e0 : (x.name.toList == y.name.toList) = v0
  generalize e1 : (x.n == y.n) = v1
  clear hx hy _rx _ry
  cases v0
  · go_enter Try.func81, Try.ntmps81
    go_wp2_with fail
    refine wp_region_quiet_below (by kernel_rfl) (by kernel_rfl) ?_
    repeat (go_big_quiet_step (fail))
    refine wpQuiet_nil ?_
    intro _ hw'
    obtain ⟨⟨dq, osq⟩, hw''⟩ := hw'
    subst hw''
    have HB3 := Lib.hid (below_regrown w dq osq)
    generalize grow (redrawn w dq) osq = w3 at HB3 ⊢
    go_wp2_with fail
    go_ret
    exact ⟨rfl, HB3.out⟩
  · cases v1
    · go_enter Try.func81, Try.ntmps81
      go_wp2_with fail
      refine wp_region_quiet_below (by kernel_rfl) (by kernel_rfl) ?_
      repeat (go_big_quiet_step (fail))
      refine wpQuiet_nil ?_
      intro _ hw'
      obtain ⟨⟨dq, osq⟩, hw''⟩ := hw'
      subst hw''
      have HB3 := Lib.hid (below_regrown w dq osq)
      generalize grow (redrawn w dq) osq = w3 at HB3 ⊢
      go_wp2_with fail
      go_ret
      exact ⟨rfl, HB3.out⟩
    · go_enter Try.func81, Try.ntmps81
      go_wp2_with fail
      refine wp_region_quiet_below (by kernel_rfl) (by kernel_rfl) ?_
      repeat (go_big_quiet_step (fail))
      refine wpQuiet_nil ?_
      intro _ hw'
      obtain ⟨⟨dq, osq⟩, hw''⟩ := hw'
      subst hw''
      have HB3 := Lib.hid (below_regrown w dq osq)
      generalize grow (redrawn w dq) osq = w3 at HB3 ⊢
      go_wp2_with fail
      go_ret
      exact ⟨rfl, HB3.out⟩
def pthLies (w : World) (x : Pth) : Prop := slLies w 2 24 Hp.cells (triv w) x.hops
theorem pthLies_of {w : World} {x : Pth} (h : hopsLie w x.hops) : pthLies w x := h
theorem pthLies_below {w w' : World} {x : Pth} (h : pthLies w x) (hb : Below w.heap.size w w') : pthLies w' x := slLies_below h hb (fun _ h => h)

set_option maxHeartbeats 1600000 in
set_option maxRecDepth 100000 in
theorem pathS_any (x y : Pth) (b1 q1 b2 q2 : Nat) (w : World) (hx : w.rangeAt b1 q1 (Pth.cells x)) (hy : w.rangeAt b2 q2 (Pth.cells y)) (rx : pthLies w x) (ry : pthLies w y) :
    Calls Try.prog 60 #[.pointer (some ⟨b1, q1, none⟩), .pointer (some ⟨b2, q2, none⟩)] w fun en w' => en = .returned (.bool (samePth x y)) ∧ Below w.heap.size w w' := by
  have cx0 := cell_at hx 0 _ rfl
  have cy0 := cell_at hy 0 _ rfl
  rw [Nat.add_zero] at cx0 cy0
  have kx0 := cell_regrown cx0
  have ky0 := cell_regrown cy0
  have C1 : ∀ w', Below w.heap.size w w' → Calls Try.prog 79 #[.slice x.hops.p x.hops.l.length x.hops.cap, .slice y.hops.p y.hops.l.length y.hops.cap, .func (.func 80) #[] #[]] w' fun en w'' => en = .returned (.bool (sameL sameHp x.hops.l y.hops.l)) ∧ Below w'.heap.size w' w'' := fun w' hb =>
    allHp _ _ _ _ _ _ w' (Lay.of_sl (pthLies_below rx hb) (by decide)) (Lay.of_sl (pthLies_below ry hb) (by decide)) (fun a _ b _ => okHp a b)
  have cx1 := cell_at hx 2 _ rfl
  have cy1 := cell_at hy 2 _ rfl
  have kx1 := cell_regrown cx1
  have ky1 := cell_regrown cy1
  show Calls _ _ _ _ (fun en w' => en = .returned (.bool ((x.name.toList == y.name.toList) && (sameL sameHp x.hops.l y.hops.l))) ∧ Below w.heap.size w w')
  generalize e0 : (x.name.toList == y.name.toList) = v0
  generalize sameL sameHp x.hops.l y.hops.l = v1 at C1 ⊢
  clear hx hy rx ry
  have cC1 : ∀ dd os, Calls Try.prog 79 #[.slice x.hops.p x.hops.l.length x.hops.cap, .slice y.hops.p y.hops.l.length y.hops.cap, .func (.func 80) #[] #[]] (grow (redrawn w dd) os) fun en w'' => en = .returned (.bool v1) ∧ ∃ p : Regrown, w'' = grow (redrawn w p.d) p.os := fun dd os => Calls.regrown_of (C1 _ (below_regrown _ _ _))
  clear C1
  cases v0
  · go_enter Try.func60, Try.ntmps60
    go_wp2_with fail
    refine wp_region_quiet_below (by kernel_rfl) (by kernel_rfl) ?_
    repeat (go_big_quiet_step (first | (with_reducible exact cC1 _ _)))
    refine wpQuiet_nil ?_
    intro _ hw'
    obtain ⟨⟨dq, osq⟩, hw''⟩ := hw'
    subst hw''
    have HB3 := Lib.hid (below_regrown w dq osq)
    generalize grow (redrawn w dq) osq = w3 at HB3 ⊢
    go_wp2_with fail
    go_ret
    exact ⟨rfl, HB3.out⟩
  · cases v1
    · go_enter Try.func60, Try.ntmps60
      go_wp2_with fail
      refine wp_region_quiet_below (by kernel_rfl) (by kernel_rfl) ?_
      repeat (go_big_quiet_step (first | (with_reducible exact cC1 _ _)))
      refine wpQuiet_nil ?_
      intro _ hw'
      obtain ⟨⟨dq, osq⟩, hw''⟩ := hw'
      subst hw''
      have HB3 := Lib.hid (below_regrown w dq osq)
      generalize grow (redrawn w dq) osq = w3 at HB3 ⊢
      go_wp2_with fail
      go_ret
      exact ⟨rfl, HB3.out⟩
    · go_enter Try.func60, Try.ntmps60
      go_wp2_with fail
      refine wp_region_quiet_below (by kernel_rfl) (by kernel_rfl) ?_
      repeat (go_big_quiet_step (first | (with_reducible exact cC1 _ _)))
      refine wpQuiet_nil ?_
      intro _ hw'
      obtain ⟨⟨dq, osq⟩, hw''⟩ := hw'
      subst hw''
      have HB3 := Lib.hid (below_regrown w dq osq)
      generalize grow (redrawn w dq) osq = w3 at HB3 ⊢
      go_wp2_with fail
      go_ret
      exact ⟨rfl, HB3.out⟩

set_option maxHeartbeats 1600000 in
set_option maxRecDepth 100000 in
theorem valueS_any (x y : Vl) (b1 q1 b2 q2 : Nat) (w : World) (hx : w.rangeAt b1 q1 (Vl.cells x)) (hy : w.rangeAt b2 q2 (Vl.cells y)) (rx : vlLies w x) (ry : vlLies w y) :
    Calls Try.prog 61 #[.pointer (some ⟨b1, q1, none⟩), .pointer (some ⟨b2, q2, none⟩)] w fun en w' => en = .returned (.bool (sameVl x y)) ∧ Below w.heap.size w w' := by
  have cx0 := cell_at hx 0 _ rfl
  have cy0 := cell_at hy 0 _ rfl
  rw [Nat.add_zero] at cx0 cy0
  have kx0 := cell_regrown cx0
  have ky0 := cell_regrown cy0
  have cx1 := cell_at hx 5 _ rfl
  have cy1 := cell_at hy 5 _ rfl
  have kx1 := cell_regrown cx1
  have ky1 := cell_regrown cy1
  have C2 : ∀ w', Below w.heap.size w w' → Calls Try.prog 60 #[.pointer (some ⟨b1, q1 + 2, none⟩), .pointer (some ⟨b2, q2 + 2, none⟩)] w' fun en w'' => en = .returned (.bool (samePth x.path y.path)) ∧ Below w'.heap.size w' w'' := fun w' hb =>
    pathS_any _ _ _ _ _ _ w' (rangeAt_below (rangeAt_sub hx 2 3 rfl) hb) (rangeAt_below (rangeAt_sub hy 2 3 rfl) hb) (pthLies_of (vlLies_below rx hb)) (pthLies_of (vlLies_below ry hb))
  have C3 : ∀ w', Below w.heap.size w w' → Calls Try.prog 81 #[.pointer (some ⟨b1, q1 + 6, none⟩), .pointer (some ⟨b2, q2 + 6, none⟩)] w' fun en w'' => en = .returned (.bool (sameTm x.left y.left)) ∧ Below w'.heap.size w' w'' := fun w' hb =>
    termS_any _ _ _ _ _ _ w' (rangeAt_below (rangeAt_sub hx 6 3 rfl) hb) (rangeAt_below (rangeAt_sub hy 6 3 rfl) hb) trivial trivial
  have C4 : ∀ w', Below w.heap.size w w' → Calls Try.prog 81 #[.pointer (some ⟨b1, q1 + 9, none⟩), .pointer (some ⟨b2, q2 + 9, none⟩)] w' fun en w'' => en = .returned (.bool (sameTm x.right y.right)) ∧ Below w'.heap.size w' w'' := fun w' hb =>
    termS_any _ _ _ _ _ _ w' (rangeAt_below (rangeAt_sub hx 9 3 rfl) hb) (rangeAt_below (rangeAt_sub hy 9 3 rfl) hb) trivial trivial
  show Calls _ _ _ _ (fun en w' => en = .returned (.bool ((x.kind == y.kind) && ((x.type.toList == y.type.toList) && (samePth x.path y.path && (sameTm x.left y.left && (sameTm x.right y.right)))))) ∧ Below w.heap.size w w')
  generalize e0 : (x.kind == y.kind) = v0
  generalize e1 : (x.type.toList == y.type.toList) = v1
  generalize samePth x.path y.path = v2 at C2 ⊢
  generalize sameTm x.left y.left = v3 at C3 ⊢
  generalize sameTm x.right y.right = v4 at C4 ⊢
  clear hx hy rx ry
  have cC2 : ∀ dd os, Calls Try.prog 60 #[.pointer (some ⟨b1, q1 + 2, none⟩), .pointer (some ⟨b2, q2 + 2, none⟩)] (grow (redrawn w dd) os) fun en w'' => en = .returned (.bool v2) ∧ ∃ p : Regrown, w'' = grow (redrawn w p.d) p.os := fun dd os => Calls.regrown_of (C2 _ (below_regrown _ _ _))
  clear C2
  have cC3 : ∀ dd os, Calls Try.prog 81 #[.pointer (some ⟨b1, q1 + 6, none⟩), .pointer (some ⟨b2, q2 + 6, none⟩)] (grow (redrawn w dd) os) fun en w'' => en = .returned (.bool v3) ∧ ∃ p : Regrown, w'' = grow (redrawn w p.d) p.os := fun dd os => Calls.regrown_of (C3 _ (below_regrown _ _ _))
  clear C3
  have cC4 : ∀ dd os, Calls Try.prog 81 #[.pointer (some ⟨b1, q1 + 9, none⟩), .pointer (some ⟨b2, q2 + 9, none⟩)] (grow (redrawn w dd) os) fun en w'' => en = .returned (.bool v4) ∧ ∃ p : Regrown, w'' = grow (redrawn w p.d) p.os := fun dd os => Calls.regrown_of (C4 _ (below_regrown _ _ _))
  clear C4
  cases v0
  · go_enter Try.func61, Try.ntmps61
    go_wp2_with fail
    refine wp_region_quiet_below (by kernel_rfl) (by kernel_rfl) ?_
    repeat (go_big_quiet_step (first | (with_reducible exact cC2 _ _) | (with_reducible exact cC3 _ _) | (with_reducible exact cC4 _ _)))
    refine wpQuiet_nil ?_
    intro _ hw'
    obtain ⟨⟨dq, osq⟩, hw''⟩ := hw'
    subst hw''
    have HB3 := Lib.hid (below_regrown w dq osq)
    generalize grow (redrawn w dq) osq = w3 at HB3 ⊢
    go_wp2_with fail
    go_ret
    exact ⟨rfl, HB3.out⟩
  · cases v1
    · go_enter Try.func61, Try.ntmps61
      go_wp2_with fail
      refine wp_region_quiet_below (by kernel_rfl) (by kernel_rfl) ?_
      repeat (go_big_quiet_step (first | (with_reducible exact cC2 _ _) | (with_reducible exact cC3 _ _) | (with_reducible exact cC4 _ _)))
      refine wpQuiet_nil ?_
      intro _ hw'
      obtain ⟨⟨dq, osq⟩, hw''⟩ := hw'
      subst hw''
      have HB3 := Lib.hid (below_regrown w dq osq)
      generalize grow (redrawn w dq) osq = w3 at HB3 ⊢
      go_wp2_with fail
      go_ret
      exact ⟨rfl, HB3.out⟩
    · cases v2
      · go_enter Try.func61, Try.ntmps61
        go_wp2_with fail
        refine wp_region_quiet_below (by kernel_rfl) (by kernel_rfl) ?_
        repeat (go_big_quiet_step (first | (with_reducible exact cC2 _ _) | (with_reducible exact cC3 _ _) | (with_reducible exact cC4 _ _)))
        refine wpQuiet_nil ?_
        intro _ hw'
        obtain ⟨⟨dq, osq⟩, hw''⟩ := hw'
        subst hw''
        have HB3 := Lib.hid (below_regrown w dq osq)
        generalize grow (redrawn w dq) osq = w3 at HB3 ⊢
        go_wp2_with fail
        go_ret
        exact ⟨rfl, HB3.out⟩
      · cases v3
        · go_enter Try.func61, Try.ntmps61
          go_wp2_with fail
          refine wp_region_quiet_below (by kernel_rfl) (by kernel_rfl) ?_
          repeat (go_big_quiet_step (first | (with_reducible exact cC2 _ _) | (with_reducible exact cC3 _ _) | (with_reducible exact cC4 _ _)))
          refine wpQuiet_nil ?_
          intro _ hw'
          obtain ⟨⟨dq, osq⟩, hw''⟩ := hw'
          subst hw''
          have HB3 := Lib.hid (below_regrown w dq osq)
          generalize grow (redrawn w dq) osq = w3 at HB3 ⊢
          go_wp2_with fail
          go_ret
          exact ⟨rfl, HB3.out⟩
        · cases v4
          · go_enter Try.func61, Try.ntmps61
            go_wp2_with fail
            refine wp_region_quiet_below (by kernel_rfl) (by kernel_rfl) ?_
            repeat (go_big_quiet_step (first | (with_reducible exact cC2 _ _) | (with_reducible exact cC3 _ _) | (with_reducible exact cC4 _ _)))
            refine wpQuiet_nil ?_
            intro _ hw'
            obtain ⟨⟨dq, osq⟩, hw''⟩ := hw'
            subst hw''
            have HB3 := Lib.hid (below_regrown w dq osq)
            generalize grow (redrawn w dq) osq = w3 at HB3 ⊢
            go_wp2_with fail
            go_ret
            exact ⟨rfl, HB3.out⟩
          · go_enter Try.func61, Try.ntmps61
            go_wp2_with fail
            refine wp_region_quiet_below (by kernel_rfl) (by kernel_rfl) ?_
            repeat (go_big_quiet_step (first | (with_reducible exact cC2 _ _) | (with_reducible exact cC3 _ _) | (with_reducible exact cC4 _ _)))
            refine wpQuiet_nil ?_
            intro _ hw'
            obtain ⟨⟨dq, osq⟩, hw''⟩ := hw'
            subst hw''
            have HB3 := Lib.hid (below_regrown w dq osq)
            generalize grow (redrawn w dq) osq = w3 at HB3 ⊢
            go_wp2_with fail
            go_ret
            exact ⟨rfl, HB3.out⟩
def cdLies (w : World) (x : Cd) : Prop := vlLies w x.left ∧ vlLies w x.right

set_option maxHeartbeats 1600000 in
set_option maxRecDepth 100000 in
theorem condS_any (x y : Cd) (b1 q1 b2 q2 : Nat) (w : World) (hx : w.rangeAt b1 q1 (Cd.cells x)) (hy : w.rangeAt b2 q2 (Cd.cells y)) (rx : cdLies w x) (ry : cdLies w y) :
    Calls Try.prog 62 #[.pointer (some ⟨b1, q1, none⟩), .pointer (some ⟨b2, q2, none⟩)] w fun en w' => en = .returned (.bool (sameCd x y)) ∧ Below w.heap.size w w' := by
  have cx0 := cell_at hx 0 _ rfl
  have cy0 := cell_at hy 0 _ rfl
  rw [Nat.add_zero] at cx0 cy0
  have kx0 := cell_regrown cx0
  have ky0 := cell_regrown cy0
  have C1 : ∀ w', Below w.heap.size w w' → Calls Try.prog 61 #[.pointer (some ⟨b1, q1 + 2, none⟩), .pointer (some ⟨b2, q2 + 2, none⟩)] w' fun en w'' => en = .returned (.bool (sameVl x.left y.left)) ∧ Below w'.heap.size w' w'' := fun w' hb =>
    valueS_any _ _ _ _ _ _ w' (rangeAt_below (rangeAt_sub hx 2 12 rfl) hb) (rangeAt_below (rangeAt_sub hy 2 12 rfl) hb) (vlLies_below rx.1 hb) (vlLies_below ry.1 hb)
  have C2 : ∀ w', Below w.heap.size w w' → Calls Try.prog 61 #[.pointer (some ⟨b1, q1 + 14, none⟩), .pointer (some ⟨b2, q2 + 14, none⟩)] w' fun en w'' => en = .returned (.bool (sameVl x.right y.right)) ∧ Below w'.heap.size w' w'' := fun w' hb =>
    valueS_any _ _ _ _ _ _ w' (rangeAt_below (rangeAt_sub hx 14 12 rfl) hb) (rangeAt_below (rangeAt_sub hy 14 12 rfl) hb) (vlLies_below rx.2 hb) (vlLies_below ry.2 hb)
  show Calls _ _ _ _ (fun en w' => en = .returned (.bool ((x.kind == y.kind) && (sameVl x.left y.left && (sameVl x.right y.right)))) ∧ Below w.heap.size w w')
  generalize e0 : (x.kind == y.kind) = v0
  generalize sameVl x.left y.left = v1 at C1 ⊢
  generalize sameVl x.right y.right = v2 at C2 ⊢
  clear hx hy rx ry
  have cC1 : ∀ dd os, Calls Try.prog 61 #[.pointer (some ⟨b1, q1 + 2, none⟩), .pointer (some ⟨b2, q2 + 2, none⟩)] (grow (redrawn w dd) os) fun en w'' => en = .returned (.bool v1) ∧ ∃ p : Regrown, w'' = grow (redrawn w p.d) p.os := fun dd os => Calls.regrown_of (C1 _ (below_regrown _ _ _))
  clear C1
  have cC2 : ∀ dd os, Calls Try.prog 61 #[.pointer (some ⟨b1, q1 + 14, none⟩), .pointer (some ⟨b2, q2 + 14, none⟩)] (grow (redrawn w dd) os) fun en w'' => en = .returned (.bool v2) ∧ ∃ p : Regrown, w'' = grow (redrawn w p.d) p.os := fun dd os => Calls.regrown_of (C2 _ (below_regrown _ _ _))
  clear C2
  cases v0
  · go_enter Try.func62, Try.ntmps62
    go_wp2_with fail
    refine wp_region_quiet_below (by kernel_rfl) (by kernel_rfl) ?_
    repeat (go_big_quiet_step (first | (with_reducible exact cC1 _ _) | (with_reducible exact cC2 _ _)))
    refine wpQuiet_nil ?_
    intro _ hw'
    obtain ⟨⟨dq, osq⟩, hw''⟩ := hw'
    subst hw''
    have HB3 := Lib.hid (below_regrown w dq osq)
    generalize grow (redrawn w dq) osq = w3 at HB3 ⊢
    go_wp2_with fail
    go_ret
    exact ⟨rfl, HB3.out⟩
  · cases v1
    · go_enter Try.func62, Try.ntmps62
      go_wp2_with fail
      refine wp_region_quiet_below (by kernel_rfl) (by kernel_rfl) ?_
      repeat (go_big_quiet_step (first | (with_reducible exact cC1 _ _) | (with_reducible exact cC2 _ _)))
      refine wpQuiet_nil ?_
      intro _ hw'
      obtain ⟨⟨dq, osq⟩, hw''⟩ := hw'
      subst hw''
      have HB3 := Lib.hid (below_regrown w dq osq)
      generalize grow (redrawn w dq) osq = w3 at HB3 ⊢
      go_wp2_with fail
      go_ret
      exact ⟨rfl, HB3.out⟩
    · cases v2
      · go_enter Try.func62, Try.ntmps62
        go_wp2_with fail
        refine wp_region_quiet_below (by kernel_rfl) (by kernel_rfl) ?_
        repeat (go_big_quiet_step (first | (with_reducible exact cC1 _ _) | (with_reducible exact cC2 _ _)))
        refine wpQuiet_nil ?_
        intro _ hw'
        obtain ⟨⟨dq, osq⟩, hw''⟩ := hw'
        subst hw''
        have HB3 := Lib.hid (below_regrown w dq osq)
        generalize grow (redrawn w dq) osq = w3 at HB3 ⊢
        go_wp2_with fail
        go_ret
        exact ⟨rfl, HB3.out⟩
      · go_enter Try.func62, Try.ntmps62
        go_wp2_with fail
        refine wp_region_quiet_below (by kernel_rfl) (by kernel_rfl) ?_
        repeat (go_big_quiet_step (first | (with_reducible exact cC1 _ _) | (with_reducible exact cC2 _ _)))
        refine wpQuiet_nil ?_
        intro _ hw'
        obtain ⟨⟨dq, osq⟩, hw''⟩ := hw'
        subst hw''
        have HB3 := Lib.hid (below_regrown w dq osq)
        generalize grow (redrawn w dq) osq = w3 at HB3 ⊢
        go_wp2_with fail
        go_ret
        exact ⟨rfl, HB3.out⟩

set_option maxHeartbeats 1600000 in
set_option maxRecDepth 100000 in
theorem declS_any (x y : Dc) (b1 q1 b2 q2 : Nat) (w : World) (hx : w.rangeAt b1 q1 (Dc.cells x)) (hy : w.rangeAt b2 q2 (Dc.cells y)) (_rx : triv w x) (_ry : triv w y) :
    Calls Try.prog 35 #[.pointer (some ⟨b1, q1, none⟩), .pointer (some ⟨b2, q2, none⟩)] w fun en w' => en = .returned (.bool (sameDc x y)) ∧ Below w.heap.size w w' := by
  have cx0 := cell_at hx 0 _ rfl
  have cy0 := cell_at hy 0 _ rfl
  rw [Nat.add_zero] at cx0 cy0
  have kx0 := cell_regrown cx0
  have ky0 := cell_regrown cy0
  have cx1 := cell_at hx 1 _ rfl
  have cy1 := cell_at hy 1 _ rfl
  have kx1 := cell_regrown cx1
  have ky1 := cell_regrown cy1
  show Calls _ _ _ _ (fun en w' => en = .returned (.bool ((x.type.toList == y.type.toList) && ((x.name.toList == y.name.toList)))) ∧ Below w.heap.size w w')
  generalize e0 : (x.type.toList == y.type.toList) = v0
  generalize e1 : (x.name.toList == y.name.toList) = v1
  clear hx hy _rx _ry
  cases v0
  · go_enter Try.func35, Try.ntmps35
    go_wp2_with fail
    refine wp_region_quiet_below (by kernel_rfl) (by kernel_rfl) ?_
    repeat (go_big_quiet_step (fail))
    refine wpQuiet_nil ?_
    intro _ hw'
    obtain ⟨⟨dq, osq⟩, hw''⟩ := hw'
    subst hw''
    have HB3 := Lib.hid (below_regrown w dq osq)
    generalize grow (redrawn w dq) osq = w3 at HB3 ⊢
    go_wp2_with fail
    go_ret
    exact ⟨rfl, HB3.out⟩
  · cases v1
    · go_enter Try.func35, Try.ntmps35
      go_wp2_with fail
      refine wp_region_quiet_below (by kernel_rfl) (by kernel_rfl) ?_
      repeat (go_big_quiet_step (fail))
      refine wpQuiet_nil ?_
      intro _ hw'
      obtain ⟨⟨dq, osq⟩, hw''⟩ := hw'
      subst hw''
      have HB3 := Lib.hid (below_regrown w dq osq)
      generalize grow (redrawn w dq) osq = w3 at HB3 ⊢
      go_wp2_with fail
      go_ret
      exact ⟨rfl, HB3.out⟩
    · go_enter Try.func35, Try.ntmps35
      go_wp2_with fail
      refine wp_region_quiet_below (by kernel_rfl) (by kernel_rfl) ?_
      repeat (go_big_quiet_step (fail))
      refine wpQuiet_nil ?_
      intro _ hw'
      obtain ⟨⟨dq, osq⟩, hw''⟩ := hw'
      subst hw''
      have HB3 := Lib.hid (below_regrown w dq osq)
      generalize grow (redrawn w dq) osq = w3 at HB3 ⊢
      go_wp2_with fail
      go_ret
      exact ⟨rfl, HB3.out⟩

end Go.Proofs.Ytpbjnjnmbglllaa
