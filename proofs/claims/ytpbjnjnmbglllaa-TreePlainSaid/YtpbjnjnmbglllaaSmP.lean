/-
  DERIVED. The walks of 'are they the same': structs, procedures, programs.
-/
import Derived.Test.YtpbjnjnmbglllaaSmS
namespace Go.Proofs.Ytpbjnjnmbglllaa
open Go.RowKit Go.Sort

/-! Sr -/
theorem enters53 : ∀ args w, (callFunc 53 args).run Try.prog w = .ok (.enter 53 args) w := enters Try.func53 (by kernel_rfl) rfl
/-- What is asked of the function that says whether two items are the same. -/
def OkSr (x y : Sr) : Prop := ∀ (b1 q1 b2 q2 : Nat) (w : World), w.rangeAt b1 q1 (Sr.cells x) → w.rangeAt b2 q2 (Sr.cells y) → srLies w x → srLies w y →
  Calls Try.prog 33 #[.pointer (some ⟨b1, q1, none⟩), .pointer (some ⟨b2, q2, none⟩)] w fun en w' => en = .returned (.bool (sameSr x y)) ∧ Below w.heap.size w w'

set_option maxHeartbeats 800000 in
set_option maxRecDepth 100000 in
theorem cloFSr (i : Int) (b1 q1 bs bb : Nat) (w : World) :
    Calls Try.prog 53 #[.bool false, .int .i64 i, .pointer (some ⟨b1, q1, none⟩), .pointer (some ⟨bs, 0, none⟩), .pointer (some ⟨bb, 0, none⟩)] w fun en w' => en = .returned (.bool false) ∧ Below w.heap.size w w' := by
  go_enter Try.func53, Try.ntmps53
  go_wp2_with fail
  go_quiet (fail)
  go_wp2_with fail
  go_ret
  exact ⟨rfl, below_drewN_ (Below.refl _ _) _⟩

set_option maxHeartbeats 800000 in
set_option maxRecDepth 100000 in
theorem cloTSr (v : Bool) (k n c b1 q1 b2 o2 bs bb : Nat) (w : World) (hk : k < n)
    (hs : w.cell? ⟨bs, 0, none⟩ = some (.func (.func 33) #[] #[])) (hb : w.cell? ⟨bb, 0, none⟩ = some (.slice (some ⟨b2, o2, none⟩) n c))
    (hS : ∀ w', Below w.heap.size w w' → Calls Try.prog 33 #[.pointer (some ⟨b1, q1, none⟩), .pointer (some ⟨b2, o2 + k * 3, none⟩)] w' fun en w'' => en = .returned (.bool v) ∧ Below w'.heap.size w' w'') :
    Calls Try.prog 53 #[.bool true, .int .i64 k, .pointer (some ⟨b1, q1, none⟩), .pointer (some ⟨bs, 0, none⟩), .pointer (some ⟨bb, 0, none⟩)] w fun en w' => en = .returned (.bool v) ∧ Below w.heap.size w w' := by
  have cS : ∀ dd os, Calls Try.prog 33 #[.pointer (some ⟨b1, q1, none⟩), .pointer (some ⟨b2, o2 + k * 3, none⟩)] (grow (redrawn w dd) os) fun en w'' => en = .returned (.bool v) ∧ ∃ p : Regrown, w'' = grow (redrawn w p.d) p.os :=
    fun dd os => Calls.regrown_of (hS _ (below_regrown _ _ _))
  have ks := cell_regrown hs
  have kb := cell_regrown hb
  have hk0 : (0 : Int) ≤ (k : Int) := Int.natCast_nonneg _
  have hk1 : (k : Int) < (n : Int) := by omega
  clear hS hs hb
  go_enter Try.func53, Try.ntmps53
  go_wp2_with fail
  refine wp_region_quiet_below (by kernel_rfl) (by kernel_rfl) ?_
  repeat (go_big_quiet_step (with_reducible exact cS _ _))
  refine wpQuiet_nil ?_
  intro _ hw'
  obtain ⟨⟨dq, osq⟩, hw''⟩ := hw'
  subst hw''
  have HB3 := Lib.hid (below_regrown w dq osq)
  generalize grow (redrawn w dq) osq = w3 at HB3 ⊢
  go_wp2_with fail
  go_ret
  exact ⟨rfl, HB3.out⟩

set_option maxHeartbeats 1600000 in
set_option maxRecDepth 100000 in
theorem foldSr (l m : List Sr) (p1 p2 : Option Addr) (c1 c2 bs bb : Nat) (w : World) (h1 : Lay 3 Sr.cells srLies w p1 l) (h2 : Lay 3 Sr.cells srLies w p2 m)
    (hs : w.cell? ⟨bs, 0, none⟩ = some (.func (.func 33) #[] #[])) (hb : w.cell? ⟨bb, 0, none⟩ = some (.slice p2 m.length c2)) (hS : ∀ x ∈ l, ∀ y ∈ m, OkSr x y) :
    Calls Try.prog 52 #[.slice p1 l.length c1, .bool ((l.length : Int) == (m.length : Int)), .func (.func 53) #[] #[.pointer (some ⟨bs, 0, none⟩), .pointer (some ⟨bb, 0, none⟩)]] w fun en w' => en = .returned (.bool (sameL sameSr l m)) ∧ Below w.heap.size w w' := by
  obtain ⟨hl1, h1⟩ := h1
  obtain ⟨_, h2⟩ := h2
  have H1 := Lib.hid h1
  have H2 := Lib.hid h2
  have HS := Lib.hid hS
  have HBS := Lib.hid hs
  have HBB := Lib.hid hb
  clear h1 h2 hS hs hb
  by_cases he : l.length = m.length
  · have heq : ((l.length : Int) == (m.length : Int)) = true := by rw [he]; simp
    rw [heq]
    have HE := Lib.hid he
    clear he heq
    go_enter Try.func52, Try.ntmps52
    go_wp2_with fail
    go_loopw [1, 10] (fun v i wr => ∃ k : Nat, i = .int .i64 k ∧ k ≤ l.length ∧ v = .bool (sameL sameSr (l.take k) (m.take k)) ∧ Hid (Below w.heap.size w wr)) (fun _ i _ => l.length - (intOf i).toNat)
    case atStart => exact ⟨0, rfl, Nat.zero_le _, rfl, Lib.hid (Below.refl _ _)⟩
    case round =>
      obtain ⟨k, rfl, hk, rfl, HB⟩ := hrel
      by_cases hkl : k < l.length
      · have hkm : k < m.length := by have := HE.out; omega
        obtain ⟨b1, o1, rfl, hx⟩ : ∃ b o, p1 = some ⟨b, o, none⟩ ∧ ∀ k x, l[k]? = some x → w.rangeAt b (o + k * 3) (Sr.cells x) ∧ srLies w x := by
          rcases H1.out with h | h
          · rw [h] at hkl; simp at hkl
          · exact h
        obtain ⟨b2, o2, rfl, hy⟩ : ∃ b o, p2 = some ⟨b, o, none⟩ ∧ ∀ k x, m[k]? = some x → w.rangeAt b (o + k * 3) (Sr.cells x) ∧ srLies w x := by
          rcases H2.out with h | h
          · rw [h] at hkm; simp at hkm
          · exact h
        have hx1 := hx k l[k] (List.getElem?_eq_getElem hkl)
        have hy1 := hy k m[k] (List.getElem?_eq_getElem hkm)
        have hSS : ∀ w', Below wr.heap.size wr w' → Calls Try.prog 33 #[.pointer (some ⟨b1, o1 + k * 3, none⟩), .pointer (some ⟨b2, o2 + k * 3, none⟩)] w' fun en w'' => en = .returned (.bool (sameSr l[k] m[k])) ∧ Below w'.heap.size w' w'' := fun w' hb' =>
          have hb2 := HB.out.trans (hb'.mono HB.out.size)
          HS.out l[k] (List.getElem_mem _) m[k] (List.getElem_mem _) _ _ _ _ w' (rangeAt_below hx1.1 hb2) (rangeAt_below hy1.1 hb2) (srLies_below hx1.2 hb2) (srLies_below hy1.2 hb2)
        have hst := sameL_step (f := sameSr) k hkl hkm
        generalize sameSr l[k] m[k] = vb at hSS hst
        have HSS := Lib.hid hSS
        have HST := Lib.hid hst
        have HCT : Hid (Calls Try.prog 53 #[.bool true, .int .i64 k, .pointer (some ⟨b1, o1 + k * 3, none⟩), .pointer (some ⟨bs, 0, none⟩), .pointer (some ⟨bb, 0, none⟩)] wr fun en w' => en = .returned (.bool vb) ∧ Below wr.heap.size wr w') :=
          Lib.hid (cloTSr vb k m.length c2 b1 (o1 + k * 3) b2 o2 bs bb wr hkm ((HB.out.cell (p := ⟨bs, 0, none⟩) (World.block_lt_of_cell? w _ HBS.out)).trans HBS.out) ((HB.out.cell (p := ⟨bb, 0, none⟩) (World.block_lt_of_cell? w _ HBB.out)).trans HBB.out) HSS.out)
        have hcl := enters53
        clear hx hy hx1 hy1 hSS hst
        generalize sameL sameSr (l.take k) (m.take k) = sb at HST ⊢
        cases sb
        · go_wp2_with fail
          refine (cloFSr _ _ _ _ _ _).mono ?_; rintro en w2 ⟨rfl, hb2⟩
          have HB2 : Hid (Below w.heap.size w w2) := Lib.hid (HB.out.trans (hb2.mono HB.out.size))
          clear hb2
          go_wp2_with fail
          go_roundw
          case rel => exact ⟨k + 1, by go_num, by omega, by rw [HST.out]; rfl, HB2⟩
          case measure => simp [intOf]; omega
        · go_wp2_with fail
          refine (HCT.out).mono ?_; rintro en w2 ⟨rfl, hb2⟩
          have HB2 : Hid (Below w.heap.size w w2) := Lib.hid (HB.out.trans (hb2.mono HB.out.size))
          clear hb2
          go_wp2_with fail
          go_roundw
          case rel => exact ⟨k + 1, by go_num, by omega, by rw [HST.out]; rfl, HB2⟩
          case measure => simp [intOf]; omega
      · have h1 : l.take k = l := List.take_of_length_le (by omega)
        have h2 : m.take k = m := List.take_of_length_le (by have := HE.out; omega)
        rw [h1, h2]
        clear h1 h2
        go_wp2_with fail
        go_ret
        exact ⟨rfl, HB.out⟩
  · have heq : ((l.length : Int) == (m.length : Int)) = false := by
      rw [Bool.eq_false_iff]; intro e; rw [beq_iff_eq] at e; exact he (by omega)
    rw [heq, sameL_len he]
    clear he heq
    go_enter Try.func52, Try.ntmps52
    go_wp2_with fail
    go_loopw [1, 10] (fun v i wr => ∃ k : Nat, i = .int .i64 k ∧ k ≤ l.length ∧ v = .bool false ∧ Hid (Below w.heap.size w wr)) (fun _ i _ => l.length - (intOf i).toNat)
    case atStart => exact ⟨0, rfl, Nat.zero_le _, rfl, Lib.hid (Below.refl _ _)⟩
    case round =>
      obtain ⟨k, rfl, hk, rfl, HB⟩ := hrel
      by_cases hkl : k < l.length
      · obtain ⟨b1, o1, rfl, hx⟩ : ∃ b o, p1 = some ⟨b, o, none⟩ ∧ ∀ k x, l[k]? = some x → w.rangeAt b (o + k * 3) (Sr.cells x) ∧ srLies w x := by
          rcases H1.out with h | h
          · rw [h] at hkl; simp at hkl
          · exact h
        have hcl := enters53
        clear hx
        go_wp2_with fail
        refine (cloFSr _ _ _ _ _ _).mono ?_; rintro en w2 ⟨rfl, hb2⟩
        have HB2 : Hid (Below w.heap.size w w2) := Lib.hid (HB.out.trans (hb2.mono HB.out.size))
        clear hb2
        go_wp2_with fail
        go_roundw
        case rel => exact ⟨k + 1, by go_num, by omega, rfl, HB2⟩
        case measure => simp [intOf]; omega
      · go_wp2_with fail
        go_ret
        exact ⟨rfl, HB.out⟩

set_option maxHeartbeats 800000 in
set_option maxRecDepth 100000 in
theorem allSr (l m : List Sr) (p1 p2 : Option Addr) (c1 c2 : Nat) (w : World) (h1 : Lay 3 Sr.cells srLies w p1 l) (h2 : Lay 3 Sr.cells srLies w p2 m) (hS : ∀ x ∈ l, ∀ y ∈ m, OkSr x y) :
    Calls Try.prog 32 #[.slice p1 l.length c1, .slice p2 m.length c2, .func (.func 33) #[] #[]] w fun en w' => en = .returned (.bool (sameL sameSr l m)) ∧ Below w.heap.size w w' := by
  have ha : Below w.heap.size w ((w.alloc (.cells #[.slice p2 m.length c2] 30)).alloc (.cells #[.func (.func 33) #[] #[]] 67)) := ((Below.refl _ _).alloc (Nat.le_refl _) _).alloc (by simp) _
  have HF := Lib.hid (foldSr l m p1 p2 c1 c2 (w.heap.size + 1) w.heap.size ((w.alloc (.cells #[.slice p2 m.length c2] 30)).alloc (.cells #[.func (.func 33) #[] #[]] 67)) (h1.below ha (fun _ h => srLies_below h ha)) (h2.below ha (fun _ h => srLies_below h ha))
    (cell_of_row _ _ 0 _ _ _ (heap_alloc2_new w _ _)) (cell_of_row _ _ 0 _ _ _ (heap_alloc2_old w _ _)) hS)
  have HA := Lib.hid ha
  have hl1 := h1.1
  have hl2 := h2.1
  clear ha h1 h2 hS
  go_enter Try.func32, Try.ntmps32
  go_wp2_with fail
  refine (HF.out).mono ?_; rintro en w2 ⟨rfl, hb2⟩
  have HB2 : Hid (Below w.heap.size w w2) := Lib.hid (HA.out.trans (hb2.mono HA.out.size))
  clear hb2
  go_wp2_with fail
  go_ret
  exact ⟨rfl, HB2.out⟩
theorem srLies_of {w : World} {x : Sr} (h : srLies w x) : slLies w 3 40 Dc.cells (triv w) x.fields := h

set_option maxHeartbeats 1600000 in
set_option maxRecDepth 100000 in
theorem structS_any (x y : Sr) (b1 q1 b2 q2 : Nat) (w : World) (hx : w.rangeAt b1 q1 (Sr.cells x)) (hy : w.rangeAt b2 q2 (Sr.cells y)) (rx : srLies w x) (ry : srLies w y) :
    Calls Try.prog 33 #[.pointer (some ⟨b1, q1, none⟩), .pointer (some ⟨b2, q2, none⟩)] w fun en w' => en = .returned (.bool (sameSr x y)) ∧ Below w.heap.size w w' := by
  have cx0 := cell_at hx 0 _ rfl
  have cy0 := cell_at hy 0 _ rfl
  rw [Nat.add_zero] at cx0 cy0
  have kx0 := cell_regrown cx0
  have ky0 := cell_regrown cy0
  have C1 : ∀ w', Below w.heap.size w w' → Calls Try.prog 34 #[.slice x.fields.p x.fields.l.length x.fields.cap, .slice y.fields.p y.fields.l.length y.fields.cap, .func (.func 35) #[] #[]] w' fun en w'' => en = .returned (.bool (sameL sameDc x.fields.l y.fields.l)) ∧ Below w'.heap.size w' w'' := fun w' hb =>
    allDc _ _ _ _ _ _ w' (Lay.of_sl (srLies_of (srLies_below rx hb)) (by decide)) (Lay.of_sl (srLies_of (srLies_below ry hb)) (by decide)) (fun a _ b _ => okDc a b)
  have cx1 := cell_at hx 2 _ rfl
  have cy1 := cell_at hy 2 _ rfl
  have kx1 := cell_regrown cx1
  have ky1 := cell_regrown cy1
  show Calls _ _ _ _ (fun en w' => en = .returned (.bool ((x.name.toList == y.name.toList) && (sameL sameDc x.fields.l y.fields.l))) ∧ Below w.heap.size w w')
  generalize e0 : (x.name.toList == y.name.toList) = v0
  generalize sameL sameDc x.fields.l y.fields.l = v1 at C1 ⊢
  clear hx hy rx ry
  have cC1 : ∀ dd os, Calls Try.prog 34 #[.slice x.fields.p x.fields.l.length x.fields.cap, .slice y.fields.p y.fields.l.length y.fields.cap, .func (.func 35) #[] #[]] (grow (redrawn w dd) os) fun en w'' => en = .returned (.bool v1) ∧ ∃ p : Regrown, w'' = grow (redrawn w p.d) p.os := fun dd os => Calls.regrown_of (C1 _ (below_regrown _ _ _))
  clear C1
  cases v0
  · go_enter Try.func33, Try.ntmps33
    go_wp2_with fail
    refine wp_region_quiet_below (by kernel_rfl) (by kernel_rfl) ?_
    repeat (go_big_quiet_step (first | (with_reducible exact cC1 _ _)))
    refine wpQuiet_nil ?_
    intro _ hw'
    obtain ⟨⟨dq, osq⟩, hw''⟩ := hw'
    subst hw''
    have HB3 := Lib.hid (below_regrown w dq osq)
    generalize grow (redrawn w dq) osq = w3 at HB3 ⊢
    go_wp2_with fail
    go_ret
    exact ⟨rfl, HB3.out⟩
  · cases v1
    · go_enter Try.func33, Try.ntmps33
      go_wp2_with fail
      refine wp_region_quiet_below (by kernel_rfl) (by kernel_rfl) ?_
      repeat (go_big_quiet_step (first | (with_reducible exact cC1 _ _)))
      refine wpQuiet_nil ?_
      intro _ hw'
      obtain ⟨⟨dq, osq⟩, hw''⟩ := hw'
      subst hw''
      have HB3 := Lib.hid (below_regrown w dq osq)
      generalize grow (redrawn w dq) osq = w3 at HB3 ⊢
      go_wp2_with fail
      go_ret
      exact ⟨rfl, HB3.out⟩
    · go_enter Try.func33, Try.ntmps33
      go_wp2_with fail
      refine wp_region_quiet_below (by kernel_rfl) (by kernel_rfl) ?_
      repeat (go_big_quiet_step (first | (with_reducible exact cC1 _ _)))
      refine wpQuiet_nil ?_
      intro _ hw'
      obtain ⟨⟨dq, osq⟩, hw''⟩ := hw'
      subst hw''
      have HB3 := Lib.hid (below_regrown w dq osq)
      generalize grow (redrawn w dq) osq = w3 at HB3 ⊢
      go_wp2_with fail
      go_ret
      exact ⟨rfl, HB3.out⟩
theorem okSr (x y : Sr) : OkSr x y := fun b1 q1 b2 q2 w hx hy rx ry => structS_any x y b1 q1 b2 q2 w hx hy rx ry
theorem decls_of {w : World} {s : Sl Dc} (h : declsLie w s) : slLies w 3 40 Dc.cells (triv w) s := h

/-! Pc -/
theorem enters57 : ∀ args w, (callFunc 57 args).run Try.prog w = .ok (.enter 57 args) w := enters Try.func57 (by kernel_rfl) rfl
/-- What is asked of the function that says whether two items are the same. -/
def OkPc (x y : Pc) : Prop := ∀ (b1 q1 b2 q2 : Nat) (w : World), w.rangeAt b1 q1 (Pc.cells x) → w.rangeAt b2 q2 (Pc.cells y) → pcLies w x → pcLies w y →
  Calls Try.prog 37 #[.pointer (some ⟨b1, q1, none⟩), .pointer (some ⟨b2, q2, none⟩)] w fun en w' => en = .returned (.bool (samePc x y)) ∧ Below w.heap.size w w'

set_option maxHeartbeats 800000 in
set_option maxRecDepth 100000 in
theorem cloFPc (i : Int) (b1 q1 bs bb : Nat) (w : World) :
    Calls Try.prog 57 #[.bool false, .int .i64 i, .pointer (some ⟨b1, q1, none⟩), .pointer (some ⟨bs, 0, none⟩), .pointer (some ⟨bb, 0, none⟩)] w fun en w' => en = .returned (.bool false) ∧ Below w.heap.size w w' := by
  go_enter Try.func57, Try.ntmps57
  go_wp2_with fail
  go_quiet (fail)
  go_wp2_with fail
  go_ret
  exact ⟨rfl, below_drewN_ (Below.refl _ _) _⟩

set_option maxHeartbeats 800000 in
set_option maxRecDepth 100000 in
theorem cloTPc (v : Bool) (k n c b1 q1 b2 o2 bs bb : Nat) (w : World) (hk : k < n)
    (hs : w.cell? ⟨bs, 0, none⟩ = some (.func (.func 37) #[] #[])) (hb : w.cell? ⟨bb, 0, none⟩ = some (.slice (some ⟨b2, o2, none⟩) n c))
    (hS : ∀ w', Below w.heap.size w w' → Calls Try.prog 37 #[.pointer (some ⟨b1, q1, none⟩), .pointer (some ⟨b2, o2 + k * 6, none⟩)] w' fun en w'' => en = .returned (.bool v) ∧ Below w'.heap.size w' w'') :
    Calls Try.prog 57 #[.bool true, .int .i64 k, .pointer (some ⟨b1, q1, none⟩), .pointer (some ⟨bs, 0, none⟩), .pointer (some ⟨bb, 0, none⟩)] w fun en w' => en = .returned (.bool v) ∧ Below w.heap.size w w' := by
  have cS : ∀ dd os, Calls Try.prog 37 #[.pointer (some ⟨b1, q1, none⟩), .pointer (some ⟨b2, o2 + k * 6, none⟩)] (grow (redrawn w dd) os) fun en w'' => en = .returned (.bool v) ∧ ∃ p : Regrown, w'' = grow (redrawn w p.d) p.os :=
    fun dd os => Calls.regrown_of (hS _ (below_regrown _ _ _))
  have ks := cell_regrown hs
  have kb := cell_regrown hb
  have hk0 : (0 : Int) ≤ (k : Int) := Int.natCast_nonneg _
  have hk1 : (k : Int) < (n : Int) := by omega
  clear hS hs hb
  go_enter Try.func57, Try.ntmps57
  go_wp2_with fail
  refine wp_region_quiet_below (by kernel_rfl) (by kernel_rfl) ?_
  repeat (go_big_quiet_step (with_reducible exact cS _ _))
  refine wpQuiet_nil ?_
  intro _ hw'
  obtain ⟨⟨dq, osq⟩, hw''⟩ := hw'
  subst hw''
  have HB3 := Lib.hid (below_regrown w dq osq)
  generalize grow (redrawn w dq) osq = w3 at HB3 ⊢
  go_wp2_with fail
  go_ret
  exact ⟨rfl, HB3.out⟩

set_option maxHeartbeats 1600000 in
set_option maxRecDepth 100000 in
theorem foldPc (l m : List Pc) (p1 p2 : Option Addr) (c1 c2 bs bb : Nat) (w : World) (h1 : Lay 6 Pc.cells pcLies w p1 l) (h2 : Lay 6 Pc.cells pcLies w p2 m)
    (hs : w.cell? ⟨bs, 0, none⟩ = some (.func (.func 37) #[] #[])) (hb : w.cell? ⟨bb, 0, none⟩ = some (.slice p2 m.length c2)) (hS : ∀ x ∈ l, ∀ y ∈ m, OkPc x y) :
    Calls Try.prog 56 #[.slice p1 l.length c1, .bool ((l.length : Int) == (m.length : Int)), .func (.func 57) #[] #[.pointer (some ⟨bs, 0, none⟩), .pointer (some ⟨bb, 0, none⟩)]] w fun en w' => en = .returned (.bool (sameL samePc l m)) ∧ Below w.heap.size w w' := by
  obtain ⟨hl1, h1⟩ := h1
  obtain ⟨_, h2⟩ := h2
  have H1 := Lib.hid h1
  have H2 := Lib.hid h2
  have HS := Lib.hid hS
  have HBS := Lib.hid hs
  have HBB := Lib.hid hb
  clear h1 h2 hS hs hb
  by_cases he : l.length = m.length
  · have heq : ((l.length : Int) == (m.length : Int)) = true := by rw [he]; simp
    rw [heq]
    have HE := Lib.hid he
    clear he heq
    go_enter Try.func56, Try.ntmps56
    go_wp2_with fail
    go_loopw [1, 10] (fun v i wr => ∃ k : Nat, i = .int .i64 k ∧ k ≤ l.length ∧ v = .bool (sameL samePc (l.take k) (m.take k)) ∧ Hid (Below w.heap.size w wr)) (fun _ i _ => l.length - (intOf i).toNat)
    case atStart => exact ⟨0, rfl, Nat.zero_le _, rfl, Lib.hid (Below.refl _ _)⟩
    case round =>
      obtain ⟨k, rfl, hk, rfl, HB⟩ := hrel
      by_cases hkl : k < l.length
      · have hkm : k < m.length := by have := HE.out; omega
        obtain ⟨b1, o1, rfl, hx⟩ : ∃ b o, p1 = some ⟨b, o, none⟩ ∧ ∀ k x, l[k]? = some x → w.rangeAt b (o + k * 6) (Pc.cells x) ∧ pcLies w x := by
          rcases H1.out with h | h
          · rw [h] at hkl; simp at hkl
          · exact h
        obtain ⟨b2, o2, rfl, hy⟩ : ∃ b o, p2 = some ⟨b, o, none⟩ ∧ ∀ k x, m[k]? = some x → w.rangeAt b (o + k * 6) (Pc.cells x) ∧ pcLies w x := by
          rcases H2.out with h | h
          · rw [h] at hkm; simp at hkm
          · exact h
        have hx1 := hx k l[k] (List.getElem?_eq_getElem hkl)
        have hy1 := hy k m[k] (List.getElem?_eq_getElem hkm)
        have hSS : ∀ w', Below wr.heap.size wr w' → Calls Try.prog 37 #[.pointer (some ⟨b1, o1 + k * 6, none⟩), .pointer (some ⟨b2, o2 + k * 6, none⟩)] w' fun en w'' => en = .returned (.bool (samePc l[k] m[k])) ∧ Below w'.heap.size w' w'' := fun w' hb' =>
          have hb2 := HB.out.trans (hb'.mono HB.out.size)
          HS.out l[k] (List.getElem_mem _) m[k] (List.getElem_mem _) _ _ _ _ w' (rangeAt_below hx1.1 hb2) (rangeAt_below hy1.1 hb2) (pcLies_below hx1.2 hb2) (pcLies_below hy1.2 hb2)
        have hst := sameL_step (f := samePc) k hkl hkm
        generalize samePc l[k] m[k] = vb at hSS hst
        have HSS := Lib.hid hSS
        have HST := Lib.hid hst
        have HCT : Hid (Calls Try.prog 57 #[.bool true, .int .i64 k, .pointer (some ⟨b1, o1 + k * 6, none⟩), .pointer (some ⟨bs, 0, none⟩), .pointer (some ⟨bb, 0, none⟩)] wr fun en w' => en = .returned (.bool vb) ∧ Below wr.heap.size wr w') :=
          Lib.hid (cloTPc vb k m.length c2 b1 (o1 + k * 6) b2 o2 bs bb wr hkm ((HB.out.cell (p := ⟨bs, 0, none⟩) (World.block_lt_of_cell? w _ HBS.out)).trans HBS.out) ((HB.out.cell (p := ⟨bb, 0, none⟩) (World.block_lt_of_cell? w _ HBB.out)).trans HBB.out) HSS.out)
        have hcl := enters57
        clear hx hy hx1 hy1 hSS hst
        generalize sameL samePc (l.take k) (m.take k) = sb at HST ⊢
        cases sb
        · go_wp2_with fail
          refine (cloFPc _ _ _ _ _ _).mono ?_; rintro en w2 ⟨rfl, hb2⟩
          have HB2 : Hid (Below w.heap.size w w2) := Lib.hid (HB.out.trans (hb2.mono HB.out.size))
          clear hb2
          go_wp2_with fail
          go_roundw
          case rel => exact ⟨k + 1, by go_num, by omega, by rw [HST.out]; rfl, HB2⟩
          case measure => simp [intOf]; omega
        · go_wp2_with fail
          refine (HCT.out).mono ?_; rintro en w2 ⟨rfl, hb2⟩
          have HB2 : Hid (Below w.heap.size w w2) := Lib.hid (HB.out.trans (hb2.mono HB.out.size))
          clear hb2
          go_wp2_with fail
          go_roundw
          case rel => exact ⟨k + 1, by go_num, by omega, by rw [HST.out]; rfl, HB2⟩
          case measure => simp [intOf]; omega
      · have h1 : l.take k = l := List.take_of_length_le (by omega)
        have h2 : m.take k = m := List.take_of_length_le (by have := HE.out; omega)
        rw [h1, h2]
        clear h1 h2
        go_wp2_with fail
        go_ret
        exact ⟨rfl, HB.out⟩
  · have heq : ((l.length : Int) == (m.length : Int)) = false := by
      rw [Bool.eq_false_iff]; intro e; rw [beq_iff_eq] at e; exact he (by omega)
    rw [heq, sameL_len he]
    clear he heq
    go_enter Try.func56, Try.ntmps56
    go_wp2_with fail
    go_loopw [1, 10] (fun v i wr => ∃ k : Nat, i = .int .i64 k ∧ k ≤ l.length ∧ v = .bool false ∧ Hid (Below w.heap.size w wr)) (fun _ i _ => l.length - (intOf i).toNat)
    case atStart => exact ⟨0, rfl, Nat.zero_le _, rfl, Lib.hid (Below.refl _ _)⟩
    case round =>
      obtain ⟨k, rfl, hk, rfl, HB⟩ := hrel
      by_cases hkl : k < l.length
      · obtain ⟨b1, o1, rfl, hx⟩ : ∃ b o, p1 = some ⟨b, o, none⟩ ∧ ∀ k x, l[k]? = some x → w.rangeAt b (o + k * 6) (Pc.cells x) ∧ pcLies w x := by
          rcases H1.out with h | h
          · rw [h] at hkl; simp at hkl
          · exact h
        have hcl := enters57
        clear hx
        go_wp2_with fail
        refine (cloFPc _ _ _ _ _ _).mono ?_; rintro en w2 ⟨rfl, hb2⟩
        have HB2 : Hid (Below w.heap.size w w2) := Lib.hid (HB.out.trans (hb2.mono HB.out.size))
        clear hb2
        go_wp2_with fail
        go_roundw
        case rel => exact ⟨k + 1, by go_num, by omega, rfl, HB2⟩
        case measure => simp [intOf]; omega
      · go_wp2_with fail
        go_ret
        exact ⟨rfl, HB.out⟩

set_option maxHeartbeats 800000 in
set_option maxRecDepth 100000 in
theorem allPc (l m : List Pc) (p1 p2 : Option Addr) (c1 c2 : Nat) (w : World) (h1 : Lay 6 Pc.cells pcLies w p1 l) (h2 : Lay 6 Pc.cells pcLies w p2 m) (hS : ∀ x ∈ l, ∀ y ∈ m, OkPc x y) :
    Calls Try.prog 36 #[.slice p1 l.length c1, .slice p2 m.length c2, .func (.func 37) #[] #[]] w fun en w' => en = .returned (.bool (sameL samePc l m)) ∧ Below w.heap.size w w' := by
  have ha : Below w.heap.size w ((w.alloc (.cells #[.slice p2 m.length c2] 32)).alloc (.cells #[.func (.func 37) #[] #[]] 71)) := ((Below.refl _ _).alloc (Nat.le_refl _) _).alloc (by simp) _
  have HF := Lib.hid (foldPc l m p1 p2 c1 c2 (w.heap.size + 1) w.heap.size ((w.alloc (.cells #[.slice p2 m.length c2] 32)).alloc (.cells #[.func (.func 37) #[] #[]] 71)) (h1.below ha (fun _ h => pcLies_below h ha)) (h2.below ha (fun _ h => pcLies_below h ha))
    (cell_of_row _ _ 0 _ _ _ (heap_alloc2_new w _ _)) (cell_of_row _ _ 0 _ _ _ (heap_alloc2_old w _ _)) hS)
  have HA := Lib.hid ha
  have hl1 := h1.1
  have hl2 := h2.1
  clear ha h1 h2 hS
  go_enter Try.func36, Try.ntmps36
  go_wp2_with fail
  refine (HF.out).mono ?_; rintro en w2 ⟨rfl, hb2⟩
  have HB2 : Hid (Below w.heap.size w w2) := Lib.hid (HA.out.trans (hb2.mono HA.out.size))
  clear hb2
  go_wp2_with fail
  go_ret
  exact ⟨rfl, HB2.out⟩

set_option maxHeartbeats 1600000 in
set_option maxRecDepth 100000 in
theorem procS_any (x y : Pc) (b1 q1 b2 q2 : Nat) (w : World) (hx : w.rangeAt b1 q1 (Pc.cells x)) (hy : w.rangeAt b2 q2 (Pc.cells y)) (rx : pcLies w x) (ry : pcLies w y) :
    Calls Try.prog 37 #[.pointer (some ⟨b1, q1, none⟩), .pointer (some ⟨b2, q2, none⟩)] w fun en w' => en = .returned (.bool (samePc x y)) ∧ Below w.heap.size w w' := by
  have cx0 := cell_at hx 0 _ rfl
  have cy0 := cell_at hy 0 _ rfl
  rw [Nat.add_zero] at cx0 cy0
  have kx0 := cell_regrown cx0
  have ky0 := cell_regrown cy0
  have C1 : ∀ w', Below w.heap.size w w' → Calls Try.prog 34 #[.slice x.params.p x.params.l.length x.params.cap, .slice y.params.p y.params.l.length y.params.cap, .func (.func 35) #[] #[]] w' fun en w'' => en = .returned (.bool (sameL sameDc x.params.l y.params.l)) ∧ Below w'.heap.size w' w'' := fun w' hb =>
    allDc _ _ _ _ _ _ w' (Lay.of_sl (decls_of (pcLies_below rx hb).1) (by decide)) (Lay.of_sl (decls_of (pcLies_below ry hb).1) (by decide)) (fun a _ b _ => okDc a b)
  have cx1 := cell_at hx 3 _ rfl
  have cy1 := cell_at hy 3 _ rfl
  have kx1 := cell_regrown cx1
  have ky1 := cell_regrown cy1
  have C2 : ∀ w', Below w.heap.size w w' → Calls Try.prog 34 #[.slice x.locals_.p x.locals_.l.length x.locals_.cap, .slice y.locals_.p y.locals_.l.length y.locals_.cap, .func (.func 35) #[] #[]] w' fun en w'' => en = .returned (.bool (sameL sameDc x.locals_.l y.locals_.l)) ∧ Below w'.heap.size w' w'' := fun w' hb =>
    allDc _ _ _ _ _ _ w' (Lay.of_sl (decls_of (pcLies_below rx hb).2.1) (by decide)) (Lay.of_sl (decls_of (pcLies_below ry hb).2.1) (by decide)) (fun a _ b _ => okDc a b)
  have cx2 := cell_at hx 4 _ rfl
  have cy2 := cell_at hy 4 _ rfl
  have kx2 := cell_regrown cx2
  have ky2 := cell_regrown cy2
  have C3 : ∀ w', Below w.heap.size w w' → Calls Try.prog 20 #[.slice x.bp x.body.len x.bc, .slice y.bp y.body.len y.bc] w' fun en w'' => en = .returned (.bool (sameSL x.body y.body)) ∧ Below w'.heap.size w' w'' := fun w' hb =>
    sameList_any x.body y.body _ _ _ _ w' (pcLies_below rx hb).2.2 (pcLies_below ry hb).2.2
  have cx3 := cell_at hx 5 _ rfl
  have cy3 := cell_at hy 5 _ rfl
  have kx3 := cell_regrown cx3
  have ky3 := cell_regrown cy3
  show Calls _ _ _ _ (fun en w' => en = .returned (.bool ((x.name.toList == y.name.toList) && (sameL sameDc x.params.l y.params.l && (sameL sameDc x.locals_.l y.locals_.l && (sameSL x.body y.body))))) ∧ Below w.heap.size w w')
  generalize e0 : (x.name.toList == y.name.toList) = v0
  generalize sameL sameDc x.params.l y.params.l = v1 at C1 ⊢
  generalize sameL sameDc x.locals_.l y.locals_.l = v2 at C2 ⊢
  generalize sameSL x.body y.body = v3 at C3 ⊢
  clear hx hy rx ry
  have cC1 : ∀ dd os, Calls Try.prog 34 #[.slice x.params.p x.params.l.length x.params.cap, .slice y.params.p y.params.l.length y.params.cap, .func (.func 35) #[] #[]] (grow (redrawn w dd) os) fun en w'' => en = .returned (.bool v1) ∧ ∃ p : Regrown, w'' = grow (redrawn w p.d) p.os := fun dd os => Calls.regrown_of (C1 _ (below_regrown _ _ _))
  clear C1
  have cC2 : ∀ dd os, Calls Try.prog 34 #[.slice x.locals_.p x.locals_.l.length x.locals_.cap, .slice y.locals_.p y.locals_.l.length y.locals_.cap, .func (.func 35) #[] #[]] (grow (redrawn w dd) os) fun en w'' => en = .returned (.bool v2) ∧ ∃ p : Regrown, w'' = grow (redrawn w p.d) p.os := fun dd os => Calls.regrown_of (C2 _ (below_regrown _ _ _))
  clear C2
  have cC3 : ∀ dd os, Calls Try.prog 20 #[.slice x.bp x.body.len x.bc, .slice y.bp y.body.len y.bc] (grow (redrawn w dd) os) fun en w'' => en = .returned (.bool v3) ∧ ∃ p : Regrown, w'' = grow (redrawn w p.d) p.os := fun dd os => Calls.regrown_of (C3 _ (below_regrown _ _ _))
  clear C3
  cases v0
  · go_enter Try.func37, Try.ntmps37
    go_wp2_with fail
    refine wp_region_quiet_below (by kernel_rfl) (by kernel_rfl) ?_
    repeat (go_big_quiet_step (first | (with_reducible exact cC1 _ _) | (with_reducible exact cC2 _ _) | (with_reducible exact cC3 _ _)))
    refine wpQuiet_nil ?_
    intro _ hw'
    obtain ⟨⟨dq, osq⟩, hw''⟩ := hw'
    subst hw''
    have HB3 := Lib.hid (below_regrown w dq osq)
    generalize grow (redrawn w dq) osq = w3 at HB3 ⊢
    go_wp2_with fail
    go_ret
    exact ⟨rfl, HB3.out⟩
  · cases v1
    · go_enter Try.func37, Try.ntmps37
      go_wp2_with fail
      refine wp_region_quiet_below (by kernel_rfl) (by kernel_rfl) ?_
      repeat (go_big_quiet_step (first | (with_reducible exact cC1 _ _) | (with_reducible exact cC2 _ _) | (with_reducible exact cC3 _ _)))
      refine wpQuiet_nil ?_
      intro _ hw'
      obtain ⟨⟨dq, osq⟩, hw''⟩ := hw'
      subst hw''
      have HB3 := Lib.hid (below_regrown w dq osq)
      generalize grow (redrawn w dq) osq = w3 at HB3 ⊢
      go_wp2_with fail
      go_ret
      exact ⟨rfl, HB3.out⟩
    · cases v2
      · go_enter Try.func37, Try.ntmps37
        go_wp2_with fail
        refine wp_region_quiet_below (by kernel_rfl) (by kernel_rfl) ?_
        repeat (go_big_quiet_step (first | (with_reducible exact cC1 _ _) | (with_reducible exact cC2 _ _) | (with_reducible exact cC3 _ _)))
        refine wpQuiet_nil ?_
        intro _ hw'
        obtain ⟨⟨dq, osq⟩, hw''⟩ := hw'
        subst hw''
        have HB3 := Lib.hid (below_regrown w dq osq)
        generalize grow (redrawn w dq) osq = w3 at HB3 ⊢
        go_wp2_with fail
        go_ret
        exact ⟨rfl, HB3.out⟩
      · cases v3
        · go_enter Try.func37, Try.ntmps37
          go_wp2_with fail
          refine wp_region_quiet_below (by kernel_rfl) (by kernel_rfl) ?_
          repeat (go_big_quiet_step (first | (with_reducible exact cC1 _ _) | (with_reducible exact cC2 _ _) | (with_reducible exact cC3 _ _)))
          refine wpQuiet_nil ?_
          intro _ hw'
          obtain ⟨⟨dq, osq⟩, hw''⟩ := hw'
          subst hw''
          have HB3 := Lib.hid (below_regrown w dq osq)
          generalize grow (redrawn w dq) osq = w3 at HB3 ⊢
          go_wp2_with fail
          go_ret
          exact ⟨rfl, HB3.out⟩
        · go_enter Try.func37, Try.ntmps37
          go_wp2_with fail
          refine wp_region_quiet_below (by kernel_rfl) (by kernel_rfl) ?_
          repeat (go_big_quiet_step (first | (with_reducible exact cC1 _ _) | (with_reducible exact cC2 _ _) | (with_reducible exact cC3 _ _)))
          refine wpQuiet_nil ?_
          intro _ hw'
          obtain ⟨⟨dq, osq⟩, hw''⟩ := hw'
          subst hw''
          have HB3 := Lib.hid (below_regrown w dq osq)
          generalize grow (redrawn w dq) osq = w3 at HB3 ⊢
          go_wp2_with fail
          go_ret
          exact ⟨rfl, HB3.out⟩
theorem okPc (x y : Pc) : OkPc x y := fun b1 q1 b2 q2 w hx hy rx ry => procS_any x y b1 q1 b2 q2 w hx hy rx ry

end Go.Proofs.Ytpbjnjnmbglllaa
