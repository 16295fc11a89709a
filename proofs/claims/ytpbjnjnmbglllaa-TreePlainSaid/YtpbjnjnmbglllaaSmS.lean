/-
  DERIVED. The walks of 'are they the same': statements.
-/
import Derived.Test.YtpbjnjnmbglllaaSmD
namespace Go.Proofs.Ytpbjnjnmbglllaa
open Go.RowKit Go.Sort

/-! It -/
theorem enters59 : ∀ args w, (callFunc 59 args).run Try.prog w = .ok (.enter 59 args) w := enters Try.func59 (by kernel_rfl) rfl
/-- What is asked of the function that says whether two items are the same. -/
def OkIt (x y : It) : Prop := ∀ (b1 q1 b2 q2 : Nat) (w : World), w.rangeAt b1 q1 (It.cells x) → w.rangeAt b2 q2 (It.cells y) → itLies w x → itLies w y →
  Calls Try.prog 40 #[.pointer (some ⟨b1, q1, none⟩), .pointer (some ⟨b2, q2, none⟩)] w fun en w' => en = .returned (.bool (sameIt x y)) ∧ Below w.heap.size w w'

set_option maxHeartbeats 800000 in
set_option maxRecDepth 100000 in
theorem cloFIt (i : Int) (b1 q1 bs bb : Nat) (w : World) :
    Calls Try.prog 59 #[.bool false, .int .i64 i, .pointer (some ⟨b1, q1, none⟩), .pointer (some ⟨bs, 0, none⟩), .pointer (some ⟨bb, 0, none⟩)] w fun en w' => en = .returned (.bool false) ∧ Below w.heap.size w w' := by
  go_enter Try.func59, Try.ntmps59
  go_wp2_with fail
  go_quiet (fail)
  go_wp2_with fail
  go_ret
  exact ⟨rfl, below_drewN_ (Below.refl _ _) _⟩

set_option maxHeartbeats 800000 in
set_option maxRecDepth 100000 in
theorem cloTIt (v : Bool) (k n c b1 q1 b2 o2 bs bb : Nat) (w : World) (hk : k < n)
    (hs : w.cell? ⟨bs, 0, none⟩ = some (.func (.func 40) #[] #[])) (hb : w.cell? ⟨bb, 0, none⟩ = some (.slice (some ⟨b2, o2, none⟩) n c))
    (hS : ∀ w', Below w.heap.size w w' → Calls Try.prog 40 #[.pointer (some ⟨b1, q1, none⟩), .pointer (some ⟨b2, o2 + k * 48, none⟩)] w' fun en w'' => en = .returned (.bool v) ∧ Below w'.heap.size w' w'') :
    Calls Try.prog 59 #[.bool true, .int .i64 k, .pointer (some ⟨b1, q1, none⟩), .pointer (some ⟨bs, 0, none⟩), .pointer (some ⟨bb, 0, none⟩)] w fun en w' => en = .returned (.bool v) ∧ Below w.heap.size w w' := by
  have cS : ∀ dd os, Calls Try.prog 40 #[.pointer (some ⟨b1, q1, none⟩), .pointer (some ⟨b2, o2 + k * 48, none⟩)] (grow (redrawn w dd) os) fun en w'' => en = .returned (.bool v) ∧ ∃ p : Regrown, w'' = grow (redrawn w p.d) p.os :=
    fun dd os => Calls.regrown_of (hS _ (below_regrown _ _ _))
  have ks := cell_regrown hs
  have kb := cell_regrown hb
  have hk0 : (0 : Int) ≤ (k : Int) := Int.natCast_nonneg _
  have hk1 : (k : Int) < (n : Int) := by omega
  clear hS hs hb
  go_enter Try.func59, Try.ntmps59
  go_wp2_with fail
  refine wp_region_quiet_below (by kernel_rfl) (by kernel_rfl) ?_
  repeat (go_big_quiet_step (with_reducible exact cS _ _))
  refine wpQuiet_nil ?_
  intro _ hw'
  obtain ⟨⟨dq, osq⟩, hw''⟩ := hw'
  subst hw''
  have HB3 := Lib.hid (below_regrown w dq osq)
  generalize grow (redrawn w dq) osq = w3 at HB3 ⊢
  go_wp2_with fail
  go_ret
  exact ⟨rfl, HB3.out⟩

set_option maxHeartbeats 1600000 in
set_option maxRecDepth 100000 in
theorem foldIt (l m : List It) (p1 p2 : Option Addr) (c1 c2 bs bb : Nat) (w : World) (h1 : Lay 48 It.cells itLies w p1 l) (h2 : Lay 48 It.cells itLies w p2 m)
    (hs : w.cell? ⟨bs, 0, none⟩ = some (.func (.func 40) #[] #[])) (hb : w.cell? ⟨bb, 0, none⟩ = some (.slice p2 m.length c2)) (hS : ∀ x ∈ l, ∀ y ∈ m, OkIt x y) :
    Calls Try.prog 58 #[.slice p1 l.length c1, .bool ((l.length : Int) == (m.length : Int)), .func (.func 59) #[] #[.pointer (some ⟨bs, 0, none⟩), .pointer (some ⟨bb, 0, none⟩)]] w fun en w' => en = .returned (.bool (sameL sameIt l m)) ∧ Below w.heap.size w w' := by
  obtain ⟨hl1, h1⟩ := h1
  obtain ⟨_, h2⟩ := h2
  have H1 := Lib.hid h1
  have H2 := Lib.hid h2
  have HS := Lib.hid hS
  have HBS := Lib.hid hs
  have HBB := Lib.hid hb
  clear h1 h2 hS hs hb
  by_cases he : l.length = m.length
  · have heq : ((l.length : Int) == (m.length : Int)) = true := by rw [he]; simp
    rw [heq]
    have HE := Lib.hid he
    clear he heq
    go_enter Try.func58, Try.ntmps58
    go_wp2_with fail
    go_loopw [1, 10] (fun v i wr => ∃ k : Nat, i = .int .i64 k ∧ k ≤ l.length ∧ v = .bool (sameL sameIt (l.take k) (m.take k)) ∧ Hid (Below w.heap.size w wr)) (fun _ i _ => l.length - (intOf i).toNat)
    case atStart => exact ⟨0, rfl, Nat.zero_le _, rfl, Lib.hid (Below.refl _ _)⟩
    case round =>
      obtain ⟨k, rfl, hk, rfl, HB⟩ := hrel
      by_cases hkl : k < l.length
      · have hkm : k < m.length := by have := HE.out; omega
        obtain ⟨b1, o1, rfl, hx⟩ : ∃ b o, p1 = some ⟨b, o, none⟩ ∧ ∀ k x, l[k]? = some x → w.rangeAt b (o + k * 48) (It.cells x) ∧ itLies w x := by
          rcases H1.out with h | h
          · rw [h] at hkl; simp at hkl
          · exact h
        obtain ⟨b2, o2, rfl, hy⟩ : ∃ b o, p2 = some ⟨b, o, none⟩ ∧ ∀ k x, m[k]? = some x → w.rangeAt b (o + k * 48) (It.cells x) ∧ itLies w x := by
          rcases H2.out with h | h
          · rw [h] at hkm; simp at hkm
          · exact h
        have hx1 := hx k l[k] (List.getElem?_eq_getElem hkl)
        have hy1 := hy k m[k] (List.getElem?_eq_getElem hkm)
        have hSS : ∀ w', Below wr.heap.size wr w' → Calls Try.prog 40 #[.pointer (some ⟨b1, o1 + k * 48, none⟩), .pointer (some ⟨b2, o2 + k * 48, none⟩)] w' fun en w'' => en = .returned (.bool (sameIt l[k] m[k])) ∧ Below w'.heap.size w' w'' := fun w' hb' =>
          have hb2 := HB.out.trans (hb'.mono HB.out.size)
          HS.out l[k] (List.getElem_mem _) m[k] (List.getElem_mem _) _ _ _ _ w' (rangeAt_below hx1.1 hb2) (rangeAt_below hy1.1 hb2) (itLies_below hx1.2 hb2) (itLies_below hy1.2 hb2)
        have hst := sameL_step (f := sameIt) k hkl hkm
        generalize sameIt l[k] m[k] = vb at hSS hst
        have HSS := Lib.hid hSS
        have HST := Lib.hid hst
        have HCT : Hid (Calls Try.prog 59 #[.bool true, .int .i64 k, .pointer (some ⟨b1, o1 + k * 48, none⟩), .pointer (some ⟨bs, 0, none⟩), .pointer (some ⟨bb, 0, none⟩)] wr fun en w' => en = .returned (.bool vb) ∧ Below wr.heap.size wr w') :=
          Lib.hid (cloTIt vb k m.length c2 b1 (o1 + k * 48) b2 o2 bs bb wr hkm ((HB.out.cell (p := ⟨bs, 0, none⟩) (World.block_lt_of_cell? w _ HBS.out)).trans HBS.out) ((HB.out.cell (p := ⟨bb, 0, none⟩) (World.block_lt_of_cell? w _ HBB.out)).trans HBB.out) HSS.out)
        have hcl := enters59
        clear hx hy hx1 hy1 hSS hst
        generalize sameL sameIt (l.take k) (m.take k) = sb at HST ⊢
        cases sb
        · go_wp2_with fail
          refine (cloFIt _ _ _ _ _ _).mono ?_; rintro en w2 ⟨rfl, hb2⟩
          have HB2 : Hid (Below w.heap.size w w2) := Lib.hid (HB.out.trans (hb2.mono HB.out.size))
          clear hb2
          go_wp2_with fail
          go_roundw
          case rel => exact ⟨k + 1, by go_num, by omega, by rw [HST.out]; rfl, HB2⟩
          case measure => simp [intOf]; omega
        · go_wp2_with fail
          refine (HCT.out).mono ?_; rintro en w2 ⟨rfl, hb2⟩
          have HB2 : Hid (Below w.heap.size w w2) := Lib.hid (HB.out.trans (hb2.mono HB.out.size))
          clear hb2
          go_wp2_with fail
          go_roundw
          case rel => exact ⟨k + 1, by go_num, by omega, by rw [HST.out]; rfl, HB2⟩
          case measure => simp [intOf]; omega
      · have h1 : l.take k = l := List.take_of_length_le (by omega)
        have h2 : m.take k = m := List.take_of_length_le (by have := HE.out; omega)
        rw [h1, h2]
        clear h1 h2
        go_wp2_with fail
        go_ret
        exact ⟨rfl, HB.out⟩
  · have heq : ((l.length : Int) == (m.length : Int)) = false := by
      rw [Bool.eq_false_iff]; intro e; rw [beq_iff_eq] at e; exact he (by omega)
    rw [heq, sameL_len he]
    clear he heq
    go_enter Try.func58, Try.ntmps58
    go_wp2_with fail
    go_loopw [1, 10] (fun v i wr => ∃ k : Nat, i = .int .i64 k ∧ k ≤ l.length ∧ v = .bool false ∧ Hid (Below w.heap.size w wr)) (fun _ i _ => l.length - (intOf i).toNat)
    case atStart => exact ⟨0, rfl, Nat.zero_le _, rfl, Lib.hid (Below.refl _ _)⟩
    case round =>
      obtain ⟨k, rfl, hk, rfl, HB⟩ := hrel
      by_cases hkl : k < l.length
      · obtain ⟨b1, o1, rfl, hx⟩ : ∃ b o, p1 = some ⟨b, o, none⟩ ∧ ∀ k x, l[k]? = some x → w.rangeAt b (o + k * 48) (It.cells x) ∧ itLies w x := by
          rcases H1.out with h | h
          · rw [h] at hkl; simp at hkl
          · exact h
        have hcl := enters59
        clear hx
        go_wp2_with fail
        refine (cloFIt _ _ _ _ _ _).mono ?_; rintro en w2 ⟨rfl, hb2⟩
        have HB2 : Hid (Below w.heap.size w w2) := Lib.hid (HB.out.trans (hb2.mono HB.out.size))
        clear hb2
        go_wp2_with fail
        go_roundw
        case rel => exact ⟨k + 1, by go_num, by omega, rfl, HB2⟩
        case measure => simp [intOf]; omega
      · go_wp2_with fail
        go_ret
        exact ⟨rfl, HB.out⟩

set_option maxHeartbeats 800000 in
set_option maxRecDepth 100000 in
theorem allIt (l m : List It) (p1 p2 : Option Addr) (c1 c2 : Nat) (w : World) (h1 : Lay 48 It.cells itLies w p1 l) (h2 : Lay 48 It.cells itLies w p2 m) (hS : ∀ x ∈ l, ∀ y ∈ m, OkIt x y) :
    Calls Try.prog 39 #[.slice p1 l.length c1, .slice p2 m.length c2, .func (.func 40) #[] #[]] w fun en w' => en = .returned (.bool (sameL sameIt l m)) ∧ Below w.heap.size w w' := by
  have ha : Below w.heap.size w ((w.alloc (.cells #[.slice p2 m.length c2] 22)).alloc (.cells #[.func (.func 40) #[] #[]] 74)) := ((Below.refl _ _).alloc (Nat.le_refl _) _).alloc (by simp) _
  have HF := Lib.hid (foldIt l m p1 p2 c1 c2 (w.heap.size + 1) w.heap.size ((w.alloc (.cells #[.slice p2 m.length c2] 22)).alloc (.cells #[.func (.func 40) #[] #[]] 74)) (h1.below ha (fun _ h => itLies_below h ha)) (h2.below ha (fun _ h => itLies_below h ha))
    (cell_of_row _ _ 0 _ _ _ (heap_alloc2_new w _ _)) (cell_of_row _ _ 0 _ _ _ (heap_alloc2_old w _ _)) hS)
  have HA := Lib.hid ha
  have hl1 := h1.1
  have hl2 := h2.1
  clear ha h1 h2 hS
  go_enter Try.func39, Try.ntmps39
  go_wp2_with fail
  refine (HF.out).mono ?_; rintro en w2 ⟨rfl, hb2⟩
  have HB2 : Hid (Below w.heap.size w w2) := Lib.hid (HA.out.trans (hb2.mono HA.out.size))
  clear hb2
  go_wp2_with fail
  go_ret
  exact ⟨rfl, HB2.out⟩

def okSL (l : SL) : Prop := ∀ (m : SL) (p1 : Option Addr) (c1 : Nat) (p2 : Option Addr) (c2 : Nat) (w : World), sLies w p1 l → sLies w p2 m →
  Calls Try.prog 20 #[.slice p1 l.len c1, .slice p2 m.len c2] w fun en w' => en = .returned (.bool (sameSL l m)) ∧ Below w.heap.size w w'
def sameItF (x y : It) : Bool := (x.h.kind == y.h.kind) && ((x.h.name.toList == y.h.name.toList) && ((x.h.both == y.h.both) && (samePth x.h.place y.h.place && (sameVl x.h.value y.h.value && (sameCd x.h.cond y.h.cond && (sameL sameVl x.h.args.l y.h.args.l && (sameSL x.t y.t && (sameSL x.e y.e))))))))
theorem sameIt_flat (x y : It) : sameIt x y = sameItF x y := by
  unfold sameIt sameHd sameItF
  simp only [Bool.and_assoc]

set_option maxHeartbeats 1600000 in
set_option maxRecDepth 100000 in
theorem stmtF_any (x y : It) (hT : okSL x.t) (hE : okSL x.e) (b1 q1 b2 q2 : Nat) (w : World) (hx : w.rangeAt b1 q1 (It.cells x)) (hy : w.rangeAt b2 q2 (It.cells y)) (rx : itLies w x) (ry : itLies w y) :
    Calls Try.prog 40 #[.pointer (some ⟨b1, q1, none⟩), .pointer (some ⟨b2, q2, none⟩)] w fun en w' => en = .returned (.bool (sameItF x y)) ∧ Below w.heap.size w w' := by
  have cx0 := cell_at hx 0 _ rfl
  have cy0 := cell_at hy 0 _ rfl
  rw [Nat.add_zero] at cx0 cy0
  have kx0 := cell_regrown cx0
  have ky0 := cell_regrown cy0
  have cx1 := cell_at hx 43 _ rfl
  have cy1 := cell_at hy 43 _ rfl
  have kx1 := cell_regrown cx1
  have ky1 := cell_regrown cy1
  have cx2 := cell_at hx 47 _ rfl
  have cy2 := cell_at hy 47 _ rfl
  have kx2 := cell_regrown cx2
  have ky2 := cell_regrown cy2
  have C3 : ∀ w', Below w.heap.size w w' → Calls Try.prog 60 #[.pointer (some ⟨b1, q1 + 2, none⟩), .pointer (some ⟨b2, q2 + 2, none⟩)] w' fun en w'' => en = .returned (.bool (samePth x.h.place y.h.place)) ∧ Below w'.heap.size w' w'' := fun w' hb =>
    pathS_any _ _ _ _ _ _ w' (rangeAt_below (rangeAt_sub hx 2 3 rfl) hb) (rangeAt_below (rangeAt_sub hy 2 3 rfl) hb) (pthLies_of (hdLies_below rx.1 hb).1) (pthLies_of (hdLies_below ry.1 hb).1)
  have C4 : ∀ w', Below w.heap.size w w' → Calls Try.prog 61 #[.pointer (some ⟨b1, q1 + 5, none⟩), .pointer (some ⟨b2, q2 + 5, none⟩)] w' fun en w'' => en = .returned (.bool (sameVl x.h.value y.h.value)) ∧ Below w'.heap.size w' w'' := fun w' hb =>
    valueS_any _ _ _ _ _ _ w' (rangeAt_below (rangeAt_sub hx 5 12 rfl) hb) (rangeAt_below (rangeAt_sub hy 5 12 rfl) hb) (hdLies_below rx.1 hb).2.1 (hdLies_below ry.1 hb).2.1
  have C5 : ∀ w', Below w.heap.size w w' → Calls Try.prog 62 #[.pointer (some ⟨b1, q1 + 17, none⟩), .pointer (some ⟨b2, q2 + 17, none⟩)] w' fun en w'' => en = .returned (.bool (sameCd x.h.cond y.h.cond)) ∧ Below w'.heap.size w' w'' := fun w' hb =>
    condS_any _ _ _ _ _ _ w' (rangeAt_below (rangeAt_sub hx 17 26 rfl) hb) (rangeAt_below (rangeAt_sub hy 17 26 rfl) hb) ⟨(hdLies_below rx.1 hb).2.2.1, (hdLies_below rx.1 hb).2.2.2.1⟩ ⟨(hdLies_below ry.1 hb).2.2.1, (hdLies_below ry.1 hb).2.2.2.1⟩
  have C6 : ∀ w', Below w.heap.size w w' → Calls Try.prog 63 #[.slice x.h.args.p x.h.args.l.length x.h.args.cap, .slice y.h.args.p y.h.args.l.length y.h.args.cap, .func (.func 61) #[] #[]] w' fun en w'' => en = .returned (.bool (sameL sameVl x.h.args.l y.h.args.l)) ∧ Below w'.heap.size w' w'' := fun w' hb =>
    allVl _ _ _ _ _ _ w' (Lay.of_sl (hdLies_below rx.1 hb).2.2.2.2.1 (by decide)) (Lay.of_sl (hdLies_below ry.1 hb).2.2.2.2.1 (by decide)) (fun a _ b _ => okVl a b)
  have cx6 := cell_at hx 44 _ rfl
  have cy6 := cell_at hy 44 _ rfl
  have kx6 := cell_regrown cx6
  have ky6 := cell_regrown cy6
  have C7 : ∀ w', Below w.heap.size w w' → Calls Try.prog 20 #[.slice x.tp x.t.len x.tc, .slice y.tp y.t.len y.tc] w' fun en w'' => en = .returned (.bool (sameSL x.t y.t)) ∧ Below w'.heap.size w' w'' := fun w' hb =>
    hT y.t _ _ _ _ w' (sLies_below rx.2.1 hb) (sLies_below ry.2.1 hb)
  have cx7 := cell_at hx 45 _ rfl
  have cy7 := cell_at hy 45 _ rfl
  have kx7 := cell_regrown cx7
  have ky7 := cell_regrown cy7
  have C8 : ∀ w', Below w.heap.size w w' → Calls Try.prog 20 #[.slice x.ep x.e.len x.ec, .slice y.ep y.e.len y.ec] w' fun en w'' => en = .returned (.bool (sameSL x.e y.e)) ∧ Below w'.heap.size w' w'' := fun w' hb =>
    hE y.e _ _ _ _ w' (sLies_below rx.2.2 hb) (sLies_below ry.2.2 hb)
  have cx8 := cell_at hx 46 _ rfl
  have cy8 := cell_at hy 46 _ rfl
  have kx8 := cell_regrown cx8
  have ky8 := cell_regrown cy8
  show Calls _ _ _ _ (fun en w' => en = .returned (.bool ((x.h.kind == y.h.kind) && ((x.h.name.toList == y.h.name.toList) && ((x.h.both == y.h.both) && (samePth x.h.place y.h.place && (sameVl x.h.value y.h.value && (sameCd x.h.cond y.h.cond && (sameL sameVl x.h.args.l y.h.args.l && (sameSL x.t y.t && (sameSL x.e y.e)))))))))) ∧ Below w.heap.size w w')
  generalize e0 : (x.h.kind == y.h.kind) = v0
  generalize e1 : (x.h.name.toList == y.h.name.toList) = v1
  generalize e2 : (x.h.both == y.h.both) = v2
  generalize samePth x.h.place y.h.place = v3 at C3 ⊢
  generalize sameVl x.h.value y.h.value = v4 at C4 ⊢
  generalize sameCd x.h.cond y.h.cond = v5 at C5 ⊢
  generalize sameL sameVl x.h.args.l y.h.args.l = v6 at C6 ⊢
  generalize sameSL x.t y.t = v7 at C7 ⊢
  generalize sameSL x.e y.e = v8 at C8 ⊢
  clear hx hy rx ry hT hE
  have cC3 : ∀ dd os, Calls Try.prog 60 #[.pointer (some ⟨b1, q1 + 2, none⟩), .pointer (some ⟨b2, q2 + 2, none⟩)] (grow (redrawn w dd) os) fun en w'' => en = .returned (.bool v3) ∧ ∃ p : Regrown, w'' = grow (redrawn w p.d) p.os := fun dd os => Calls.regrown_of (C3 _ (below_regrown _ _ _))
  clear C3
  have cC4 : ∀ dd os, Calls Try.prog 61 #[.pointer (some ⟨b1, q1 + 5, none⟩), .pointer (some ⟨b2, q2 + 5, none⟩)] (grow (redrawn w dd) os) fun en w'' => en = .returned (.bool v4) ∧ ∃ p : Regrown, w'' = grow (redrawn w p.d) p.os := fun dd os => Calls.regrown_of (C4 _ (below_regrown _ _ _))
  clear C4
  have cC5 : ∀ dd os, Calls Try.prog 62 #[.pointer (some ⟨b1, q1 + 17, none⟩), .pointer (some ⟨b2, q2 + 17, none⟩)] (grow (redrawn w dd) os) fun en w'' => en = .returned (.bool v5) ∧ ∃ p : Regrown, w'' = grow (redrawn w p.d) p.os := fun dd os => Calls.regrown_of (C5 _ (below_regrown _ _ _))
  clear C5
  have cC6 : ∀ dd os, Calls Try.prog 63 #[.slice x.h.args.p x.h.args.l.length x.h.args.cap, .slice y.h.args.p y.h.args.l.length y.h.args.cap, .func (.func 61) #[] #[]] (grow (redrawn w dd) os) fun en w'' => en = .returned (.bool v6) ∧ ∃ p : Regrown, w'' = grow (redrawn w p.d) p.os := fun dd os => Calls.regrown_of (C6 _ (below_regrown _ _ _))
  clear C6
  have cC7 : ∀ dd os, Calls Try.prog 20 #[.slice x.tp x.t.len x.tc, .slice y.tp y.t.len y.tc] (grow (redrawn w dd) os) fun en w'' => en = .returned (.bool v7) ∧ ∃ p : Regrown, w'' = grow (redrawn w p.d) p.os := fun dd os => Calls.regrown_of (C7 _ (below_regrown _ _ _))
  clear C7
  have cC8 : ∀ dd os, Calls Try.prog 20 #[.slice x.ep x.e.len x.ec, .slice y.ep y.e.len y.ec] (grow (redrawn w dd) os) fun en w'' => en = .returned (.bool v8) ∧ ∃ p : Regrown, w'' = grow (redrawn w p.d) p.os := fun dd os => Calls.regrown_of (C8 _ (below_regrown _ _ _))
  clear C8
  cases v0
  · go_enter Try.func40, Try.ntmps40
    go_wp2_with fail
    simp only [List.append_eq, List.cons_append, List.nil_append]
    refine wp_region_quiet_below (by kernel_rfl) (by kernel_rfl) ?_
    repeat (go_big_quiet_step (first | (with_reducible exact cC3 _ _) | (with_reducible exact cC4 _ _) | (with_reducible exact cC5 _ _) | (with_reducible exact cC6 _ _) | (with_reducible exact cC7 _ _) | (with_reducible exact cC8 _ _)))
    refine wpQuiet_nil ?_
    intro _ hw'
    obtain ⟨⟨dq, osq⟩, hw''⟩ := hw'
    subst hw''
    have HB3 := Lib.hid (below_regrown w dq osq)
    generalize grow (redrawn w dq) osq = w3 at HB3 ⊢
    go_wp2_with fail
    go_ret
    exact ⟨rfl, HB3.out⟩
  · cases v1
    · go_enter Try.func40, Try.ntmps40
      go_wp2_with fail
      simp only [List.append_eq, List.cons_append, List.nil_append]
      refine wp_region_quiet_below (by kernel_rfl) (by kernel_rfl) ?_
      repeat (go_big_quiet_step (first | (with_reducible exact cC3 _ _) | (with_reducible exact cC4 _ _) | (with_reducible exact cC5 _ _) | (with_reducible exact cC6 _ _) | (with_reducible exact cC7 _ _) | (with_reducible exact cC8 _ _)))
      refine wpQuiet_nil ?_
      intro _ hw'
      obtain ⟨⟨dq, osq⟩, hw''⟩ := hw'
      subst hw''
      have HB3 := Lib.hid (below_regrown w dq osq)
      generalize grow (redrawn w dq) osq = w3 at HB3 ⊢
      go_wp2_with fail
      go_ret
      exact ⟨rfl, HB3.out⟩
    · cases v2
      · go_enter Try.func40, Try.ntmps40
        go_wp2_with fail
        simp only [List.append_eq, List.cons_append, List.nil_append]
        refine wp_region_quiet_below (by kernel_rfl) (by kernel_rfl) ?_
        repeat (go_big_quiet_step (first | (with_reducible exact cC3 _ _) | (with_reducible exact cC4 _ _) | (with_reducible exact cC5 _ _) | (with_reducible exact cC6 _ _) | (with_reducible exact cC7 _ _) | (with_reducible exact cC8 _ _)))
        refine wpQuiet_nil ?_
        intro _ hw'
        obtain ⟨⟨dq, osq⟩, hw''⟩ := hw'
        subst hw''
        have HB3 := Lib.hid (below_regrown w dq osq)
        generalize grow (redrawn w dq) osq = w3 at HB3 ⊢
        go_wp2_with fail
        go_ret
        exact ⟨rfl, HB3.out⟩
      · cases v3
        · go_enter Try.func40, Try.ntmps40
          go_wp2_with fail
          simp only [List.append_eq, List.cons_append, List.nil_append]
          refine wp_region_quiet_below (by kernel_rfl) (by kernel_rfl) ?_
          repeat (go_big_quiet_step (first | (with_reducible exact cC3 _ _) | (with_reducible exact cC4 _ _) | (with_reducible exact cC5 _ _) | (with_reducible exact cC6 _ _) | (with_reducible exact cC7 _ _) | (with_reducible exact cC8 _ _)))
          refine wpQuiet_nil ?_
          intro _ hw'
          obtain ⟨⟨dq, osq⟩, hw''⟩ := hw'
          subst hw''
          have HB3 := Lib.hid (below_regrown w dq osq)
          generalize grow (redrawn w dq) osq = w3 at HB3 ⊢
          go_wp2_with fail
          go_ret
          exact ⟨rfl, HB3.out⟩
        · cases v4
          · go_enter Try.func40, Try.ntmps40
            go_wp2_with fail
            simp only [List.append_eq, List.cons_append, List.nil_append]
            refine wp_region_quiet_below (by kernel_rfl) (by kernel_rfl) ?_
            repeat (go_big_quiet_step (first | (with_reducible exact cC3 _ _) | (with_reducible exact cC4 _ _) | (with_reducible exact cC5 _ _) | (with_reducible exact cC6 _ _) | (with_reducible exact cC7 _ _) | (with_reducible exact cC8 _ _)))
            refine wpQuiet_nil ?_
            intro _ hw'
            obtain ⟨⟨dq, osq⟩, hw''⟩ := hw'
            subst hw''
            have HB3 := Lib.hid (below_regrown w dq osq)
            generalize grow (redrawn w dq) osq = w3 at HB3 ⊢
            go_wp2_with fail
            go_ret
            exact ⟨rfl, HB3.out⟩
          · cases v5
            · go_enter Try.func40, Try.ntmps40
              go_wp2_with fail
              simp only [List.append_eq, List.cons_append, List.nil_append]
              refine wp_region_quiet_below (by kernel_rfl) (by kernel_rfl) ?_
              repeat (go_big_quiet_step (first | (with_reducible exact cC3 _ _) | (with_reducible exact cC4 _ _) | (with_reducible exact cC5 _ _) | (with_reducible exact cC6 _ _) | (with_reducible exact cC7 _ _) | (with_reducible exact cC8 _ _)))
              refine wpQuiet_nil ?_
              intro _ hw'
              obtain ⟨⟨dq, osq⟩, hw''⟩ := hw'
              subst hw''
              have HB3 := Lib.hid (below_regrown w dq osq)
              generalize grow (redrawn w dq) osq = w3 at HB3 ⊢
              go_wp2_with fail
              go_ret
              exact ⟨rfl, HB3.out⟩
            · cases v6
              · go_enter Try.func40, Try.ntmps40
                go_wp2_with fail
                simp only [List.append_eq, List.cons_append, List.nil_append]
                refine wp_region_quiet_below (by kernel_rfl) (by kernel_rfl) ?_
                repeat (go_big_quiet_step (first | (with_reducible exact cC3 _ _) | (with_reducible exact cC4 _ _) | (with_reducible exact cC5 _ _) | (with_reducible exact cC6 _ _) | (with_reducible exact cC7 _ _) | (with_reducible exact cC8 _ _)))
                refine wpQuiet_nil ?_
                intro _ hw'
                obtain ⟨⟨dq, osq⟩, hw''⟩ := hw'
                subst hw''
                have HB3 := Lib.hid (below_regrown w dq osq)
                generalize grow (redrawn w dq) osq = w3 at HB3 ⊢
                go_wp2_with fail
                go_ret
                exact ⟨rfl, HB3.out⟩
              · cases v7
                · go_enter Try.func40, Try.ntmps40
                  go_wp2_with fail
                  simp only [List.append_eq, List.cons_append, List.nil_append]
                  refine wp_region_quiet_below (by kernel_rfl) (by kernel_rfl) ?_
                  repeat (go_big_quiet_step (first | (with_reducible exact cC3 _ _) | (with_reducible exact cC4 _ _) | (with_reducible exact cC5 _ _) | (with_reducible exact cC6 _ _) | (with_reducible exact cC7 _ _) | (with_reducible exact cC8 _ _)))
                  refine wpQuiet_nil ?_
                  intro _ hw'
                  obtain ⟨⟨dq, osq⟩, hw''⟩ := hw'
                  subst hw''
                  have HB3 := Lib.hid (below_regrown w dq osq)
                  generalize grow (redrawn w dq) osq = w3 at HB3 ⊢
                  go_wp2_with fail
                  go_ret
                  exact ⟨rfl, HB3.out⟩
                · cases v8
                  · go_enter Try.func40, Try.ntmps40
                    go_wp2_with fail
                    simp only [List.append_eq, List.cons_append, List.nil_append]
                    refine wp_region_quiet_below (by kernel_rfl) (by kernel_rfl) ?_
                    repeat (go_big_quiet_step (first | (with_reducible exact cC3 _ _) | (with_reducible exact cC4 _ _) | (with_reducible exact cC5 _ _) | (with_reducible exact cC6 _ _) | (with_reducible exact cC7 _ _) | (with_reducible exact cC8 _ _)))
                    refine wpQuiet_nil ?_
                    intro _ hw'
                    obtain ⟨⟨dq, osq⟩, hw''⟩ := hw'
                    subst hw''
                    have HB3 := Lib.hid (below_regrown w dq osq)
                    generalize grow (redrawn w dq) osq = w3 at HB3 ⊢
                    go_wp2_with fail
                    go_ret
                    exact ⟨rfl, HB3.out⟩
                  · go_enter Try.func40, Try.ntmps40
                    go_wp2_with fail
                    simp only [List.append_eq, List.cons_append, List.nil_append]
                    refine wp_region_quiet_below (by kernel_rfl) (by kernel_rfl) ?_
                    repeat (go_big_quiet_step (first | (with_reducible exact cC3 _ _) | (with_reducible exact cC4 _ _) | (with_reducible exact cC5 _ _) | (with_reducible exact cC6 _ _) | (with_reducible exact cC7 _ _) | (with_reducible exact cC8 _ _)))
                    refine wpQuiet_nil ?_
                    intro _ hw'
                    obtain ⟨⟨dq, osq⟩, hw''⟩ := hw'
                    subst hw''
                    have HB3 := Lib.hid (below_regrown w dq osq)
                    generalize grow (redrawn w dq) osq = w3 at HB3 ⊢
                    go_wp2_with fail
                    go_ret
                    exact ⟨rfl, HB3.out⟩

theorem stmtS_any (x y : It) (hT : okSL x.t) (hE : okSL x.e) : OkIt x y := fun b1 q1 b2 q2 w hx hy rx ry => by
  rw [sameIt_flat]; exact stmtF_any x y hT hE b1 q1 b2 q2 w hx hy rx ry

set_option maxHeartbeats 800000 in
set_option maxRecDepth 100000 in
theorem sameList_one (l : SL) (hP : l.each okSL) : okSL l := by
  intro m p1 c1 p2 c2 w h1 h2
  have HA := Lib.hid (allIt l.items m.items p1 p2 c1 c2 w (Lay.of_sLies h1) (Lay.of_sLies h2) (fun x hx y _ => stmtS_any x y (SL.each_items hP x hx).1 (SL.each_items hP x hx).2))
  rw [SL.items_len, SL.items_len, ← sameSL_items] at HA
  clear h1 h2 hP
  go_enter Try.func20, Try.ntmps20
  go_wp2_with fail
  refine (HA.out).mono ?_; rintro en w2 ⟨rfl, hb⟩
  have HB := Lib.hid hb
  clear hb
  go_wp2_with fail
  go_ret
  exact ⟨rfl, HB.out⟩
theorem sameList_any (l : SL) : okSL l := (SL.all sameList_one l).1

end Go.Proofs.Ytpbjnjnmbglllaa
