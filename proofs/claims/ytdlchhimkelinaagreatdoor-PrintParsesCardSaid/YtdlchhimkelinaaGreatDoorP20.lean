/-
  The walks of 'are they the same': statements. The walk of lex.IsName; the loops of the printer over no item. The walk of isNothing.
-/
import Derived.Test.YtdlchhimkelinaaGreatDoorP19
import Derived.Test.YtdlchhimkelinaaGreatDoorP07
import Derived.Test.YtdlchhimkelinaaGreatDoorP01
import Derived.Test.YtdlchhimkelinaaGreatDoorP10
import Derived.Great.BuildSlice
set_option maxHeartbeats 6400000
set_option maxRecDepth 100000
namespace Go.Proofs.YtdlchhimkelinaaGreatDoor
open Go.RowKit Go.Sort
/-! It -/
theorem enters59 : ∀ args w, (callFunc 187 args).run Tryz.prog w = .ok (.enter 187 args) w := enters Tryz.func187 (by kernel_rfl) rfl
/-- What is asked of the function that says whether two items are the same. -/
def OkIt (x y : It) : Prop := ∀ (b1 q1 b2 q2 : Nat) (w : World), w.rangeAt b1 q1 (It.cells x) → w.rangeAt b2 q2 (It.cells y) → itLies w x → itLies w y →
 Calls Tryz.prog 172 #[.pointer (some ⟨b1, q1, none⟩), .pointer (some ⟨b2, q2, none⟩)] w fun en w' => en = .returned (.bool (sameIt x y)) ∧ Below w.heap.size w w'
theorem cloFIt (i : Int) (b1 q1 bs bb : Nat) (w : World) :
  Calls Tryz.prog 187 #[.bool false, .int .i64 i, .pointer (some ⟨b1, q1, none⟩), .pointer (some ⟨bs, 0, none⟩), .pointer (some ⟨bb, 0, none⟩)] w fun en w' => en = .returned (.bool false) ∧ Below w.heap.size w w' := by
 go_enter Tryz.func187, Tryz.ntmps187
 go_wp2_with fail
 go_quiet (fail)
 go_wp2_with fail
 go_ret
 exact ⟨rfl, below_drewN_ (Below.refl _ _) _⟩
theorem cloTIt (v : Bool) (k n c b1 q1 b2 o2 bs bb : Nat) (w : World) (hk : k < n)
  (hs : w.cell? ⟨bs, 0, none⟩ = some (.func (.func 172) #[] #[])) (hb : w.cell? ⟨bb, 0, none⟩ = some (.slice (some ⟨b2, o2, none⟩) n c))
  (hS : ∀ w', Below w.heap.size w w' → Calls Tryz.prog 172 #[.pointer (some ⟨b1, q1, none⟩), .pointer (some ⟨b2, o2 + k * 48, none⟩)] w' fun en w'' => en = .returned (.bool v) ∧ Below w'.heap.size w' w'') :
  Calls Tryz.prog 187 #[.bool true, .int .i64 k, .pointer (some ⟨b1, q1, none⟩), .pointer (some ⟨bs, 0, none⟩), .pointer (some ⟨bb, 0, none⟩)] w fun en w' => en = .returned (.bool v) ∧ Below w.heap.size w w' := by
 have cS : ∀ dd os, Calls Tryz.prog 172 #[.pointer (some ⟨b1, q1, none⟩), .pointer (some ⟨b2, o2 + k * 48, none⟩)] (grow (redrawn w dd) os) fun en w'' => en = .returned (.bool v) ∧ ∃ p : Regrown, w'' = grow (redrawn w p.d) p.os :=
  fun dd os => Calls.regrown_of (hS _ (below_regrown _ _ _))
 have ks := cell_regrown hs
 have kb := cell_regrown hb
 have hk0 : (0 : Int) ≤ (k : Int) := Int.natCast_nonneg _
 have hk1 : (k : Int) < (n : Int) := by omega
 clear hS hs hb
 go_enter Tryz.func187, Tryz.ntmps187
 go_wp2_with fail
 refine wp_region_quiet_below (by kernel_rfl) (by kernel_rfl) ?_
 repeat (go_big_quiet_step (with_reducible exact cS _ _))
 refine wpQuiet_nil ?_
 intro _ hw'
 obtain ⟨⟨dq, osq⟩, hw''⟩ := hw'
 subst hw''
 have HB3 := hdn (below_regrown w dq osq)
 generalize grow (redrawn w dq) osq = w3 at HB3 ⊢
 go_wp2_with fail
 go_ret
 exact ⟨rfl, HB3.out⟩
theorem foldIt (l m : List It) (p1 p2 : Option Addr) (c1 c2 bs bb : Nat) (w : World) (h1 : Lay 48 It.cells itLies w p1 l) (h2 : Lay 48 It.cells itLies w p2 m)
  (hs : w.cell? ⟨bs, 0, none⟩ = some (.func (.func 172) #[] #[])) (hb : w.cell? ⟨bb, 0, none⟩ = some (.slice p2 m.length c2)) (hS : ∀ x ∈ l, ∀ y ∈ m, OkIt x y) :
  Calls Tryz.prog 186 #[.slice p1 l.length c1, .bool ((l.length : Int) == (m.length : Int)), .func (.func 187) #[] #[.pointer (some ⟨bs, 0, none⟩), .pointer (some ⟨bb, 0, none⟩)]] w fun en w' => en = .returned (.bool (sameL sameIt l m)) ∧ Below w.heap.size w w' := by
 obtain ⟨hl1, h1⟩ := h1
 obtain ⟨_, h2⟩ := h2
 have H1 := hdn h1
 have H2 := hdn h2
 have HS := hdn hS
 have HBS := hdn hs
 have HBB := hdn hb
 clear h1 h2 hS hs hb
 by_cases he : l.length = m.length
 ·have heq : ((l.length : Int) == (m.length : Int)) = true := by rw [he]; simp
  rw [heq]
  have HE := hdn he
  clear he heq
  go_enter Tryz.func186, Tryz.ntmps186
  go_wp2_with fail
  go_loopw [1, 10] (fun v i wr => ∃ k : Nat, i = .int .i64 k ∧ k ≤ l.length ∧ v = .bool (sameL sameIt (l.take k) (m.take k)) ∧ Hid (Below w.heap.size w wr)) (fun _ i _ => l.length - (intOf i).toNat)
  case atStart => exact ⟨0, rfl, Nat.zero_le _, rfl, hdn (Below.refl _ _)⟩
  case round =>
   obtain ⟨k, rfl, hk, rfl, HB⟩ := hrel
   by_cases hkl : k < l.length
   ·have hkm : k < m.length := by have := HE.out; omega
    obtain ⟨b1, o1, rfl, hx⟩ : ∃ b o, p1 = some ⟨b, o, none⟩ ∧ ∀ k x, l[k]? = some x → w.rangeAt b (o + k * 48) (It.cells x) ∧ itLies w x := by
     rcases H1.out with h | h
     ·rw [h] at hkl; simp at hkl
     ·exact h
    obtain ⟨b2, o2, rfl, hy⟩ : ∃ b o, p2 = some ⟨b, o, none⟩ ∧ ∀ k x, m[k]? = some x → w.rangeAt b (o + k * 48) (It.cells x) ∧ itLies w x := by
     rcases H2.out with h | h
     ·rw [h] at hkm; simp at hkm
     ·exact h
    have hx1 := hx k l[k] (List.getElem?_eq_getElem hkl)
    have hy1 := hy k m[k] (List.getElem?_eq_getElem hkm)
    have hSS : ∀ w', Below wr.heap.size wr w' → Calls Tryz.prog 172 #[.pointer (some ⟨b1, o1 + k * 48, none⟩), .pointer (some ⟨b2, o2 + k * 48, none⟩)] w' fun en w'' => en = .returned (.bool (sameIt l[k] m[k])) ∧ Below w'.heap.size w' w'' := fun w' hb' =>
     have hb2 := HB.out.trans (hb'.mono HB.out.size)
     HS.out l[k] (List.getElem_mem _) m[k] (List.getElem_mem _) _ _ _ _ w' (rangeAt_below hx1.1 hb2) (rangeAt_below hy1.1 hb2) (itLies_below hx1.2 hb2) (itLies_below hy1.2 hb2)
    have hst := sameL_step (f := sameIt) k hkl hkm
    generalize sameIt l[k] m[k] = vb at hSS hst
    have HSS := hdn hSS
    have HST := hdn hst
    have HCT : Hid (Calls Tryz.prog 187 #[.bool true, .int .i64 k, .pointer (some ⟨b1, o1 + k * 48, none⟩), .pointer (some ⟨bs, 0, none⟩), .pointer (some ⟨bb, 0, none⟩)] wr fun en w' => en = .returned (.bool vb) ∧ Below wr.heap.size wr w') :=
     hdn (cloTIt vb k m.length c2 b1 (o1 + k * 48) b2 o2 bs bb wr hkm ((HB.out.cell (p := ⟨bs, 0, none⟩) (World.block_lt_of_cell? w _ HBS.out)).trans HBS.out) ((HB.out.cell (p := ⟨bb, 0, none⟩) (World.block_lt_of_cell? w _ HBB.out)).trans HBB.out) HSS.out)
    have hcl := enters59
    clear hx hy hx1 hy1 hSS hst
    generalize sameL sameIt (l.take k) (m.take k) = sb at HST ⊢
    cases sb
    ·go_wp2_with fail
     refine (cloFIt _ _ _ _ _ _).mono ?_; rintro en w2 ⟨rfl, hb2⟩
     have HB2 : Hid (Below w.heap.size w w2) := hdn (HB.out.trans (hb2.mono HB.out.size))
     clear hb2
     go_wp2_with fail
     go_roundw
     case rel => exact ⟨k + 1, by go_num, by omega, by rw [HST.out]; rfl, HB2⟩
     case measure => simp [intOf]; omega
    ·go_wp2_with fail
     refine (HCT.out).mono ?_; rintro en w2 ⟨rfl, hb2⟩
     have HB2 : Hid (Below w.heap.size w w2) := hdn (HB.out.trans (hb2.mono HB.out.size))
     clear hb2
     go_wp2_with fail
     go_roundw
     case rel => exact ⟨k + 1, by go_num, by omega, by rw [HST.out]; rfl, HB2⟩
     case measure => simp [intOf]; omega
   ·have h1 : l.take k = l := List.take_of_length_le (by omega)
    have h2 : m.take k = m := List.take_of_length_le (by have := HE.out; omega)
    rw [h1, h2]
    clear h1 h2
    go_wp2_with fail
    go_ret
    exact ⟨rfl, HB.out⟩
 ·have heq : ((l.length : Int) == (m.length : Int)) = false := by
   rw [Bool.eq_false_iff]; intro e; rw [beq_iff_eq] at e; exact he (by omega)
  rw [heq, sameL_len he]
  clear he heq
  go_enter Tryz.func186, Tryz.ntmps186
  go_wp2_with fail
  go_loopw [1, 10] (fun v i wr => ∃ k : Nat, i = .int .i64 k ∧ k ≤ l.length ∧ v = .bool false ∧ Hid (Below w.heap.size w wr)) (fun _ i _ => l.length - (intOf i).toNat)
  case atStart => exact ⟨0, rfl, Nat.zero_le _, rfl, hdn (Below.refl _ _)⟩
  case round =>
   obtain ⟨k, rfl, hk, rfl, HB⟩ := hrel
   by_cases hkl : k < l.length
   ·obtain ⟨b1, o1, rfl, hx⟩ : ∃ b o, p1 = some ⟨b, o, none⟩ ∧ ∀ k x, l[k]? = some x → w.rangeAt b (o + k * 48) (It.cells x) ∧ itLies w x := by
     rcases H1.out with h | h
     ·rw [h] at hkl; simp at hkl
     ·exact h
    have hcl := enters59
    clear hx
    go_wp2_with fail
    refine (cloFIt _ _ _ _ _ _).mono ?_; rintro en w2 ⟨rfl, hb2⟩
    have HB2 : Hid (Below w.heap.size w w2) := hdn (HB.out.trans (hb2.mono HB.out.size))
    clear hb2
    go_wp2_with fail
    go_roundw
    case rel => exact ⟨k + 1, by go_num, by omega, rfl, HB2⟩
    case measure => simp [intOf]; omega
   ·go_wp2_with fail
    go_ret
    exact ⟨rfl, HB.out⟩
theorem allIt (l m : List It) (p1 p2 : Option Addr) (c1 c2 : Nat) (w : World) (h1 : Lay 48 It.cells itLies w p1 l) (h2 : Lay 48 It.cells itLies w p2 m) (hS : ∀ x ∈ l, ∀ y ∈ m, OkIt x y) :
  Calls Tryz.prog 171 #[.slice p1 l.length c1, .slice p2 m.length c2, .func (.func 172) #[] #[]] w fun en w' => en = .returned (.bool (sameL sameIt l m)) ∧ Below w.heap.size w w' := by
 have ha : Below w.heap.size w ((w.alloc (.cells #[.slice p2 m.length c2] 38)).alloc (.cells #[.func (.func 172) #[] #[]] 200)) := ((Below.refl _ _).alloc (Nat.le_refl _) _).alloc (by simp) _
 have HF := hdn (foldIt l m p1 p2 c1 c2 (w.heap.size + 1) w.heap.size ((w.alloc (.cells #[.slice p2 m.length c2] 38)).alloc (.cells #[.func (.func 172) #[] #[]] 200)) (h1.below ha (fun _ h => itLies_below h ha)) (h2.below ha (fun _ h => itLies_below h ha))
  (cell_of_row _ _ 0 _ _ _ (heap_alloc2_new w _ _)) (cell_of_row _ _ 0 _ _ _ (heap_alloc2_old w _ _)) hS)
 have HA := hdn ha
 have hl1 := h1.1
 have hl2 := h2.1
 clear ha h1 h2 hS
 go_enter Tryz.func171, Tryz.ntmps171
 go_wp2_with fail
 refine (HF.out).mono ?_; rintro en w2 ⟨rfl, hb2⟩
 have HB2 : Hid (Below w.heap.size w w2) := hdn (HA.out.trans (hb2.mono HA.out.size))
 clear hb2
 go_wp2_with fail
 go_ret
 exact ⟨rfl, HB2.out⟩
def okSL (l : SL) : Prop := ∀ (m : SL) (p1 : Option Addr) (c1 : Nat) (p2 : Option Addr) (c2 : Nat) (w : World), sLies w p1 l → sLies w p2 m →
 Calls Tryz.prog 150 #[.slice p1 l.len c1, .slice p2 m.len c2] w fun en w' => en = .returned (.bool (sameSL l m)) ∧ Below w.heap.size w w'
def sameItG (x y : It) : Bool := (x.h.kind == y.h.kind) && ((x.h.name.toList == y.h.name.toList) && ((x.h.both == y.h.both) && (samePth x.h.place y.h.place && (sameVl x.h.value y.h.value && (sameCd x.h.cond y.h.cond && (sameL sameVl x.h.args.l y.h.args.l && (sameSL x.t y.t && (sameSL x.e y.e))))))))
theorem sameIt_flatG (x y : It) : sameIt x y = sameItG x y := by
 unfold sameIt sameHd sameItG
 simp only [Bool.and_assoc]
theorem stmtF_any (x y : It) (hT : okSL x.t) (hE : okSL x.e) (b1 q1 b2 q2 : Nat) (w : World) (hx : w.rangeAt b1 q1 (It.cells x)) (hy : w.rangeAt b2 q2 (It.cells y)) (rx : itLies w x) (ry : itLies w y) :
  Calls Tryz.prog 172 #[.pointer (some ⟨b1, q1, none⟩), .pointer (some ⟨b2, q2, none⟩)] w fun en w' => en = .returned (.bool (sameItG x y)) ∧ Below w.heap.size w w' := by
 have cx0 := cell_at hx 0 _ rfl
 have cy0 := cell_at hy 0 _ rfl
 rw [Nat.add_zero] at cx0 cy0
 have kx0 := cell_regrown cx0
 have ky0 := cell_regrown cy0
 have cx1 := cell_at hx 43 _ rfl
 have cy1 := cell_at hy 43 _ rfl
 have kx1 := cell_regrown cx1
 have ky1 := cell_regrown cy1
 have cx2 := cell_at hx 47 _ rfl
 have cy2 := cell_at hy 47 _ rfl
 have kx2 := cell_regrown cx2
 have ky2 := cell_regrown cy2
 have C3 : ∀ w', Below w.heap.size w w' → Calls Tryz.prog 188 #[.pointer (some ⟨b1, q1 + 2, none⟩), .pointer (some ⟨b2, q2 + 2, none⟩)] w' fun en w'' => en = .returned (.bool (samePth x.h.place y.h.place)) ∧ Below w'.heap.size w' w'' := fun w' hb =>
  pathS_any _ _ _ _ _ _ w' (rangeAt_below (rangeAt_sub hx 2 3 rfl) hb) (rangeAt_below (rangeAt_sub hy 2 3 rfl) hb) (pthLies_of (hdLies_below rx.1 hb).1) (pthLies_of (hdLies_below ry.1 hb).1)
 have C4 : ∀ w', Below w.heap.size w w' → Calls Tryz.prog 189 #[.pointer (some ⟨b1, q1 + 5, none⟩), .pointer (some ⟨b2, q2 + 5, none⟩)] w' fun en w'' => en = .returned (.bool (sameVl x.h.value y.h.value)) ∧ Below w'.heap.size w' w'' := fun w' hb =>
  valueS_any _ _ _ _ _ _ w' (rangeAt_below (rangeAt_sub hx 5 12 rfl) hb) (rangeAt_below (rangeAt_sub hy 5 12 rfl) hb) (hdLies_below rx.1 hb).2.1 (hdLies_below ry.1 hb).2.1
 have C5 : ∀ w', Below w.heap.size w w' → Calls Tryz.prog 190 #[.pointer (some ⟨b1, q1 + 17, none⟩), .pointer (some ⟨b2, q2 + 17, none⟩)] w' fun en w'' => en = .returned (.bool (sameCd x.h.cond y.h.cond)) ∧ Below w'.heap.size w' w'' := fun w' hb =>
  condS_any _ _ _ _ _ _ w' (rangeAt_below (rangeAt_sub hx 17 26 rfl) hb) (rangeAt_below (rangeAt_sub hy 17 26 rfl) hb) ⟨(hdLies_below rx.1 hb).2.2.1, (hdLies_below rx.1 hb).2.2.2.1⟩ ⟨(hdLies_below ry.1 hb).2.2.1, (hdLies_below ry.1 hb).2.2.2.1⟩
 have C6 : ∀ w', Below w.heap.size w w' → Calls Tryz.prog 191 #[.slice x.h.args.p x.h.args.l.length x.h.args.cap, .slice y.h.args.p y.h.args.l.length y.h.args.cap, .func (.func 189) #[] #[]] w' fun en w'' => en = .returned (.bool (sameL sameVl x.h.args.l y.h.args.l)) ∧ Below w'.heap.size w' w'' := fun w' hb =>
  allVl _ _ _ _ _ _ w' (Lay.of_sl (hdLies_below rx.1 hb).2.2.2.2.1 (by decide)) (Lay.of_sl (hdLies_below ry.1 hb).2.2.2.2.1 (by decide)) (fun a _ b _ => okVl a b)
 have cx6 := cell_at hx 44 _ rfl
 have cy6 := cell_at hy 44 _ rfl
 have kx6 := cell_regrown cx6
 have ky6 := cell_regrown cy6
 have C7 : ∀ w', Below w.heap.size w w' → Calls Tryz.prog 150 #[.slice x.tp x.t.len x.tc, .slice y.tp y.t.len y.tc] w' fun en w'' => en = .returned (.bool (sameSL x.t y.t)) ∧ Below w'.heap.size w' w'' := fun w' hb =>
  hT y.t _ _ _ _ w' (sLies_below rx.2.1 hb) (sLies_below ry.2.1 hb)
 have cx7 := cell_at hx 45 _ rfl
 have cy7 := cell_at hy 45 _ rfl
 have kx7 := cell_regrown cx7
 have ky7 := cell_regrown cy7
 have C8 : ∀ w', Below w.heap.size w w' → Calls Tryz.prog 150 #[.slice x.ep x.e.len x.ec, .slice y.ep y.e.len y.ec] w' fun en w'' => en = .returned (.bool (sameSL x.e y.e)) ∧ Below w'.heap.size w' w'' := fun w' hb =>
  hE y.e _ _ _ _ w' (sLies_below rx.2.2 hb) (sLies_below ry.2.2 hb)
 have cx8 := cell_at hx 46 _ rfl
 have cy8 := cell_at hy 46 _ rfl
 have kx8 := cell_regrown cx8
 have ky8 := cell_regrown cy8
 show Calls _ _ _ _ (fun en w' => en = .returned (.bool ((x.h.kind == y.h.kind) && ((x.h.name.toList == y.h.name.toList) && ((x.h.both == y.h.both) && (samePth x.h.place y.h.place && (sameVl x.h.value y.h.value && (sameCd x.h.cond y.h.cond && (sameL sameVl x.h.args.l y.h.args.l && (sameSL x.t y.t && (sameSL x.e y.e)))))))))) ∧ Below w.heap.size w w')
 generalize e0 : (x.h.kind == y.h.kind) = v0
 generalize e1 : (x.h.name.toList == y.h.name.toList) = v1
 generalize e2 : (x.h.both == y.h.both) = v2
 generalize samePth x.h.place y.h.place = v3 at C3 ⊢
 generalize sameVl x.h.value y.h.value = v4 at C4 ⊢
 generalize sameCd x.h.cond y.h.cond = v5 at C5 ⊢
 generalize sameL sameVl x.h.args.l y.h.args.l = v6 at C6 ⊢
 generalize sameSL x.t y.t = v7 at C7 ⊢
 generalize sameSL x.e y.e = v8 at C8 ⊢
 clear hx hy rx ry hT hE
 have cC3 : ∀ dd os, Calls Tryz.prog 188 #[.pointer (some ⟨b1, q1 + 2, none⟩), .pointer (some ⟨b2, q2 + 2, none⟩)] (grow (redrawn w dd) os) fun en w'' => en = .returned (.bool v3) ∧ ∃ p : Regrown, w'' = grow (redrawn w p.d) p.os := fun dd os => Calls.regrown_of (C3 _ (below_regrown _ _ _))
 clear C3
 have cC4 : ∀ dd os, Calls Tryz.prog 189 #[.pointer (some ⟨b1, q1 + 5, none⟩), .pointer (some ⟨b2, q2 + 5, none⟩)] (grow (redrawn w dd) os) fun en w'' => en = .returned (.bool v4) ∧ ∃ p : Regrown, w'' = grow (redrawn w p.d) p.os := fun dd os => Calls.regrown_of (C4 _ (below_regrown _ _ _))
 clear C4
 have cC5 : ∀ dd os, Calls Tryz.prog 190 #[.pointer (some ⟨b1, q1 + 17, none⟩), .pointer (some ⟨b2, q2 + 17, none⟩)] (grow (redrawn w dd) os) fun en w'' => en = .returned (.bool v5) ∧ ∃ p : Regrown, w'' = grow (redrawn w p.d) p.os := fun dd os => Calls.regrown_of (C5 _ (below_regrown _ _ _))
 clear C5
 have cC6 : ∀ dd os, Calls Tryz.prog 191 #[.slice x.h.args.p x.h.args.l.length x.h.args.cap, .slice y.h.args.p y.h.args.l.length y.h.args.cap, .func (.func 189) #[] #[]] (grow (redrawn w dd) os) fun en w'' => en = .returned (.bool v6) ∧ ∃ p : Regrown, w'' = grow (redrawn w p.d) p.os := fun dd os => Calls.regrown_of (C6 _ (below_regrown _ _ _))
 clear C6
 have cC7 : ∀ dd os, Calls Tryz.prog 150 #[.slice x.tp x.t.len x.tc, .slice y.tp y.t.len y.tc] (grow (redrawn w dd) os) fun en w'' => en = .returned (.bool v7) ∧ ∃ p : Regrown, w'' = grow (redrawn w p.d) p.os := fun dd os => Calls.regrown_of (C7 _ (below_regrown _ _ _))
 clear C7
 have cC8 : ∀ dd os, Calls Tryz.prog 150 #[.slice x.ep x.e.len x.ec, .slice y.ep y.e.len y.ec] (grow (redrawn w dd) os) fun en w'' => en = .returned (.bool v8) ∧ ∃ p : Regrown, w'' = grow (redrawn w p.d) p.os := fun dd os => Calls.regrown_of (C8 _ (below_regrown _ _ _))
 clear C8
 cases v0
 ·go_enter Tryz.func172, Tryz.ntmps172
  go_wp2_with fail
  simp only [List.append_eq, List.cons_append, List.nil_append]
  refine wp_region_quiet_below (by kernel_rfl) (by kernel_rfl) ?_
  repeat (go_big_quiet_step (first | (with_reducible exact cC3 _ _) | (with_reducible exact cC4 _ _) | (with_reducible exact cC5 _ _) | (with_reducible exact cC6 _ _) | (with_reducible exact cC7 _ _) | (with_reducible exact cC8 _ _)))
  refine wpQuiet_nil ?_
  intro _ hw'
  obtain ⟨⟨dq, osq⟩, hw''⟩ := hw'
  subst hw''
  have HB3 := hdn (below_regrown w dq osq)
  generalize grow (redrawn w dq) osq = w3 at HB3 ⊢
  go_wp2_with fail
  go_ret
  exact ⟨rfl, HB3.out⟩
 ·cases v1
  ·go_enter Tryz.func172, Tryz.ntmps172
   go_wp2_with fail
   simp only [List.append_eq, List.cons_append, List.nil_append]
   refine wp_region_quiet_below (by kernel_rfl) (by kernel_rfl) ?_
   repeat (go_big_quiet_step (first | (with_reducible exact cC3 _ _) | (with_reducible exact cC4 _ _) | (with_reducible exact cC5 _ _) | (with_reducible exact cC6 _ _) | (with_reducible exact cC7 _ _) | (with_reducible exact cC8 _ _)))
   refine wpQuiet_nil ?_
   intro _ hw'
   obtain ⟨⟨dq, osq⟩, hw''⟩ := hw'
   subst hw''
   have HB3 := hdn (below_regrown w dq osq)
   generalize grow (redrawn w dq) osq = w3 at HB3 ⊢
   go_wp2_with fail
   go_ret
   exact ⟨rfl, HB3.out⟩
  ·cases v2
   ·go_enter Tryz.func172, Tryz.ntmps172
    go_wp2_with fail
    simp only [List.append_eq, List.cons_append, List.nil_append]
    refine wp_region_quiet_below (by kernel_rfl) (by kernel_rfl) ?_
    repeat (go_big_quiet_step (first | (with_reducible exact cC3 _ _) | (with_reducible exact cC4 _ _) | (with_reducible exact cC5 _ _) | (with_reducible exact cC6 _ _) | (with_reducible exact cC7 _ _) | (with_reducible exact cC8 _ _)))
    refine wpQuiet_nil ?_
    intro _ hw'
    obtain ⟨⟨dq, osq⟩, hw''⟩ := hw'
    subst hw''
    have HB3 := hdn (below_regrown w dq osq)
    generalize grow (redrawn w dq) osq = w3 at HB3 ⊢
    go_wp2_with fail
    go_ret
    exact ⟨rfl, HB3.out⟩
   ·cases v3
    ·go_enter Tryz.func172, Tryz.ntmps172
     go_wp2_with fail
     simp only [List.append_eq, List.cons_append, List.nil_append]
     refine wp_region_quiet_below (by kernel_rfl) (by kernel_rfl) ?_
     repeat (go_big_quiet_step (first | (with_reducible exact cC3 _ _) | (with_reducible exact cC4 _ _) | (with_reducible exact cC5 _ _) | (with_reducible exact cC6 _ _) | (with_reducible exact cC7 _ _) | (with_reducible exact cC8 _ _)))
     refine wpQuiet_nil ?_
     intro _ hw'
     obtain ⟨⟨dq, osq⟩, hw''⟩ := hw'
     subst hw''
     have HB3 := hdn (below_regrown w dq osq)
     generalize grow (redrawn w dq) osq = w3 at HB3 ⊢
     go_wp2_with fail
     go_ret
     exact ⟨rfl, HB3.out⟩
    ·cases v4
     ·go_enter Tryz.func172, Tryz.ntmps172
      go_wp2_with fail
      simp only [List.append_eq, List.cons_append, List.nil_append]
      refine wp_region_quiet_below (by kernel_rfl) (by kernel_rfl) ?_
      repeat (go_big_quiet_step (first | (with_reducible exact cC3 _ _) | (with_reducible exact cC4 _ _) | (with_reducible exact cC5 _ _) | (with_reducible exact cC6 _ _) | (with_reducible exact cC7 _ _) | (with_reducible exact cC8 _ _)))
      refine wpQuiet_nil ?_
      intro _ hw'
      obtain ⟨⟨dq, osq⟩, hw''⟩ := hw'
      subst hw''
      have HB3 := hdn (below_regrown w dq osq)
      generalize grow (redrawn w dq) osq = w3 at HB3 ⊢
      go_wp2_with fail
      go_ret
      exact ⟨rfl, HB3.out⟩
     ·cases v5
      ·go_enter Tryz.func172, Tryz.ntmps172
       go_wp2_with fail
       simp only [List.append_eq, List.cons_append, List.nil_append]
       refine wp_region_quiet_below (by kernel_rfl) (by kernel_rfl) ?_
       repeat (go_big_quiet_step (first | (with_reducible exact cC3 _ _) | (with_reducible exact cC4 _ _) | (with_reducible exact cC5 _ _) | (with_reducible exact cC6 _ _) | (with_reducible exact cC7 _ _) | (with_reducible exact cC8 _ _)))
       refine wpQuiet_nil ?_
       intro _ hw'
       obtain ⟨⟨dq, osq⟩, hw''⟩ := hw'
       subst hw''
       have HB3 := hdn (below_regrown w dq osq)
       generalize grow (redrawn w dq) osq = w3 at HB3 ⊢
       go_wp2_with fail
       go_ret
       exact ⟨rfl, HB3.out⟩
      ·cases v6
       ·go_enter Tryz.func172, Tryz.ntmps172
        go_wp2_with fail
        simp only [List.append_eq, List.cons_append, List.nil_append]
        refine wp_region_quiet_below (by kernel_rfl) (by kernel_rfl) ?_
        repeat (go_big_quiet_step (first | (with_reducible exact cC3 _ _) | (with_reducible exact cC4 _ _) | (with_reducible exact cC5 _ _) | (with_reducible exact cC6 _ _) | (with_reducible exact cC7 _ _) | (with_reducible exact cC8 _ _)))
        refine wpQuiet_nil ?_
        intro _ hw'
        obtain ⟨⟨dq, osq⟩, hw''⟩ := hw'
        subst hw''
        have HB3 := hdn (below_regrown w dq osq)
        generalize grow (redrawn w dq) osq = w3 at HB3 ⊢
        go_wp2_with fail
        go_ret
        exact ⟨rfl, HB3.out⟩
       ·cases v7
        ·go_enter Tryz.func172, Tryz.ntmps172
         go_wp2_with fail
         simp only [List.append_eq, List.cons_append, List.nil_append]
         refine wp_region_quiet_below (by kernel_rfl) (by kernel_rfl) ?_
         repeat (go_big_quiet_step (first | (with_reducible exact cC3 _ _) | (with_reducible exact cC4 _ _) | (with_reducible exact cC5 _ _) | (with_reducible exact cC6 _ _) | (with_reducible exact cC7 _ _) | (with_reducible exact cC8 _ _)))
         refine wpQuiet_nil ?_
         intro _ hw'
         obtain ⟨⟨dq, osq⟩, hw''⟩ := hw'
         subst hw''
         have HB3 := hdn (below_regrown w dq osq)
         generalize grow (redrawn w dq) osq = w3 at HB3 ⊢
         go_wp2_with fail
         go_ret
         exact ⟨rfl, HB3.out⟩
        ·cases v8
         ·go_enter Tryz.func172, Tryz.ntmps172
          go_wp2_with fail
          simp only [List.append_eq, List.cons_append, List.nil_append]
          refine wp_region_quiet_below (by kernel_rfl) (by kernel_rfl) ?_
          repeat (go_big_quiet_step (first | (with_reducible exact cC3 _ _) | (with_reducible exact cC4 _ _) | (with_reducible exact cC5 _ _) | (with_reducible exact cC6 _ _) | (with_reducible exact cC7 _ _) | (with_reducible exact cC8 _ _)))
          refine wpQuiet_nil ?_
          intro _ hw'
          obtain ⟨⟨dq, osq⟩, hw''⟩ := hw'
          subst hw''
          have HB3 := hdn (below_regrown w dq osq)
          generalize grow (redrawn w dq) osq = w3 at HB3 ⊢
          go_wp2_with fail
          go_ret
          exact ⟨rfl, HB3.out⟩
         ·go_enter Tryz.func172, Tryz.ntmps172
          go_wp2_with fail
          simp only [List.append_eq, List.cons_append, List.nil_append]
          refine wp_region_quiet_below (by kernel_rfl) (by kernel_rfl) ?_
          repeat (go_big_quiet_step (first | (with_reducible exact cC3 _ _) | (with_reducible exact cC4 _ _) | (with_reducible exact cC5 _ _) | (with_reducible exact cC6 _ _) | (with_reducible exact cC7 _ _) | (with_reducible exact cC8 _ _)))
          refine wpQuiet_nil ?_
          intro _ hw'
          obtain ⟨⟨dq, osq⟩, hw''⟩ := hw'
          subst hw''
          have HB3 := hdn (below_regrown w dq osq)
          generalize grow (redrawn w dq) osq = w3 at HB3 ⊢
          go_wp2_with fail
          go_ret
          exact ⟨rfl, HB3.out⟩
theorem stmtS_any (x y : It) (hT : okSL x.t) (hE : okSL x.e) : OkIt x y := fun b1 q1 b2 q2 w hx hy rx ry => by
 rw [sameIt_flatG]; exact stmtF_any x y hT hE b1 q1 b2 q2 w hx hy rx ry
theorem sameList_one (l : SL) (hP : l.each okSL) : okSL l := by
 intro m p1 c1 p2 c2 w h1 h2
 have HA := hdn (allIt l.items m.items p1 p2 c1 c2 w (Lay.of_sLies h1) (Lay.of_sLies h2) (fun x hx y _ => stmtS_any x y (SL.each_items hP x hx).1 (SL.each_items hP x hx).2))
 rw [SL.items_len, SL.items_len, ← sameSL_items] at HA
 clear h1 h2 hP
 go_enter Tryz.func150, Tryz.ntmps150
 go_wp2_with fail
 refine (HA.out).mono ?_; rintro en w2 ⟨rfl, hb⟩
 have HB := hdn hb
 clear hb
 go_wp2_with fail
 go_ret
 exact ⟨rfl, HB.out⟩
theorem sameList_any (l : SL) : okSL l := (SL.all sameList_one l).1
end Go.Proofs.YtdlchhimkelinaaGreatDoor
namespace Go.Proofs.YtdlchhimkelinaaGreatDoor
open Go.RowKit Go.Sort
theorem isNameLex_any (s : ByteArray) (w : World) (hs : s.size ≤ 5000000) (hg : Gl w) :
  Calls Tryz.prog 79 #[.string s] w fun e w' => e = .returned (.bool (Tx.nameB s)) ∧ w = w' := by
 by_cases h0 : s.size = 0
 ·obtain rfl := Tx.empty_of s h0
  clear h0
  go_enter Tryz.func79, Tryz.ntmps79
  go_wp2
  go_ret
  exact ⟨rfl, rfl⟩
 ·have h1 : 0 < s.size := by omega
  have hne := toList_ne s h1
  clear h0
  have hw := hdn (Tx.headL_eq s h1)
  by_cases h16 : s.size ≤ 16
  ·cases hl : Tx.ltr (s[0].toNat : Int)
   ·have HE : Hid (Tx.nameB s = false) := hdn (by unfold Tx.nameB; rw [hw.out, hl]; simp)
    go_enter Tryz.func79, Tryz.ntmps79
    go_wp2_with (first | (go_at_call 89; refine (isLetter_any _ _).mono ?_; rintro e w' ⟨rfl, rfl⟩) | (go_at_call 114; refine (wordEnd_any s 0 _ hs (by omega)).mono ?_; rintro e w' ⟨rfl, rfl⟩) | (go_at_call 115; refine (isKeyLex_any _ _ hg).mono ?_; rintro e w' ⟨rfl, rfl⟩))
    go_ret
    exact ⟨ret_bool HE.out.symm, rfl⟩
   ·have h16' := hdn h16
    by_cases hd : Tx.wend Tx.wrd s 0 = s.size
    ·have HE : Hid (Tx.nameB s = !Tx.isKey s) := hdn (by unfold Tx.nameB; rw [hw.out, hl, decide_eq_true hd, decide_eq_true h16]; simp)
     have hd' : decide (Tx.wend Tx.wrd s 0 = s.size) = true := decide_eq_true hd
     have hd2 : ((Tx.wend Tx.wrd s 0 : Int) == (s.size : Int)) = true := by rw [hd]; simp
     clear hd
     go_enter Tryz.func79, Tryz.ntmps79
     go_wp2_with (first | (go_at_call 89; refine (isLetter_any _ _).mono ?_; rintro e w' ⟨rfl, rfl⟩) | (go_at_call 114; refine (wordEnd_any s 0 _ hs (by omega)).mono ?_; rintro e w' ⟨rfl, rfl⟩) | (go_at_call 115; refine (isKeyLex_any _ _ hg).mono ?_; rintro e w' ⟨rfl, rfl⟩))
     go_ret
     exact ⟨ret_bool HE.out.symm, rfl⟩
    ·have HE : Hid (Tx.nameB s = false) := hdn (by unfold Tx.nameB; rw [decide_eq_false hd]; simp)
     have hd2 : ((Tx.wend Tx.wrd s 0 : Int) == (s.size : Int)) = false := by rw [Bool.eq_false_iff]; intro e; rw [beq_iff_eq] at e; exact hd (by omega)
     clear hd
     go_enter Tryz.func79, Tryz.ntmps79
     go_wp2_with (first | (go_at_call 89; refine (isLetter_any _ _).mono ?_; rintro e w' ⟨rfl, rfl⟩) | (go_at_call 114; refine (wordEnd_any s 0 _ hs (by omega)).mono ?_; rintro e w' ⟨rfl, rfl⟩) | (go_at_call 115; refine (isKeyLex_any _ _ hg).mono ?_; rintro e w' ⟨rfl, rfl⟩))
     go_ret
     exact ⟨ret_bool HE.out.symm, rfl⟩
  ·have HE : Hid (Tx.nameB s = false) := hdn (by unfold Tx.nameB; rw [decide_eq_false h16]; simp)
   go_enter Tryz.func79, Tryz.ntmps79
   go_wp2_with fail
   go_ret
   exact ⟨ret_bool HE.out.symm, rfl⟩
theorem allSr_nil (p : Option Addr) (c : Nat) (f : Value) (w : World) : Calls Tryz.prog 36 #[.slice p 0 c, f] w fun e w' => e = .returned (.bool true) ∧ w = w' := by
 go_enter Tryz.func36, Tryz.ntmps36
 go_wp2_with fail
 go_loop [8] (fun i => i = .int .i64 0) (fun _ => 0)
 case atStart => rfl
 case round =>
  obtain rfl := hrel
  go_wp2_with fail
  go_ret
  exact ⟨rfl, rfl⟩
theorem allDc_nil (p : Option Addr) (c : Nat) (f : Value) (w : World) : Calls Tryz.prog 38 #[.slice p 0 c, f] w fun e w' => e = .returned (.bool true) ∧ w = w' := by
 go_enter Tryz.func38, Tryz.ntmps38
 go_wp2_with fail
 go_loop [8] (fun i => i = .int .i64 0) (fun _ => 0)
 case atStart => rfl
 case round =>
  obtain rfl := hrel
  go_wp2_with fail
  go_ret
  exact ⟨rfl, rfl⟩
theorem allHp_nil (p : Option Addr) (c : Nat) (f : Value) (w : World) : Calls Tryz.prog 173 #[.slice p 0 c, f] w fun e w' => e = .returned (.bool true) ∧ w = w' := by
 go_enter Tryz.func173, Tryz.ntmps173
 go_wp2_with fail
 go_loop [8] (fun i => i = .int .i64 0) (fun _ => 0)
 case atStart => rfl
 case round =>
  obtain rfl := hrel
  go_wp2_with fail
  go_ret
  exact ⟨rfl, rfl⟩
theorem eachSr_nil (p : Option Addr) (c : Nat) (f : Value) (w : World) : Calls Tryz.prog 42 #[.slice p 0 c, f] w fun e w' => e = .returned (.tuple #[]) ∧ w = w' := by
 go_enter Tryz.func42, Tryz.ntmps42
 go_wp2_with fail
 go_loop [7] (fun i => i = .int .i64 0) (fun _ => 0)
 case atStart => rfl
 case round =>
  obtain rfl := hrel
  go_wp2_with fail
  go_end0
  exact ⟨rfl, rfl⟩
theorem eachDc_nil (p : Option Addr) (c : Nat) (f : Value) (w : World) : Calls Tryz.prog 44 #[.slice p 0 c, f] w fun e w' => e = .returned (.tuple #[]) ∧ w = w' := by
 go_enter Tryz.func44, Tryz.ntmps44
 go_wp2_with fail
 go_loop [7] (fun i => i = .int .i64 0) (fun _ => 0)
 case atStart => rfl
 case round =>
  obtain rfl := hrel
  go_wp2_with fail
  go_end0
  exact ⟨rfl, rfl⟩
end Go.Proofs.YtdlchhimkelinaaGreatDoor
namespace Go.Proofs.YtdlchhimkelinaaGreatDoor
open Go.RowKit Go.Sort
/-- What a type's row of the table holds. -/
theorem infoParts {e : TypeId} {n : Nat} (h : (Tryz.prog.info? e).map (fun i => (i.zero.isSome, i.size)) = some (true, n)) : ∃ ie z, Tryz.prog.info? e = some ie ∧ ie.zero = some z ∧ ie.size = n := by
 cases hi : Tryz.prog.info? e with
 | none => rw [hi] at h; simp at h
 | some ie =>
  rw [hi] at h
  simp only [Option.map_some, Option.some.injEq, Prod.mk.injEq] at h
  obtain ⟨z, hz⟩ := Option.isSome_iff_exists.1 h.1
  exact ⟨ie, z, rfl, hz, h.2⟩
theorem info54 : (Tryz.prog.info? 54).map (fun i => (i.zero.isSome, i.size)) = some (true, 48) := by kernel_rfl
theorem info40 : (Tryz.prog.info? 40).map (fun i => (i.zero.isSome, i.size)) = some (true, 6) := by kernel_rfl
/-- A struct's zero value. -/
theorem wpList_zero {P : Program} {ops : Array Oper} {rest : List Oper} {o : Oper} {a : Act} {w : World} {Q : Exit → Act → World → Prop} (hg : o.guard = none) (t : TypeId) (ho : o.op = .build t #[])
  (d : Option Tmp) (hd : o.dst = d) (cells : Array Value) (hf : P.built t [] = some cells)
  (h : wpList P ops Q rest (a.put d (.agg cells)) w) : wpList P ops Q (o :: rest) a w :=
 wpList_buildTo hg t #[] ho d hd cells (by simpa using hf) h
/-- The statement that is nothing. -/
def zIt : It := ⟨Pr.noHd, none, 0, .nil, none, 0, .nil⟩
def It.one (x : It) : SL := .cons x.h x.tp x.tc x.t x.ep x.ec x.e .nil
theorem zIt_built : Tryz.prog.built 54 [] = some zIt.cells.toArray := by kernel_rfl
theorem no_lies {α : Type} (w : World) (n b : Nat) (f : α → List Value) (R : α → Prop) : slLies w n b f R ⟨none, 0, []⟩ := ⟨by simp, .inl rfl⟩
theorem zIt_lies (w : World) : itLies w zIt := ⟨⟨no_lies .., no_lies .., no_lies .., no_lies .., no_lies .., by decide⟩, ⟨by decide, .inl rfl⟩, ⟨by decide, .inl rfl⟩⟩
theorem one_lies {w : World} {x : It} {b : Nat} (h : itLies w x) (hb : w.heap[b]? = some (.cells x.cells.toArray 54 (0, 0))) : sLies w (some ⟨b, 0, none⟩) x.one :=
 ⟨by show (0 + 1) * 608 ≤ _; decide, .inr ⟨b, 0, rfl, range_blockS hb, h.1, h.2.1, h.2.2, trivial⟩⟩
theorem isNothing_any (x : It) (cs : Array Value) (hcs : cs = x.cells.toArray) (w : World) (hx : itLies w x) :
  Calls Tryz.prog 116 #[.agg cs] w fun e w' => e = .returned (.bool (sameSL zIt.one x.one)) ∧ Below w.heap.size w w' := by
 obtain ⟨zs, hzs⟩ : ∃ zs, zs = zIt.cells.toArray := ⟨_, rfl⟩
 obtain ⟨i1, z1, q1, q2, q3⟩ := infoParts info54
 have HZB : Hid (Tryz.prog.built 54 [] = some zs) := hdn (by rw [hzs]; exact zIt_built)
 have HSZ : Hid (48 = cs.size) := hdn (by rw [hcs]; rfl)
 have HSI : Hid ((Tryz.prog.info? 54).map (·.size) = some cs.size) := hdn (by rw [hcs]; exact size57)
 have HZZ : Hid (48 = zs.size) := hdn (by rw [hzs]; rfl)
 have HI := hdn q1; have HI2 := hdn q2; have HI3 := hdn q3
 obtain ⟨wA, hwA⟩ : ∃ wA : World, wA = w.alloc (.cells cs 54) := ⟨_, rfl⟩
 have HBA : Hid (Below w.heap.size w wA) := hdn (by rw [hwA]; exact (Below.refl _ _).alloc (Nat.le_refl _) _)
 have HK : Hid (Bk wA w.heap.size 54 cs) := hdn (by rw [hwA]; exact heap_alloc_new _ _)
 obtain ⟨w1, hw1⟩ : ∃ w1 : World, w1 = wA.alloc (.cells zs 54) := ⟨_, rfl⟩
 have HB1 : Hid (Below wA.heap.size wA w1) := hdn (by rw [hw1]; exact (Below.refl _ _).alloc (Nat.le_refl _) _)
 have HK1 : Hid (Bk w1 wA.heap.size 54 zs) := hdn (by rw [hw1]; exact heap_alloc_new _ _)
 have HKA : Hid (Bk w1 w.heap.size 54 cs) := hdn (HK.out.below HB1.out HK.out.lt)
 obtain ⟨w2, hw2⟩ : ∃ w2 : World, w2 = w1.alloc (.cells cs 54) := ⟨_, rfl⟩
 have HB2 : Hid (Below w1.heap.size w1 w2) := hdn (by rw [hw2]; exact (Below.refl _ _).alloc (Nat.le_refl _) _)
 have HK2 : Hid (Bk w2 w1.heap.size 54 cs) := hdn (by rw [hw2]; exact heap_alloc_new _ _)
 have HBB : Hid (Below w.heap.size w w2) := hdn ((HBA.out.trans (HB1.out.mono HBA.out.size)).trans (HB2.out.mono (Nat.le_trans HBA.out.size HB1.out.size)))
 have CS : Calls Tryz.prog 150 #[.slice (some ⟨wA.heap.size, 0, none⟩) 1 1, .slice (some ⟨w1.heap.size, 0, none⟩) 1 1] w2 fun en w' => en = .returned (.bool (sameSL zIt.one x.one)) ∧ Below w2.heap.size w2 w' :=
  sameList_any zIt.one x.one (some ⟨wA.heap.size, 0, none⟩) 1 (some ⟨w1.heap.size, 0, none⟩) 1 w2 (one_lies (zIt_lies _) (by have := HK1.out.below HB2.out HK1.out.lt; rw [hzs] at this; exact this)) (one_lies (itLies_below hx HBB.out) (by have := HK2.out; rw [hcs] at this; exact this))
 have HCS := hdn CS
 generalize sameSL zIt.one x.one = bo at *
 have HW1 := hdn hw1; have HW2 := hdn hw2
 clear CS hx hcs hzs q1 q2 q3 hw1 hw2
 go_enter Tryz.func116, Tryz.ntmps116
 go_upto_region 1 with fail
 rw [← hwA]
 clear hwA
 obtain ⟨A, hA⟩ : ∃ A, A = w.heap.size := ⟨_, rfl⟩
 rw [← hA] at HK HKA ⊢
 clear hA
 go_wp2_with (first | ((with_reducible show wpList _ _ _ (Oper.mk (some 3) _ _ _ _ _ :: _) _ _); refine wpList_zero rfl 54 rfl (some 3) rfl zs HZB.out ?_) | ((with_reducible show wpList _ _ _ (Oper.mk (some 4) _ _ _ _ _ :: _) _ _); refine wpList_one rfl 38 54 (.tmp 3) rfl zs rfl Tryz.underlying38 i1 z1 48 HI.out HI2.out HI3.out (by omega) (by omega) HZZ.out ?_; rw [← HW1.out]) | ((with_reducible show wpList _ _ _ (Oper.mk (some 5) _ _ _ _ _ :: _) _ _); refine wpList_load_bk rfl 54 (.tmp 1) rfl A 54 cs rfl _ HKA.out Tryz.underlying54 rfl HSI.out ?_) | ((with_reducible show wpList _ _ _ (Oper.mk (some 6) _ _ _ _ _ :: _) _ _); refine wpList_one rfl 38 54 (.tmp 5) rfl cs rfl Tryz.underlying38 i1 z1 48 HI.out HI2.out HI3.out (by omega) (by omega) HSZ.out ?_; rw [← HW2.out]) | (go_at_call 150; refine HCS.out.mono ?_; rintro en w3 ⟨rfl, hb⟩; have HB3 := hdn (HBB.out.trans (hb.mono HBB.out.size)); clear hb))
 trace_state
 go_ret
 exact ⟨rfl, HB3.out⟩
end Go.Proofs.YtdlchhimkelinaaGreatDoor
